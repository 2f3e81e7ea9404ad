/-
  The parts of a name with a sign ahead, as a plain function, and where its colon stands.
  strings.CutPrefix and strings.Cut at one sign, by contracts.
  Names taken apart: the program's own apart, User, Room and Home, by contracts.
  The rows of a content: by contracts.
  Parse, by a contract.
-/
import Derived.Test.YtalmghbkdelaoaaP07
set_option maxRecDepth 100000
set_option maxHeartbeats 64000000
namespace Go.Proofs.Ytalmghbkdelaoaa.Id
open Go.RowKit
def nix : ByteArray := ⟨#[]⟩
/-- The local name, the server's name, and whether it is a name of that sign. -/
def parts (c : Int) (s : ByteArray) : ByteArray × ByteArray × Bool :=
  if 0 < s.size ∧ (ints s).getD 0 0 = c ∧ ((ints s).drop 1).findIdx (· == 58) + 1 < s.size ∧ loc (s.extract 1 (((ints s).drop 1).findIdx (· == 58) + 1)) = true ∧ srv (s.extract (((ints s).drop 1).findIdx (· == 58) + 2) s.size) = true
  then (s.extract 1 (((ints s).drop 1).findIdx (· == 58) + 1), s.extract (((ints s).drop 1).findIdx (· == 58) + 2) s.size, true) else (nix, nix, false)

theorem getD_drop1 (l : List Int) (j : Nat) : (l.drop 1).getD j 0 = l.getD (j + 1) 0 := by
  simp [List.getD_eq_getElem?_getD]
theorem find_hit (l : List Int) (k : Nat) (hk : k < l.length) (hc : l.getD k 0 = 58) (ha : ∀ j, j < k → l.getD j 0 ≠ 58) : l.findIdx (· == 58) = k := by
  induction l generalizing k with
  | nil => simp at hk
  | cons a l ih =>
    rw [List.findIdx_cons]
    match k with
    | 0 => simp at hc; simp [hc]
    | k + 1 =>
      have h0 := ha 0 (by omega)
      simp only [List.getD_cons_zero] at h0
      have h1 : (a == 58) = false := by simp [h0]
      rw [h1]
      simp only [cond_false]
      rw [ih k (by simpa using hk) (by simpa using hc) (fun j hj => by simpa using ha (j + 1) (by omega))]
theorem find_miss (l : List Int) (ha : ∀ j, j < l.length → l.getD j 0 ≠ 58) : l.findIdx (· == 58) = l.length := by
  induction l with
  | nil => rfl
  | cons a l ih =>
    have h0 := ha 0 (by simp)
    simp only [List.getD_cons_zero] at h0
    have h1 : (a == 58) = false := by simp [h0]
    rw [List.findIdx_cons, h1]
    simp only [cond_false]
    rw [ih (fun j hj => by simpa using ha (j + 1) (by simpa using hj))]
    simp
theorem idx_hit (l : List UInt8) (k : Nat) (hk : k < l.length) (hc : (l.map fun c => (c.toNat : Int)).getD k 0 = 58) (ha : ∀ j, j < k → (l.map fun c => (c.toNat : Int)).getD j 0 ≠ 58) : Lib.indexByte l 58 = k := by
  induction l generalizing k with
  | nil => simp at hk
  | cons a l ih =>
    unfold Lib.indexByte
    match k with
    | 0 =>
      have : a = 58 := by
        simp at hc
        exact UInt8.toNat_inj.1 (by simpa using (by omega : a.toNat = 58))
      simp [this]
    | k + 1 =>
      have h0 := ha 0 (by omega)
      have h1 : (a == 58) = false := by
        simp only [List.map_cons, List.getD_cons_zero] at h0
        simp only [beq_eq_false_iff_ne, ne_eq]
        intro h; subst h; exact h0 rfl
      rw [h1, ih k (by simpa using hk) (by simpa using hc) (fun j hj => by simpa using ha (j + 1) (by omega))]
      have h2 : ((k : Int) == -1) = false := by simp
      simp [h2]
theorem idx_miss (l : List UInt8) (ha : ∀ j, j < l.length → (l.map fun c => (c.toNat : Int)).getD j 0 ≠ 58) : Lib.indexByte l 58 = -1 := by
  induction l with
  | nil => rfl
  | cons a l ih =>
    unfold Lib.indexByte
    have h0 := ha 0 (by simp)
    have h1 : (a == 58) = false := by
      simp only [List.map_cons, List.getD_cons_zero] at h0
      simp only [beq_eq_false_iff_ne, ne_eq]
      intro h; subst h; exact h0 rfl
    rw [h1, ih (fun j hj => by simpa using ha (j + 1) (by simpa using hj))]
    simp
theorem parts_hit (c : Int) (s : ByteArray) (k : Nat) (h0 : (ints s).getD 0 0 = c) (h1 : 1 ≤ k) (hk : k < s.size) (hc : (ints s).getD k 0 = 58) (ha : ∀ j, 1 ≤ j → j < k → (ints s).getD j 0 ≠ 58) :
    parts c s = if loc (s.extract 1 k) = true ∧ srv (s.extract (k + 1) s.size) = true then (s.extract 1 k, s.extract (k + 1) s.size, true) else (nix, nix, false) := by
  have hf : ((ints s).drop 1).findIdx (· == 58) = k - 1 := by
    refine find_hit _ _ (by simp [ints_length]; omega) ?_ fun j hj => ?_
    · rw [getD_drop1, Nat.sub_add_cancel h1]; exact hc
    · rw [getD_drop1]; exact ha (j + 1) (by omega) (by omega)
  unfold parts
  rw [hf]
  have e1 : k - 1 + 1 = k := by omega
  have e2 : k - 1 + 2 = k + 1 := by omega
  rw [e1, e2]
  by_cases hl : loc (s.extract 1 k) = true ∧ srv (s.extract (k + 1) s.size) = true
  · rw [if_pos hl, if_pos ⟨by omega, h0, hk, hl.1, hl.2⟩]
  · rw [if_neg hl, if_neg fun h => hl ⟨h.2.2.2.1, h.2.2.2.2⟩]
theorem parts_other (c : Int) (s : ByteArray) (h : s.size = 0 ∨ (ints s).getD 0 0 ≠ c ∨ ∀ j, 1 ≤ j → j < s.size → (ints s).getD j 0 ≠ 58) : parts c s = (nix, nix, false) := by
  unfold parts
  rw [if_neg]
  intro ⟨g0, g1, g2, _⟩
  rcases h with h | h | h
  · omega
  · exact h g1
  · have : ((ints s).drop 1).findIdx (· == 58) = ((ints s).drop 1).length := find_miss _ fun j hj => by
      rw [getD_drop1]; exact h (j + 1) (by omega) (by simp [ints_length] at hj; omega)
    rw [this] at g2
    simp [ints_length] at g2
    omega
theorem colon_cases (s : ByteArray) : (∃ k, 1 ≤ k ∧ k < s.size ∧ (ints s).getD k 0 = 58 ∧ ∀ j, 1 ≤ j → j < k → (ints s).getD j 0 ≠ 58) ∨ ∀ j, 1 ≤ j → j < s.size → (ints s).getD j 0 ≠ 58 := by
  have : ∀ n, (∃ k, 1 ≤ k ∧ k < n ∧ (ints s).getD k 0 = 58 ∧ ∀ j, 1 ≤ j → j < k → (ints s).getD j 0 ≠ 58) ∨ ∀ j, 1 ≤ j → j < n → (ints s).getD j 0 ≠ 58 := by
    intro n
    induction n with
    | zero => exact .inr fun j _ hj => by omega
    | succ n ih =>
      rcases ih with ⟨k, h1, h2, h3, h4⟩ | h
      · exact .inl ⟨k, h1, by omega, h3, h4⟩
      · by_cases hn : 1 ≤ n ∧ (ints s).getD n 0 = 58
        · exact .inl ⟨n, hn.1, by omega, hn.2, h⟩
        · refine .inr fun j h1 h2 => ?_
          by_cases e : j = n
          · subst e; exact fun he => hn ⟨h1, he⟩
          · exact h j h1 (by omega)
  exact this s.size
theorem cut_name (s : ByteArray) (k : Nat) (h1 : 1 ≤ k) (hk : k ≤ s.size) : (s.extract 1 s.size).extract 0 (k - 1) = s.extract 1 k := by
  rw [ByteArray.extract_extract]
  congr 1
  omega
theorem cut_server (s : ByteArray) (k : Nat) : (s.extract 1 s.size).extract k (s.extract 1 s.size).size = s.extract (k + 1) s.size := by
  rw [ByteArray.extract_extract]
  simp
  congr 1
  all_goals omega
theorem below_drewN (w : World) : ∀ n, Below w.heap.size w (w.drewN n)
  | 0 => by rw [World.drewN_zero]; exact Below.refl _ _
  | n + 1 => by rw [← World.drew_drewN]; exact (below_drewN w n).drew
theorem take_one' (l : List UInt8) (h : 0 < l.length) : l.take 1 = [l[0]] := by
  cases l with
  | nil => simp at h
  | cons a l => simp
theorem one_head (s : ByteArray) (h : 0 < s.size) : (s.extract 0 1).toList = [s[0]] := by
  rw [Lib.toList_data, ByteArray.data_extract, Array.toList_extract]
  simp only [List.extract_eq_take_drop, List.drop_zero, Nat.sub_zero]
  rw [take_one' _ (by simpa using h)]
  simp [ByteArray.getElem_eq_getElem_data]

theorem hasPrefix_yes (s : ByteArray) (c : UInt8) (w : World) (hs : s.size ≤ 140737488351232) (h : 0 < s.size) (hc : s[0] = c) :
    Calls Try.prog 78 #[.string s, .string ⟨#[c]⟩] w fun e w' => e = .returned (.bool true) ∧ w = w' := by
  have h1 : ((s.extract 0 1).toList == [c]) = true := by rw [one_head s h, hc]; simp
  go_enter Try.func78, Try.ntmps78
  go_wp2
  go_ret
  exact ⟨rfl, rfl⟩
theorem hasPrefix_no (s : ByteArray) (c : UInt8) (w : World) (hs : s.size ≤ 140737488351232) (h : ∀ h : 0 < s.size, s[0] ≠ c) :
    Calls Try.prog 78 #[.string s, .string ⟨#[c]⟩] w fun e w' => e = .returned (.bool false) ∧ w = w' := by
  by_cases h0 : 0 < s.size
  · have h1 : ((s.extract 0 1).toList == [c]) = false := by rw [one_head s h0]; simp [h h0]
    go_enter Try.func78, Try.ntmps78
    go_wp2
    go_ret
    exact ⟨rfl, rfl⟩
  · go_enter Try.func78, Try.ntmps78
    go_wp2
    go_ret
    exact ⟨rfl, rfl⟩

theorem liteCutPrefix_yes (s : ByteArray) (c : UInt8) (w : World) (hs : s.size ≤ 140737488351232) (h : 0 < s.size) (hc : s[0] = c) :
    Calls Try.prog 71 #[.string s, .string ⟨#[c]⟩] w fun e w' => e = .returned (.tuple #[.string (s.extract 1 s.size), .bool true]) ∧ w = w' := by
  go_enter Try.func71, Try.ntmps71
  go_wp2_with (go_at_call 78; refine (hasPrefix_yes s c _ hs h hc).mono ?_; rintro e w' ⟨rfl, rfl⟩)
  go_ret2
  exact ⟨rfl, rfl⟩
theorem liteCutPrefix_no (s : ByteArray) (c : UInt8) (w : World) (hs : s.size ≤ 140737488351232) (h : ∀ h : 0 < s.size, s[0] ≠ c) :
    Calls Try.prog 71 #[.string s, .string ⟨#[c]⟩] w fun e w' => e = .returned (.tuple #[.string s, .bool false]) ∧ w = w' := by
  go_enter Try.func71, Try.ntmps71
  go_wp2_with (go_at_call 78; refine (hasPrefix_no s c _ hs h).mono ?_; rintro e w' ⟨rfl, rfl⟩)
  go_ret2
  exact ⟨rfl, rfl⟩
theorem cutPrefix_yes (s : ByteArray) (c : UInt8) (w : World) (hs : s.size ≤ 140737488351232) (h : 0 < s.size) (hc : s[0] = c) :
    Calls Try.prog 61 #[.string s, .string ⟨#[c]⟩] w fun e w' => e = .returned (.tuple #[.string (s.extract 1 s.size), .bool true]) ∧ w = w' := by
  go_enter Try.func61, Try.ntmps61
  go_wp2_with (go_at_call 71; refine (liteCutPrefix_yes s c _ hs h hc).mono ?_; rintro e w' ⟨rfl, rfl⟩)
  go_ret2
  exact ⟨rfl, rfl⟩
theorem cutPrefix_no (s : ByteArray) (c : UInt8) (w : World) (hs : s.size ≤ 140737488351232) (h : ∀ h : 0 < s.size, s[0] ≠ c) :
    Calls Try.prog 61 #[.string s, .string ⟨#[c]⟩] w fun e w' => e = .returned (.tuple #[.string s, .bool false]) ∧ w = w' := by
  go_enter Try.func61, Try.ntmps61
  go_wp2_with (go_at_call 71; refine (liteCutPrefix_no s c _ hs h).mono ?_; rintro e w' ⟨rfl, rfl⟩)
  go_ret2
  exact ⟨rfl, rfl⟩

theorem index_one (s : ByteArray) (w : World) :
    Calls Try.prog 79 #[.string s, .string ⟨#[58]⟩] w fun e w' => e = .returned (.int .i64 (Lib.indexByte s.data.toList 58)) ∧ w = w' := by
  go_enter Try.func79, Try.ntmps79
  go_wp2_with (go_at_call 65; refine (liteIndexByte_any _ _ _).mono ?_; rintro e w' ⟨rfl, rfl⟩)
  · have h : ([58] == s.toList) = true := by assumption
    go_ret
    refine ⟨?_, rfl⟩
    have e : s.data.toList = [58] := by rw [← Lib.toList_data]; exact (beq_iff_eq.1 h).symm
    rw [e]
    simp [Lib.indexByte]
  · go_ret
    exact ⟨rfl, rfl⟩
theorem liteCut_no (t : ByteArray) (w : World) (hi : Lib.indexByte t.data.toList 58 = -1) :
    Calls Try.prog 72 #[.string t, .string ⟨#[58]⟩] w fun e w' => e = .returned (.tuple #[.string t, .string ⟨#[]⟩, .bool false]) ∧ Below w.heap.size w w' := by
  go_enter Try.func72, Try.ntmps72
  go_wp2_with (go_at_call 79; refine (index_one t _).mono ?_; rw [hi]; rintro e w' ⟨rfl, rfl⟩)
  go_ret3
  exact ⟨rfl, Below.refl _ _⟩
theorem cut_no (t : ByteArray) (w : World) (hi : Lib.indexByte t.data.toList 58 = -1) :
    Calls Try.prog 62 #[.string t, .string ⟨#[58]⟩] w fun e w' => e = .returned (.tuple #[.string t, .string ⟨#[]⟩, .bool false]) ∧ Below w.heap.size w w' := by
  go_enter Try.func62, Try.ntmps62
  go_wp2_with (go_at_call 72; refine (liteCut_no t _ hi).mono ?_; rintro e w' ⟨rfl, hb⟩)
  go_ret3
  exact ⟨rfl, hb⟩
theorem liteCut_yes (t : ByteArray) (k : Nat) (w : World) (hs : t.size ≤ 140737488351232) (hk : k < t.size) (hi : Lib.indexByte t.data.toList 58 = k) :
    Calls Try.prog 72 #[.string t, .string ⟨#[58]⟩] w fun e w' => e = .returned (.tuple #[.string (t.extract 0 k), .string (t.extract (k + 1) t.size), .bool true]) ∧ Below w.heap.size w w' := by
  go_enter Try.func72, Try.ntmps72
  go_wp2_with (go_at_call 79; refine (index_one t _).mono ?_; rw [hi]; rintro e w' ⟨rfl, rfl⟩)
  go_quiet (fail)
  go_wp2
  go_ret3
  exact ⟨rfl, below_drewN _ _⟩
theorem cut_yes (t : ByteArray) (k : Nat) (w : World) (hs : t.size ≤ 140737488351232) (hk : k < t.size) (hi : Lib.indexByte t.data.toList 58 = k) :
    Calls Try.prog 62 #[.string t, .string ⟨#[58]⟩] w fun e w' => e = .returned (.tuple #[.string (t.extract 0 k), .string (t.extract (k + 1) t.size), .bool true]) ∧ Below w.heap.size w w' := by
  go_enter Try.func62, Try.ntmps62
  go_wp2_with (go_at_call 72; refine (liteCut_yes t k _ hs hk hi).mono ?_; rintro e w' ⟨rfl, hb⟩)
  go_ret3
  exact ⟨rfl, hb⟩
/-- The three answers as one value. -/
def told (p : ByteArray × ByteArray × Bool) : Value := .tuple #[.string p.1, .string p.2.1, .bool p.2.2]
theorem ret_told {a b : ByteArray} {t : Bool} {p : ByteArray × ByteArray × Bool} (h : p = (a, b, t)) : Ending.returned (.tuple #[.string a, .string b, .bool t]) = .returned (told p) := by rw [h]; rfl
theorem u8_int (a c : UInt8) : (a.toNat : Int) = (c.toNat : Int) ↔ a = c := by
  constructor
  · intro h; exact UInt8.toNat_inj.1 (by omega)
  · intro h; rw [h]

theorem apart_any (s : ByteArray) (c : UInt8) (w : World) (hs : s.size ≤ 140737488351232) :
    Calls Try.prog 51 #[.string s, .string ⟨#[c]⟩] w fun e w' => e = .returned (told (parts (c.toNat : Int) s)) ∧ Below w.heap.size w w' := by
  by_cases hp : ∀ h : 0 < s.size, s[0] ≠ c
  · have HP : Hid (parts (c.toNat : Int) s = (nix, nix, false)) := by
      refine parts_other _ _ ?_
      by_cases h0 : s.size = 0
      · exact .inl h0
      · refine .inr (.inl ?_)
        rw [ints_getD s 0 (by omega), ne_eq, u8_int]
        exact hp (by omega)
    go_enter Try.func51, Try.ntmps51
    go_wp2_with (go_at_call 61; refine (cutPrefix_no s c _ hs hp).mono ?_; rintro e w' ⟨rfl, rfl⟩)
    go_ret3
    exact ⟨ret_told HP.out, Below.refl _ _⟩
  · obtain ⟨h0, hc⟩ : ∃ h : 0 < s.size, s[0] = c := by simpa using hp
    clear hp
    have hg : (ints s).getD 0 0 = (c.toNat : Int) := by rw [ints_getD s 0 h0, hc]
    have hsz : (s.extract 1 s.size).size ≤ 140737488351232 := by simp; omega
    have hii : (s.extract 1 s.size).data.toList.map (fun c => (c.toNat : Int)) = (ints s).drop 1 := ints_extract s 1
    rcases colon_cases s with ⟨k, h1, hk, hkc, hka⟩ | hno
    · have hi : Lib.indexByte (s.extract 1 s.size).data.toList 58 = ((k - 1 : Nat) : Int) := by
        refine idx_hit _ _ ?_ ?_ fun j hj => ?_
        · rw [← Lib.size_eq]; simp; omega
        · rw [hii, getD_drop1, Nat.sub_add_cancel h1]; exact hkc
        · rw [hii, getD_drop1]; exact hka (j + 1) (by omega) (by omega)
      have hcut := fun wx : World => cut_yes (s.extract 1 s.size) (k - 1) wx hsz (by simp; omega) hi
      rw [cut_name s k h1 (by omega), Nat.sub_add_cancel h1, cut_server s k] at hcut
      have HP : Hid (parts (c.toNat : Int) s = if loc (s.extract 1 k) = true ∧ srv (s.extract (k + 1) s.size) = true then (s.extract 1 k, s.extract (k + 1) s.size, true) else (nix, nix, false)) := parts_hit _ s k hg h1 hk hkc hka
      have hl1 : (s.extract 1 k).size ≤ 140737488351232 := by simp; omega
      have hl2 : (s.extract (k + 1) s.size).size ≤ 140737488351232 := by simp; omega
      obtain ⟨t1, ht1⟩ : ∃ t, t = s.extract 1 k := ⟨_, rfl⟩
      obtain ⟨t2, ht2⟩ : ∃ t, t = s.extract (k + 1) s.size := ⟨_, rfl⟩
      rw [← ht1, ← ht2] at HP hcut
      rw [← ht1] at hl1
      rw [← ht2] at hl2
      clear ht1 ht2 hi hii hka hkc
      by_cases hL : loc t1 = true
      · by_cases hS : srv t2 = true
        · go_enter Try.func51, Try.ntmps51
          go_wp2_with (first
            | (go_at_call 61; refine (cutPrefix_yes s c _ hs h0 hc).mono ?_; rintro e w' ⟨rfl, rfl⟩)
            | (go_at_call 62; refine (hcut _).mono ?_; rintro e w1 ⟨rfl, hb1⟩)
            | (go_at_call 63; refine (local_any t1 _ hl1).mono ?_; rintro e w2 ⟨rfl, hb2⟩)
            | (go_at_call 64; refine (server_any t2 _ hl2).mono ?_; rintro e w3 ⟨rfl, hb3⟩))
          go_ret3
          have c2 := hb1.trans (hb2.mono hb1.size)
          exact ⟨ret_told (by rw [HP.out, if_pos ⟨hL, hS⟩]), c2.trans (hb3.mono c2.size)⟩
        · have hS' : srv t2 = false := by simpa using hS
          go_enter Try.func51, Try.ntmps51
          go_wp2_with (first
            | (go_at_call 61; refine (cutPrefix_yes s c _ hs h0 hc).mono ?_; rintro e w' ⟨rfl, rfl⟩)
            | (go_at_call 62; refine (hcut _).mono ?_; rintro e w1 ⟨rfl, hb1⟩)
            | (go_at_call 63; refine (local_any t1 _ hl1).mono ?_; rintro e w2 ⟨rfl, hb2⟩)
            | (go_at_call 64; refine (server_any t2 _ hl2).mono ?_; rintro e w3 ⟨rfl, hb3⟩))
          go_ret3
          have c2 := hb1.trans (hb2.mono hb1.size)
          exact ⟨ret_told (by rw [HP.out, if_neg (by simp [hS'])]; rfl), c2.trans (hb3.mono c2.size)⟩
      · have hL' : loc t1 = false := by simpa using hL
        clear hL
        go_enter Try.func51, Try.ntmps51
        go_wp2_with (first
          | (go_at_call 61; refine (cutPrefix_yes s c _ hs h0 hc).mono ?_; rintro e w' ⟨rfl, rfl⟩)
          | (go_at_call 62; refine (hcut _).mono ?_; rintro e w1 ⟨rfl, hb1⟩)
          | (go_at_call 63; refine (local_any t1 _ hl1).mono ?_; rintro e w2 ⟨rfl, hb2⟩))
        go_ret3
        exact ⟨ret_told (by rw [HP.out, if_neg (by simp [hL'])]; rfl), hb1.trans (hb2.mono hb1.size)⟩
    · have hi : Lib.indexByte (s.extract 1 s.size).data.toList 58 = -1 := by
        refine idx_miss _ fun j hj => ?_
        rw [← Lib.size_eq] at hj
        simp at hj
        rw [hii, getD_drop1]; exact hno (j + 1) (by omega) (by omega)
      have HP : Hid (parts (c.toNat : Int) s = (nix, nix, false)) := parts_other _ _ (.inr (.inr hno))
      have hcut := fun wx : World => cut_no (s.extract 1 s.size) wx hi
      go_enter Try.func51, Try.ntmps51
      go_wp2_with (first
        | (go_at_call 61; refine (cutPrefix_yes s c _ hs h0 hc).mono ?_; rintro e w' ⟨rfl, rfl⟩)
        | (go_at_call 62; refine (hcut _).mono ?_; rintro e w1 ⟨rfl, hb1⟩))
      go_ret3
      exact ⟨ret_told HP.out, hb1⟩

theorem user_any (s : ByteArray) (w : World) (hs : s.size ≤ 140737488351232) :
    Calls Try.prog 44 #[.string s] w fun e w' => e = .returned (told (parts 64 s)) ∧ Below w.heap.size w w' := by
  go_enter Try.func44, Try.ntmps44
  go_wp2_with (go_at_call 51; refine (apart_any s 64 _ hs).mono ?_; rintro e w1 ⟨rfl, hb1⟩; unfold told)
  go_ret3
  exact ⟨rfl, hb1⟩
end Go.Proofs.Ytalmghbkdelaoaa.Id
namespace Go.Proofs.Ytalmghbkdelaoaa
open Go.RowKit

def isU (s : ByteArray) : Bool := (Id.parts 64 s).2.2
def isT (s : ByteArray) : Bool := Id.typ s
theorem isUser_any {w : World} (s : ByteArray) (hs : s.size ≤ 1000000000) : Calls Try.prog 32 #[.string s] w fun e w' => e = .returned (.bool (isU s)) ∧ Below w.heap.size w w' := by
  have hU := Id.user_any s w (by omega)
  unfold isU
  generalize Id.parts 64 s = x at hU
  obtain ⟨x1, x2, x3⟩ := x
  simp only [Id.told] at hU
  go_enter Try.func32, Try.ntmps32
  go_wp2_with (go_at_call 44; refine hU.mono ?_; rintro e w1 ⟨rfl, hb1⟩)
  go_ret
  exact ⟨rfl, hb1⟩
theorem isType_any {w : World} (s : ByteArray) (hs : s.size ≤ 1000000000) : Calls Try.prog 33 #[.string s] w fun e w' => e = .returned (.bool (isT s)) ∧ Below w.heap.size w w' := Id.type_any s w (by omega)
/-- The levels in a map, and whether they may not be. -/
def rowsOf (v : J) : Nms := (v.ks.zip v.ls).map fun q => (q.1, q.2.nm)
def badIn (fit : ByteArray → Bool) (q : ByteArray × J) : Bool := !fit q.1 || !lvOk q.2.kd q.2.nm
def rowT (fit : ByteArray → Bool) : Option J → Nms × Bool
  | none => ([], false)
  | some v => (rowsOf v, !decide (v.kd = 5) || (v.ks.zip v.ls).any (badIn fit))
theorem zip_at {ks : List ByteArray} {l : List J} {n : Nat} (h : n < ks.length) (hl : ks.length ≤ l.length) : (ks.zip l).take (n + 1) = (ks.zip l).take n ++ [(ks.getD n nix, l.getD n J.zero)] := by
  have hz : n < (ks.zip l).length := by rw [List.length_zip]; omega
  rw [take_one (z := (nix, J.zero)) hz]
  congr 2
  rw [List.getD_eq_getElem?_getD, List.getElem?_eq_getElem hz]
  simp only [List.getElem_zip, Option.getD_some]
  rw [List.getD_eq_getElem?_getD, List.getElem?_eq_getElem h, List.getD_eq_getElem?_getD, List.getElem?_eq_getElem (by omega : n < l.length)]
  rfl
theorem own_sliceX {w : World} {B : Nat} {v : Value} {n : Nat} {xs : List Value} (h : w.ownsRow B 36 2 v n xs) : ∃ p c, v = .slice p n c := by
  rcases h.2 with ⟨rfl, hn⟩ | ⟨g, cap, cur, rfl, _⟩
  · exact ⟨none, 0, by rw [hn]⟩
  · exact ⟨_, _, rfl⟩
theorem row_users {O : Nat → Prop} {w : World} {Rb d : Nat} {j : J} {k i : Int} {t : ByteArray} {pk pl : Option Addr} {nk ck nl cl : Nat} {bad : Bool} (hR : RdrIs w Rb (.int .i64 k) (.int .i64 i) (.string t) (.slice pk nk ck) (.slice pl nl cl) bad)
    (hj : isJ O w j [.int .i64 k, .int .i64 i, .string t, .slice pk nk ck, .slice pl nl cl]) (hO : ∀ x, O x → x < w.heap.size ∧ x ≠ Rb) (hok : OkJ (d + 2) j) (s : ByteArray) :
    Calls Try.prog 31 #[.pointer (some ⟨Rb, 0, none⟩), .string s, .func (.func 32) #[] #[]] w fun e w' => (∃ p c, e = .returned (.slice p (rowT isU (lookJ j.ks j.ls s)).1.length c) ∧ RdN (fun b => w.heap.size ≤ b ∧ b < w'.heap.size) w' p c (rowT isU (lookJ j.ks j.ls s)).1) ∧ RdrIs w' Rb (.int .i64 k) (.int .i64 i) (.string t) (.slice pk nk ck) (.slice pl nl cl) (bad || (rowT isU (lookJ j.ks j.ls s)).2) ∧ Keep (OneP Rb) w w' := by
  have hU := under_any hR hj (fun x hx => (hO x hx).1) hok s
  have HR : Hid (∀ X, Below w.heap.size w X → RdrIs X Rb (.int .i64 k) (.int .i64 i) (.string t) (.slice pk nk ck) (.slice pl nl cl) bad) := fun X hX => (hX.block Rb (objP_lt hR)).trans hR
  have hlt := objP_lt hR
  have HOK : Hid (∀ v, lookJ j.ks j.ls s = some v → OkJ (d + 1) v) := fun v hv => by
    obtain ⟨_, _, _, _, _⟩ := j
    exact hok.parts.2.2.2.2.2 v (lookJ_mem hv)
  clear hR hj hok
  generalize lookJ j.ks j.ls s = o at hU HOK
  cases o with
  | none =>
    go_enter Try.func31, Try.ntmps31
    go_wp2_with (go_at_call 42; refine hU.mono ?_; rintro e w1 ⟨he, hb1⟩; replace he : e = _ := he; subst he)
    go_ret
    have hbE := belowP hb1 ((Below.refl _ _).alloc (Nat.le_refl _) (.cells #[.int .i64 0, .int .i64 0, .string ⟨#[]⟩, .slice none 0 0, .slice none 0 0] 51))
    refine ⟨⟨none, 0, rfl, RdN.nil _ _ _ _ fun _ => rfl⟩, ?_, Keep.of_below hbE⟩
    simp only [rowT, Bool.or_false]
    exact HR.out _ hbE
  | some v =>
    have hokv := HOK.out v rfl
    obtain ⟨kv, iv, tv, ks, ls⟩ := v
    have hkn := hokv.parts.2.2.2.1
    have HKS : Hid (∀ x ∈ ks, x.size ≤ 1000000000) := hokv.parts.2.2.2.2.1
    have HLE : Hid (ks.length ≤ ls.length) := hokv.lens
    have HNE : Hid (kv ≠ 5 → ks = []) := hokv.parts.2.2.1
    clear hokv HOK
    obtain ⟨nv, hnv⟩ : ∃ n, ks.length = n := ⟨_, rfl⟩
    obtain ⟨mv, hmv⟩ : ∃ n, ls.length = n := ⟨_, rfl⟩
    have HNV : Hid (ks.length = nv) := hnv
    have HMV : Hid (ls.length = mv) := hmv
    rw [hnv] at hkn
    clear hnv hmv
    go_enter Try.func31, Try.ntmps31
    go_upto_region 2 with (go_at_call 42; refine hU.mono ?_; rintro e w1 ⟨⟨kv', iv', tv', pv, nv', cv, qv, mv', dv, rfl, hv⟩, hb1⟩; obtain ⟨rfl, rfl, rfl, rfl, rfl, hvk, hvc, hvs⟩ := isJP_parts hv; rw [HNV.out, HMV.out]; rw [HMV.out] at hvc; clear hv)
    obtain ⟨W1, hW1⟩ : ∃ W1, W1 = w1.alloc (.cells #[.int .i64 kv', .int .i64 iv', .string tv', .slice pv nv cv, .slice qv mv dv] 51) := ⟨_, rfl⟩
    have hbW : Below w.heap.size w W1 := by rw [hW1]; exact belowP hb1 ((Below.refl _ _).alloc (Nat.le_refl _) _)
    have hs1 := hb1.size
    have hX : W1.heap[w1.heap.size]? = some (.cells #[.int .i64 kv', .int .i64 iv', .string tv', .slice pv nv cv, .slice qv mv dv] 51 (0, 0)) := by rw [hW1]; exact newP _
    have hsW : w1.heap.size < W1.heap.size := objP_lt hX
    have HRW : Hid (RdrIs W1 Rb (.int .i64 k) (.int .i64 i) (.string t) (.slice pk nk ck) (.slice pl nl cl) bad) := HR.out W1 hbW
    have HOB : Hid (∀ x, O x → x < W1.heap.size ∧ x ≠ Rb) := fun x hx => ⟨Nat.lt_of_lt_of_le (hO x hx).1 hbW.size, (hO x hx).2⟩
    have HVK : Hid (RdK O W1 pv cv ks) := hvk.carry fun x hx => ⟨hx, (by rw [hW1]; exact Below.heap_alloc _ _ _ (Nat.lt_of_lt_of_le (hO x hx).1 hb1.size))⟩
    have HVS : Hid (isJs O W1 qv 0 ls) := isJs.carry (fun x hx => ⟨hx, (by rw [hW1]; exact Below.heap_alloc _ _ _ (Nat.lt_of_lt_of_le (hO x hx).1 hb1.size))⟩) qv 0 ls hvs
    have hck := hvk.1
    rw [HNV.out] at hck
    have b0 := cellP hX 0 _ rfl; have b3 := cellP hX 3 _ rfl
    have r5 := cellP HRW.out 5 _ rfl
    have rz := fzP HRW.out 5
    rw [← hW1]
    clear hvk hvs hU hW1 hb1
    by_cases hk5 : kv' = 5
    · subst hk5
      go_wp2
      have HBX : Hid (W1.heap[w1.heap.size]? = some (.cells #[.int .i64 5, .int .i64 iv', .string tv', .slice pv nv cv, .slice qv mv dv] 51 (0, 0))) := hX
      clear r5 rz b0 b3 hX
      go_loopw [9, 29] (fun v x wx => ∃ n : Nat, x = .int .i64 n ∧ n ≤ nv ∧ wx.ownsRow W1.heap.size 36 2 v (((ks.zip ls).take n).map fun q => (q.1, q.2.nm)).length (flatN (((ks.zip ls).take n).map fun q => (q.1, q.2.nm))) ∧ RdrIs wx Rb (.int .i64 k) (.int .i64 i) (.string t) (.slice pk nk ck) (.slice pl nl cl) (bad || ((ks.zip ls).take n).any (badIn isU)) ∧ Keep (OneP Rb) W1 wx) (fun _ x _ => nv - (intOf x).toNat)
      case atStart => exact ⟨0, rfl, Nat.zero_le _, World.ownsRow_nil _ _ _ _, by simpa using HRW.out, Keep.refl _ _⟩
      case round =>
        obtain ⟨n, rfl, hn, hown, hrd, hkp⟩ := hrel
        have HF : Hid (∀ X, Keep (OneP Rb) W1 X → X.cell? ⟨w1.heap.size, 4, none⟩ = some (.slice qv mv dv)) := fun X hX => (World.cell?_of_block (a := ⟨w1.heap.size, 4, none⟩) (hX.block w1.heap.size hsW (by unfold OneP; omega))).trans (cellP HBX.out 4 _ rfl)
        by_cases hnv : n < nv
        · have hnk : n < ks.length := by rw [HNV.out]; exact hnv
          have hnm : n < mv := by have := HLE.out; rw [HNV.out, HMV.out] at this; omega
          have HT : Hid ((ks.zip ls).take (n + 1) = (ks.zip ls).take n ++ [(ks.getD n nix, ls.getD n J.zero)]) := zip_at hnk HLE.out
          obtain ⟨ad, rfl, hOa, hck1⟩ := HVK.out.2 n hnk
          have hkey : wr.cell? (ad.add n) = some (.string (ks.getD n nix)) := (World.cell?_of_block (by rw [add_block]; exact hkp.block _ (HOB.out _ hOa).1 (by unfold OneP; exact (HOB.out _ hOa).2))).trans hck1
          have hksz : (ks.getD n nix).size ≤ 1000000000 := by rw [List.getD_eq_getElem?_getD, List.getElem?_eq_getElem hnk]; exact HKS.out _ (List.getElem_mem hnk)
          obtain ⟨lb, lo, cs, hpl, hOb, hcells, hyj⟩ := isJs.at ls 0 n HVS.out (by rw [HMV.out]; exact hnm)
          subst hpl
          obtain ⟨ke, ie, te, pe, ne, ce, qe, me, de, rfl⟩ := isJ_shape hyj
          have HE : Hid ((ls.getD n J.zero).kd = ke ∧ (ls.getD n J.zero).nm = ie) := by
            generalize ls.getD n J.zero = y at hyj
            obtain ⟨_, _, _, _, _⟩ := y
            obtain ⟨rfl, rfl, _⟩ := isJP_parts hyj
            exact ⟨rfl, rfl⟩
          have HC : Hid (∀ X, Keep (OneP Rb) W1 X → X.cell? ⟨lb, lo + n * 5, none⟩ = some (.int .i64 ke) ∧ X.cell? ⟨lb, lo + n * 5 + 1, none⟩ = some (.int .i64 ie) ∧ X.cell? ⟨lb, lo + n * 5 + 2, none⟩ = some (.string te) ∧ X.cell? ⟨lb, lo + n * 5 + 3, none⟩ = some (.slice pe ne ce) ∧ X.cell? ⟨lb, lo + n * 5 + 4, none⟩ = some (.slice qe me de)) := fun X hX => by
            have cc : ∀ m v, [Value.int .i64 ke, .int .i64 ie, .string te, .slice pe ne ce, .slice qe me de][m]? = some v → X.cell? ⟨lb, lo + n * 5 + m, none⟩ = some v := fun m v h => by
              have := hcells m v h
              rw [Nat.zero_add] at this
              exact (World.cell?_of_block (a := ⟨lb, lo + n * 5 + m, none⟩) (hX.block lb (HOB.out lb hOb).1 (by unfold OneP; exact (HOB.out lb hOb).2))).trans this
            exact ⟨cc 0 _ rfl, cc 1 _ rfl, cc 2 _ rfl, cc 3 _ rfl, cc 4 _ rfl⟩
          have HB : Hid (∀ b, b = (bad || ((ks.zip ls).take n).any (badIn isU)) → (b || (!isU (ks.getD n nix) || !lvOk ke ie)) = (bad || ((ks.zip ls).take (n + 1)).any (badIn isU))) := fun b hb => by
            rw [hb, HT.out, List.any_append, Bool.or_assoc]
            simp only [List.any_cons, List.any_nil, Bool.or_false, badIn, HE.out.1, HE.out.2]
          have HL : Hid ((((ks.zip ls).take (n + 1)).map fun q => (q.1, q.2.nm)) = (((ks.zip ls).take n).map fun q => (q.1, q.2.nm)) ++ [(ks.getD n nix, ie)]) := by
            show _ = _
            rw [HT.out, List.map_append]
            simp only [List.map_cons, List.map_nil, HE.out.2]
          have HLN : Hid ((((ks.zip ls).take n).map fun q => (q.1, q.2.nm)).length ≤ 100000) := by
            show _ ≤ _
            simp only [List.length_map, List.length_take]
            omega
          have hlb := (HOB.out lb hOb).1
          generalize (((ks.zip ls).take n).map fun q => (q.1, q.2.nm)) = L at hown HL HLN
          obtain ⟨bn, hbn⟩ : ∃ b, b = (bad || ((ks.zip ls).take n).any (badIn isU)) := ⟨_, rfl⟩
          rw [← hbn] at hrd
          have HB2 := (show Hid _ from HB.out bn hbn)
          clear hbn HB hcells hyj hck1
          generalize ks.getD n nix = K at hkey hksz HB2 HL
          have hFt := isUser_any (w := wr) K hksz
          have hRl := (hown.lt)
          have HOwn : Hid (wr.ownsRow W1.heap.size 36 2 _ L.length (flatN L)) := hown
          have HRd : Hid (RdrIs wr Rb (.int .i64 k) (.int .i64 i) (.string t) (.slice pk nk ck) (.slice pl nl cl) bn) := hrd
          have HKp : Hid (Keep (OneP Rb) W1 wr) := hkp
          have hsx := hkp.size
          have hRbx : Rb < wr.heap.size := by omega
          clear hown hrd hkp hRl
          cases hft : isU K with
          | true =>
            rw [hft] at hFt HB2
            go_wp2_with (first
              | (go_at_call 32; refine hFt.mono ?_; rintro e w2 ⟨rfl, hb2⟩
                 have hk2 : Keep (OneP Rb) wr w2 := Keep.of_below hb2
                 have x4 := HF.out w2 (HKp.out.then hk2)
                 obtain ⟨e0, e1, e2, e3, e4⟩ := HC.out w2 (HKp.out.then hk2)
                 have hLv := level_any ((hb2.block Rb hRbx).trans HRd.out) ke ie te pe qe ne ce me de
                 have HK2 : Hid (Keep (OneP Rb) wr w2) := hk2
                 clear hk2 hb2)
              | (go_at_call 43; refine hLv.mono ?_; rintro e w4 ⟨rfl, hr4, hk4⟩
                 have hkx : Keep (OneP Rb) wr w4 := HK2.out.then hk4
                 have hownA := (own_keep HOwn.out hkx (fun q hq => by have := (HOwn.out.lt q hq).1; unfold OneP; omega)).alloc (.cells #[.string K, .int .i64 ie] 36)
                 have hrdA : RdN (fun _ => True) (w4.alloc (.cells #[.string K, .int .i64 ie] 36)) (some ⟨w4.heap.size, 0, none⟩) 1 [(K, ie)] := rdN_flat (l := [(K, ie)]) trivial (newP _)
                 have hsz4 : W1.heap.size ≤ (w4.alloc (.cells #[.string K, .int .i64 ie] 36)).heap.size := by have := hkx.size; simp; omega
                 have HR4 := (show Hid _ from hr4)
                 have HKX : Hid (Keep (OneP Rb) wr w4) := hkx
                 clear hr4 hk4 hkx e0 e1 e2 e3 e4 x4 hLv)
              | (refine wpList_append_rdN rfl _ _ rfl W1.heap.size _ L rfl hownA hrdA rfl (by have := HLN.out; omega) (by simp) hsz4 ?_; intro v5 w5 hown5 hg5))
            go_roundw
            case rel =>
              have hkA : Keep (OneP Rb) W1 (w4.alloc (.cells #[.string K, .int .i64 ie] 36)) := (HKp.out.then HKX.out).alloc _
              have hlt4 := objP_lt HR4.out
              refine ⟨n + 1, by simp, by omega, by rw [HL.out]; exact hown5, ?_, hkA.grown hg5 (fun q hq => (hownA.lt q hq).1)⟩
              rw [← HB2.out]
              refine (hg5.block Rb (by simp; omega) (fun e => by have := (hownA.lt Rb e.symm).1; omega)).trans ?_
              rw [Below.heap_alloc _ _ _ hlt4]
              simpa using HR4.out
            case measure => simp [intOf]; omega
          | false =>
            rw [hft] at hFt HB2
            go_wp2_with (first
              | (go_at_call 32; refine hFt.mono ?_; rintro e w2 ⟨rfl, hb2⟩
                 have hR2 : RdrIs w2 Rb _ _ _ _ _ bn := (hb2.block Rb hRbx).trans HRd.out
                 have r5 := cellP hR2 5 _ rfl
                 have rz := fzP hR2 5
                 have hk3 : Keep (OneP Rb) wr (w2.setCell ⟨Rb, 5, none⟩ (.bool true)) := Keep.setCell (S := OneP Rb) (p := ⟨Rb, 5, none⟩) (Keep.of_below hb2) (fun _ => (rfl : Rb = Rb)) _
                 have x4 := HF.out _ (HKp.out.then hk3)
                 obtain ⟨e0, e1, e2, e3, e4⟩ := HC.out _ (HKp.out.then hk3)
                 have hLv := level_any (hR2.set true) ke ie te pe qe ne ce me de
                 have HK2 : Hid (Keep (OneP Rb) wr (w2.setCell ⟨Rb, 5, none⟩ (.bool true))) := hk3
                 clear hk3 hb2 hR2)
              | (go_at_call 43; refine hLv.mono ?_; rintro e w4 ⟨rfl, hr4, hk4⟩
                 have hkx : Keep (OneP Rb) wr w4 := HK2.out.then hk4
                 have hownA := (own_keep HOwn.out hkx (fun q hq => by have := (HOwn.out.lt q hq).1; unfold OneP; omega)).alloc (.cells #[.string K, .int .i64 ie] 36)
                 have hrdA : RdN (fun _ => True) (w4.alloc (.cells #[.string K, .int .i64 ie] 36)) (some ⟨w4.heap.size, 0, none⟩) 1 [(K, ie)] := rdN_flat (l := [(K, ie)]) trivial (newP _)
                 have hsz4 : W1.heap.size ≤ (w4.alloc (.cells #[.string K, .int .i64 ie] 36)).heap.size := by have := hkx.size; simp; omega
                 have HR4 := (show Hid _ from hr4)
                 have HKX : Hid (Keep (OneP Rb) wr w4) := hkx
                 clear hr4 hk4 hkx e0 e1 e2 e3 e4 x4 hLv r5 rz)
              | (refine wpList_append_rdN rfl _ _ rfl W1.heap.size _ L rfl hownA hrdA rfl (by have := HLN.out; omega) (by simp) hsz4 ?_; intro v5 w5 hown5 hg5))
            go_roundw
            case rel =>
              have hkA : Keep (OneP Rb) W1 (w4.alloc (.cells #[.string K, .int .i64 ie] 36)) := (HKp.out.then HKX.out).alloc _
              have hlt4 := objP_lt HR4.out
              refine ⟨n + 1, by simp, by omega, by rw [HL.out]; exact hown5, ?_, hkA.grown hg5 (fun q hq => (hownA.lt q hq).1)⟩
              rw [← HB2.out]
              refine (hg5.block Rb (by simp; omega) (fun e => by have := (hownA.lt Rb e.symm).1; omega)).trans ?_
              rw [Below.heap_alloc _ _ _ hlt4]
              simpa using HR4.out
            case measure => simp [intOf]; omega
        · obtain rfl : n = nv := by omega
          have htk : (ks.zip ls).take n = ks.zip ls := List.take_of_length_le (by rw [List.length_zip, HNV.out]; omega)
          rw [htk] at hown hrd
          have HOwn := (show Hid _ from hown)
          have HRd := (show Hid _ from hrd)
          clear hown hrd htk
          go_wp2
          go_ret
          obtain ⟨p', c', hv', hrd'⟩ := own_rdN HOwn.out
          refine ⟨⟨p', c', by first | (rw [hv']; rfl) | (simp only [] ; rw [← hv']; rfl), hrd'.carry fun q hq => ⟨⟨by have := hbW.size; omega, hq.2⟩, rfl⟩⟩, ?_, (Keep.of_below hbW).then hkp⟩
          simpa [rowT, J.kd, J.ks, J.ls] using HRd.out
    · have hks := HNE.out hk5
      have hnv0 : nv = 0 := by rw [← HNV.out, hks]; rfl
      subst hnv0
      have HRS : Hid (RdrIs (W1.setCell ⟨Rb, 5, none⟩ (.bool true)) Rb (.int .i64 k) (.int .i64 i) (.string t) (.slice pk nk ck) (.slice pl nl cl) true) := HRW.out.set true
      have HKS2 : Hid (Keep (OneP Rb) w (W1.setCell ⟨Rb, 5, none⟩ (.bool true))) := Keep.setCell (S := OneP Rb) (p := ⟨Rb, 5, none⟩) (Keep.of_below hbW) (fun _ => (rfl : Rb = Rb)) _
      have HBX : Hid (W1.heap[w1.heap.size]? = some (.cells #[.int .i64 kv', .int .i64 iv', .string tv', .slice pv 0 cv, .slice qv mv dv] 51 (0, 0))) := hX
      have b3' : (W1.setCell ⟨Rb, 5, none⟩ (.bool true)).cell? ⟨w1.heap.size, 3, none⟩ = some (.slice pv 0 cv) := by
        rw [World.cell?_of_block (Below.heap_setCell W1 ⟨Rb, 5, none⟩ _ w1.heap.size (by simp; omega))]; exact b3
      have HRO : Hid (rowT isU (some (.mk kv' iv' tv' ks ls)) = ([], true)) := by
        show _ = _
        simp [rowT, rowsOf, J.kd, J.ks, J.ls, hks, hk5]
      clear hX hks
      go_wp2
      go_loopw [9, 29] (fun v x wx => v = .slice none 0 0 ∧ x = .int .i64 0 ∧ Hid (wx = W1.setCell ⟨Rb, 5, none⟩ (.bool true))) (fun _ _ _ => 0)
      case atStart => exact ⟨rfl, rfl, rfl⟩
      case round =>
        obtain ⟨rfl, rfl, hwr⟩ := hrel
        go_wp2
        go_ret
        rw [HRO.out, hwr.out]
        exact ⟨⟨none, 0, rfl, RdN.nil _ _ _ _ fun _ => rfl⟩, by simpa using HRS.out, HKS2.out⟩
theorem row_types {O : Nat → Prop} {w : World} {Rb d : Nat} {j : J} {k i : Int} {t : ByteArray} {pk pl : Option Addr} {nk ck nl cl : Nat} {bad : Bool} (hR : RdrIs w Rb (.int .i64 k) (.int .i64 i) (.string t) (.slice pk nk ck) (.slice pl nl cl) bad)
    (hj : isJ O w j [.int .i64 k, .int .i64 i, .string t, .slice pk nk ck, .slice pl nl cl]) (hO : ∀ x, O x → x < w.heap.size ∧ x ≠ Rb) (hok : OkJ (d + 2) j) (s : ByteArray) :
    Calls Try.prog 31 #[.pointer (some ⟨Rb, 0, none⟩), .string s, .func (.func 33) #[] #[]] w fun e w' => (∃ p c, e = .returned (.slice p (rowT isT (lookJ j.ks j.ls s)).1.length c) ∧ RdN (fun b => w.heap.size ≤ b ∧ b < w'.heap.size) w' p c (rowT isT (lookJ j.ks j.ls s)).1) ∧ RdrIs w' Rb (.int .i64 k) (.int .i64 i) (.string t) (.slice pk nk ck) (.slice pl nl cl) (bad || (rowT isT (lookJ j.ks j.ls s)).2) ∧ Keep (OneP Rb) w w' := by
  have hU := under_any hR hj (fun x hx => (hO x hx).1) hok s
  have HR : Hid (∀ X, Below w.heap.size w X → RdrIs X Rb (.int .i64 k) (.int .i64 i) (.string t) (.slice pk nk ck) (.slice pl nl cl) bad) := fun X hX => (hX.block Rb (objP_lt hR)).trans hR
  have hlt := objP_lt hR
  have HOK : Hid (∀ v, lookJ j.ks j.ls s = some v → OkJ (d + 1) v) := fun v hv => by
    obtain ⟨_, _, _, _, _⟩ := j
    exact hok.parts.2.2.2.2.2 v (lookJ_mem hv)
  clear hR hj hok
  generalize lookJ j.ks j.ls s = o at hU HOK
  cases o with
  | none =>
    go_enter Try.func31, Try.ntmps31
    go_wp2_with (go_at_call 42; refine hU.mono ?_; rintro e w1 ⟨he, hb1⟩; replace he : e = _ := he; subst he)
    go_ret
    have hbE := belowP hb1 ((Below.refl _ _).alloc (Nat.le_refl _) (.cells #[.int .i64 0, .int .i64 0, .string ⟨#[]⟩, .slice none 0 0, .slice none 0 0] 51))
    refine ⟨⟨none, 0, rfl, RdN.nil _ _ _ _ fun _ => rfl⟩, ?_, Keep.of_below hbE⟩
    simp only [rowT, Bool.or_false]
    exact HR.out _ hbE
  | some v =>
    have hokv := HOK.out v rfl
    obtain ⟨kv, iv, tv, ks, ls⟩ := v
    have hkn := hokv.parts.2.2.2.1
    have HKS : Hid (∀ x ∈ ks, x.size ≤ 1000000000) := hokv.parts.2.2.2.2.1
    have HLE : Hid (ks.length ≤ ls.length) := hokv.lens
    have HNE : Hid (kv ≠ 5 → ks = []) := hokv.parts.2.2.1
    clear hokv HOK
    obtain ⟨nv, hnv⟩ : ∃ n, ks.length = n := ⟨_, rfl⟩
    obtain ⟨mv, hmv⟩ : ∃ n, ls.length = n := ⟨_, rfl⟩
    have HNV : Hid (ks.length = nv) := hnv
    have HMV : Hid (ls.length = mv) := hmv
    rw [hnv] at hkn
    clear hnv hmv
    go_enter Try.func31, Try.ntmps31
    go_upto_region 2 with (go_at_call 42; refine hU.mono ?_; rintro e w1 ⟨⟨kv', iv', tv', pv, nv', cv, qv, mv', dv, rfl, hv⟩, hb1⟩; obtain ⟨rfl, rfl, rfl, rfl, rfl, hvk, hvc, hvs⟩ := isJP_parts hv; rw [HNV.out, HMV.out]; rw [HMV.out] at hvc; clear hv)
    obtain ⟨W1, hW1⟩ : ∃ W1, W1 = w1.alloc (.cells #[.int .i64 kv', .int .i64 iv', .string tv', .slice pv nv cv, .slice qv mv dv] 51) := ⟨_, rfl⟩
    have hbW : Below w.heap.size w W1 := by rw [hW1]; exact belowP hb1 ((Below.refl _ _).alloc (Nat.le_refl _) _)
    have hs1 := hb1.size
    have hX : W1.heap[w1.heap.size]? = some (.cells #[.int .i64 kv', .int .i64 iv', .string tv', .slice pv nv cv, .slice qv mv dv] 51 (0, 0)) := by rw [hW1]; exact newP _
    have hsW : w1.heap.size < W1.heap.size := objP_lt hX
    have HRW : Hid (RdrIs W1 Rb (.int .i64 k) (.int .i64 i) (.string t) (.slice pk nk ck) (.slice pl nl cl) bad) := HR.out W1 hbW
    have HOB : Hid (∀ x, O x → x < W1.heap.size ∧ x ≠ Rb) := fun x hx => ⟨Nat.lt_of_lt_of_le (hO x hx).1 hbW.size, (hO x hx).2⟩
    have HVK : Hid (RdK O W1 pv cv ks) := hvk.carry fun x hx => ⟨hx, (by rw [hW1]; exact Below.heap_alloc _ _ _ (Nat.lt_of_lt_of_le (hO x hx).1 hb1.size))⟩
    have HVS : Hid (isJs O W1 qv 0 ls) := isJs.carry (fun x hx => ⟨hx, (by rw [hW1]; exact Below.heap_alloc _ _ _ (Nat.lt_of_lt_of_le (hO x hx).1 hb1.size))⟩) qv 0 ls hvs
    have hck := hvk.1
    rw [HNV.out] at hck
    have b0 := cellP hX 0 _ rfl; have b3 := cellP hX 3 _ rfl
    have r5 := cellP HRW.out 5 _ rfl
    have rz := fzP HRW.out 5
    rw [← hW1]
    clear hvk hvs hU hW1 hb1
    by_cases hk5 : kv' = 5
    · subst hk5
      go_wp2
      have HBX : Hid (W1.heap[w1.heap.size]? = some (.cells #[.int .i64 5, .int .i64 iv', .string tv', .slice pv nv cv, .slice qv mv dv] 51 (0, 0))) := hX
      clear r5 rz b0 b3 hX
      go_loopw [9, 29] (fun v x wx => ∃ n : Nat, x = .int .i64 n ∧ n ≤ nv ∧ wx.ownsRow W1.heap.size 36 2 v (((ks.zip ls).take n).map fun q => (q.1, q.2.nm)).length (flatN (((ks.zip ls).take n).map fun q => (q.1, q.2.nm))) ∧ RdrIs wx Rb (.int .i64 k) (.int .i64 i) (.string t) (.slice pk nk ck) (.slice pl nl cl) (bad || ((ks.zip ls).take n).any (badIn isT)) ∧ Keep (OneP Rb) W1 wx) (fun _ x _ => nv - (intOf x).toNat)
      case atStart => exact ⟨0, rfl, Nat.zero_le _, World.ownsRow_nil _ _ _ _, by simpa using HRW.out, Keep.refl _ _⟩
      case round =>
        obtain ⟨n, rfl, hn, hown, hrd, hkp⟩ := hrel
        have HF : Hid (∀ X, Keep (OneP Rb) W1 X → X.cell? ⟨w1.heap.size, 4, none⟩ = some (.slice qv mv dv)) := fun X hX => (World.cell?_of_block (a := ⟨w1.heap.size, 4, none⟩) (hX.block w1.heap.size hsW (by unfold OneP; omega))).trans (cellP HBX.out 4 _ rfl)
        by_cases hnv : n < nv
        · have hnk : n < ks.length := by rw [HNV.out]; exact hnv
          have hnm : n < mv := by have := HLE.out; rw [HNV.out, HMV.out] at this; omega
          have HT : Hid ((ks.zip ls).take (n + 1) = (ks.zip ls).take n ++ [(ks.getD n nix, ls.getD n J.zero)]) := zip_at hnk HLE.out
          obtain ⟨ad, rfl, hOa, hck1⟩ := HVK.out.2 n hnk
          have hkey : wr.cell? (ad.add n) = some (.string (ks.getD n nix)) := (World.cell?_of_block (by rw [add_block]; exact hkp.block _ (HOB.out _ hOa).1 (by unfold OneP; exact (HOB.out _ hOa).2))).trans hck1
          have hksz : (ks.getD n nix).size ≤ 1000000000 := by rw [List.getD_eq_getElem?_getD, List.getElem?_eq_getElem hnk]; exact HKS.out _ (List.getElem_mem hnk)
          obtain ⟨lb, lo, cs, hpl, hOb, hcells, hyj⟩ := isJs.at ls 0 n HVS.out (by rw [HMV.out]; exact hnm)
          subst hpl
          obtain ⟨ke, ie, te, pe, ne, ce, qe, me, de, rfl⟩ := isJ_shape hyj
          have HE : Hid ((ls.getD n J.zero).kd = ke ∧ (ls.getD n J.zero).nm = ie) := by
            generalize ls.getD n J.zero = y at hyj
            obtain ⟨_, _, _, _, _⟩ := y
            obtain ⟨rfl, rfl, _⟩ := isJP_parts hyj
            exact ⟨rfl, rfl⟩
          have HC : Hid (∀ X, Keep (OneP Rb) W1 X → X.cell? ⟨lb, lo + n * 5, none⟩ = some (.int .i64 ke) ∧ X.cell? ⟨lb, lo + n * 5 + 1, none⟩ = some (.int .i64 ie) ∧ X.cell? ⟨lb, lo + n * 5 + 2, none⟩ = some (.string te) ∧ X.cell? ⟨lb, lo + n * 5 + 3, none⟩ = some (.slice pe ne ce) ∧ X.cell? ⟨lb, lo + n * 5 + 4, none⟩ = some (.slice qe me de)) := fun X hX => by
            have cc : ∀ m v, [Value.int .i64 ke, .int .i64 ie, .string te, .slice pe ne ce, .slice qe me de][m]? = some v → X.cell? ⟨lb, lo + n * 5 + m, none⟩ = some v := fun m v h => by
              have := hcells m v h
              rw [Nat.zero_add] at this
              exact (World.cell?_of_block (a := ⟨lb, lo + n * 5 + m, none⟩) (hX.block lb (HOB.out lb hOb).1 (by unfold OneP; exact (HOB.out lb hOb).2))).trans this
            exact ⟨cc 0 _ rfl, cc 1 _ rfl, cc 2 _ rfl, cc 3 _ rfl, cc 4 _ rfl⟩
          have HB : Hid (∀ b, b = (bad || ((ks.zip ls).take n).any (badIn isT)) → (b || (!isT (ks.getD n nix) || !lvOk ke ie)) = (bad || ((ks.zip ls).take (n + 1)).any (badIn isT))) := fun b hb => by
            rw [hb, HT.out, List.any_append, Bool.or_assoc]
            simp only [List.any_cons, List.any_nil, Bool.or_false, badIn, HE.out.1, HE.out.2]
          have HL : Hid ((((ks.zip ls).take (n + 1)).map fun q => (q.1, q.2.nm)) = (((ks.zip ls).take n).map fun q => (q.1, q.2.nm)) ++ [(ks.getD n nix, ie)]) := by
            show _ = _
            rw [HT.out, List.map_append]
            simp only [List.map_cons, List.map_nil, HE.out.2]
          have HLN : Hid ((((ks.zip ls).take n).map fun q => (q.1, q.2.nm)).length ≤ 100000) := by
            show _ ≤ _
            simp only [List.length_map, List.length_take]
            omega
          have hlb := (HOB.out lb hOb).1
          generalize (((ks.zip ls).take n).map fun q => (q.1, q.2.nm)) = L at hown HL HLN
          obtain ⟨bn, hbn⟩ : ∃ b, b = (bad || ((ks.zip ls).take n).any (badIn isT)) := ⟨_, rfl⟩
          rw [← hbn] at hrd
          have HB2 := (show Hid _ from HB.out bn hbn)
          clear hbn HB hcells hyj hck1
          generalize ks.getD n nix = K at hkey hksz HB2 HL
          have hFt := isType_any (w := wr) K hksz
          have hRl := (hown.lt)
          have HOwn : Hid (wr.ownsRow W1.heap.size 36 2 _ L.length (flatN L)) := hown
          have HRd : Hid (RdrIs wr Rb (.int .i64 k) (.int .i64 i) (.string t) (.slice pk nk ck) (.slice pl nl cl) bn) := hrd
          have HKp : Hid (Keep (OneP Rb) W1 wr) := hkp
          have hsx := hkp.size
          have hRbx : Rb < wr.heap.size := by omega
          clear hown hrd hkp hRl
          cases hft : isT K with
          | true =>
            rw [hft] at hFt HB2
            go_wp2_with (first
              | (go_at_call 33; refine hFt.mono ?_; rintro e w2 ⟨rfl, hb2⟩
                 have hk2 : Keep (OneP Rb) wr w2 := Keep.of_below hb2
                 have x4 := HF.out w2 (HKp.out.then hk2)
                 obtain ⟨e0, e1, e2, e3, e4⟩ := HC.out w2 (HKp.out.then hk2)
                 have hLv := level_any ((hb2.block Rb hRbx).trans HRd.out) ke ie te pe qe ne ce me de
                 have HK2 : Hid (Keep (OneP Rb) wr w2) := hk2
                 clear hk2 hb2)
              | (go_at_call 43; refine hLv.mono ?_; rintro e w4 ⟨rfl, hr4, hk4⟩
                 have hkx : Keep (OneP Rb) wr w4 := HK2.out.then hk4
                 have hownA := (own_keep HOwn.out hkx (fun q hq => by have := (HOwn.out.lt q hq).1; unfold OneP; omega)).alloc (.cells #[.string K, .int .i64 ie] 36)
                 have hrdA : RdN (fun _ => True) (w4.alloc (.cells #[.string K, .int .i64 ie] 36)) (some ⟨w4.heap.size, 0, none⟩) 1 [(K, ie)] := rdN_flat (l := [(K, ie)]) trivial (newP _)
                 have hsz4 : W1.heap.size ≤ (w4.alloc (.cells #[.string K, .int .i64 ie] 36)).heap.size := by have := hkx.size; simp; omega
                 have HR4 := (show Hid _ from hr4)
                 have HKX : Hid (Keep (OneP Rb) wr w4) := hkx
                 clear hr4 hk4 hkx e0 e1 e2 e3 e4 x4 hLv)
              | (refine wpList_append_rdN rfl _ _ rfl W1.heap.size _ L rfl hownA hrdA rfl (by have := HLN.out; omega) (by simp) hsz4 ?_; intro v5 w5 hown5 hg5))
            go_roundw
            case rel =>
              have hkA : Keep (OneP Rb) W1 (w4.alloc (.cells #[.string K, .int .i64 ie] 36)) := (HKp.out.then HKX.out).alloc _
              have hlt4 := objP_lt HR4.out
              refine ⟨n + 1, by simp, by omega, by rw [HL.out]; exact hown5, ?_, hkA.grown hg5 (fun q hq => (hownA.lt q hq).1)⟩
              rw [← HB2.out]
              refine (hg5.block Rb (by simp; omega) (fun e => by have := (hownA.lt Rb e.symm).1; omega)).trans ?_
              rw [Below.heap_alloc _ _ _ hlt4]
              simpa using HR4.out
            case measure => simp [intOf]; omega
          | false =>
            rw [hft] at hFt HB2
            go_wp2_with (first
              | (go_at_call 33; refine hFt.mono ?_; rintro e w2 ⟨rfl, hb2⟩
                 have hR2 : RdrIs w2 Rb _ _ _ _ _ bn := (hb2.block Rb hRbx).trans HRd.out
                 have r5 := cellP hR2 5 _ rfl
                 have rz := fzP hR2 5
                 have hk3 : Keep (OneP Rb) wr (w2.setCell ⟨Rb, 5, none⟩ (.bool true)) := Keep.setCell (S := OneP Rb) (p := ⟨Rb, 5, none⟩) (Keep.of_below hb2) (fun _ => (rfl : Rb = Rb)) _
                 have x4 := HF.out _ (HKp.out.then hk3)
                 obtain ⟨e0, e1, e2, e3, e4⟩ := HC.out _ (HKp.out.then hk3)
                 have hLv := level_any (hR2.set true) ke ie te pe qe ne ce me de
                 have HK2 : Hid (Keep (OneP Rb) wr (w2.setCell ⟨Rb, 5, none⟩ (.bool true))) := hk3
                 clear hk3 hb2 hR2)
              | (go_at_call 43; refine hLv.mono ?_; rintro e w4 ⟨rfl, hr4, hk4⟩
                 have hkx : Keep (OneP Rb) wr w4 := HK2.out.then hk4
                 have hownA := (own_keep HOwn.out hkx (fun q hq => by have := (HOwn.out.lt q hq).1; unfold OneP; omega)).alloc (.cells #[.string K, .int .i64 ie] 36)
                 have hrdA : RdN (fun _ => True) (w4.alloc (.cells #[.string K, .int .i64 ie] 36)) (some ⟨w4.heap.size, 0, none⟩) 1 [(K, ie)] := rdN_flat (l := [(K, ie)]) trivial (newP _)
                 have hsz4 : W1.heap.size ≤ (w4.alloc (.cells #[.string K, .int .i64 ie] 36)).heap.size := by have := hkx.size; simp; omega
                 have HR4 := (show Hid _ from hr4)
                 have HKX : Hid (Keep (OneP Rb) wr w4) := hkx
                 clear hr4 hk4 hkx e0 e1 e2 e3 e4 x4 hLv r5 rz)
              | (refine wpList_append_rdN rfl _ _ rfl W1.heap.size _ L rfl hownA hrdA rfl (by have := HLN.out; omega) (by simp) hsz4 ?_; intro v5 w5 hown5 hg5))
            go_roundw
            case rel =>
              have hkA : Keep (OneP Rb) W1 (w4.alloc (.cells #[.string K, .int .i64 ie] 36)) := (HKp.out.then HKX.out).alloc _
              have hlt4 := objP_lt HR4.out
              refine ⟨n + 1, by simp, by omega, by rw [HL.out]; exact hown5, ?_, hkA.grown hg5 (fun q hq => (hownA.lt q hq).1)⟩
              rw [← HB2.out]
              refine (hg5.block Rb (by simp; omega) (fun e => by have := (hownA.lt Rb e.symm).1; omega)).trans ?_
              rw [Below.heap_alloc _ _ _ hlt4]
              simpa using HR4.out
            case measure => simp [intOf]; omega
        · obtain rfl : n = nv := by omega
          have htk : (ks.zip ls).take n = ks.zip ls := List.take_of_length_le (by rw [List.length_zip, HNV.out]; omega)
          rw [htk] at hown hrd
          have HOwn := (show Hid _ from hown)
          have HRd := (show Hid _ from hrd)
          clear hown hrd htk
          go_wp2
          go_ret
          obtain ⟨p', c', hv', hrd'⟩ := own_rdN HOwn.out
          refine ⟨⟨p', c', by first | (rw [hv']; rfl) | (simp only [] ; rw [← hv']; rfl), hrd'.carry fun q hq => ⟨⟨by have := hbW.size; omega, hq.2⟩, rfl⟩⟩, ?_, (Keep.of_below hbW).then hkp⟩
          simpa [rowT, J.kd, J.ks, J.ls] using HRd.out
    · have hks := HNE.out hk5
      have hnv0 : nv = 0 := by rw [← HNV.out, hks]; rfl
      subst hnv0
      have HRS : Hid (RdrIs (W1.setCell ⟨Rb, 5, none⟩ (.bool true)) Rb (.int .i64 k) (.int .i64 i) (.string t) (.slice pk nk ck) (.slice pl nl cl) true) := HRW.out.set true
      have HKS2 : Hid (Keep (OneP Rb) w (W1.setCell ⟨Rb, 5, none⟩ (.bool true))) := Keep.setCell (S := OneP Rb) (p := ⟨Rb, 5, none⟩) (Keep.of_below hbW) (fun _ => (rfl : Rb = Rb)) _
      have HBX : Hid (W1.heap[w1.heap.size]? = some (.cells #[.int .i64 kv', .int .i64 iv', .string tv', .slice pv 0 cv, .slice qv mv dv] 51 (0, 0))) := hX
      have b3' : (W1.setCell ⟨Rb, 5, none⟩ (.bool true)).cell? ⟨w1.heap.size, 3, none⟩ = some (.slice pv 0 cv) := by
        rw [World.cell?_of_block (Below.heap_setCell W1 ⟨Rb, 5, none⟩ _ w1.heap.size (by simp; omega))]; exact b3
      have HRO : Hid (rowT isT (some (.mk kv' iv' tv' ks ls)) = ([], true)) := by
        show _ = _
        simp [rowT, rowsOf, J.kd, J.ks, J.ls, hks, hk5]
      clear hX hks
      go_wp2
      go_loopw [9, 29] (fun v x wx => v = .slice none 0 0 ∧ x = .int .i64 0 ∧ Hid (wx = W1.setCell ⟨Rb, 5, none⟩ (.bool true))) (fun _ _ _ => 0)
      case atStart => exact ⟨rfl, rfl, rfl⟩
      case round =>
        obtain ⟨rfl, rfl, hwr⟩ := hrel
        go_wp2
        go_ret
        rw [HRO.out, hwr.out]
        exact ⟨⟨none, 0, rfl, RdN.nil _ _ _ _ fun _ => rfl⟩, by simpa using HRS.out, HKS2.out⟩

/-- The levels that a content in order tells, and whether it may not. -/
def parseL (j : J) : Lv := ⟨(numT 50 (lookJ j.ks j.ls kBan)).1, (numT 50 (lookJ j.ks j.ls kKick)).1, (numT 0 (lookJ j.ks j.ls kInvite)).1, (numT 50 (lookJ j.ks j.ls kRedact)).1, (numT 50 (lookJ j.ks j.ls kState)).1, (numT 0 (lookJ j.ks j.ls kEvents)).1, (numT 0 (lookJ j.ks j.ls kUsers)).1, (rowT isU (lookJ j.ks j.ls kByUser)).1, (rowT isT (lookJ j.ks j.ls kByType)).1⟩
def parseB (j : J) : Bool := ((((((((!decide (j.kd = 5) || (numT 50 (lookJ j.ks j.ls kBan)).2) || (numT 50 (lookJ j.ks j.ls kKick)).2) || (numT 0 (lookJ j.ks j.ls kInvite)).2) || (numT 50 (lookJ j.ks j.ls kRedact)).2) || (numT 50 (lookJ j.ks j.ls kState)).2) || (numT 0 (lookJ j.ks j.ls kEvents)).2) || (numT 0 (lookJ j.ks j.ls kUsers)).2) || (rowT isU (lookJ j.ks j.ls kByUser)).2) || (rowT isT (lookJ j.ks j.ls kByType)).2
abbrev zeroL : Lv := ⟨0, 0, 0, 0, 0, 0, 0, [], []⟩
/-- What Parse tells. -/
def parseT (j : J) : Lv × Int := if parseB j then (zeroL, 1) else (parseL j, 0)
theorem parse_any {O : Nat → Prop} {w : World} {c : J} {k i : Int} {t : ByteArray} {pk pl : Option Addr} {nk ck nl cl : Nat} (hj : isJ O w c [.int .i64 k, .int .i64 i, .string t, .slice pk nk ck, .slice pl nl cl]) (hO : ∀ x, O x → x < w.heap.size) (hsz : szJ 12 c = true) :
    Calls Try.prog 23 #[.agg #[.int .i64 k, .int .i64 i, .string t, .slice pk nk ck, .slice pl nl cl]] w fun e w' => (∃ p, e = .returned (.tuple #[valL (parseT (ordT c)).1 p, .int .i64 (parseT (ordT c)).2]) ∧ IsL (fun b => w.heap.size ≤ b ∧ b < w'.heap.size) w' (parseT (ordT c)).1 p) ∧ Below w.heap.size w w' := by
  obtain ⟨wA, hwA⟩ : ∃ wA, wA = (w.alloc (.cells #[.int .i64 k, .int .i64 i, .string t, .slice pk nk ck, .slice pl nl cl] 51)).alloc (.cells #[.int .i64 0, .int .i64 0, .int .i64 0, .int .i64 0, .int .i64 0, .int .i64 0, .int .i64 0, .slice none 0 0, .slice none 0 0] 24) := ⟨_, rfl⟩
  have hbA : Below w.heap.size w wA := by rw [hwA]; exact ((Below.refl _ _).alloc (Nat.le_refl _) _).alloc (by simp) _
  have hsA : wA.heap.size = w.heap.size + 2 := by rw [hwA]; simp
  have hA0 : wA.heap[w.heap.size]? = some (.cells #[.int .i64 k, .int .i64 i, .string t, .slice pk nk ck, .slice pl nl cl] 51 (0, 0)) := by rw [hwA, Below.heap_alloc _ _ _ (by simp)]; exact newP _
  have hA1 : wA.heap[w.heap.size + 1]? = some (.cells #[.int .i64 0, .int .i64 0, .int .i64 0, .int .i64 0, .int .i64 0, .int .i64 0, .int .i64 0, .slice none 0 0, .slice none 0 0] 24 (0, 0)) := by
    rw [hwA]
    have := newP (w := w.alloc (.cells #[.int .i64 k, .int .i64 i, .string t, .slice pk nk ck, .slice pl nl cl] 51)) (.cells #[.int .i64 0, .int .i64 0, .int .i64 0, .int .i64 0, .int .i64 0, .int .i64 0, .int .i64 0, .slice none 0 0, .slice none 0 0] 24)
    rw [World.size_alloc] at this
    exact this
  have hOr := order_any (fun x hx => Nat.lt_of_lt_of_le (hO x hx) hbA.size) hsz (hj.carry (O' := O) (w' := wA) fun x hx => ⟨hx, hbA.block x (hO x hx)⟩)
  have HOK : Hid (OkJ 12 (ordT c)) := ordT_okJ hsz
  have b0 := cellP hA0 0 _ rfl; have b1 := cellP hA0 1 _ rfl; have b2 := cellP hA0 2 _ rfl; have b3 := cellP hA0 3 _ rfl; have b4 := cellP hA0 4 _ rfl
  generalize ordT c = j at hOr HOK
  have HA1 : Hid (∀ X, Below wA.heap.size wA X → X.heap[w.heap.size + 1]? = some (.cells #[.int .i64 0, .int .i64 0, .int .i64 0, .int .i64 0, .int .i64 0, .int .i64 0, .int .i64 0, .slice none 0 0, .slice none 0 0] 24 (0, 0))) := fun X hX => (hX.block _ (by omega)).trans hA1
  clear hj hO hsz hA0 hA1
  go_enter Try.func23, Try.ntmps23
  go_upto_region 1 with fail
  rw [← hwA]
  clear hwA
  go_upto_region 2 with (go_at_call 29; refine hOr.mono ?_; rintro e w1 ⟨⟨kr, ir, tr, pr, nr, cr, qr, mr, dr, rfl, hjr⟩, hb1⟩)
  go_upto_region 3 with fail
  have hs1 := hb1.size
  obtain ⟨W2, hW2⟩ : ∃ W2, W2 = (w1.alloc (.cells #[.int .i64 kr, .int .i64 ir, .string tr, .slice pr nr cr, .slice qr mr dr] 51)).alloc (.cells #[.int .i64 kr, .int .i64 ir, .string tr, .slice pr nr cr, .slice qr mr dr, .bool (kr != 5)] 65) := ⟨_, rfl⟩
  have hb2 : Below w1.heap.size w1 W2 := by rw [hW2]; exact ((Below.refl _ _).alloc (Nat.le_refl _) _).alloc (by simp) _
  have hs2 : W2.heap.size = w1.heap.size + 2 := by rw [hW2]; simp
  have hr0 : RdrIs W2 (w1.heap.size + 1) (.int .i64 kr) (.int .i64 ir) (.string tr) (.slice pr nr cr) (.slice qr mr dr) (kr != 5) := by
    rw [hW2]
    have := newP (w := w1.alloc (.cells #[.int .i64 kr, .int .i64 ir, .string tr, .slice pr nr cr, .slice qr mr dr] 51)) (.cells #[.int .i64 kr, .int .i64 ir, .string tr, .slice pr nr cr, .slice qr mr dr, .bool (kr != 5)] 65)
    rw [World.size_alloc] at this
    exact this
  have HB0 : Hid ((kr != 5) = !decide (j.kd = 5)) := by
    show _ = _
    obtain ⟨_, _, _, _, _⟩ := j
    obtain ⟨rfl, _⟩ := isJP_parts hjr
    show (kr != 5) = !decide (kr = 5)
    by_cases h : kr = 5 <;> simp [h]
  have hj2 : isJ (fun b => b < w1.heap.size) W2 j [.int .i64 kr, .int .i64 ir, .string tr, .slice pr nr cr, .slice qr mr dr] := hjr.carry fun x hx => ⟨hx, hb2.block x hx⟩
  have HNum : Hid (∀ X bad s z, Keep (OneP (w1.heap.size + 1)) W2 X → RdrIs X (w1.heap.size + 1) (.int .i64 kr) (.int .i64 ir) (.string tr) (.slice pr nr cr) (.slice qr mr dr) bad → Calls Try.prog 30 #[.pointer (some ⟨w1.heap.size + 1, 0, none⟩), .string s, .int .i64 z] X fun e w' => e = .returned (.int .i64 (numT z (lookJ j.ks j.ls s)).1) ∧ RdrIs w' (w1.heap.size + 1) (.int .i64 kr) (.int .i64 ir) (.string tr) (.slice pr nr cr) (.slice qr mr dr) (bad || (numT z (lookJ j.ks j.ls s)).2) ∧ Keep (OneP (w1.heap.size + 1)) X w') := fun X bad s z hX hR =>
    number_any (d := 11) hR (hj2.carry (O' := fun b => b < w1.heap.size) fun x hx => ⟨hx, hX.block x (by omega) (by unfold OneP; omega)⟩) (fun x hx => by have := hX.size; omega) HOK.out s z
  have HRowU : Hid (∀ X bad, Keep (OneP (w1.heap.size + 1)) W2 X → RdrIs X (w1.heap.size + 1) (.int .i64 kr) (.int .i64 ir) (.string tr) (.slice pr nr cr) (.slice qr mr dr) bad → Calls Try.prog 31 #[.pointer (some ⟨w1.heap.size + 1, 0, none⟩), .string kByUser, .func (.func 32) #[] #[]] X fun e w' => (∃ p c, e = .returned (.slice p (rowT isU (lookJ j.ks j.ls kByUser)).1.length c) ∧ RdN (fun b => X.heap.size ≤ b ∧ b < w'.heap.size) w' p c (rowT isU (lookJ j.ks j.ls kByUser)).1) ∧ RdrIs w' (w1.heap.size + 1) (.int .i64 kr) (.int .i64 ir) (.string tr) (.slice pr nr cr) (.slice qr mr dr) (bad || (rowT isU (lookJ j.ks j.ls kByUser)).2) ∧ Keep (OneP (w1.heap.size + 1)) X w') := fun X bad hX hR =>
    row_users (d := 10) hR (hj2.carry (O' := fun b => b < w1.heap.size) fun x hx => ⟨hx, hX.block x (by omega) (by unfold OneP; omega)⟩) (fun x hx => ⟨by have := hX.size; omega, by omega⟩) HOK.out kByUser
  have HRowT : Hid (∀ X bad, Keep (OneP (w1.heap.size + 1)) W2 X → RdrIs X (w1.heap.size + 1) (.int .i64 kr) (.int .i64 ir) (.string tr) (.slice pr nr cr) (.slice qr mr dr) bad → Calls Try.prog 31 #[.pointer (some ⟨w1.heap.size + 1, 0, none⟩), .string kByType, .func (.func 33) #[] #[]] X fun e w' => (∃ p c, e = .returned (.slice p (rowT isT (lookJ j.ks j.ls kByType)).1.length c) ∧ RdN (fun b => X.heap.size ≤ b ∧ b < w'.heap.size) w' p c (rowT isT (lookJ j.ks j.ls kByType)).1) ∧ RdrIs w' (w1.heap.size + 1) (.int .i64 kr) (.int .i64 ir) (.string tr) (.slice pr nr cr) (.slice qr mr dr) (bad || (rowT isT (lookJ j.ks j.ls kByType)).2) ∧ Keep (OneP (w1.heap.size + 1)) X w') := fun X bad hX hR =>
    row_types (d := 10) hR (hj2.carry (O' := fun b => b < w1.heap.size) fun x hx => ⟨hx, hX.block x (by omega) (by unfold OneP; omega)⟩) (fun x hx => ⟨by have := hX.size; omega, by omega⟩) HOK.out kByType
  rw [← hW2]
  have HBW : Hid (Below w.heap.size w W2) := belowP hbA (belowP hb1 hb2)
  have HBA : Hid (Below wA.heap.size wA W2) := belowP hb1 hb2
  clear hjr hj2 hOr hW2 b0 b1 b2 b3 b4
  have HPB : Hid (parseB j = ((((((((((kr != 5) || (numT 50 (lookJ j.ks j.ls kBan)).2) || (numT 50 (lookJ j.ks j.ls kKick)).2) || (numT 0 (lookJ j.ks j.ls kInvite)).2) || (numT 50 (lookJ j.ks j.ls kRedact)).2) || (numT 50 (lookJ j.ks j.ls kState)).2) || (numT 0 (lookJ j.ks j.ls kEvents)).2) || (numT 0 (lookJ j.ks j.ls kUsers)).2) || (rowT isU (lookJ j.ks j.ls kByUser)).2) || (rowT isT (lookJ j.ks j.ls kByType)).2)) := by show _ = _; unfold parseB; rw [HB0.out]
  generalize (kr != 5) = bad0 at hr0 HPB ⊢
  have hN1 := HNum.out W2 bad0 kBan 50 (Keep.refl _ _) hr0
  go_upto_region 4 with (first
    | (go_at_call 30; refine hN1.mono ?_; rintro e v1 ⟨rfl, hr1, hk1⟩
       have HK1 : Hid (Keep (OneP (w1.heap.size + 1)) W2 v1) := hk1
       have hN2 := HNum.out v1 _ kKick 50 HK1.out hr1
       clear hN1 hk1 hr1)
    | (go_at_call 30; refine hN2.mono ?_; rintro e v2 ⟨rfl, hr2, hk2⟩
       have HK2 : Hid (Keep (OneP (w1.heap.size + 1)) W2 v2) := HK1.out.then hk2
       have hN3 := HNum.out v2 _ kInvite 0 HK2.out hr2
       clear hN2 hk2 hr2)
    | (go_at_call 30; refine hN3.mono ?_; rintro e v3 ⟨rfl, hr3, hk3⟩
       have HK3 : Hid (Keep (OneP (w1.heap.size + 1)) W2 v3) := HK2.out.then hk3
       have hN4 := HNum.out v3 _ kRedact 50 HK3.out hr3
       clear hN3 hk3 hr3)
    | (go_at_call 30; refine hN4.mono ?_; rintro e v4 ⟨rfl, hr4, hk4⟩
       have HK4 : Hid (Keep (OneP (w1.heap.size + 1)) W2 v4) := HK3.out.then hk4
       have hN5 := HNum.out v4 _ kState 50 HK4.out hr4
       clear hN4 hk4 hr4)
    | (go_at_call 30; refine hN5.mono ?_; rintro e v5 ⟨rfl, hr5, hk5⟩
       have HK5 : Hid (Keep (OneP (w1.heap.size + 1)) W2 v5) := HK4.out.then hk5
       have hN6 := HNum.out v5 _ kEvents 0 HK5.out hr5
       clear hN5 hk5 hr5)
    | (go_at_call 30; refine hN6.mono ?_; rintro e v6 ⟨rfl, hr6, hk6⟩
       have HK6 : Hid (Keep (OneP (w1.heap.size + 1)) W2 v6) := HK5.out.then hk6
       have hN7 := HNum.out v6 _ kUsers 0 HK6.out hr6
       clear hN6 hk6 hr6)
    | (go_at_call 30; refine hN7.mono ?_; rintro e v7 ⟨rfl, hr7, hk7⟩
       have HK7 : Hid (Keep (OneP (w1.heap.size + 1)) W2 v7) := HK6.out.then hk7
       have hN8 := HRowU.out v7 _ HK7.out hr7
       clear hN7 hk7 hr7)
    | (go_at_call 31; refine hN8.mono ?_; rintro e v8 ⟨⟨pu, cu, rfl, hru⟩, hr8, hk8⟩
       have HK8 : Hid (Keep (OneP (w1.heap.size + 1)) W2 v8) := HK7.out.then hk8
       have HRU := (show Hid _ from hru)
       have hN9 := HRowT.out v8 _ HK8.out hr8
       clear hN8 hk8 hr8 hru)
    | (go_at_call 31; refine hN9.mono ?_; rintro e v9 ⟨⟨pt, ct, rfl, hrt⟩, hr9, hk9⟩
       have HK9 : Hid (Keep (OneP (w1.heap.size + 1)) W2 v9) := HK8.out.then hk9
       have HK89 : Hid (Keep (OneP (w1.heap.size + 1)) v8 v9) := hk9
       have HRT := (show Hid _ from hrt)
       have HR9 := (show Hid _ from hr9)
       clear hN9 hk9 hr9 hrt))
  have hR9 := HR9.out
  rw [← HPB.out] at hR9
  obtain ⟨WE, hWE⟩ : ∃ WE, WE = v9.alloc (.cells (cellsL (parseL j) ⟨pu, cu, pt, ct⟩).toArray 24) := ⟨_, rfl⟩
  have hbE : Below v9.heap.size v9 WE := by rw [hWE]; exact (Below.refl _ _).alloc (Nat.le_refl _) _
  have hL : WE.heap[v9.heap.size]? = some (.cells (cellsL (parseL j) ⟨pu, cu, pt, ct⟩).toArray 24 (0, 0)) := by rw [hWE]; exact newP _
  have hRE : RdrIs WE (w1.heap.size + 1) (.int .i64 kr) (.int .i64 ir) (.string tr) (.slice pr nr cr) (.slice qr mr dr) (parseB j) := (hbE.block _ (objP_lt hR9)).trans hR9
  have h9s := HK9.out.size
  have hZ : WE.heap[w.heap.size + 1]? = some (.cells #[.int .i64 0, .int .i64 0, .int .i64 0, .int .i64 0, .int .i64 0, .int .i64 0, .int .i64 0, .slice none 0 0, .slice none 0 0] 24 (0, 0)) :=
    (hbE.block _ (by omega)).trans ((HK9.out.block _ (by omega) (by unfold OneP; omega)).trans (HA1.out W2 HBA.out))
  have hbF : Below w.heap.size w WE := belowP (HBW.out.trans (HK9.out.below HBW.out.size fun q hq e => by unfold OneP at e; omega)) hbE
  have HIS : Hid (IsL (fun b => w.heap.size ≤ b ∧ b < WE.heap.size ∧ b ≠ w.heap.size + 1) WE (parseL j) ⟨pu, cu, pt, ct⟩) := by
    have h8 := HK8.out.size
    have h89 := HK89.out.size
    have hE := hbE.size
    refine ⟨RdN.carry HRU.out fun b hb => ⟨⟨by have := hb.1; have := HK7.out.size; omega, by omega, by have := hb.1; have := HK7.out.size; omega⟩, (hbE.block b (by omega)).trans (HK89.out.block b hb.2 (by have := hb.1; have := HK7.out.size; unfold OneP; omega))⟩, RdN.carry HRT.out fun b hb => ⟨⟨by have := hb.1; omega, by omega, by have := hb.1; omega⟩, hbE.block b hb.2⟩⟩
  have r5 := cellP hRE 5 _ rfl
  have g0 := cellP hZ 0 _ rfl; have g1 := cellP hZ 1 _ rfl; have g2 := cellP hZ 2 _ rfl; have g3 := cellP hZ 3 _ rfl; have g4 := cellP hZ 4 _ rfl; have g5 := cellP hZ 5 _ rfl; have g6 := cellP hZ 6 _ rfl; have g7 := cellP hZ 7 _ rfl; have g8 := cellP hZ 8 _ rfl
  have z0 := fzP hZ 0; have z1 := fzP hZ 1; have z2 := fzP hZ 2; have z3 := fzP hZ 3; have z4 := fzP hZ 4; have z5 := fzP hZ 5; have z6 := fzP hZ 6; have z7 := fzP hZ 7; have z8 := fzP hZ 8
  have HZ := (show Hid _ from hZ)
  have HPT : Hid (parseT j = if parseB j then (zeroL, 1) else (parseL j, 0)) := rfl
  have hltZ := objP_lt hZ
  change Code.wp _ _ _ _ (v9.alloc (.cells (cellsL (parseL j) ⟨pu, cu, pt, ct⟩).toArray 24))
  rw [← hWE]
  cases hpb : parseB j with
  | true =>
    rw [hpb] at r5 HPT
    clear hWE hL hRE hR9 HR9 HPB hZ
    go_wp2
    have h9 := setL_all (b := w.heap.size + 1) [.int .i64 0, .int .i64 0, .int .i64 0, .int .i64 0, .int .i64 0, .int .i64 0, .int .i64 0, .slice none 0 0, .slice none 0 0] HZ.out rfl
    have HK := setL_keep (w.heap.size + 1) [.int .i64 0, .int .i64 0, .int .i64 0, .int .i64 0, .int .i64 0, .int .i64 0, .int .i64 0, .slice none 0 0, .slice none 0 0] WE 0
    simp only [setL, Nat.zero_add, Nat.reduceAdd] at h9 HK
    refine bodyPost_ret (resultsP_cell_tmp rfl _ _ _ rfl (loadL9 h9)) rfl ?_
    rw [HPT.out]
    exact ⟨⟨⟨none, 0, none, 0⟩, rfl, RdN.nil _ _ _ _ fun _ => rfl, RdN.nil _ _ _ _ fun _ => rfl⟩, hbF.trans (HK.below hbF.size fun q hq e => by unfold OneP at e; omega)⟩
  | false =>
    rw [hpb] at r5 HPT
    have c0 := cellP hL 0 _ rfl; have c1 := cellP hL 1 _ rfl; have c2 := cellP hL 2 _ rfl; have c3 := cellP hL 3 _ rfl; have c4 := cellP hL 4 _ rfl; have c5 := cellP hL 5 _ rfl; have c6 := cellP hL 6 _ rfl; have c7 := cellP hL 7 _ rfl; have c8 := cellP hL 8 _ rfl
    clear hWE hRE hR9 HR9 HPB hZ hL
    generalize parseL j = PL at c0 c1 c2 c3 c4 c5 c6 c7 c8 HIS HPT
    go_wp2
    have h9 := setL_all (b := w.heap.size + 1) [.int .i64 PL.ban, .int .i64 PL.kick, .int .i64 PL.invite, .int .i64 PL.redact, .int .i64 PL.state, .int .i64 PL.events, .int .i64 PL.users, .slice pu PL.byUser.length cu, .slice pt PL.byType.length ct] HZ.out rfl
    have HK := setL_keep (w.heap.size + 1) [.int .i64 PL.ban, .int .i64 PL.kick, .int .i64 PL.invite, .int .i64 PL.redact, .int .i64 PL.state, .int .i64 PL.events, .int .i64 PL.users, .slice pu PL.byUser.length cu, .slice pt PL.byType.length ct] WE 0
    simp only [setL, Nat.zero_add, Nat.reduceAdd] at h9 HK
    refine bodyPost_ret (resultsP_cell_tmp rfl _ _ _ rfl (loadL9 h9)) rfl ?_
    rw [HPT.out]
    refine ⟨⟨⟨pu, cu, pt, ct⟩, rfl, HIS.out.carry fun b hb => ⟨⟨hb.1, Nat.lt_of_lt_of_le hb.2.1 HK.size⟩, HK.block b hb.2.1 (by unfold OneP; exact hb.2.2)⟩⟩, hbF.trans (HK.below hbF.size fun q hq e => by unfold OneP at e; omega)⟩
end Go.Proofs.Ytalmghbkdelaoaa

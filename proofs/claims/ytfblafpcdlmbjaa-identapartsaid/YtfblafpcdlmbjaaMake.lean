/-
  Names made of their parts, by contracts, and that they are taken apart as they were.
-/
import Derived.Test.YtfblafpcdlmbjaaHome
namespace Go.Proofs.Ytfblafpcdlmbjaa
open Go.RowKit

/-- A name: its sign, the local name, a colon, the server's name. -/
def name (c : UInt8) (l r : ByteArray) : ByteArray := (((⟨#[c]⟩ : ByteArray) ++ l) ++ ⟨#[58]⟩) ++ r

theorem ba_ext {a b : ByteArray} (h : a.data.toList = b.data.toList) : a = b := by
  cases a; cases b
  simp only at h
  rw [Array.toList_inj.1 h]
theorem name_list (c : UInt8) (l r : ByteArray) : (name c l r).data.toList = c :: (l.data.toList ++ 58 :: r.data.toList) := by
  simp [name]
theorem name_ints (c : UInt8) (l r : ByteArray) : ints (name c l r) = (c.toNat : Int) :: (ints l ++ 58 :: ints r) := by
  unfold ints
  rw [name_list]
  simp
theorem name_size (c : UInt8) (l r : ByteArray) : (name c l r).size = l.size + r.size + 2 := by
  rw [← ints_length, name_ints]
  simp [ints_length]
  omega
theorem name_left (c : UInt8) (l r : ByteArray) : (name c l r).extract 1 (l.size + 1) = l := by
  refine ba_ext ?_
  rw [ByteArray.data_extract, Array.toList_extract, name_list, List.extract_eq_take_drop]
  simp
theorem name_right (c : UInt8) (l r : ByteArray) : (name c l r).extract (l.size + 1 + 1) (name c l r).size = r := by
  refine ba_ext ?_
  rw [ByteArray.data_extract, Array.toList_extract, name_size, name_list, List.extract_eq_take_drop]
  have e : (c :: (l.data.toList ++ 58 :: r.data.toList)).drop (l.size + 1 + 1) = r.data.toList := by
    simp only [List.drop_succ_cons]
    rw [List.drop_append, List.drop_eq_nil_of_le (by simp)]
    have : l.size + 1 - l.data.toList.length = 1 := by simp
    rw [this]
    simp
  rw [e, List.take_of_length_le]
  simp
theorem loc_colon (l : ByteArray) (h : loc l = true) (j : Nat) (hj : j < l.size) : (ints l).getD j 0 ≠ 58 := by
  intro hc
  have : loc l = false := okText_bad kLoc 32 l j hj (by rw [hc]; decide)
  rw [this] at h
  cases h
theorem parts_name (c : UInt8) (l r : ByteArray) (hl : loc l = true) (hr : srv r = true) : parts (c.toNat : Int) (name c l r) = (l, r, true) := by
  have := parts_hit (c.toNat : Int) (name c l r) (l.size + 1) (by rw [name_ints]; simp) (by omega) (by rw [name_size]; omega)
    (by rw [name_ints]; simp [List.getD_eq_getElem?_getD, ← ints_length])
    (fun j h1 h2 => by
      rw [name_ints]
      obtain ⟨i, rfl⟩ : ∃ i, j = i + 1 := ⟨j - 1, by omega⟩
      have hi : i < (ints l).length := by rw [ints_length]; omega
      have := loc_colon l hl i (by omega)
      rw [List.getD_eq_getElem?_getD] at this ⊢
      rw [List.getElem?_cons_succ, List.getElem?_append_left hi]
      exact this)
  rw [name_left, name_right, if_pos ⟨hl, hr⟩] at this
  exact this
theorem ok_size {k : Int → Bool} {m : Int} {s : ByteArray} (h : okText k m s = true) : (s.size : Int) ≤ m := by
  unfold okText at h
  simp at h
  omega

set_option maxHeartbeats 1000000 in
theorem joined_yes (c : UInt8) (l r : ByteArray) (w : World) (hl : loc l = true) (hr : srv r = true) :
    Calls Try.prog 34 #[.string ⟨#[c]⟩, .string l, .string r] w fun e w' => e = .returned (.tuple #[.string (name c l r), .int .i64 0]) ∧ Below w.heap.size w w' := by
  have z1 := ok_size hl
  have z2 := ok_size hr
  go_enter Try.func34, Try.ntmps34
  go_wp2_with (first
    | (go_at_call 38; refine (local_any l _ (by omega)).mono ?_; rintro e w1 ⟨rfl, hb1⟩)
    | (go_at_call 14; refine (server_any r _ (by omega)).mono ?_; rintro e w2 ⟨rfl, hb2⟩))
  go_ret2
  exact ⟨rfl, hb1.trans (hb2.mono hb1.size)⟩
set_option maxHeartbeats 1000000 in
theorem joined_no (c : UInt8) (l r : ByteArray) (w : World) (z1 : l.size ≤ 140737488351232) (z2 : r.size ≤ 140737488351232) (h : (loc l && srv r) = false) :
    Calls Try.prog 34 #[.string ⟨#[c]⟩, .string l, .string r] w fun e w' => e = .returned (.tuple #[.string ⟨#[]⟩, .int .i64 1]) ∧ Below w.heap.size w w' := by
  cases hl : loc l with
  | true =>
    have hr : srv r = false := by rw [hl] at h; simpa using h
    go_enter Try.func34, Try.ntmps34
    go_wp2_with (first
      | (go_at_call 38; refine (local_any l _ (by omega)).mono ?_; rintro e w1 ⟨rfl, hb1⟩)
      | (go_at_call 14; refine (server_any r _ (by omega)).mono ?_; rintro e w2 ⟨rfl, hb2⟩))
    go_ret2
    exact ⟨rfl, hb1.trans (hb2.mono hb1.size)⟩
  | false =>
    go_enter Try.func34, Try.ntmps34
    go_wp2_with (go_at_call 38; refine (local_any l _ (by omega)).mono ?_; rintro e w1 ⟨rfl, hb1⟩)
    go_ret2
    exact ⟨rfl, hb1⟩

set_option maxHeartbeats 1000000 in
theorem makeUser_yes (l r : ByteArray) (w : World) (hl : loc l = true) (hr : srv r = true) :
    Calls Try.prog 20 #[.string l, .string r] w fun e w' => e = .returned (.tuple #[.string (name 64 l r), .int .i64 0]) ∧ Below w.heap.size w w' := by
  go_enter Try.func20, Try.ntmps20
  go_wp2_with (go_at_call 34; refine (joined_yes 64 l r _ hl hr).mono ?_; rintro e w1 ⟨rfl, hb1⟩)
  go_ret2
  exact ⟨rfl, hb1⟩
set_option maxHeartbeats 1000000 in
theorem makeUser_no (l r : ByteArray) (w : World) (z1 : l.size ≤ 140737488351232) (z2 : r.size ≤ 140737488351232) (h : (loc l && srv r) = false) :
    Calls Try.prog 20 #[.string l, .string r] w fun e w' => e = .returned (.tuple #[.string ⟨#[]⟩, .int .i64 1]) ∧ Below w.heap.size w w' := by
  go_enter Try.func20, Try.ntmps20
  go_wp2_with (go_at_call 34; refine (joined_no 64 l r _ z1 z2 h).mono ?_; rintro e w1 ⟨rfl, hb1⟩)
  go_ret2
  exact ⟨rfl, hb1⟩
set_option maxHeartbeats 1000000 in
theorem makeRoom_yes (l r : ByteArray) (w : World) (hl : loc l = true) (hr : srv r = true) :
    Calls Try.prog 21 #[.string l, .string r] w fun e w' => e = .returned (.tuple #[.string (name 33 l r), .int .i64 0]) ∧ Below w.heap.size w w' := by
  go_enter Try.func21, Try.ntmps21
  go_wp2_with (go_at_call 34; refine (joined_yes 33 l r _ hl hr).mono ?_; rintro e w1 ⟨rfl, hb1⟩)
  go_ret2
  exact ⟨rfl, hb1⟩
set_option maxHeartbeats 1000000 in
theorem makeRoom_no (l r : ByteArray) (w : World) (z1 : l.size ≤ 140737488351232) (z2 : r.size ≤ 140737488351232) (h : (loc l && srv r) = false) :
    Calls Try.prog 21 #[.string l, .string r] w fun e w' => e = .returned (.tuple #[.string ⟨#[]⟩, .int .i64 1]) ∧ Below w.heap.size w w' := by
  go_enter Try.func21, Try.ntmps21
  go_wp2_with (go_at_call 34; refine (joined_no 33 l r _ z1 z2 h).mono ?_; rintro e w1 ⟨rfl, hb1⟩)
  go_ret2
  exact ⟨rfl, hb1⟩
end Go.Proofs.Ytfblafpcdlmbjaa

/-
  Which letters a name may have, asked by a closure, and whether a text is of such letters: by contracts.
-/
import Derived.Test.YtfblafpcdlmbjaaSmall
import Derived.Lib.Strings
import Derived.Lib.Walk
import Derived.Lib.Bytealg
namespace Go.Proofs.Ytfblafpcdlmbjaa
open Go.RowKit

theorem ret_bool {a b : Bool} (h : a = b) : Ending.returned (.bool a) = .returned (.bool b) := by rw [h]

set_option maxHeartbeats 1000000 in
set_option maxRecDepth 100000 in
theorem liteIndexByte_any (s : ByteArray) (c : Int) (w : World) :
    Calls Try.prog 47 #[.string s, .int .u8 c] w fun e w' => e = .returned (.int .i64 (Lib.indexByte s.data.toList c.toNat.toUInt8)) ∧ w = w' := by
  go_enter Try.func47, Try.ntmps47
  go_wp2
  rw [run_callFunc_extern Try.func52 (by kernel_rfl) (by kernel_rfl) (by kernel_rfl) (e := Extern.BytealgIndexByte.indexByte) (by kernel_rfl), Lib.run_indexByteString]
  simp only [Result.andThen]
  rw [Oper.upon_value]
  go_wp2
  go_ret
  exact ⟨rfl, rfl⟩

set_option maxHeartbeats 1000000 in
theorem indexByte_any (s : ByteArray) (c : Int) (w : World) :
    Calls Try.prog 40 #[.string s, .int .u8 c] w fun e w' => e = .returned (.int .i64 (Lib.indexByte s.data.toList c.toNat.toUInt8)) ∧ w = w' := by
  go_enter Try.func40, Try.ntmps40
  go_wp2_with (go_at_call 47; refine (liteIndexByte_any _ _ _).mono ?_; rintro e w' ⟨rfl, rfl⟩)
  go_ret
  exact ⟨rfl, rfl⟩

/-- A small letter, a digit, or one of the others. -/
def kind (o : List UInt8) (c : Int) : Bool := (decide (97 ≤ c) && decide (c ≤ 122)) || (decide (48 ≤ c) && decide (c ≤ 57)) || decide (0 ≤ Lib.indexByte o c.toNat.toUInt8)

set_option maxHeartbeats 1000000 in
theorem letter_clo (o : ByteArray) (c : Int) (B : Nat) (w : World) (hc : w.cell? ⟨B, 0, none⟩ = some (.string o)) (h0 : 0 ≤ c) (h1 : c ≤ 255) :
    Calls Try.prog 39 #[.int .u8 c, .pointer (some ⟨B, 0, none⟩)] w fun e w' => e = .returned (.bool (kind o.data.toList c)) ∧ w = w' := by
  go_enter Try.func39, Try.ntmps39
  go_wp2_with (go_at_call 40; refine (indexByte_any _ _ _).mono ?_; rintro e w' ⟨rfl, rfl⟩)
  all_goals
    go_ret
    refine ⟨ret_bool ?_, rfl⟩
    unfold kind
    rw [Bool.eq_iff_iff]
    simp
    omega

/-- A text of one to m letters, each of which is of the kind k. -/
def okText (k : Int → Bool) (m : Int) (s : ByteArray) : Bool := decide (1 ≤ s.size) && decide ((s.size : Int) ≤ m) && (ints s).all k

theorem okText_long (k : Int → Bool) (m : Int) (s : ByteArray) (h : m < s.size) : okText k m s = false := by
  unfold okText; simp; omega
theorem okText_none (k : Int → Bool) (m : Int) (s : ByteArray) (h : s.size = 0) : okText k m s = false := by
  unfold okText; simp [h]
theorem okText_all (k : Int → Bool) (m : Int) (s : ByteArray) (h : 1 ≤ s.size) (h' : (s.size : Int) ≤ m) (ha : ∀ j, j < s.size → k ((ints s).getD j 0) = true) : okText k m s = true := by
  unfold okText
  simp only [h, h', decide_true, Bool.true_and, List.all_eq_true]
  intro x hx
  obtain ⟨i, hi, rfl⟩ := List.mem_iff_getElem.1 hx
  have := ha i (by rw [← ints_length]; exact hi)
  rw [List.getD_eq_getElem?_getD, List.getElem?_eq_getElem hi] at this
  exact this
theorem okText_bad (k : Int → Bool) (m : Int) (s : ByteArray) (j : Nat) (hj : j < s.size) (ha : k ((ints s).getD j 0) = false) : okText k m s = false := by
  unfold okText
  have hj' : j < (ints s).length := by rw [ints_length]; exact hj
  have : (ints s).all k = false := by
    rw [List.all_eq_false]
    refine ⟨(ints s)[j], List.getElem_mem hj', ?_⟩
    rw [List.getD_eq_getElem?_getD, List.getElem?_eq_getElem hj'] at ha
    simpa using ha
  rw [this]; simp

set_option maxHeartbeats 1000000 in
theorem fits_any (s o : ByteArray) (m : Int) (B : Nat) (w : World) (hs : s.size ≤ 140737488351232) (hc : w.cell? ⟨B, 0, none⟩ = some (.string o)) :
    Calls Try.prog 28 #[.string s, .int .i64 m, .func (.func 39) #[] #[.pointer (some ⟨B, 0, none⟩)]] w fun e w' => e = .returned (.bool (okText (kind o.data.toList) m s)) ∧ w = w' := by
  by_cases he : s.size = 0
  · have he' : (s.size : Int) = 0 := by omega
    go_enter Try.func28, Try.ntmps28
    go_wp2
    go_ret
    exact ⟨ret_bool (okText_none _ _ _ he).symm, rfl⟩
  by_cases hm : m < (s.size : Int)
  · go_enter Try.func28, Try.ntmps28
    go_wp2
    go_ret
    exact ⟨ret_bool (okText_long _ _ _ hm).symm, rfl⟩
  go_enter Try.func28, Try.ntmps28
  go_wp2
  go_loop [19] (fun i => ∃ k : Nat, k ≤ s.size ∧ i = .int .i64 k ∧ ∀ j, j < k → kind o.data.toList ((ints s).getD j 0) = true) (fun i => s.size - (intOf i).toNat)
  case atStart => exact ⟨0, Nat.zero_le _, rfl, fun j hj => by omega⟩
  case round =>
    obtain ⟨k, hk, rfl, hall⟩ := hrel
    have HA : Hid (∀ j, j < k → kind o.data.toList ((ints s).getD j 0) = true) := hall
    clear hall
    by_cases hlt : k < s.size
    · have HG : Hid ((ints s).getD k 0 = (s[k].toNat : Int)) := ints_getD s k hlt
      have hb1 : (s[k].toNat : Int) ≤ 255 := by have := s[k].toNat_lt; omega
      by_cases hb : kind o.data.toList (s[k].toNat : Int) = true
      · go_wp2_with (go_at_call 39; refine (letter_clo o _ B _ hc (by omega) (by omega)).mono ?_; rintro e w' ⟨rfl, rfl⟩)
        go_round
        case rel => exact ⟨k + 1, by omega, by go_num, fun j hj => by
                              by_cases e : j = k
                              · rw [e, HG.out]; exact hb
                              · exact HA.out j (by omega)⟩
        case measure => simp [intOf]; omega
      · have hb' : kind o.data.toList (s[k].toNat : Int) = false := by simpa using hb
        clear hb
        go_wp2_with (go_at_call 39; refine (letter_clo o _ B _ hc (by omega) (by omega)).mono ?_; rintro e w' ⟨rfl, rfl⟩)
        go_ret
        exact ⟨ret_bool (okText_bad _ _ _ k hlt (by rw [HG.out]; exact hb')).symm, rfl⟩
    · obtain rfl : k = s.size := by omega
      go_wp2
      go_ret
      exact ⟨ret_bool (okText_all _ _ _ (by omega) (by omega) HA.out).symm, rfl⟩
end Go.Proofs.Ytfblafpcdlmbjaa

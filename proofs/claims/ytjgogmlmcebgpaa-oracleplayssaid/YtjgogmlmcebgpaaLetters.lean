/-
  letters of oracle, by its contract: the letters of a number's eight bytes.
-/
import Derived.Test.YtjgogmlmcebgpaaEncode
import Derived.Test.YtjgogmlmcebgpaaBack
namespace Go.Proofs.Ytjgogmlmcebgpaa
open Go.RowKit

/-- A number's eight bytes, the highest first. -/
def be8 (n : Int) : List Int := [n / 72057594037927936, n / 281474976710656 % 256, n / 1099511627776 % 256, n / 4294967296 % 256, n / 16777216 % 256, n / 65536 % 256, n / 256 % 256, n % 256]
theorem be8_bd (n : Int) (h0 : 0 ≤ n) (h1 : n < 18446744073709551616) : ∀ x ∈ be8 n, 0 ≤ x ∧ x ≤ 255 := by
  intro x hx
  simp only [be8, List.mem_cons, List.not_mem_nil, or_false] at hx
  rcases hx with h | h | h | h | h | h | h | h <;> omega
theorem be8_inj {n m : Int} (h : be8 n = be8 m) : n = m := by
  simp only [be8, List.cons.injEq] at h
  omega
/-- The letters of a number. -/
def lt (n : Int) : ByteArray := strOfNums (enc (be8 n))
theorem lt_inj {n m : Int} (hn : 0 ≤ n) (hn1 : n < 18446744073709551616) (hm : 0 ≤ m) (hm1 : m < 18446744073709551616) (h : lt n = lt m) : n = m := by
  have h1 := congrArg ints h
  unfold lt at h1
  rw [ints_str _ (enc_bd _ (be8_bd n hn hn1)), ints_str _ (enc_bd _ (be8_bd m hm hm1))] at h1
  have h2 := congrArg dec h1
  rw [dec_enc _ (be8_bd n hn hn1), dec_enc _ (be8_bd m hm hm1)] at h2
  exact be8_inj h2
theorem lt_size (n : Int) : (lt n).size = 11 := by
  unfold lt
  rw [str_size]
  simp [be8, enc]

theorem rd_row {w : World} {g t : Nat} {fr : Nat × Nat} {L : List Int} (hg : w.heap[g]? = some (.cells (L.map (Value.int .u8)).toArray t fr)) (hL : ∀ x ∈ L, 0 ≤ x ∧ x ≤ 255) (c : Nat) (hc : L.length ≤ c) : Rd w.heap.size w (some ⟨g, 0, none⟩) c L :=
  ⟨hc, hL, fun j hj => ⟨_, rfl, (Array.getElem?_eq_some_iff.1 hg).1, by
    have e : (⟨g, 0, none⟩ : Addr).add j = ⟨g, j, none⟩ := by unfold Addr.add; split <;> simp_all
    rw [e]
    refine cell_row hg j _ ?_
    rw [List.getElem?_map, List.getElem?_eq_getElem hj, List.getD_eq_getElem?_getD, List.getElem?_eq_getElem hj]
    rfl⟩⟩

set_option maxHeartbeats 2000000 in
theorem letters_any (n : Int) (w : World) (h0 : 0 ≤ n) (h1 : n < 9223372036854775808) :
    Calls Try.prog 25 #[.int .i64 n] w fun e w' => e = .returned (.string (lt n)) ∧ Below w.heap.size w w' := by
  go_enter Try.func25, Try.ntmps25
  go_wp2
  refine wp_loop_rounds 9 ?_
  iterate 8 (rw [rounds_succ]; go_wp2)
  have hrow : (w.alloc (.cells #[.int .u8 (n / 72057594037927936), .int .u8 (n / 281474976710656 % 256), .int .u8 (n / 1099511627776 % 256), .int .u8 (n / 4294967296 % 256), .int .u8 (n / 16777216 % 256), .int .u8 (n / 65536 % 256), .int .u8 (n / 256 % 256), .int .u8 (n % 256)] 69)).heap[w.heap.size]? = some (.cells ((be8 n).map (Value.int .u8)).toArray 69) := heap_alloc_new _ _
  have hrd := Hid.out (show Hid _ from rd_row hrow (be8_bd n h0 (by omega)) 8 (by simp [be8]))
  have HRD : Hid (Rd (w.alloc (.cells #[.int .u8 (n / 72057594037927936), .int .u8 (n / 281474976710656 % 256), .int .u8 (n / 1099511627776 % 256), .int .u8 (n / 4294967296 % 256), .int .u8 (n / 16777216 % 256), .int .u8 (n / 65536 % 256), .int .u8 (n / 256 % 256), .int .u8 (n % 256)] 69)).heap.size (w.alloc (.cells #[.int .u8 (n / 72057594037927936), .int .u8 (n / 281474976710656 % 256), .int .u8 (n / 1099511627776 % 256), .int .u8 (n / 4294967296 % 256), .int .u8 (n / 16777216 % 256), .int .u8 (n / 65536 % 256), .int .u8 (n / 256 % 256), .int .u8 (n % 256)] 69)) (some ⟨w.heap.size, 0, none⟩) 8 (be8 n)) := hrd
  clear hrd hrow
  rw [rounds_succ]
  go_wp2_with (go_at_call 33; refine (encode_any (be8 n) _ _ _ (by simp [be8]) HRD.out).mono ?_; rintro e w1 ⟨rfl, hb1⟩)
  go_ret
  exact ⟨rfl, ((Below.refl _ _).alloc (Nat.le_refl _) _).trans (hb1.mono (by simp))⟩
end Go.Proofs.Ytjgogmlmcebgpaa

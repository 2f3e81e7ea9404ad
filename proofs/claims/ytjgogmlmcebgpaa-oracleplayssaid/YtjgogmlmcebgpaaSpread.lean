/-
  spread and gather of base, by their contracts.
-/
import Derived.Test.YtjgogmlmcebgpaaSmall
import Derived.BigRegion
import Derived.RegionTactic
namespace Go.Proofs.Ytjgogmlmcebgpaa
open Go.RowKit

theorem wraps_u32 (n : Int) (h₀ : 0 ≤ n) (h₁ : n < 2 ^ 32) : IntKind.u32.wrap n = n := by rw [IntKind.wrap_u32]; omega
theorem or_join (i : Nat) (x y : Int) (hx₀ : 0 ≤ x) (hx : x % 2 ^ i = 0) (hx₁ : x < 4294967296) (hy₀ : 0 ≤ y) (hy : y < 2 ^ i) (hy₁ : y < 4294967296) : bits .or .u32 x y = x + y :=
  bits_join .u32 32 (by decide) wraps_u32 i x y hx₀ hx (by omega) hy₀ hy (by omega)
theorem and63 (x : Int) (h₀ : 0 ≤ x) (h₁ : x < 4294967296) : bits .and .u32 x 63 = x % 64 :=
  bits_mask .u32 32 (by decide) wraps_u32 6 (by decide) x h₀ (by omega)

theorem abc_at : ∀ i : Fin 64, (((⟨#[65, 66, 67, 68, 69, 70, 71, 72, 73, 74, 75, 76, 77, 78, 79, 80, 81, 82, 83, 84, 85, 86, 87, 88, 89, 90, 97, 98, 99, 100, 101, 102, 103, 104, 105, 106, 107, 108, 109, 110, 111, 112, 113, 114, 115, 116, 117, 118, 119, 120, 121, 122, 48, 49, 50, 51, 52, 53, 54, 55, 56, 57, 43, 47]⟩ : ByteArray)[i.val]'(by exact i.isLt)).toNat : Int) = ltr i.val := by decide
theorem abc_run (k : IntKind) (i : Int) (h0 : 0 ≤ i) (h1 : i ≤ 63) (w : World) :
    (Instr.index 9 (.string ⟨#[65, 66, 67, 68, 69, 70, 71, 72, 73, 74, 75, 76, 77, 78, 79, 80, 81, 82, 83, 84, 85, 86, 87, 88, 89, 90, 97, 98, 99, 100, 101, 102, 103, 104, 105, 106, 107, 108, 109, 110, 111, 112, 113, 114, 115, 116, 117, 118, 119, 120, 121, 122, 48, 49, 50, 51, 52, 53, 54, 55, 56, 57, 43, 47]⟩) (.int k i)).run Try.prog w = .ok (.int .u8 (ltr i)) w := by
  obtain ⟨n, rfl⟩ := Int.eq_ofNat_of_zero_le h0
  rw [run_index_string w 9 _ k (n : Int) Try.underlying9, dif_pos ⟨by omega, by show (n : Int) < ((64 : Nat) : Int); omega⟩]
  rw [← abc_at ⟨n, by omega⟩]
  rfl

set_option maxHeartbeats 1000000 in
theorem spread_any (a b c : Int) (w : World) (ha0 : 0 ≤ a) (ha : a ≤ 255) (hb0 : 0 ≤ b) (hb : b ≤ 255) (hc0 : 0 ≤ c) (hc : c ≤ 255) :
    Calls Try.prog 37 #[.agg #[.int .u8 a, .int .u8 b, .int .u8 c]] w fun e w' => e = .returned (.agg #[.int .u8 (ltr (a / 4)), .int .u8 (ltr (a % 4 * 16 + b / 16)), .int .u8 (ltr (b % 16 * 4 + c / 64)), .int .u8 (ltr (c % 64))]) ∧ Below w.heap.size w w' := by
  have o1 : bits .or .u32 (a * 65536) (b * 256) = a * 65536 + b * 256 := or_join 16 _ _ (by omega) (by omega) (by omega) (by omega) (by omega) (by omega)
  have o2 : bits .or .u32 (a * 65536 + b * 256) c = a * 65536 + b * 256 + c := or_join 8 _ _ (by omega) (by omega) (by omega) (by omega) (by omega) (by omega)
  have m1 : bits .and .u32 ((a * 65536 + b * 256 + c) / 262144) 63 = a / 4 := by rw [and63 _ (by omega) (by omega)]; omega
  have m2 : bits .and .u32 ((a * 65536 + b * 256 + c) / 4096) 63 = a % 4 * 16 + b / 16 := by rw [and63 _ (by omega) (by omega)]; omega
  have m3 : bits .and .u32 ((a * 65536 + b * 256 + c) / 64) 63 = b % 16 * 4 + c / 64 := by rw [and63 _ (by omega) (by omega)]; omega
  have m4 : bits .and .u32 (a * 65536 + b * 256 + c) 63 = c % 64 := by rw [and63 _ (by omega) (by omega)]; omega
  have x1 := abc_run .u32 (a / 4) (by omega) (by omega)
  have x2 := abc_run .u32 (a % 4 * 16 + b / 16) (by omega) (by omega)
  have x3 := abc_run .u32 (b % 16 * 4 + c / 64) (by omega) (by omega)
  have x4 := abc_run .u32 (c % 64) (by omega) (by omega)
  go_enter Try.func37, Try.ntmps37
  go_wp2
  go_region
  go_wp2
  exact bodyPost_ret (v := .agg #[.int .u8 (ltr (a / 4)), .int .u8 (ltr (a % 4 * 16 + b / 16)), .int .u8 (ltr (b % 16 * 4 + c / 64)), .int .u8 (ltr (c % 64))]) (by simp [results, Try.results37, go_sem]) rfl ⟨rfl, (((Below.refl _ _).alloc (Nat.le_refl _) _).alloc (by simp) _).drew⟩

end Go.Proofs.Ytjgogmlmcebgpaa

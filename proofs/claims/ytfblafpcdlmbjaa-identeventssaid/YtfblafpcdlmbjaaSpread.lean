/-
  spread and gather of base, by their contracts.
-/
import Derived.Test.YtfblafpcdlmbjaaSmall
import Derived.BigRegion
import Derived.RegionTactic
namespace Go.Proofs.Ytfblafpcdlmbjaa
open Go.RowKit

theorem wraps_u32 (n : Int) (h₀ : 0 ≤ n) (h₁ : n < 2 ^ 32) : IntKind.u32.wrap n = n := by rw [IntKind.wrap_u32]; omega
theorem or_join (i : Nat) (x y : Int) (hx₀ : 0 ≤ x) (hx : x % 2 ^ i = 0) (hx₁ : x < 4294967296) (hy₀ : 0 ≤ y) (hy : y < 2 ^ i) (hy₁ : y < 4294967296) : bits .or .u32 x y = x + y :=
  bits_join .u32 32 (by decide) wraps_u32 i x y hx₀ hx (by omega) hy₀ hy (by omega)
theorem and63 (x : Int) (h₀ : 0 ≤ x) (h₁ : x < 4294967296) : bits .and .u32 x 63 = x % 64 :=
  bits_mask .u32 32 (by decide) wraps_u32 6 (by decide) x h₀ (by omega)

theorem abc_at : ∀ i : Fin 64, (((⟨#[65, 66, 67, 68, 69, 70, 71, 72, 73, 74, 75, 76, 77, 78, 79, 80, 81, 82, 83, 84, 85, 86, 87, 88, 89, 90, 97, 98, 99, 100, 101, 102, 103, 104, 105, 106, 107, 108, 109, 110, 111, 112, 113, 114, 115, 116, 117, 118, 119, 120, 121, 122, 48, 49, 50, 51, 52, 53, 54, 55, 56, 57, 43, 47]⟩ : ByteArray)[i.val]'(by exact i.isLt)).toNat : Int) = ltr i.val := by decide
theorem abc_run (k : IntKind) (i : Int) (h0 : 0 ≤ i) (h1 : i ≤ 63) (w : World) :
    (Instr.index 9 (.string ⟨#[65, 66, 67, 68, 69, 70, 71, 72, 73, 74, 75, 76, 77, 78, 79, 80, 81, 82, 83, 84, 85, 86, 87, 88, 89, 90, 97, 98, 99, 100, 101, 102, 103, 104, 105, 106, 107, 108, 109, 110, 111, 112, 113, 114, 115, 116, 117, 118, 119, 120, 121, 122, 48, 49, 50, 51, 52, 53, 54, 55, 56, 57, 43, 47]⟩) (.int k i)).run Try.prog w = .ok (.int .u8 (ltr i)) w := by
  obtain ⟨n, rfl⟩ := Int.eq_ofNat_of_zero_le h0
  rw [run_index_string w 9 _ k (n : Int) Try.underlying9, dif_pos ⟨by omega, by show (n : Int) < ((64 : Nat) : Int); omega⟩]
  rw [← abc_at ⟨n, by omega⟩]
  rfl


set_option maxHeartbeats 1000000 in
theorem gather_any (a b c d : Int) (w : World) (ha0 : 0 ≤ a) (ha : a ≤ 255) (hb0 : 0 ≤ b) (hb : b ≤ 255) (hc0 : 0 ≤ c) (hc : c ≤ 255) (hd0 : 0 ≤ d) (hd : d ≤ 255) :
    Calls Try.prog 44 #[.agg #[.int .u8 a, .int .u8 b, .int .u8 c, .int .u8 d]] w fun e w' => e = .returned (.agg #[.int .u8 (num0 a * 4 + num0 b / 16), .int .u8 (num0 b % 16 * 16 + num0 c / 4), .int .u8 (num0 c % 4 * 64 + num0 d)]) ∧ Below w.heap.size w w' := by
  have na := num0_hi a
  have nb := num0_hi b
  have nc := num0_hi c
  have nd := num0_hi d
  have ma := num0_lo a
  have mb := num0_lo b
  have mc := num0_lo c
  have md := num0_lo d
  have o0 : bits .or .u32 0 (num0 a) = num0 a := by rw [or_join 6 _ _ (by omega) (by omega) (by omega) (by omega) (by omega) (by omega)]; omega
  have o1 : bits .or .u32 (num0 a * 64) (num0 b) = num0 a * 64 + num0 b := or_join 6 _ _ (by omega) (by omega) (by omega) (by omega) (by omega) (by omega)
  have o2 : bits .or .u32 ((num0 a * 64 + num0 b) * 64) (num0 c) = (num0 a * 64 + num0 b) * 64 + num0 c := or_join 6 _ _ (by omega) (by omega) (by omega) (by omega) (by omega) (by omega)
  have o3 : bits .or .u32 (((num0 a * 64 + num0 b) * 64 + num0 c) * 64) (num0 d) = ((num0 a * 64 + num0 b) * 64 + num0 c) * 64 + num0 d := or_join 6 _ _ (by omega) (by omega) (by omega) (by omega) (by omega) (by omega)
  have r1 : (((num0 a * 64 + num0 b) * 64 + num0 c) * 64 + num0 d) / 65536 = num0 a * 4 + num0 b / 16 := by omega
  have r2 : (((num0 a * 64 + num0 b) * 64 + num0 c) * 64 + num0 d) / 256 % 256 = num0 b % 16 * 16 + num0 c / 4 := by omega
  have r3 : (((num0 a * 64 + num0 b) * 64 + num0 c) * 64 + num0 d) % 256 = num0 c % 4 * 64 + num0 d := by omega
  have i0 : ∀ w, (Instr.index 53 (.agg #[.int .u8 a, .int .u8 b, .int .u8 c, .int .u8 d]) (.int .i64 0)).run Try.prog w = .ok (.int .u8 a) w := fun _ => by kernel_rfl
  have i1 : ∀ w, (Instr.index 53 (.agg #[.int .u8 a, .int .u8 b, .int .u8 c, .int .u8 d]) (.int .i64 1)).run Try.prog w = .ok (.int .u8 b) w := fun _ => by kernel_rfl
  have i2 : ∀ w, (Instr.index 53 (.agg #[.int .u8 a, .int .u8 b, .int .u8 c, .int .u8 d]) (.int .i64 2)).run Try.prog w = .ok (.int .u8 c) w := fun _ => by kernel_rfl
  have i3 : ∀ w, (Instr.index 53 (.agg #[.int .u8 a, .int .u8 b, .int .u8 c, .int .u8 d]) (.int .i64 3)).run Try.prog w = .ok (.int .u8 d) w := fun _ => by kernel_rfl
  go_enter Try.func44, Try.ntmps44
  go_wp2
  refine wp_loop_rounds 5 ?_
  iterate 5 (rw [rounds_succ]; go_wp2_with (go_at_call 49; refine (number_any _ _ (by omega) (by omega)).mono ?_; rintro e w' ⟨rfl, rfl⟩))
  exact bodyPost_ret (v := .agg #[.int .u8 (num0 a * 4 + num0 b / 16), .int .u8 (num0 b % 16 * 16 + num0 c / 4), .int .u8 (num0 c % 4 * 64 + num0 d)]) (by simp [results, Try.results44, go_sem]) rfl ⟨rfl, ((Below.refl _ _).alloc (Nat.le_refl _) _).alloc (by simp) _⟩
end Go.Proofs.Ytfblafpcdlmbjaa

/-
  The letters of a number, as the document's answer makes them.
-/
import Derived.Test.YtjgogmlmcebgpaaRef
import Derived.Test.YtjgogmlmcebgpaaOwn
namespace Go.Proofs.Ytjgogmlmcebgpaa
open Go.RowKit

set_option maxRecDepth 100000 in
set_option maxHeartbeats 4000000 in
theorem number_any (n : Int) (w : World) (h0 : 0 ≤ n) (h1 : n < 9223372036854775808) :
    Calls Try.prog 27 #[.int .i64 n] w fun e w' => e = .returned (.string (lt n)) ∧ Below w.heap.size w w' := by
  have hown0 : w.ownsRow w.heap.size 5 1 (.slice none 0 0) ([] : List Int).length (([] : List Int).map (Value.int .u8)) := World.ownsRow_nil _ _ _ _
  have hb0 : Below w.heap.size w w := Below.refl _ _
  have HBD : Hid (∀ x ∈ be8 n, 0 ≤ x ∧ x ≤ 255) := be8_bd n h0 (by omega)
  go_enter Try.func27, Try.ntmps27
  go_wp2
  refine wp_loop_rounds 9 ?_
  rw [rounds_succ]
  go_wp2_with (at_builtin; refine wpList_push rfl (.tmp 9) (.tmp 15) 37 5 .u8 1 rfl Try.underlying37 Try.info5 (by decide) w.heap.size _ [] rfl ?a0 _ (n / 72057594037927936) rfl ?b0 ?c0 ?d0 ?_)
  case a0 => exact hown0.alloc _
  case b0 => exact cell_row (cur := [_]) (heap_alloc_new _ _) 0 _ rfl
  case c0 => simp
  case d0 => have := hb0.size; first | omega | (simp; done) | (simp; omega)
  intro v1 w1 hy1 hx1
  have hown1 : w1.ownsRow w.heap.size 5 1 v1 ([n / 72057594037927936] : List Int).length (([n / 72057594037927936] : List Int).map (Value.int .u8)) := hy1
  have hb1 : Below w.heap.size w w1 := (hb0.alloc hb0.size _).trans hx1
  clear hown0 hb0 hx1 hy1
  go_wp2
  rw [rounds_succ]
  go_wp2_with (at_builtin; refine wpList_push rfl (.tmp 9) (.tmp 15) 37 5 .u8 1 rfl Try.underlying37 Try.info5 (by decide) w.heap.size _ [n / 72057594037927936] rfl ?a1 _ (n / 281474976710656 % 256) rfl ?b1 ?c1 ?d1 ?_)
  case a1 => exact hown1.alloc _
  case b1 => exact cell_row (cur := [_]) (heap_alloc_new _ _) 0 _ rfl
  case c1 => simp
  case d1 => have := hb1.size; first | omega | (simp; done) | (simp; omega)
  intro v2 w2 hy2 hx2
  have hown2 : w2.ownsRow w.heap.size 5 1 v2 ([n / 72057594037927936, n / 281474976710656 % 256] : List Int).length (([n / 72057594037927936, n / 281474976710656 % 256] : List Int).map (Value.int .u8)) := hy2
  have hb2 : Below w.heap.size w w2 := (hb1.alloc hb1.size _).trans hx2
  clear hown1 hb1 hx2 hy2
  go_wp2
  rw [rounds_succ]
  go_wp2_with (at_builtin; refine wpList_push rfl (.tmp 9) (.tmp 15) 37 5 .u8 1 rfl Try.underlying37 Try.info5 (by decide) w.heap.size _ [n / 72057594037927936, n / 281474976710656 % 256] rfl ?a2 _ (n / 1099511627776 % 256) rfl ?b2 ?c2 ?d2 ?_)
  case a2 => exact hown2.alloc _
  case b2 => exact cell_row (cur := [_]) (heap_alloc_new _ _) 0 _ rfl
  case c2 => simp
  case d2 => have := hb2.size; first | omega | (simp; done) | (simp; omega)
  intro v3 w3 hy3 hx3
  have hown3 : w3.ownsRow w.heap.size 5 1 v3 ([n / 72057594037927936, n / 281474976710656 % 256, n / 1099511627776 % 256] : List Int).length (([n / 72057594037927936, n / 281474976710656 % 256, n / 1099511627776 % 256] : List Int).map (Value.int .u8)) := hy3
  have hb3 : Below w.heap.size w w3 := (hb2.alloc hb2.size _).trans hx3
  clear hown2 hb2 hx3 hy3
  go_wp2
  rw [rounds_succ]
  go_wp2_with (at_builtin; refine wpList_push rfl (.tmp 9) (.tmp 15) 37 5 .u8 1 rfl Try.underlying37 Try.info5 (by decide) w.heap.size _ [n / 72057594037927936, n / 281474976710656 % 256, n / 1099511627776 % 256] rfl ?a3 _ (n / 4294967296 % 256) rfl ?b3 ?c3 ?d3 ?_)
  case a3 => exact hown3.alloc _
  case b3 => exact cell_row (cur := [_]) (heap_alloc_new _ _) 0 _ rfl
  case c3 => simp
  case d3 => have := hb3.size; first | omega | (simp; done) | (simp; omega)
  intro v4 w4 hy4 hx4
  have hown4 : w4.ownsRow w.heap.size 5 1 v4 ([n / 72057594037927936, n / 281474976710656 % 256, n / 1099511627776 % 256, n / 4294967296 % 256] : List Int).length (([n / 72057594037927936, n / 281474976710656 % 256, n / 1099511627776 % 256, n / 4294967296 % 256] : List Int).map (Value.int .u8)) := hy4
  have hb4 : Below w.heap.size w w4 := (hb3.alloc hb3.size _).trans hx4
  clear hown3 hb3 hx4 hy4
  go_wp2
  rw [rounds_succ]
  go_wp2_with (at_builtin; refine wpList_push rfl (.tmp 9) (.tmp 15) 37 5 .u8 1 rfl Try.underlying37 Try.info5 (by decide) w.heap.size _ [n / 72057594037927936, n / 281474976710656 % 256, n / 1099511627776 % 256, n / 4294967296 % 256] rfl ?a4 _ (n / 16777216 % 256) rfl ?b4 ?c4 ?d4 ?_)
  case a4 => exact hown4.alloc _
  case b4 => exact cell_row (cur := [_]) (heap_alloc_new _ _) 0 _ rfl
  case c4 => simp
  case d4 => have := hb4.size; first | omega | (simp; done) | (simp; omega)
  intro v5 w5 hy5 hx5
  have hown5 : w5.ownsRow w.heap.size 5 1 v5 ([n / 72057594037927936, n / 281474976710656 % 256, n / 1099511627776 % 256, n / 4294967296 % 256, n / 16777216 % 256] : List Int).length (([n / 72057594037927936, n / 281474976710656 % 256, n / 1099511627776 % 256, n / 4294967296 % 256, n / 16777216 % 256] : List Int).map (Value.int .u8)) := hy5
  have hb5 : Below w.heap.size w w5 := (hb4.alloc hb4.size _).trans hx5
  clear hown4 hb4 hx5 hy5
  go_wp2
  rw [rounds_succ]
  go_wp2_with (at_builtin; refine wpList_push rfl (.tmp 9) (.tmp 15) 37 5 .u8 1 rfl Try.underlying37 Try.info5 (by decide) w.heap.size _ [n / 72057594037927936, n / 281474976710656 % 256, n / 1099511627776 % 256, n / 4294967296 % 256, n / 16777216 % 256] rfl ?a5 _ (n / 65536 % 256) rfl ?b5 ?c5 ?d5 ?_)
  case a5 => exact hown5.alloc _
  case b5 => exact cell_row (cur := [_]) (heap_alloc_new _ _) 0 _ rfl
  case c5 => simp
  case d5 => have := hb5.size; first | omega | (simp; done) | (simp; omega)
  intro v6 w6 hy6 hx6
  have hown6 : w6.ownsRow w.heap.size 5 1 v6 ([n / 72057594037927936, n / 281474976710656 % 256, n / 1099511627776 % 256, n / 4294967296 % 256, n / 16777216 % 256, n / 65536 % 256] : List Int).length (([n / 72057594037927936, n / 281474976710656 % 256, n / 1099511627776 % 256, n / 4294967296 % 256, n / 16777216 % 256, n / 65536 % 256] : List Int).map (Value.int .u8)) := hy6
  have hb6 : Below w.heap.size w w6 := (hb5.alloc hb5.size _).trans hx6
  clear hown5 hb5 hx6 hy6
  go_wp2
  rw [rounds_succ]
  go_wp2_with (at_builtin; refine wpList_push rfl (.tmp 9) (.tmp 15) 37 5 .u8 1 rfl Try.underlying37 Try.info5 (by decide) w.heap.size _ [n / 72057594037927936, n / 281474976710656 % 256, n / 1099511627776 % 256, n / 4294967296 % 256, n / 16777216 % 256, n / 65536 % 256] rfl ?a6 _ (n / 256 % 256) rfl ?b6 ?c6 ?d6 ?_)
  case a6 => exact hown6.alloc _
  case b6 => exact cell_row (cur := [_]) (heap_alloc_new _ _) 0 _ rfl
  case c6 => simp
  case d6 => have := hb6.size; first | omega | (simp; done) | (simp; omega)
  intro v7 w7 hy7 hx7
  have hown7 : w7.ownsRow w.heap.size 5 1 v7 ([n / 72057594037927936, n / 281474976710656 % 256, n / 1099511627776 % 256, n / 4294967296 % 256, n / 16777216 % 256, n / 65536 % 256, n / 256 % 256] : List Int).length (([n / 72057594037927936, n / 281474976710656 % 256, n / 1099511627776 % 256, n / 4294967296 % 256, n / 16777216 % 256, n / 65536 % 256, n / 256 % 256] : List Int).map (Value.int .u8)) := hy7
  have hb7 : Below w.heap.size w w7 := (hb6.alloc hb6.size _).trans hx7
  clear hown6 hb6 hx7 hy7
  go_wp2
  rw [rounds_succ]
  go_wp2_with (at_builtin; refine wpList_push rfl (.tmp 9) (.tmp 15) 37 5 .u8 1 rfl Try.underlying37 Try.info5 (by decide) w.heap.size _ [n / 72057594037927936, n / 281474976710656 % 256, n / 1099511627776 % 256, n / 4294967296 % 256, n / 16777216 % 256, n / 65536 % 256, n / 256 % 256] rfl ?a7 _ (n % 256) rfl ?b7 ?c7 ?d7 ?_)
  case a7 => exact hown7.alloc _
  case b7 => exact cell_row (cur := [_]) (heap_alloc_new _ _) 0 _ rfl
  case c7 => simp
  case d7 => have := hb7.size; first | omega | (simp; done) | (simp; omega)
  intro v8 w8 hy8 hx8
  have hown8 : w8.ownsRow w.heap.size 5 1 v8 ([n / 72057594037927936, n / 281474976710656 % 256, n / 1099511627776 % 256, n / 4294967296 % 256, n / 16777216 % 256, n / 65536 % 256, n / 256 % 256, n % 256] : List Int).length (([n / 72057594037927936, n / 281474976710656 % 256, n / 1099511627776 % 256, n / 4294967296 % 256, n / 16777216 % 256, n / 65536 % 256, n / 256 % 256, n % 256] : List Int).map (Value.int .u8)) := hy8
  have hb8 : Below w.heap.size w w8 := (hb7.alloc hb7.size _).trans hx8
  clear hown7 hb7 hx8 hy8
  go_wp2
  have hown9 : w8.ownsRow w.heap.size 5 1 v8 (be8 n).length ((be8 n).map (Value.int .u8)) := hown8
  obtain ⟨q, cq, rfl, hrq⟩ := own_rd hown9 HBD.out
  clear hown8 hown9
  have hl8 : Hid (Value.slice q (be8 n).length cq = .slice q 8 cq) := rfl
  rw [rounds_succ]
  go_wp2_with (go_at_call 34; refine (refEncode_any (be8 n) _ _ _ (by simp [be8]) hrq).mono ?_; rintro e w9 ⟨rfl, hb9⟩)
  go_ret
  exact ⟨rfl, hb8.trans (hb9.mono hb8.size)⟩
end Go.Proofs.Ytjgogmlmcebgpaa

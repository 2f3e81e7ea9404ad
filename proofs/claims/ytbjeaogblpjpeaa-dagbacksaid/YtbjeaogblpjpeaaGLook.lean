/-
  What a graph's own methods read: how many things, the place of a name, a thing.
-/
import Derived.Test.YtbjeaogblpjpeaaGMem
namespace Go.Proofs.Ytbjeaogblpjpeaa
open Go.RowKit Go.Maps

theorem eqMap (w : World) (b : Nat) : (binOp .eql 65 (.map (some b)) (.map none)).run Try.prog w = .ok (.bool false) w := by kernel_rfl
theorem eqMapN (w : World) : (binOp .eql 65 (.map none) (.map none)).run Try.prog w = .ok (.bool true) w := by kernel_rfl
/-- A row of things, as it is read. -/
theorem th_at {O : Nat → Prop} {w : World} {e : Nat} {v : Value} {xs : List Value} {T : List Th} (h : w.ownsRow 0 e 3 v T.length xs) (hx : Thx O w T xs) :
    ∃ q cq, v = .slice q T.length cq ∧ T.length ≤ cq ∧ ∀ k, k < T.length → ∃ a p1 c1 p2 c2, q = some a ∧ a.block < w.heap.size ∧ w.cell? (a.add (k * 3)) = some (.string (T.getD k noTh).name) ∧ w.cell? ⟨(a.add (k * 3)).block, (a.add (k * 3)).off + 1, none⟩ = some (.slice p1 (zs (prevs T k)).length c1) ∧ w.cell? ⟨(a.add (k * 3)).block, (a.add (k * 3)).off + 2, none⟩ = some (.slice p2 (zs (auths T k)).length c2) ∧ RdI O w p1 c1 (zs (prevs T k)) ∧ RdI O w p2 c2 (zs (auths T k)) ∧ a.spot = none := by
  rcases h.2 with ⟨rfl, hn⟩ | ⟨g, cap, cur, rfl, hg, hgg, h1, h2, h3, h4⟩
  · rw [hn]
    exact ⟨none, 0, rfl, Nat.le_refl _, fun j hj => absurd hj (by omega)⟩
  · refine ⟨_, cap, rfl, h1, fun k hk => ?_⟩
    have ht : T[k]? = some (T.getD k noTh) := by rw [getD_in hk, List.getElem?_eq_getElem hk]
    obtain ⟨p1, c1, p2, c2, e1, e2, e3, r1, r2⟩ := hx k _ ht
    have hl := h.1
    refine ⟨_, p1, c1, p2, c2, rfl, obj_lt hgg, ?_, ?_, ?_, r1, r2, rfl⟩
    · rw [add_flat, Nat.zero_add, h.cellAt (k * 3) (by omega), e1]
    · rw [add_flat]; show w.cell? ⟨g, 0 + k * 3 + 1, none⟩ = _; rw [Nat.zero_add, h.cellAt (k * 3 + 1) (by omega), e2]; rfl
    · rw [add_flat]; show w.cell? ⟨g, 0 + k * 3 + 2, none⟩ = _; rw [Nat.zero_add, h.cellAt (k * 3 + 2) (by omega), e3]; rfl

set_option maxHeartbeats 1000000 in
theorem len_any {O : Nat → Prop} {g : Option Addr} {T : List Th} (w : World) (h : Gq O w g T) (hT : T.length ≤ 100) :
    Calls Try.prog 28 #[.pointer g] w fun e w' => e = .returned (.int .i64 T.length) ∧ w = w' := by
  rcases h with ⟨rfl, rfl⟩ | ⟨gb, rfl, ho, _, rfl, _⟩ | ⟨gb, mb, v, xs, rfl, h⟩
  · go_enter Try.func28, Try.ntmps28
    go_wp2
    go_ret
    exact ⟨rfl, rfl⟩
  · have hc := cell_row (cur := [_, _]) ho 1 _ rfl
    go_enter Try.func28, Try.ntmps28
    go_wp2
    go_ret
    exact ⟨rfl, rfl⟩
  · have hc := cell_row (cur := [_, _]) h.obj 1 _ rfl
    obtain ⟨q, cq, rfl, _, _⟩ := th_at h.row h.cellsO
    clear h
    go_enter Try.func28, Try.ntmps28
    go_wp2
    go_ret
    exact ⟨rfl, rfl⟩

theorem ret_place {a c : Int} {b d : Bool} (h : a = c) (h' : b = d) : Ending.returned (.tuple #[.int .i64 a, .bool b]) = .returned (.tuple #[.int .i64 c, .bool d]) := by rw [h, h']
/-- The place that is told of a name. -/
def plZ (T : List Th) (s : ByteArray) : Int := if inn (nms T) s then (pl T s : Int) else 0

set_option maxHeartbeats 1000000 in
theorem place_any {O : Nat → Prop} {g : Option Addr} {T : List Th} (s : ByteArray) (w : World) (h : Gq O w g T) (hs : s.size ≤ 1000) :
    Calls Try.prog 19 #[.pointer g, .string s] w fun e w' => e = .returned (.tuple #[.int .i64 (plZ T s), .bool (inn (nms T) s)]) ∧ w = w' := by
  have hs' : s.size ≤ maxLen := by unfold maxLen; omega
  rcases h with ⟨rfl, rfl⟩ | ⟨gb, rfl, ho, _, rfl, _⟩ | ⟨gb, mb, v, xs, rfl, h⟩
  · go_enter Try.func19, Try.ntmps19
    go_wp2
    go_ret2
    exact ⟨rfl, rfl⟩
  · have hc := cell_row (cur := [_, _]) ho 0 _ rfl
    have hk := fun wx : World => Maps.look_nil (P := Try.prog) (w := wx) true law9 Try.underlying65 (zero3 wx) (keyS hs')
    simp only [if_true] at hk
    go_enter Try.func19, Try.ntmps19
    go_wp2
    go_ret2
    exact ⟨rfl, rfl⟩
  · have hc := cell_row (cur := [_, _]) h.obj 0 _ rfl
    obtain ⟨D, hown, hnum⟩ := h.names
    have hkey := keyS hs'
    have HH : Hid (Maps.has D (klS s) = inn (nms T) s) := hnum.has s hs'
    have HN : Hid (Num D (nms T)) := hnum
    clear hnum h
    go_enter Try.func19, Try.ntmps19
    go_wp2_with (first
      | (at_lookup; refine wpList_lookup_own_ok_int _ rfl _ _ 65 rfl 9 3 .i64 law9 Try.underlying65 Try.underlying3 (zero3 _) mb (nms T).length D rfl hown _ _ rfl hkey ?_; intro c hat hwc))
    go_ret2
    refine ⟨ret_place ?_ HH.out, rfl⟩
    unfold plZ
    cases hi : inn (nms T) s with
    | true =>
      have := HN.out.num s (inn_iff.1 hi) (.lit (.int .i64 0))
      change D.atKey (klS s) _ = _ at this
      rw [this] at hat
      simp only [DataW.lit.injEq, Lit.int.injEq, true_and] at hat
      exact hat.symm
    | false =>
      have h0 : Maps.has D (klS s) = false := by rw [HH.out, hi]
      rw [atKey_of_not_has h0] at hat
      simp only [DataW.lit.injEq, Lit.int.injEq, true_and] at hat
      exact hat.symm
end Go.Proofs.Ytbjeaogblpjpeaa

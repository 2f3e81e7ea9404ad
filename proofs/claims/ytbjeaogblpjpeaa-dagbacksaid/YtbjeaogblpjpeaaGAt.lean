/-
  The thing at a place, and its rows.
-/
import Derived.Test.YtbjeaogblpjpeaaGLook
namespace Go.Proofs.Ytbjeaogblpjpeaa
open Go.RowKit Go.Maps

/-- The thing that is told of a number. -/
def thAt (T : List Th) (i : Int) : Th := if 0 ≤ i then T.getD i.toNat noTh else noTh
set_option maxHeartbeats 1000000 in
theorem at_in {O : Nat → Prop} {g : Option Addr} {T : List Th} (i : Nat) (w : World) (h : Gq O w g T) (hT : T.length ≤ 100) (hi : i < T.length) :
    Calls Try.prog 32 #[.pointer g, .int .i64 i] w fun e w' => ∃ p1 c1 p2 c2, e = .returned (.agg #[.string (T.getD i noTh).name, .slice p1 (zs (prevs T i)).length c1, .slice p2 (zs (auths T i)).length c2]) ∧ RdI O w p1 c1 (zs (prevs T i)) ∧ RdI O w p2 c2 (zs (auths T i)) ∧ Below w.heap.size w w' := by
  rcases h with ⟨rfl, rfl⟩ | ⟨gb, rfl, ho, _, rfl, _⟩ | ⟨gb, mb, v, xs, rfl, h⟩
  · simp at hi
  · simp at hi
  · have hq : ∀ wx, Below w.heap.size w wx → Gq O wx (some ⟨gb, 0, none⟩) T := fun wx hb => Gq.below (.inr (.inr ⟨gb, mb, v, xs, rfl, h⟩)) hb
    have hgl := h.lt gb h.og
    have hc := cell_row (cur := [_, _]) h.obj 1 _ rfl
    obtain ⟨q, cq, rfl, hcq, hall⟩ := th_at h.row h.cellsO
    obtain ⟨a, p1, c1, p2, c2, rfl, ha, k1, k2, k3, r1, r2, hsp⟩ := hall i hi
    obtain ⟨ab, ao, sp⟩ := a
    simp only at hsp
    subst hsp
    rw [add_flat] at k1 k2 k3
    simp only at k1 k2 k3 ha
    clear h hall
    generalize (T.getD i noTh).name = nm at *
    generalize (zs (prevs T i)).length = n1 at *
    generalize (zs (auths T i)).length = n2 at *
    go_enter Try.func32, Try.ntmps32
    go_wp2_with (first
      | (go_at_call 28; refine (len_any _ (hq _ ((Below.refl _ _).alloc (Nat.le_refl _) _)) hT).mono ?_; rintro e w' ⟨rfl, rfl⟩))
    exact bodyPost_ret (v := .agg #[.string nm, .slice p1 n1 c1, .slice p2 n2 c2]) (by simp [results, Try.results32, go_sem]) rfl ⟨p1, c1, p2, c2, rfl, r1, r2, (Below.refl _ _).alloc (Nat.le_refl _) _⟩
theorem thAt_out {T : List Th} {i : Int} (hi : i < 0 ∨ (T.length : Int) ≤ i) : thAt T i = noTh := by
  unfold thAt
  split
  · exact getD_out (by omega)
  · rfl
theorem thAt_nat (T : List Th) (i : Nat) : thAt T i = T.getD i noTh := by
  unfold thAt
  rw [if_pos (by omega)]
  simp
set_option maxHeartbeats 1000000 in
theorem at_out {O : Nat → Prop} {g : Option Addr} {T : List Th} (i : Int) (w : World) (h : Gq O w g T) (hT : T.length ≤ 100) (hi : i < 0 ∨ (T.length : Int) ≤ i) :
    Calls Try.prog 32 #[.pointer g, .int .i64 i] w fun e w' => e = .returned (.agg #[.string ⟨#[]⟩, .slice none 0 0, .slice none 0 0]) ∧ Below w.heap.size w w' := by
  have hq : ∀ wx, Below w.heap.size w wx → Gq O wx g T := fun wx hb => h.below hb
  clear h
  by_cases h0 : i < 0
  · clear hi
    go_enter Try.func32, Try.ntmps32
    go_wp2_with (first
      | (go_at_call 28; refine (len_any _ (hq _ ((Below.refl _ _).alloc (Nat.le_refl _) _)) hT).mono ?_; rintro e w' ⟨rfl, rfl⟩))
    exact bodyPost_ret (v := .agg #[.string ⟨#[]⟩, .slice none 0 0, .slice none 0 0]) (by simp [results, Try.results32, go_sem]) rfl ⟨rfl, (Below.refl _ _).alloc (Nat.le_refl _) _⟩
  · have h1 : (T.length : Int) ≤ i := by omega
    clear hi
    go_enter Try.func32, Try.ntmps32
    go_wp2_with (first
      | (go_at_call 28; refine (len_any _ (hq _ ((Below.refl _ _).alloc (Nat.le_refl _) _)) hT).mono ?_; rintro e w' ⟨rfl, rfl⟩))
    exact bodyPost_ret (v := .agg #[.string ⟨#[]⟩, .slice none 0 0, .slice none 0 0]) (by simp [results, Try.results32, go_sem]) rfl ⟨rfl, (Below.refl _ _).alloc (Nat.le_refl _) _⟩
theorem at_any {O : Nat → Prop} {g : Option Addr} {T : List Th} (i : Int) (w : World) (h : Gq O w g T) (hT : T.length ≤ 100) :
    Calls Try.prog 32 #[.pointer g, .int .i64 i] w fun e w' => ∃ p1 c1 p2 c2, e = .returned (.agg #[.string (thAt T i).name, .slice p1 (zs (thAt T i).prev).length c1, .slice p2 (zs (thAt T i).auth).length c2]) ∧ RdI O w p1 c1 (zs (thAt T i).prev) ∧ RdI O w p2 c2 (zs (thAt T i).auth) ∧ Below w.heap.size w w' := by
  by_cases hi : i < 0 ∨ (T.length : Int) ≤ i
  · rw [thAt_out hi]
    refine (at_out i w h hT hi).mono ?_
    rintro e w' ⟨rfl, hb⟩
    exact ⟨none, 0, none, 0, rfl, Rd.nil _ _ _ _ _, Rd.nil _ _ _ _ _, hb⟩
  · obtain ⟨n, rfl⟩ := Int.eq_ofNat_of_zero_le (show 0 ≤ i by omega)
    have := at_in n w h hT (by omega)
    rw [thAt_nat]
    exact this

theorem field_th (w : World) (a b c : Value) : (Instr.field 63 (.agg #[a, b, c]) 0).run Try.prog w = .ok a w ∧ (Instr.field 63 (.agg #[a, b, c]) 1).run Try.prog w = .ok b w ∧ (Instr.field 63 (.agg #[a, b, c]) 2).run Try.prog w = .ok c w := ⟨by kernel_rfl, by kernel_rfl, by kernel_rfl⟩
set_option maxHeartbeats 1000000 in
theorem follows_any {O : Nat → Prop} {g : Option Addr} {T : List Th} (i : Int) (w : World) (h : Gq O w g T) (hT : T.length ≤ 100) :
    Calls Try.prog 34 #[.pointer g, .int .i64 i] w fun e w' => ∃ p c, e = .returned (.slice p (zs (thAt T i).prev).length c) ∧ RdI O w p c (zs (thAt T i).prev) ∧ Below w.heap.size w w' := by
  have hat := at_any i w h hT
  generalize thAt T i = t at *
  have ff := fun wx a b c => (field_th wx a b c).2.1
  go_enter Try.func34, Try.ntmps34
  go_wp2_with (first
    | (go_at_call 32; refine hat.mono ?_; rintro e w' ⟨p1, c1, p2, c2, rfl, r1, r2, hb⟩))
  go_ret
  exact ⟨_, _, rfl, r1, hb⟩
set_option maxHeartbeats 1000000 in
theorem leans_any {O : Nat → Prop} {g : Option Addr} {T : List Th} (i : Int) (w : World) (h : Gq O w g T) (hT : T.length ≤ 100) :
    Calls Try.prog 35 #[.pointer g, .int .i64 i] w fun e w' => ∃ p c, e = .returned (.slice p (zs (thAt T i).auth).length c) ∧ RdI O w p c (zs (thAt T i).auth) ∧ Below w.heap.size w w' := by
  have hat := at_any i w h hT
  generalize thAt T i = t at *
  have ff := fun wx a b c => (field_th wx a b c).2.2
  go_enter Try.func35, Try.ntmps35
  go_wp2_with (first
    | (go_at_call 32; refine hat.mono ?_; rintro e w' ⟨p1, c1, p2, c2, rfl, r1, r2, hb⟩))
  go_ret
  exact ⟨_, _, rfl, r2, hb⟩
set_option maxHeartbeats 1000000 in
theorem name_any {O : Nat → Prop} {g : Option Addr} {T : List Th} (i : Int) (w : World) (h : Gq O w g T) (hT : T.length ≤ 100) :
    Calls Try.prog 15 #[.pointer g, .int .i64 i] w fun e w' => e = .returned (.string (thAt T i).name) ∧ Below w.heap.size w w' := by
  have hat := at_any i w h hT
  generalize thAt T i = t at *
  have ff := fun wx a b c => (field_th wx a b c).1
  go_enter Try.func15, Try.ntmps15
  go_wp2_with (first
    | (go_at_call 32; refine hat.mono ?_; rintro e w' ⟨p1, c1, p2, c2, rfl, r1, r2, hb⟩))
  go_ret
  exact ⟨rfl, hb⟩

/-- slices.Clone of a row that is read. -/
theorem clone_any {O : Nat → Prop} {p : Option Addr} {c : Nat} {l : List Int} (w : World) (h : RdI O w p c l) (hl : l.length ≤ 1000000) :
    Calls Try.prog 33 #[.slice p l.length c] w fun e w' => ∃ v, e = .returned v ∧ w'.ownsRow w.heap.size 3 1 v l.length (l.map (Value.int .i64)) ∧ Below w.heap.size w w' := by
  cases p with
  | none =>
    obtain rfl := h.len
    refine (Try.slices_Clone_int_nil _ _ w).mono ?_
    rintro e w' ⟨rfl, rfl⟩
    exact ⟨_, rfl, World.ownsRow_nil _ _ _ _, Below.refl _ _⟩
  | some a =>
    by_cases hn : l = []
    · subst hn
      refine (Try.slices_Clone_int_zero a c w).mono ?_
      rintro e w' ⟨v, rfl, ho, _, hb⟩
      exact ⟨v, rfl, ho, hb⟩
    · obtain ⟨b, o, ha, _, hc⟩ := h.2 hn
      cases ha
      have := Try.slices_Clone_int b o l.length c l w (Nat.le_refl _) (by omega) fun j hj => hc j _ (by rw [getD_in hj, List.getElem?_eq_getElem hj])
      rw [List.take_length] at this
      refine this.mono ?_
      rintro e w' ⟨v, rfl, ho, _, hb⟩
      exact ⟨v, rfl, ho, hb⟩
theorem rise_few {a : List Nat} {n : Nat} (ha : a.Pairwise (· < ·)) (hn : ∀ x ∈ a, x < n) : (zs a).length ≤ n := by rw [zs_len]; exact rise_length ha hn
theorem prev_few {T : List Th} (hg : Good T) (hT : T.length ≤ 100) (i : Int) : (zs (thAt T i).prev).length ≤ 100 := by
  by_cases hi : i < 0 ∨ (T.length : Int) ≤ i
  · rw [thAt_out hi]; simp [noTh, zs]
  · obtain ⟨n, rfl⟩ := Int.eq_ofNat_of_zero_le (show 0 ≤ i by omega)
    rw [thAt_nat]
    have := rise_few (hg.pr n) (hg.pl n)
    unfold prevs at this
    omega
theorem auth_few {T : List Th} (hg : Good T) (hT : T.length ≤ 100) (i : Int) : (zs (thAt T i).auth).length ≤ 100 := by
  by_cases hi : i < 0 ∨ (T.length : Int) ≤ i
  · rw [thAt_out hi]; simp [noTh, zs]
  · obtain ⟨n, rfl⟩ := Int.eq_ofNat_of_zero_le (show 0 ≤ i by omega)
    rw [thAt_nat]
    have := rise_few (hg.ar n) (hg.al n)
    unfold auths at this
    omega
theorem Gq.lt {O : Nat → Prop} {w : World} {g : Option Addr} {T : List Th} (h : Gq O w g T) : T = [] ∨ ∀ k, O k → k < w.heap.size := by
  rcases h with h | ⟨gb, e, ho, hO, hT, hl⟩ | ⟨gb, mb, v, xs, e, h⟩
  · exact .inl h.2
  · exact .inl hT
  · exact .inr h.lt
theorem rdI_far {O : Nat → Prop} {w w' : World} {g : Option Addr} {T : List Th} {i : Int} {p : Option Addr} {c : Nat} (h : Gq O w g T) (hb : Below w.heap.size w w') (r : RdI O w p c (zs (thAt T i).prev)) : RdI O w' p c (zs (thAt T i).prev) := by
  rcases h.lt with rfl | hl
  · have e : thAt [] i = noTh := by unfold thAt; split <;> rfl
    rw [e]; exact Rd.nil _ _ _ _ _
  · exact r.same (Same.of_below hb hl)
theorem rdI_far2 {O : Nat → Prop} {w w' : World} {g : Option Addr} {T : List Th} {i : Int} {p : Option Addr} {c : Nat} (h : Gq O w g T) (hb : Below w.heap.size w w') (r : RdI O w p c (zs (thAt T i).auth)) : RdI O w' p c (zs (thAt T i).auth) := by
  rcases h.lt with rfl | hl
  · have e : thAt [] i = noTh := by unfold thAt; split <;> rfl
    rw [e]; exact Rd.nil _ _ _ _ _
  · exact r.same (Same.of_below hb hl)
set_option maxHeartbeats 1000000 in
theorem prev_any {O : Nat → Prop} {g : Option Addr} {T : List Th} (i : Int) (w : World) (h : Gq O w g T) (hg : Good T) (hT : T.length ≤ 100) :
    Calls Try.prog 17 #[.pointer g, .int .i64 i] w fun e w' => ∃ v, e = .returned v ∧ w'.ownsRow w.heap.size 3 1 v (zs (thAt T i).prev).length ((zs (thAt T i).prev).map (Value.int .i64)) ∧ Below w.heap.size w w' := by
  have hf := follows_any i w h hT
  have hl := prev_few hg hT i
  have H : Hid (∀ w' p c, Below w.heap.size w w' → RdI O w p c (zs (thAt T i).prev) → RdI O w' p c (zs (thAt T i).prev)) := fun w' p c hb r => rdI_far h hb r
  generalize zs (thAt T i).prev = l at *
  go_enter Try.func17, Try.ntmps17
  go_wp2_with (first
    | (go_at_call 34; refine hf.mono ?_; rintro e w1 ⟨p1, c1, rfl, r1, hb⟩)
    | (go_at_call 33; refine (clone_any _ (H.out _ _ _ hb r1) (by omega)).mono ?_; rintro e w2 ⟨v, rfl, ho, hb2⟩))
  go_ret
  exact ⟨_, rfl, own_le ho hb.size, hb.trans (hb2.mono hb.size)⟩
set_option maxHeartbeats 1000000 in
theorem auth_any {O : Nat → Prop} {g : Option Addr} {T : List Th} (i : Int) (w : World) (h : Gq O w g T) (hg : Good T) (hT : T.length ≤ 100) :
    Calls Try.prog 18 #[.pointer g, .int .i64 i] w fun e w' => ∃ v, e = .returned v ∧ w'.ownsRow w.heap.size 3 1 v (zs (thAt T i).auth).length ((zs (thAt T i).auth).map (Value.int .i64)) ∧ Below w.heap.size w w' := by
  have hf := leans_any i w h hT
  have hl := auth_few hg hT i
  have H : Hid (∀ w' p c, Below w.heap.size w w' → RdI O w p c (zs (thAt T i).auth) → RdI O w' p c (zs (thAt T i).auth)) := fun w' p c hb r => rdI_far2 h hb r
  generalize zs (thAt T i).auth = l at *
  go_enter Try.func18, Try.ntmps18
  go_wp2_with (first
    | (go_at_call 35; refine hf.mono ?_; rintro e w1 ⟨p1, c1, rfl, r1, hb⟩)
    | (go_at_call 33; refine (clone_any _ (H.out _ _ _ hb r1) (by omega)).mono ?_; rintro e w2 ⟨v, rfl, ho, hb2⟩))
  go_ret
  exact ⟨_, rfl, own_le ho hb.size, hb.trans (hb2.mono hb.size)⟩
end Go.Proofs.Ytbjeaogblpjpeaa

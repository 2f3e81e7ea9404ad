/-
  DagNone, walked.
-/
import Derived.Test.YtbjeaogblpjpeabGAwake
import Derived.Test.YtbjeaogblpjpeabGReachL
namespace Go.Proofs.Ytbjeaogblpjpeab
open Go.RowKit Go.Maps

theorem th_none (i : Int) : thAt [] i = noTh := by unfold thAt; split <;> rfl
section
variable {O : Nat → Prop} {g : Option Addr}
theorem none_place (s : ByteArray) (w : World) (h : Gq O w g []) (hs : s.size ≤ 1000) : Calls Try.prog 5 #[.pointer g, .string s] w fun e w' => e = .returned (.tuple #[.int .i64 0, .bool false]) ∧ w = w' := place_out s w h hs rfl
theorem none_len (w : World) (h : Gq O w g []) : Calls Try.prog 7 #[.pointer g] w fun e w' => e = .returned (.int .i64 0) ∧ w = w' := len_any w h (by simp)
theorem none_name (w : World) (h : Gq O w g []) : Calls Try.prog 8 #[.pointer g, .int .i64 0] w fun e w' => e = .returned (.string ⟨#[]⟩) ∧ Below w.heap.size w w' := by
  have := name_any 0 w h (by simp)
  rw [th_none] at this
  exact this
theorem none_prev (w : World) (h : Gq O w g []) : Calls Try.prog 9 #[.pointer g, .int .i64 0] w fun e w' => ∃ q c, e = .returned (.slice q 0 c) ∧ Below w.heap.size w w' := by
  have := prev_any 0 w h good_nil (by simp)
  rw [th_none] at this
  refine this.mono ?_
  rintro e w' ⟨v, rfl, ho, hb⟩
  obtain ⟨q, c, rfl⟩ := own_slice ho
  exact ⟨q, c, rfl, hb⟩
theorem none_auth (w : World) (h : Gq O w g []) : Calls Try.prog 10 #[.pointer g, .int .i64 0] w fun e w' => ∃ q c, e = .returned (.slice q 0 c) ∧ Below w.heap.size w w' := by
  have := auth_any 0 w h good_nil (by simp)
  rw [th_none] at this
  refine this.mono ?_
  rintro e w' ⟨v, rfl, ho, hb⟩
  obtain ⟨q, c, rfl⟩ := own_slice ho
  exact ⟨q, c, rfl, hb⟩
theorem none_past (w : World) (h : Gq O w g []) : Calls Try.prog 11 #[.pointer g, .slice (some ⟨w.heap.size, 0, none⟩) 1 1] (w.alloc (.cells #[.int .i64 0] 3)) fun e w' => ∃ q c, e = .returned (.slice q 0 c) ∧ Below w.heap.size w w' := by
  have hb : Below w.heap.size w (w.alloc (.cells #[.int .i64 0] 3)) := (Below.refl _ _).alloc (Nat.le_refl _) _
  have r : RdI (· < (w.alloc (.cells #[.int .i64 0] 3)).heap.size) (w.alloc (.cells #[.int .i64 0] 3)) (some ⟨w.heap.size, 0, none⟩) 1 [0] := (row_new w [0] 3 (Below.refl _ _)).carry (fun _ _ => rfl) fun k hk => by simp; omega
  refine (Past_any [0] _ 1 _ (h.below hb) good_nil r (by simp) (by simp) (by simp)).mono ?_
  rintro e w' ⟨v, rfl, ho, hb'⟩
  obtain ⟨q, c, rfl⟩ := own_slice ho
  exact ⟨q, c, rfl, hb.trans (hb'.mono (by simp))⟩
theorem none_chain (w : World) (h : Gq O w g []) : Calls Try.prog 12 #[.pointer g, .slice (some ⟨w.heap.size, 0, none⟩) 1 1] (w.alloc (.cells #[.int .i64 0] 3)) fun e w' => ∃ q c, e = .returned (.slice q 0 c) ∧ Below w.heap.size w w' := by
  have hb : Below w.heap.size w (w.alloc (.cells #[.int .i64 0] 3)) := (Below.refl _ _).alloc (Nat.le_refl _) _
  have r : RdI (· < (w.alloc (.cells #[.int .i64 0] 3)).heap.size) (w.alloc (.cells #[.int .i64 0] 3)) (some ⟨w.heap.size, 0, none⟩) 1 [0] := (row_new w [0] 3 (Below.refl _ _)).carry (fun _ _ => rfl) fun k hk => by simp; omega
  refine (Chain_any [0] _ 1 _ (h.below hb) good_nil r (by simp) (by simp) (by simp)).mono ?_
  rintro e w' ⟨v, rfl, ho, hb'⟩
  obtain ⟨q, c, rfl⟩ := own_slice ho
  exact ⟨q, c, rfl, hb.trans (hb'.mono (by simp))⟩
theorem none_heads (w : World) (h : Gq O w g []) : Calls Try.prog 13 #[.pointer g, .slice (some ⟨w.heap.size, 0, none⟩) 1 1] (w.alloc (.cells #[.bool true] 4)) fun e w' => ∃ q c, e = .returned (.slice q 0 c) ∧ Below w.heap.size w w' := by
  have hb : Below w.heap.size w (w.alloc (.cells #[.bool true] 4)) := (Below.refl _ _).alloc (Nat.le_refl _) _
  have r : RdB (· < (w.alloc (.cells #[.bool true] 4)).heap.size) (w.alloc (.cells #[.bool true] 4)) (some ⟨w.heap.size, 0, none⟩) 1 [true] := (row_new w [true] 4 (Below.refl _ _)).carry (fun _ _ => rfl) fun k hk => by simp; omega
  refine (heads_any [true] _ 1 _ (h.below hb) good_nil r (by simp) (by simp)).mono ?_
  rintro e w' ⟨v, rfl, ho, hb'⟩
  obtain ⟨q, c, rfl⟩ := own_slice ho
  exact ⟨q, c, rfl, hb.trans (hb'.mono (by simp))⟩
theorem none_missing (w : World) (h : Gq O w g []) : Calls Try.prog 14 #[.pointer g, .slice (some ⟨w.heap.size, 0, none⟩) 2 2] (w.alloc (.cells #[.string ⟨#[97]⟩, .string ⟨#[97]⟩] 9)) fun e w' => ∃ q c, e = .returned (.slice q 1 c) ∧ Below w.heap.size w w' := by
  have hb : Below w.heap.size w (w.alloc (.cells #[.string ⟨#[97]⟩, .string ⟨#[97]⟩] 9)) := (Below.refl _ _).alloc (Nat.le_refl _) _
  have r : RdS (· < (w.alloc (.cells #[.string ⟨#[97]⟩, .string ⟨#[97]⟩] 9)).heap.size) (w.alloc (.cells #[.string ⟨#[97]⟩, .string ⟨#[97]⟩] 9)) (some ⟨w.heap.size, 0, none⟩) 2 [⟨#[97]⟩, ⟨#[97]⟩] := (row_new (enc := Value.string) w [⟨#[97]⟩, ⟨#[97]⟩] 9 (Below.refl _ _)).carry (fun _ _ => rfl) fun k hk => by simp; omega
  refine (missing_any [⟨#[97]⟩, ⟨#[97]⟩] _ 2 _ (h.below hb) r (by simp) (fun s hs => by
    simp only [List.mem_cons, List.not_mem_nil, or_false, or_self] at hs
    rw [hs]
    decide)).mono ?_
  rintro e w' ⟨v, rfl, ho, hb'⟩
  obtain ⟨q, c, rfl⟩ := own_slice ho
  exact ⟨q, c, by kernel_rfl, hb.trans (hb'.mono (by simp))⟩
end
set_option maxHeartbeats 2000000 in
theorem none_add0 (v1 v2 v3 : Value) (w : World) : Calls Try.prog 6 #[.pointer none, v1, v2, v3] w fun e w' => e = .returned (.int .i64 1) ∧ w = w' := by
  go_enter Try.func6, Try.ntmps6
  go_wp2
  go_ret
  exact ⟨rfl, rfl⟩
set_option maxHeartbeats 2000000 in
theorem none_add1 (gb : Nat) (v1 v2 v3 : Value) (w : World) (h : w.heap[gb]? = some (.cells #[.map none, .slice none 0 0] 31)) : Calls Try.prog 6 #[.pointer (some ⟨gb, 0, none⟩), v1, v2, v3] w fun e w' => e = .returned (.int .i64 1) ∧ w = w' := by
  have hc := cell_row (cur := [_, _]) h 0 _ rfl
  have q := eqMapN
  go_enter Try.func6, Try.ntmps6
  go_wp2
  go_ret
  exact ⟨rfl, rfl⟩

set_option maxRecDepth 100000 in
set_option maxHeartbeats 8000000 in
theorem dagNone_any (d : Dd) (p1 p2 : Option Addr) (c1 c2 : Nat) (w : World) (r1 : RdS (· < w.heap.size) w p1 c1 d.prev) (r2 : RdS (· < w.heap.size) w p2 c2 d.auth) (hw : wideD d) :
    Calls Try.prog 3 #[.agg #[.string d.name, .slice p1 d.prev.length c1, .slice p2 d.auth.length c2]] w fun e w' => e = .returned (.bool true) ∧ Below w.heap.size w w' := by
  obtain ⟨o0, ho0⟩ : ∃ o : Obj, o = .cells #[.string d.name, .slice p1 d.prev.length c1, .slice p2 d.auth.length c2] 24 := ⟨_, rfl⟩
  have hfew : Calls Try.prog 4 #[.slice (some ⟨w.heap.size + 1, 0, none⟩) 1 1] ((w.alloc o0).alloc o0) fun e w' => e = .returned (.bool (fewB [d])) ∧ (w.alloc o0).alloc o0 = w' := by
    have b1 : Below w.heap.size w (w.alloc o0) := (Below.refl _ _).alloc (Nat.le_refl _) _
    have b2 : Below w.heap.size w ((w.alloc o0).alloc o0) := b1.alloc (by simp) _
    have hn := heap_alloc_new (w.alloc o0) o0
    rw [show (w.alloc o0).heap.size = w.heap.size + 1 by simp] at hn
    have hn' : ((w.alloc o0).alloc o0).heap[w.heap.size + 1]? = some (.cells #[.string d.name, .slice p1 d.prev.length c1, .slice p2 d.auth.length c2] 24) := hn.trans (by rw [ho0])
    refine few_any (O := (· < w.heap.size + 2)) [d] _ 1 _ ⟨Nat.le_refl _, fun k hk => ?_⟩ (by simp) (by simpa using hw)
    have h0 : k = 0 := by simpa using hk
    subst h0
    exact ⟨_, 0, p1, c1, p2, c2, rfl, by omega, cell_row (cur := [_, _, _]) hn' 0 _ rfl, cell_row (cur := [_, _, _]) hn' 1 _ rfl, cell_row (cur := [_, _, _]) hn' 2 _ rfl, (r1.below b2).carry (fun _ _ => rfl) fun k hk => by omega, (r2.below b2).carry (fun _ _ => rfl) fun k hk => by omega⟩
  have HFE : Hid (fewB [d] = true → fitD d) := fun h => (few_iff.1 h).2 d (by simp)
  have hw0 := hw.1
  rw [ho0] at hfew
  clear ho0 hw r1 r2
  cases hf : fewB [d] with
  | false =>
    rw [hf] at hfew
    go_enter Try.func3, Try.ntmps3
    go_wp2_with (first
      | (go_at_call 4; refine hfew.mono ?_; rintro e w' ⟨rfl, rfl⟩))
    go_ret
    exact ⟨rfl, ((Below.refl _ _).alloc (Nat.le_refl _) _).alloc (by simp) _⟩
  | true =>
    rw [hf] at hfew
    have hfd := HFE.out hf
    have hns := hfd.1
    clear hf HFE hfd
    go_enter Try.func3, Try.ntmps3
    go_wp2_with (first
      | (go_at_call 4; refine hfew.mono ?_; rintro e w' ⟨rfl, rfl⟩))
    obtain ⟨W0, hW0⟩ : ∃ W0, W0 = (((w.alloc (.cells #[.string d.name, .slice p1 d.prev.length c1, .slice p2 d.auth.length c2] 24)).alloc (.cells #[.string d.name, .slice p1 d.prev.length c1, .slice p2 d.auth.length c2] 24)).alloc (.cells #[.map none, .slice none 0 0] 31)).alloc (.cells #[.pointer none, .pointer (some ⟨w.heap.size + 1 + 1, 0, none⟩)] 27) := ⟨_, rfl⟩
    have HS : Hid (W0.heap.size = w.heap.size + 1 + 1 + 1 + 1) := by show _ = _; rw [hW0]; simp
    have HB : Hid (Below w.heap.size w W0) := by
      rw [hW0]
      exact ((((Below.refl _ _).alloc (Nat.le_refl _) _).alloc (by simp) _).alloc (by simp; omega) _).alloc (by simp; omega) _
    have HX : Hid (W0.heap[w.heap.size]? = some (.cells #[.string d.name, .slice p1 d.prev.length c1, .slice p2 d.auth.length c2] 24)) := by
      show W0.heap[w.heap.size]? = _
      rw [hW0]
      exact (((((Below.refl _ _).alloc (Nat.le_refl _) _).alloc (by simp) _).alloc (by simp <;> omega) _).block _ (by simp)).trans (heap_alloc_new _ _)
    have HGR : Hid (W0.heap[w.heap.size + 1 + 1]? = some (.cells #[.map none, .slice none 0 0] 31)) := by
      show W0.heap[w.heap.size + 1 + 1]? = _
      rw [hW0]
      have := heap_alloc_new ((w.alloc (.cells #[.string d.name, .slice p1 d.prev.length c1, .slice p2 d.auth.length c2] 24)).alloc (.cells #[.string d.name, .slice p1 d.prev.length c1, .slice p2 d.auth.length c2] 24)) (.cells #[.map none, .slice none 0 0] 31)
      rw [show ((w.alloc (.cells #[.string d.name, .slice p1 d.prev.length c1, .slice p2 d.auth.length c2] 24)).alloc (.cells #[.string d.name, .slice p1 d.prev.length c1, .slice p2 d.auth.length c2] 24)).heap.size = w.heap.size + 1 + 1 by simp] at this
      exact (((Below.refl _ _).alloc (Nat.le_refl _) _).block _ (by simp)).trans this
    have HPS : Hid (W0.heap[w.heap.size + 1 + 1 + 1]? = some (.cells #[.pointer none, .pointer (some ⟨w.heap.size + 1 + 1, 0, none⟩)] 27)) := by
      show W0.heap[w.heap.size + 1 + 1 + 1]? = _
      rw [hW0]
      have := heap_alloc_new (((w.alloc (.cells #[.string d.name, .slice p1 d.prev.length c1, .slice p2 d.auth.length c2] 24)).alloc (.cells #[.string d.name, .slice p1 d.prev.length c1, .slice p2 d.auth.length c2] 24)).alloc (.cells #[.map none, .slice none 0 0] 31)) (.cells #[.pointer none, .pointer (some ⟨w.heap.size + 1 + 1, 0, none⟩)] 27)
      rw [show (((w.alloc (.cells #[.string d.name, .slice p1 d.prev.length c1, .slice p2 d.auth.length c2] 24)).alloc (.cells #[.string d.name, .slice p1 d.prev.length c1, .slice p2 d.auth.length c2] 24)).alloc (.cells #[.map none, .slice none 0 0] 31)).heap.size = w.heap.size + 1 + 1 + 1 by simp] at this
      exact this
    rw [← hW0]
    clear hW0 hfew
    go_loopw [4] (fun i wr => ∃ k : Nat, k ≤ 2 ∧ i = .int .i64 k ∧ Below W0.heap.size W0 wr) (fun i _ => 2 - (intOf i).toNat)
    case atStart => exact ⟨0, by omega, rfl, Below.refl _ _⟩
    case round =>
      obtain ⟨k, hk, rfl, hbw⟩ := hrel
      have hz := hbw.size
      have hS := HS.out
      have x0 := cell_row (cur := [_, _, _]) ((hbw.block w.heap.size (by omega)).trans HX.out) 0 _ rfl
      have x1 := cell_row (cur := [_, _, _]) ((hbw.block w.heap.size (by omega)).trans HX.out) 1 _ rfl
      have x2 := cell_row (cur := [_, _, _]) ((hbw.block w.heap.size (by omega)).trans HX.out) 2 _ rfl
      have hgr := (hbw.block (w.heap.size + 1 + 1) (by omega)).trans HGR.out
      have y0 := cell_row (cur := [_, _]) ((hbw.block (w.heap.size + 1 + 1 + 1) (by omega)).trans HPS.out) 0 _ rfl
      have y1 := cell_row (cur := [_, _]) ((hbw.block (w.heap.size + 1 + 1 + 1) (by omega)).trans HPS.out) 1 _ rfl
      have gA : Gq (fun _ => False) wr none [] := .inl ⟨rfl, rfl⟩
      have gB : Gq (fun k => k = w.heap.size + 1 + 1) wr (some ⟨w.heap.size + 1 + 1, 0, none⟩) [] := .inr (.inl ⟨_, rfl, hgr, rfl, rfl, fun k hk => by omega⟩)
      have HGR' : Hid (wr.heap[w.heap.size + 1 + 1]? = some (.cells #[.map none, .slice none 0 0] 31)) := hgr
      clear hgr
      by_cases hlt : k < 2
      · rcases (by omega : k = 0 ∨ k = 1) with rfl | rfl
        · clear hS
          go_wp2_with (first
            | (go_at_call 5; refine (none_place d.name wr gA (by omega)).mono ?_; rintro e w' ⟨rfl, rfl⟩)
            | (go_at_call 6; refine (none_add0 _ _ _ wr).mono ?_; rintro e w' ⟨rfl, rfl⟩)
            | (go_at_call 7; refine (none_len wr gA).mono ?_; rintro e w' ⟨rfl, rfl⟩)
            | (go_at_call 8; refine (none_name wr gA).mono ?_; rintro e w2 ⟨rfl, hb2⟩; have g2 := gA.below hb2; have z2 := hb2.size)
            | (go_at_call 9; refine (none_prev w2 g2).mono ?_; rintro e w3 ⟨q3, c3, rfl, hb3⟩; have g3 := g2.below hb3; have z3 := hb3.size)
            | (go_at_call 10; refine (none_auth w3 g3).mono ?_; rintro e w4 ⟨q4, c4, rfl, hb4⟩; have g4 := g3.below hb4; have z4 := hb4.size)
            | (go_at_call 11; refine (none_past w4 g4).mono ?_; rintro e w5 ⟨q5, c5, rfl, hb5⟩; have g5 := g4.below hb5; have z5 := hb5.size)
            | (go_at_call 12; refine (none_chain w5 g5).mono ?_; rintro e w6 ⟨q6, c6, rfl, hb6⟩; have g6 := g5.below hb6; have z6 := hb6.size)
            | (go_at_call 13; refine (none_heads w6 g6).mono ?_; rintro e w7 ⟨q7, c7, rfl, hb7⟩; have g7 := g6.below hb7; have z7 := hb7.size)
            | (go_at_call 14; refine (none_missing w7 g7).mono ?_; rintro e w8 ⟨q8, c8, rfl, hb8⟩; have z8 := hb8.size))
          go_roundw
          case rel => exact ⟨1, by omega, by go_num, hbw.trans ((hb2.trans ((hb3.trans ((hb4.trans ((hb5.trans ((hb6.trans ((hb7.trans (hb8.mono z7)).mono z6)).mono z5)).mono z4)).mono z3)).mono z2)).mono hz)⟩
          case measure => simp [intOf]; try omega
        · clear hS
          go_wp2_with (first
            | (go_at_call 5; refine (none_place d.name wr gB (by omega)).mono ?_; rintro e w' ⟨rfl, rfl⟩)
            | (go_at_call 6; refine (none_add1 (w.heap.size + 1 + 1) _ _ _ wr HGR'.out).mono ?_; rintro e w' ⟨rfl, rfl⟩)
            | (go_at_call 7; refine (none_len wr gB).mono ?_; rintro e w' ⟨rfl, rfl⟩)
            | (go_at_call 8; refine (none_name wr gB).mono ?_; rintro e w2 ⟨rfl, hb2⟩; have g2 := gB.below hb2; have z2 := hb2.size)
            | (go_at_call 9; refine (none_prev w2 g2).mono ?_; rintro e w3 ⟨q3, c3, rfl, hb3⟩; have g3 := g2.below hb3; have z3 := hb3.size)
            | (go_at_call 10; refine (none_auth w3 g3).mono ?_; rintro e w4 ⟨q4, c4, rfl, hb4⟩; have g4 := g3.below hb4; have z4 := hb4.size)
            | (go_at_call 11; refine (none_past w4 g4).mono ?_; rintro e w5 ⟨q5, c5, rfl, hb5⟩; have g5 := g4.below hb5; have z5 := hb5.size)
            | (go_at_call 12; refine (none_chain w5 g5).mono ?_; rintro e w6 ⟨q6, c6, rfl, hb6⟩; have g6 := g5.below hb6; have z6 := hb6.size)
            | (go_at_call 13; refine (none_heads w6 g6).mono ?_; rintro e w7 ⟨q7, c7, rfl, hb7⟩; have g7 := g6.below hb7; have z7 := hb7.size)
            | (go_at_call 14; refine (none_missing w7 g7).mono ?_; rintro e w8 ⟨q8, c8, rfl, hb8⟩; have z8 := hb8.size))
          go_roundw
          case rel => exact ⟨2, by omega, by go_num, hbw.trans ((hb2.trans ((hb3.trans ((hb4.trans ((hb5.trans ((hb6.trans ((hb7.trans (hb8.mono z7)).mono z6)).mono z5)).mono z4)).mono z3)).mono z2)).mono hz)⟩
          case measure => simp [intOf]; try omega
      · obtain rfl : k = 2 := by omega
        clear hS
        have haw := awake_any wr
        go_wp2_with (first
          | (go_at_call 15; refine haw.mono ?_; rintro e w8 ⟨rfl, hb8⟩))
        go_ret
        exact ⟨rfl, HB.out.trans ((hbw.trans (hb8.mono hz)).mono HB.out.size)⟩
end Go.Proofs.Ytbjeaogblpjpeab

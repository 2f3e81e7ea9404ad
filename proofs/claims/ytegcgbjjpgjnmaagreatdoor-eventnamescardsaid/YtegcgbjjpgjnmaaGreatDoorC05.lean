/-
  A number read, as a value of JSON: by a contract.
  A map of keys and values, in order: by a contract.
-/
import Derived.Test.YtegcgbjjpgjnmaaGreatDoorC04
set_option maxRecDepth 100000
set_option maxHeartbeats 16000000
namespace Go.Proofs.YtegcgbjjpgjnmaaGreatDoor
open Go.RowKit
def flat (k i : Int) (t : ByteArray) : Array Value := #[.int .i64 k, .int .i64 i, .string t, .slice none 0 0, .slice none 0 0]
theorem flat_isJ (O : Nat → Prop) (w : World) (k i : Int) (t : ByteArray) : isJ O w (.mk k i t [] []) (flat k i t).toList := by
 unfold isJ flat
 exact ⟨none, 0, none, 0, rfl, RdK.nil _ _, Nat.le_refl _, by unfold isJs; trivial⟩
def New (w w' : World) : Nat → Prop := fun k => w.heap.size ≤ k ∧ k < w'.heap.size
def valTold (w w' : World) (R : Nat) (s : ByteArray) (r : Res J) (x : Ending) : Prop := match r with
 | .ok j q => (∃ k i t pk nk ck pl nl cl, x = .returned (.tuple #[.agg #[.int .i64 k, .int .i64 i, .string t, .slice pk nk ck, .slice pl nl cl], .bool true]) ∧ isJ (New w w') w' j [.int .i64 k, .int .i64 i, .string t, .slice pk nk ck, .slice pl nl cl]) ∧ OkAt w w' R s q
 | .bad e l => (∃ k i t, x = .returned (.tuple #[.agg (flat k i t), .bool false])) ∧ BadAt w w' R s e l
theorem json_keep {w w' : World} {R : Nat} {cs : Array Value} (hk : Keep (One R) (w.alloc (.cells cs 25)) w') (hR : R < w.heap.size) : w'.heap[w.heap.size]? = some (.cells cs 25 (0, 0)) := by
 rw [hk.block w.heap.size (by simp) (fun h => by unfold One at h; omega)]
 exact heap_alloc_new _ _
section
variable {w : World} {b : Nat} {a0 a1 a2 a3 a4 : Value} {t : TypeId}
theorem five_c0 (h : w.heap[b]? = some (.cells #[a0, a1, a2, a3, a4] t (0, 0))) : w.cell? ⟨b, 0, none⟩ = some a0 := cell_row (cur := [_, _, _, _, _]) h 0 _ rfl
theorem five_c1 (h : w.heap[b]? = some (.cells #[a0, a1, a2, a3, a4] t (0, 0))) : w.cell? ⟨b, 1, none⟩ = some a1 := cell_row (cur := [_, _, _, _, _]) h 1 _ rfl
theorem five_c2 (h : w.heap[b]? = some (.cells #[a0, a1, a2, a3, a4] t (0, 0))) : w.cell? ⟨b, 2, none⟩ = some a2 := cell_row (cur := [_, _, _, _, _]) h 2 _ rfl
theorem five_c3 (h : w.heap[b]? = some (.cells #[a0, a1, a2, a3, a4] t (0, 0))) : w.cell? ⟨b, 3, none⟩ = some a3 := cell_row (cur := [_, _, _, _, _]) h 3 _ rfl
theorem five_c4 (h : w.heap[b]? = some (.cells #[a0, a1, a2, a3, a4] t (0, 0))) : w.cell? ⟨b, 4, none⟩ = some a4 := cell_row (cur := [_, _, _, _, _]) h 4 _ rfl
theorem five_fz (h : w.heap[b]? = some (.cells #[a0, a1, a2, a3, a4] t (0, 0))) (j : Nat) : w.frozen? ⟨b, j, none⟩ = false := frozen_of_row w b j _ _ h
def set5 (w : World) (b : Nat) (v0 v1 v2 v3 v4 : Value) : World := ((((w.setCell ⟨b, 0, none⟩ v0).setCell ⟨b, 1, none⟩ v1).setCell ⟨b, 2, none⟩ v2).setCell ⟨b, 3, none⟩ v3).setCell ⟨b, 4, none⟩ v4
theorem set5_heap (h : w.heap[b]? = some (.cells #[a0, a1, a2, a3, a4] t (0, 0))) (v0 v1 v2 v3 v4 : Value) : (set5 w b v0 v1 v2 v3 v4).heap[b]? = some (.cells #[v0, v1, v2, v3, v4] t (0, 0)) := by
 have h0 : (w.setCell ⟨b, 0, none⟩ v0).heap[b]? = some (.cells #[v0, a1, a2, a3, a4] t (0, 0)) := by rw [heap_setCell_same w b 0 _ _ _ h]; rfl
 have h1 : ((w.setCell ⟨b, 0, none⟩ v0).setCell ⟨b, 1, none⟩ v1).heap[b]? = some (.cells #[v0, v1, a2, a3, a4] t (0, 0)) := by rw [heap_setCell_same _ b 1 _ _ _ h0]; rfl
 have h2 : (((w.setCell ⟨b, 0, none⟩ v0).setCell ⟨b, 1, none⟩ v1).setCell ⟨b, 2, none⟩ v2).heap[b]? = some (.cells #[v0, v1, v2, a3, a4] t (0, 0)) := by rw [heap_setCell_same _ b 2 _ _ _ h1]; rfl
 have h3 : ((((w.setCell ⟨b, 0, none⟩ v0).setCell ⟨b, 1, none⟩ v1).setCell ⟨b, 2, none⟩ v2).setCell ⟨b, 3, none⟩ v3).heap[b]? = some (.cells #[v0, v1, v2, v3, a4] t (0, 0)) := by rw [heap_setCell_same _ b 3 _ _ _ h2]; rfl
 unfold set5
 rw [heap_setCell_same _ b 4 _ _ _ h3]; rfl
theorem set5_keep (w : World) (b : Nat) (v0 v1 v2 v3 v4 : Value) : Keep (One b) w (set5 w b v0 v1 v2 v3 v4) :=
 Keep.setCell (Keep.setCell (Keep.setCell (Keep.setCell (Keep.setCell (Keep.refl _ _) (fun _ => (rfl : b = b)) _) (fun _ => (rfl : b = b)) _) (fun _ => (rfl : b = b)) _) (fun _ => (rfl : b = b)) _) (fun _ => (rfl : b = b)) _
end
theorem digits_bd (t : List Int) (p : Nat) : 0 ≤ (digits t p).1 ∧ (digits t p).1 ≤ 90071992547409919 := by
 unfold digits
 split
 · simp
 · exact digs_bd _ fun c hc => List.all_eq_true.1 List.all_takeWhile c hc
theorem number_any {w : World} {R p : Nat} {s : ByteArray} {e l : Int} (hr : Rdr w R s p e l) (hs : short s) (hp : p ≤ s.size) :
    Calls Tryz.prog 144 #[.pointer (some ⟨R, 0, none⟩)] w fun x w' => valTold w w' R s (number (ints s) p) x := by
 have hsz := hs
 unfold short at hsz
 have hR := hr.lt
 have hra : Rdr (w.alloc (.cells (flat 0 0 nix) 25)) R s p e l := hr.keep (S := fun _ => False) ((Keep.refl _ _).alloc _) (fun h => h)
 have hka : Keep (One R) w (w.alloc (.cells (flat 0 0 nix) 25)) := (Keep.refl _ _).alloc _
 have c1 := hra.c1
 unfold flat nix at hra hka c1
 by_cases h45 : byteAt (ints s) p = 45
 · have hlt : p < s.size := by have := byteAt_lt (t := ints s) (p := p) (by rw [h45]; decide); rw [ints_length] at this; exact this
   have hq : p + 1 ≤ s.size := hlt
   have HQ : Hid ((if byteAt (ints s) p = 45 then p + 1 else p) = p + 1) := if_pos h45
   cases hd : isDig (byteAt (ints s) (p + 1)) with
   | false =>
    have HN : Hid (number (ints s) p = .bad 11 (p + 1)) := by unfold number; rw [HQ.out, if_neg (by simp [hd])]; rfl
    go_enter Tryz.func144, Tryz.ntmps144
    go_wp2_with (first
     | (go_at_call 167; refine (take_yes hra (by omega) 45 h45).mono ?_; rintro x w1 ⟨rfl, ⟨⟨e1, l1, hr1⟩, hk1⟩⟩; have d1 := hr1.c1)
     | (go_at_call 138; refine (peek_any hr1).mono ?_; rintro x w' ⟨rfl, rfl⟩)
     | (go_at_call 163; refine (isDigit_any _ _).mono ?_; rw [hd]; rintro x w' ⟨rfl, rfl⟩)
     | (go_at_call 116; refine (fail_any hr1 11 (((p + 1) : Nat) : Int)).mono ?_; rintro x w3 ⟨rfl, hr3, hk3⟩; have hka3 := hk1.then hk3; have hj3 := json_keep hka3 hR; have j0 := five_c0 hj3; have j1 := five_c1 hj3; have j2 := five_c2 hj3; have j3 := five_c3 hj3; have j4 := five_c4 hj3; have z0 := five_fz hj3 0; have z1 := five_fz hj3 1; have z2 := five_fz hj3 2; have z3 := five_fz hj3 3; have z4 := five_fz hj3 4))
    have h5 := set5_heap hj3 (.int .i64 0) (.int .i64 0) (.string ⟨#[]⟩) (.slice none 0 0) (.slice none 0 0)
    have HK5 : Keep (One w.heap.size) w3 _ := set5_keep w3 w.heap.size (.int .i64 0) (.int .i64 0) (.string ⟨#[]⟩) (.slice none 0 0) (.slice none 0 0)
    unfold set5 at h5 HK5
    have k0 := five_c0 h5; have k1 := five_c1 h5; have k2 := five_c2 h5; have k3 := five_c3 h5; have k4 := five_c4 h5
    refine bodyPost_ret (v := .tuple #[.agg #[.int .i64 0, .int .i64 0, .string ⟨#[]⟩, .slice none 0 0, .slice none 0 0], .bool false]) (by simp [results, Tryz.results144, go_sem, k0, k1, k2, k3, k4]) rfl ?_
    rw [HN.out]
    refine ⟨⟨0, 0, nix, rfl⟩, ⟨_, hr3.keep HK5 (fun h => by unfold One at h; omega)⟩, (hka.then hka3).trans HK5 (fun i hi h => by unfold One at h; omega)⟩
   | true =>
    have hdg := digits_any (w := w) (R := R) (p := (p + 1)) (s := s) (e := e) (l := l)
    have hadv := digits_adv hd
    obtain ⟨n, q2, hdd⟩ : ∃ n q2, digits (ints s) (p + 1) = (n, q2) := ⟨_, _, rfl⟩
    have hnb : 0 ≤ n ∧ n ≤ 90071992547409919 := by
     have : n = (digits (ints s) (p + 1)).1 := by rw [hdd]
     rw [this]; exact digits_bd _ _
    rw [hdd] at hadv
    clear hdg
    obtain ⟨c, hc⟩ : ∃ c, byteAt (ints s) q2 = c := ⟨_, rfl⟩
    have hn0 : number (ints s) p = if maxInt < n ∨ c = 46 ∨ c = 101 ∨ c = 69 then .bad 15 p else .ok (.mk 2 (if byteAt (ints s) p = 45 then -n else n) nix [] []) q2 := by unfold number; rw [HQ.out, if_pos hd, hdd]; simp only [hc]
    have HN : Hid (number (ints s) p = if maxInt < n ∨ c = 46 ∨ c = 101 ∨ c = 69 then .bad 15 p else .ok (.mk 2 (if byteAt (ints s) p = 45 then -n else n) nix [] []) q2) := hn0
    clear hn0
    by_cases hbad : maxInt < n ∨ c = 46 ∨ c = 101 ∨ c = 69
    · have HB : Hid (number (ints s) p = .bad 15 p) := by rw [HN.out, if_pos hbad]; rfl
      unfold maxInt at hbad
      clear HN
      rcases hbad with hbad | rfl | rfl | rfl
      all_goals
       go_enter Tryz.func144, Tryz.ntmps144
       go_wp2_with (first
        | (go_at_call 167; refine (take_yes hra (by omega) 45 h45).mono ?_; rintro x w1 ⟨rfl, ⟨⟨e1, l1, hr1⟩, hk1⟩⟩; have d1 := hr1.c1)
        | (go_at_call 138; have _h := hr2; refine (peek_any hr2).mono ?_; rw [hc]; rintro x w' ⟨rfl, rfl⟩)
        | (go_at_call 138; refine (peek_any hr1).mono ?_; rintro x w' ⟨rfl, rfl⟩)
        | (go_at_call 163; refine (isDigit_any _ _).mono ?_; rw [hd]; rintro x w' ⟨rfl, rfl⟩)
        | (go_at_call 169; refine (digits_any hr1 hs hq).mono ?_; rw [hdd]; rintro x w2 ⟨rfl, ⟨⟨e2, l2, hr2⟩, hk2⟩⟩; have hka2 := hk1.then hk2; have hj2 := json_keep hka2 hR; have j0 := five_c0 hj2; have j1 := five_c1 hj2; have j2 := five_c2 hj2; have j3 := five_c3 hj2; have j4 := five_c4 hj2; have z0 := five_fz hj2 0; have z1 := five_fz hj2 1; have z2 := five_fz hj2 2; have z3 := five_fz hj2 3; have z4 := five_fz hj2 4)
        | (go_at_call 116; refine (fail_any hr2 15 (p : Int)).mono ?_; rintro x w3 ⟨rfl, hr3, hk3⟩; have hka3 := hka2.then hk3; have hj3 := json_keep hka3 hR; have j0 := five_c0 hj3; have j1 := five_c1 hj3; have j2 := five_c2 hj3; have j3 := five_c3 hj3; have j4 := five_c4 hj3; have z0 := five_fz hj3 0; have z1 := five_fz hj3 1; have z2 := five_fz hj3 2; have z3 := five_fz hj3 3; have z4 := five_fz hj3 4))
       all_goals
        have h5 := set5_heap hj3 (.int .i64 0) (.int .i64 0) (.string ⟨#[]⟩) (.slice none 0 0) (.slice none 0 0)
        have HK5 : Keep (One w.heap.size) w3 _ := set5_keep w3 w.heap.size (.int .i64 0) (.int .i64 0) (.string ⟨#[]⟩) (.slice none 0 0) (.slice none 0 0)
        unfold set5 at h5 HK5
        have k0 := five_c0 h5; have k1 := five_c1 h5; have k2 := five_c2 h5; have k3 := five_c3 h5; have k4 := five_c4 h5
        refine bodyPost_ret (v := .tuple #[.agg #[.int .i64 0, .int .i64 0, .string ⟨#[]⟩, .slice none 0 0, .slice none 0 0], .bool false]) (by simp [results, Tryz.results144, go_sem, k0, k1, k2, k3, k4]) rfl ?_
        rw [HB.out]
        exact ⟨⟨0, 0, nix, rfl⟩, ⟨_, hr3.keep HK5 (fun h => by unfold One at h; omega)⟩, (hka.then hka3).trans HK5 (fun i hi h => by unfold One at h; omega)⟩
    · have HB : Hid (number (ints s) p = .ok (.mk 2 (-n) nix [] []) q2) := by rw [HN.out, if_neg hbad, if_pos h45]; rfl
      have b1 : ¬ 9007199254740991 < n := fun h => hbad (.inl h)
      have b2 : ¬ c = 46 := fun h => hbad (.inr (.inl h))
      have b3 : ¬ c = 101 := fun h => hbad (.inr (.inr (.inl h)))
      have b4 : ¬ c = 69 := fun h => hbad (.inr (.inr (.inr h)))
      have b5 : (c == 46) = false := by simp [b2]
      have b6 : (c == 101) = false := by simp [b3]
      have b7 : (c == 69) = false := by simp [b4]
      clear hbad HN
      go_enter Tryz.func144, Tryz.ntmps144
      go_wp2_with (first
       | (go_at_call 167; refine (take_yes hra (by omega) 45 h45).mono ?_; rintro x w1 ⟨rfl, ⟨⟨e1, l1, hr1⟩, hk1⟩⟩; have d1 := hr1.c1)
       | (go_at_call 138; have _h := hr2; refine (peek_any hr2).mono ?_; rw [hc]; rintro x w' ⟨rfl, rfl⟩)
       | (go_at_call 138; refine (peek_any hr1).mono ?_; rintro x w' ⟨rfl, rfl⟩)
       | (go_at_call 163; refine (isDigit_any _ _).mono ?_; rw [hd]; rintro x w' ⟨rfl, rfl⟩)
       | (go_at_call 169; refine (digits_any hr1 hs hq).mono ?_; rw [hdd]; rintro x w2 ⟨rfl, ⟨⟨e2, l2, hr2⟩, hk2⟩⟩; have hka2 := hk1.then hk2; have hj2 := json_keep hka2 hR; have j0 := five_c0 hj2; have j1 := five_c1 hj2; have j2 := five_c2 hj2; have j3 := five_c3 hj2; have j4 := five_c4 hj2; have z0 := five_fz hj2 0; have z1 := five_fz hj2 1; have z2 := five_fz hj2 2; have z3 := five_fz hj2 3; have z4 := five_fz hj2 4))
      have h5 := set5_heap hj2 (.int .i64 2) (.int .i64 (-n)) (.string ⟨#[]⟩) (.slice none 0 0) (.slice none 0 0)
      have HK5 : Keep (One w.heap.size) w2 _ := set5_keep w2 w.heap.size (.int .i64 2) (.int .i64 (-n)) (.string ⟨#[]⟩) (.slice none 0 0) (.slice none 0 0)
      unfold set5 at h5 HK5
      have k0 := five_c0 h5; have k1 := five_c1 h5; have k2 := five_c2 h5; have k3 := five_c3 h5; have k4 := five_c4 h5
      refine bodyPost_ret (v := .tuple #[.agg #[.int .i64 2, .int .i64 (-n), .string ⟨#[]⟩, .slice none 0 0, .slice none 0 0], .bool true]) (by simp [results, Tryz.results144, go_sem, k0, k1, k2, k3, k4]) rfl ?_
      rw [HB.out]
      exact ⟨⟨_, _, _, _, _, _, _, _, _, rfl, flat_isJ _ _ 2 (-n) nix⟩, ⟨_, _, hr2.keep HK5 (fun h => by unfold One at h; omega)⟩, (hka.then hka2).trans HK5 (fun i hi h => by unfold One at h; omega)⟩
 have hq : p ≤ s.size := hp
 have HQ : Hid ((if byteAt (ints s) p = 45 then p + 1 else p) = p) := if_neg h45
 cases hd : isDig (byteAt (ints s) p) with
 | false =>
  have HN : Hid (number (ints s) p = .bad 11 p) := by unfold number; rw [HQ.out, if_neg (by simp [hd])]; rfl
  go_enter Tryz.func144, Tryz.ntmps144
  go_wp2_with (first
   | (go_at_call 167; refine (take_no hra 45 h45).mono ?_; rintro x w' ⟨rfl, rfl⟩; have hr1 := hra; have hk1 := Keep.refl (One R) (w.alloc (.cells #[.int .i64 0, .int .i64 0, .string ⟨#[]⟩, .slice none 0 0, .slice none 0 0] 25)))
   | (go_at_call 138; refine (peek_any hr1).mono ?_; rintro x w' ⟨rfl, rfl⟩)
   | (go_at_call 163; refine (isDigit_any _ _).mono ?_; rw [hd]; rintro x w' ⟨rfl, rfl⟩)
   | (go_at_call 116; refine (fail_any hr1 11 ((p : Nat) : Int)).mono ?_; rintro x w3 ⟨rfl, hr3, hk3⟩; have hka3 := hk1.then hk3; have hj3 := json_keep hka3 hR; have j0 := five_c0 hj3; have j1 := five_c1 hj3; have j2 := five_c2 hj3; have j3 := five_c3 hj3; have j4 := five_c4 hj3; have z0 := five_fz hj3 0; have z1 := five_fz hj3 1; have z2 := five_fz hj3 2; have z3 := five_fz hj3 3; have z4 := five_fz hj3 4))
  have h5 := set5_heap hj3 (.int .i64 0) (.int .i64 0) (.string ⟨#[]⟩) (.slice none 0 0) (.slice none 0 0)
  have HK5 : Keep (One w.heap.size) w3 _ := set5_keep w3 w.heap.size (.int .i64 0) (.int .i64 0) (.string ⟨#[]⟩) (.slice none 0 0) (.slice none 0 0)
  unfold set5 at h5 HK5
  have k0 := five_c0 h5; have k1 := five_c1 h5; have k2 := five_c2 h5; have k3 := five_c3 h5; have k4 := five_c4 h5
  refine bodyPost_ret (v := .tuple #[.agg #[.int .i64 0, .int .i64 0, .string ⟨#[]⟩, .slice none 0 0, .slice none 0 0], .bool false]) (by simp [results, Tryz.results144, go_sem, k0, k1, k2, k3, k4]) rfl ?_
  rw [HN.out]
  refine ⟨⟨0, 0, nix, rfl⟩, ⟨_, hr3.keep HK5 (fun h => by unfold One at h; omega)⟩, (hka.then hka3).trans HK5 (fun i hi h => by unfold One at h; omega)⟩
 | true =>
  have hdg := digits_any (w := w) (R := R) (p := p) (s := s) (e := e) (l := l)
  have hadv := digits_adv hd
  obtain ⟨n, q2, hdd⟩ : ∃ n q2, digits (ints s) p = (n, q2) := ⟨_, _, rfl⟩
  have hnb : 0 ≤ n ∧ n ≤ 90071992547409919 := by
   have : n = (digits (ints s) p).1 := by rw [hdd]
   rw [this]; exact digits_bd _ _
  rw [hdd] at hadv
  clear hdg
  obtain ⟨c, hc⟩ : ∃ c, byteAt (ints s) q2 = c := ⟨_, rfl⟩
  have hn0 : number (ints s) p = if maxInt < n ∨ c = 46 ∨ c = 101 ∨ c = 69 then .bad 15 p else .ok (.mk 2 (if byteAt (ints s) p = 45 then -n else n) nix [] []) q2 := by unfold number; rw [HQ.out, if_pos hd, hdd]; simp only [hc]
  have HN : Hid (number (ints s) p = if maxInt < n ∨ c = 46 ∨ c = 101 ∨ c = 69 then .bad 15 p else .ok (.mk 2 (if byteAt (ints s) p = 45 then -n else n) nix [] []) q2) := hn0
  clear hn0
  by_cases hbad : maxInt < n ∨ c = 46 ∨ c = 101 ∨ c = 69
  · have HB : Hid (number (ints s) p = .bad 15 p) := by rw [HN.out, if_pos hbad]; rfl
    unfold maxInt at hbad
    clear HN
    rcases hbad with hbad | rfl | rfl | rfl
    all_goals
     go_enter Tryz.func144, Tryz.ntmps144
     go_wp2_with (first
      | (go_at_call 167; refine (take_no hra 45 h45).mono ?_; rintro x w' ⟨rfl, rfl⟩; have hr1 := hra; have hk1 := Keep.refl (One R) (w.alloc (.cells #[.int .i64 0, .int .i64 0, .string ⟨#[]⟩, .slice none 0 0, .slice none 0 0] 25)))
      | (go_at_call 138; have _h := hr2; refine (peek_any hr2).mono ?_; rw [hc]; rintro x w' ⟨rfl, rfl⟩)
      | (go_at_call 138; refine (peek_any hr1).mono ?_; rintro x w' ⟨rfl, rfl⟩)
      | (go_at_call 163; refine (isDigit_any _ _).mono ?_; rw [hd]; rintro x w' ⟨rfl, rfl⟩)
      | (go_at_call 169; refine (digits_any hr1 hs hq).mono ?_; rw [hdd]; rintro x w2 ⟨rfl, ⟨⟨e2, l2, hr2⟩, hk2⟩⟩; have hka2 := hk1.then hk2; have hj2 := json_keep hka2 hR; have j0 := five_c0 hj2; have j1 := five_c1 hj2; have j2 := five_c2 hj2; have j3 := five_c3 hj2; have j4 := five_c4 hj2; have z0 := five_fz hj2 0; have z1 := five_fz hj2 1; have z2 := five_fz hj2 2; have z3 := five_fz hj2 3; have z4 := five_fz hj2 4)
      | (go_at_call 116; refine (fail_any hr2 15 (p : Int)).mono ?_; rintro x w3 ⟨rfl, hr3, hk3⟩; have hka3 := hka2.then hk3; have hj3 := json_keep hka3 hR; have j0 := five_c0 hj3; have j1 := five_c1 hj3; have j2 := five_c2 hj3; have j3 := five_c3 hj3; have j4 := five_c4 hj3; have z0 := five_fz hj3 0; have z1 := five_fz hj3 1; have z2 := five_fz hj3 2; have z3 := five_fz hj3 3; have z4 := five_fz hj3 4))
     all_goals
      have h5 := set5_heap hj3 (.int .i64 0) (.int .i64 0) (.string ⟨#[]⟩) (.slice none 0 0) (.slice none 0 0)
      have HK5 : Keep (One w.heap.size) w3 _ := set5_keep w3 w.heap.size (.int .i64 0) (.int .i64 0) (.string ⟨#[]⟩) (.slice none 0 0) (.slice none 0 0)
      unfold set5 at h5 HK5
      have k0 := five_c0 h5; have k1 := five_c1 h5; have k2 := five_c2 h5; have k3 := five_c3 h5; have k4 := five_c4 h5
      refine bodyPost_ret (v := .tuple #[.agg #[.int .i64 0, .int .i64 0, .string ⟨#[]⟩, .slice none 0 0, .slice none 0 0], .bool false]) (by simp [results, Tryz.results144, go_sem, k0, k1, k2, k3, k4]) rfl ?_
      rw [HB.out]
      exact ⟨⟨0, 0, nix, rfl⟩, ⟨_, hr3.keep HK5 (fun h => by unfold One at h; omega)⟩, (hka.then hka3).trans HK5 (fun i hi h => by unfold One at h; omega)⟩
  · have HB : Hid (number (ints s) p = .ok (.mk 2 (n) nix [] []) q2) := by rw [HN.out, if_neg hbad, if_neg h45]; rfl
    have b1 : ¬ 9007199254740991 < n := fun h => hbad (.inl h)
    have b2 : ¬ c = 46 := fun h => hbad (.inr (.inl h))
    have b3 : ¬ c = 101 := fun h => hbad (.inr (.inr (.inl h)))
    have b4 : ¬ c = 69 := fun h => hbad (.inr (.inr (.inr h)))
    have b5 : (c == 46) = false := by simp [b2]
    have b6 : (c == 101) = false := by simp [b3]
    have b7 : (c == 69) = false := by simp [b4]
    clear hbad HN
    go_enter Tryz.func144, Tryz.ntmps144
    go_wp2_with (first
     | (go_at_call 167; refine (take_no hra 45 h45).mono ?_; rintro x w' ⟨rfl, rfl⟩; have hr1 := hra; have hk1 := Keep.refl (One R) (w.alloc (.cells #[.int .i64 0, .int .i64 0, .string ⟨#[]⟩, .slice none 0 0, .slice none 0 0] 25)))
     | (go_at_call 138; have _h := hr2; refine (peek_any hr2).mono ?_; rw [hc]; rintro x w' ⟨rfl, rfl⟩)
     | (go_at_call 138; refine (peek_any hr1).mono ?_; rintro x w' ⟨rfl, rfl⟩)
     | (go_at_call 163; refine (isDigit_any _ _).mono ?_; rw [hd]; rintro x w' ⟨rfl, rfl⟩)
     | (go_at_call 169; refine (digits_any hr1 hs hq).mono ?_; rw [hdd]; rintro x w2 ⟨rfl, ⟨⟨e2, l2, hr2⟩, hk2⟩⟩; have hka2 := hk1.then hk2; have hj2 := json_keep hka2 hR; have j0 := five_c0 hj2; have j1 := five_c1 hj2; have j2 := five_c2 hj2; have j3 := five_c3 hj2; have j4 := five_c4 hj2; have z0 := five_fz hj2 0; have z1 := five_fz hj2 1; have z2 := five_fz hj2 2; have z3 := five_fz hj2 3; have z4 := five_fz hj2 4))
    have h5 := set5_heap hj2 (.int .i64 2) (.int .i64 n) (.string ⟨#[]⟩) (.slice none 0 0) (.slice none 0 0)
    have HK5 : Keep (One w.heap.size) w2 _ := set5_keep w2 w.heap.size (.int .i64 2) (.int .i64 n) (.string ⟨#[]⟩) (.slice none 0 0) (.slice none 0 0)
    unfold set5 at h5 HK5
    have k0 := five_c0 h5; have k1 := five_c1 h5; have k2 := five_c2 h5; have k3 := five_c3 h5; have k4 := five_c4 h5
    refine bodyPost_ret (v := .tuple #[.agg #[.int .i64 2, .int .i64 n, .string ⟨#[]⟩, .slice none 0 0, .slice none 0 0], .bool true]) (by simp [results, Tryz.results144, go_sem, k0, k1, k2, k3, k4]) rfl ?_
    rw [HB.out]
    exact ⟨⟨_, _, _, _, _, _, _, _, _, rfl, flat_isJ _ _ 2 (n) nix⟩, ⟨_, _, hr2.keep HK5 (fun h => by unfold One at h; omega)⟩, (hka.then hka2).trans HK5 (fun i hi h => by unfold One at h; omega)⟩
theorem RdK.below {O : Nat → Prop} {w w' : World} {p : Option Addr} {c : Nat} {ks : List ByteArray} (h : RdK O w p c ks) (hO : ∀ k, O k → k < w.heap.size) (hb : Below w.heap.size w w') : RdK O w' p c ks :=
 h.carry fun k hk => ⟨hk, hb.block k (hO k hk)⟩
theorem isJ_one {O : Nat → Prop} {w : World} {j : J} {cs : List Value} (h : isJ O w j cs) : ∀ u ∈ cs, u.oneCell' = true := by
 cases j
 unfold isJ at h
 obtain ⟨_, _, _, _, rfl, _⟩ := h
 intro u hu
 simp at hu
 rcases hu with rfl | rfl | rfl | rfl | rfl <;> rfl
theorem own_rdK {w : World} {B : Nat} {v : Value} {S : List ByteArray} (h : w.ownsRow B 9 1 v S.length (S.map Value.string)) : ∃ q cq, v = .slice q S.length cq ∧ RdK (fun k => B ≤ k ∧ k < w.heap.size) w q cq S := by
 rcases h.2 with ⟨rfl, hn⟩ | ⟨g, cap, cur, rfl, hg, hgg, h1, h2, h3, h4⟩
 · obtain rfl : S = [] := List.eq_nil_of_length_eq_zero hn
   exact ⟨none, 0, rfl, RdK.nil _ _⟩
 · refine ⟨_, cap, rfl, ⟨h1, fun j hj => ⟨_, rfl, ⟨hg, (Array.getElem?_eq_some_iff.1 hgg).1⟩, ?_⟩⟩⟩
   have := h.cells (g := g) rfl j (.string (S.getD j nix)) (by rw [List.getElem?_map, List.getD_eq_getElem?_getD, List.getElem?_eq_getElem hj]; rfl)
   exact this
theorem own_js {O : Nat → Prop} {w : World} {B : Nat} {v : Value} {l : List J} {xs : List Value} (h : w.ownsRow B 25 5 v l.length xs) (hr : isRow O w l xs) : ∃ q cq, v = .slice q l.length cq ∧ l.length ≤ cq ∧ isJs (fun k => O k ∨ (B ≤ k ∧ k < w.heap.size)) w q 0 l := by
 rcases h.2 with ⟨rfl, hn⟩ | ⟨g, cap, cur, rfl, hg, hgg, h1, h2, h3, h4⟩
 · obtain rfl : l = [] := List.eq_nil_of_length_eq_zero hn
   exact ⟨none, 0, rfl, Nat.le_refl _, by unfold isJs; trivial⟩
 · refine ⟨_, cap, rfl, h1, ?_⟩
   refine isRow.isJs (O := fun k => O k ∨ (B ≤ k ∧ k < w.heap.size)) (.inr ⟨hg, (Array.getElem?_eq_some_iff.1 hgg).1⟩) l xs 0 (hr.carry fun k hk => ⟨.inl hk, rfl⟩) fun i u hi => ?_
   have hc : cur[i]? = some u := by
    rw [← h4] at hi
    rw [List.getElem?_take] at hi
    split at hi
    · simpa using hi
    · cases hi
   rw [Nat.zero_mul, Nat.add_zero, Nat.zero_add]
   simp only [World.cell?, hgg]
   exact hc
structure MI (O : Nat → Prop) (wB : World) (b : Nat) (Sk : List ByteArray) (Sv : List J) (vk vl : Value) (wr : World) : Prop where
 obj : wr.heap[b + 1]? = some (.cells #[.int .i64 5, .int .i64 0, .string ⟨#[]⟩, vk, vl] 25 (0, 0))
 res : wr.heap[b]? = some (.cells #[.int .i64 0, .int .i64 0, .string ⟨#[]⟩, .slice none 0 0, .slice none 0 0] 25 (0, 0))
 keys : wr.ownsRow wB.heap.size 9 1 vk Sk.length (Sk.map Value.string)
 vals : ∃ xs, wr.ownsRow wB.heap.size 25 5 vl Sv.length xs ∧ isRow O wr Sv xs
 ne : ∀ i, vk.ownBlock = some i → vl.ownBlock ≠ some i
 keep : Keep (One (b + 1)) wB wr
 lt : b + 1 < wB.heap.size
 low : ∀ k, O k → k < b
section
variable {O : Nat → Prop} {wB W W2 : World} {b : Nat} {Sk : List ByteArray} {Sv : List J} {vk vl vk' vl' : Value}
theorem MI.drew (h : MI O wB b Sk Sv vk vl W) : MI O wB b Sk Sv vk vl W.drew := ⟨h.obj, h.res, h.keys, by
 obtain ⟨xs, h1, h2⟩ := h.vals
 exact ⟨xs, h1, isRow.carry (w := W) (w' := W.drew) (fun k hk => ⟨hk, rfl⟩) Sv xs h2⟩, h.ne, h.keep.drew, h.lt, h.low⟩
theorem MI.c3 (h : MI O wB b Sk Sv vk vl W) : W.cell? ⟨b + 1, 3, none⟩ = some vk := five_c3 h.obj
theorem MI.c4 (h : MI O wB b Sk Sv vk vl W) : W.cell? ⟨b + 1, 4, none⟩ = some vl := five_c4 h.obj
theorem MI.size (h : MI O wB b Sk Sv vk vl W) : wB.heap.size ≤ W.heap.size := h.keep.size
theorem grown_at {o : Obj} {row : Option Nat} {k : Nat} (hg : (W.alloc o).grownBy W2 row) (hk : k < W.heap.size) (hr : row ≠ some k) : W2.heap[k]? = W.heap[k]? := by
 rw [hg.block k (by simp; omega) (fun e => hr e.symm), Below.heap_alloc W o k hk]
theorem MI.key (h : MI O wB b Sk Sv vk vl W) {x : ByteArray} {o : Obj} (hown : W2.ownsRow wB.heap.size 9 1 vk' (Sk.length + 1) (Sk.map Value.string ++ [.string x])) (hg : (W.alloc o).grownBy W2 vk.ownBlock) (hat : vk'.ownBlock = vk.ownBlock ∨ vk'.ownBlock = some (W.alloc o).heap.size) :
    W2.cell? ⟨b + 1, 3, none⟩ = some vk ∧ W2.frozen? ⟨b + 1, 3, none⟩ = false ∧ MI O wB b (Sk ++ [x]) Sv vk' vl (W2.setCell ⟨b + 1, 3, none⟩ vk') := by
 have hsz := h.size
 have hlt := h.lt
 have hgk := own_ge h.keys
 obtain ⟨xs, hv1, hv2⟩ := h.vals
 have hgv := own_ge hv1
 have ob : W2.heap[b + 1]? = some (.cells #[.int .i64 5, .int .i64 0, .string ⟨#[]⟩, vk, vl] 25 (0, 0)) := by
  rw [grown_at hg (by omega) (fun e => by have := hgk _ e; omega)]; exact h.obj
 have rs : W2.heap[b]? = some (.cells #[.int .i64 0, .int .i64 0, .string ⟨#[]⟩, .slice none 0 0, .slice none 0 0] 25 (0, 0)) := by
  rw [grown_at hg (by omega) (fun e => by have := hgk _ e; omega)]; exact h.res
 have K3 : Keep (One (b + 1)) W2 (W2.setCell ⟨b + 1, 3, none⟩ vk') := Keep.setCell (Keep.refl _ _) (fun _ => (rfl : b + 1 = b + 1)) _
 have hgk' := own_ge hown
 refine ⟨five_c3 ob, five_fz ob 3, ⟨?_, ?_, ?_, ⟨xs, ?_, ?_⟩, ?_, ?_, hlt, h.low⟩⟩
 · rw [heap_setCell_same _ (b + 1) 3 _ _ _ ob]; rfl
 · rw [K3.block b (by have := (Array.getElem?_eq_some_iff.1 rs).1; omega) (by unfold One; omega)]; exact rs
 · rw [List.length_append, List.map_append]
   exact own_keep hown K3 fun k e => by have := hgk' k e; unfold One; omega
 · refine own_keep (own_keep (hv1.alloc o) (S := fun k => vk.ownBlock = some k) (Keep.of_grown hg fun _ _ e => e) fun k e e' => h.ne k e' e) K3 fun k e => by have := hgv k e; unfold One; omega
 · refine hv2.carry fun k hk => ⟨hk, ?_⟩
   have := h.low k hk
   rw [K3.block k (by have := hg.size; simp at this; omega) (by unfold One; omega), grown_at hg (by omega) (fun e => by have := hgk _ e; omega)]
 · intro i e e'
   rcases hat with h1 | h1
   · exact h.ne i (h1 ▸ e) e'
   · rw [h1] at e
     have h2 := (hgv i e').2
     have h3 : (W.alloc o).heap.size = i := Option.some.inj e
     simp at h3
     omega
 · have k1 : Keep (One (b + 1)) wB (W.alloc o) := h.keep.alloc o
   exact (k1.grown hg fun k e => (hgk k e).1).then K3
theorem MI.val (h : MI O wB b Sk Sv vk vl W) {y : J} {cs xs : List Value} {o : Obj} (hv1 : W.ownsRow wB.heap.size 25 5 vl Sv.length xs) (hv2 : isRow O W Sv xs) (hy : isJ O W y cs) (hown : W2.ownsRow wB.heap.size 25 5 vl' (Sv.length + 1) (xs ++ cs)) (hg : (W.alloc o).grownBy W2 vl.ownBlock) (hat : vl'.ownBlock = vl.ownBlock ∨ vl'.ownBlock = some (W.alloc o).heap.size) :
    W2.cell? ⟨b + 1, 4, none⟩ = some vl ∧ W2.frozen? ⟨b + 1, 4, none⟩ = false ∧ MI O wB b Sk (Sv ++ [y]) vk vl' (W2.setCell ⟨b + 1, 4, none⟩ vl') := by
 have hsz := h.size
 have hlt := h.lt
 have hgk := own_ge h.keys
 have hgv := own_ge hv1
 have ob : W2.heap[b + 1]? = some (.cells #[.int .i64 5, .int .i64 0, .string ⟨#[]⟩, vk, vl] 25 (0, 0)) := by
  rw [grown_at hg (by omega) (fun e => by have := hgv _ e; omega)]; exact h.obj
 have rs : W2.heap[b]? = some (.cells #[.int .i64 0, .int .i64 0, .string ⟨#[]⟩, .slice none 0 0, .slice none 0 0] 25 (0, 0)) := by
  rw [grown_at hg (by omega) (fun e => by have := hgv _ e; omega)]; exact h.res
 have K3 : Keep (One (b + 1)) W2 (W2.setCell ⟨b + 1, 4, none⟩ vl') := Keep.setCell (Keep.refl _ _) (fun _ => (rfl : b + 1 = b + 1)) _
 have hgv' := own_ge hown
 have carry : ∀ k, O k → O k ∧ (W2.setCell ⟨b + 1, 4, none⟩ vl').heap[k]? = W.heap[k]? := fun k hk => by
  have := h.low k hk
  exact ⟨hk, by rw [K3.block k (by have := hg.size; simp at this; omega) (by unfold One; omega), grown_at hg (by omega) (fun e => by have := hgv _ e; omega)]⟩
 refine ⟨five_c4 ob, five_fz ob 4, ⟨?_, ?_, ?_, ⟨xs ++ cs, ?_, ?_⟩, ?_, ?_, hlt, h.low⟩⟩
 · rw [heap_setCell_same _ (b + 1) 4 _ _ _ ob]; rfl
 · rw [K3.block b (by have := (Array.getElem?_eq_some_iff.1 rs).1; omega) (by unfold One; omega)]; exact rs
 · exact own_keep (own_keep (h.keys.alloc o) (S := fun k => vl.ownBlock = some k) (Keep.of_grown hg fun _ _ e => e) fun k e e' => h.ne k e e') K3 fun k e => by have := hgk k e; unfold One; omega
 · rw [List.length_append]
   exact own_keep hown K3 fun k e => by have := hgv' k e; unfold One; omega
 · exact isRow.snoc hy.five (hy.carry carry) Sv xs (hv2.carry carry)
 · intro i e e'
   rcases hat with h1 | h1
   · exact h.ne i e (h1 ▸ e')
   · rw [h1] at e'
     have h2 := (hgk i e).2
     have h3 : (W.alloc o).heap.size = i := Option.some.inj e'
     simp at h3
     omega
 · have k1 : Keep (One (b + 1)) wB (W.alloc o) := h.keep.alloc o
   exact (k1.grown hg fun k e => (hgv k e).1).then K3
end
theorem map_end {O : Nat → Prop} {w wB wr W5 : World} {q1 q2 : Option Addr} {c1 c2 : Nat} {ks : List ByteArray} {l : List J} (hO : ∀ k, O k → k < w.heap.size) (hbw : Below w.heap.size w wB) (hkeep : Keep (One (w.heap.size + 1)) wB wr) (HK5 : Keep (One w.heap.size) wr W5)
    (hrk : RdK (fun k => wB.heap.size ≤ k ∧ k < wr.heap.size) wr q1 c1 ks) (hrj : isJs (fun k => O k ∨ (wB.heap.size ≤ k ∧ k < wr.heap.size)) wr q2 0 l) (hc : l.length ≤ c2) (hsz : w.heap.size + 2 ≤ wB.heap.size) :
    isJ (fun k => O k ∨ New w W5 k) W5 (.mk 5 0 nix ks l) [.int .i64 5, .int .i64 0, .string nix, .slice q1 ks.length c1, .slice q2 l.length c2] ∧ Below w.heap.size w W5 := by
 have s1 := hkeep.size
 have s2 := HK5.size
 have carry : ∀ i, (O i ∨ (wB.heap.size ≤ i ∧ i < wr.heap.size)) → (O i ∨ New w W5 i) ∧ W5.heap[i]? = wr.heap[i]? := by
  intro i hi
  rcases hi with hi | hi
  · have := hO i hi
    exact ⟨.inl hi, HK5.block i (by omega) (by unfold One; omega)⟩
  · exact ⟨.inr ⟨by omega, by omega⟩, HK5.block i (by omega) (by unfold One; omega)⟩
 refine ⟨?_, ?_⟩
 · unfold isJ
   exact ⟨q1, c1, q2, c2, rfl, hrk.carry fun i hi => carry i (.inr hi), hc, hrj.carry carry⟩
 · exact (hbw.trans (hkeep.below (by omega) fun k hk => by unfold One; omega)).trans (HK5.below (by omega) fun k hk => by unfold One; omega)
end Go.Proofs.YtegcgbjjpgjnmaaGreatDoor

/-
  May, by a contract.
  The document's users and types: by contracts.
  What is asked of a hearing: by contracts.
  What a rule says: by contracts of what is thrown.
  Which event makes a room; the levels of an event: by contracts.
-/
import Derived.Test.YtldegjjaknelgaaGreatDoorAY13
set_option maxRecDepth 100000
set_option maxHeartbeats 16000000
namespace Go.Proofs.YtldegjjaknelgaaGreatDoor
open Go.RowKit Go.Maps Go.Shelf
section
attribute [local go_sem] Oper.semAt_some
theorem szN_nums (l : Lv) : SzN (nums l) := by
 refine ⟨by simp [nums], fun p hp => ?_⟩
 simp only [nums, List.mem_cons, List.not_mem_nil, or_false] at hp
 rcases hp with rfl | rfl | rfl | rfl | rfl | rfl | rfl <;> simp [ByteArray.size]
theorem allocP2 {w : World} (o1 o2 : Obj) : ((w.alloc o1).alloc o2).heap[w.heap.size]? = some o1 ∧ ((w.alloc o1).alloc o2).heap[w.heap.size + 1]? = some o2 := by
 refine ⟨(Below.heap_alloc _ _ _ (by simp)).trans (newP _), ?_⟩
 have := newP (w := w.alloc o1) o2
 rw [World.size_alloc] at this
 exact this
theorem wp_narrow {P : Program} {c : Code} {K : Act → World → Prop} {Q : Exit → Act → World → Prop} {a : Act} {w : World} (h : c.wp P (Exit.then K (fun _ _ _ => False)) a w) : c.wp P (Exit.then K Q) a w :=
 wp_mono h fun e _ _ h => by cases e <;> first | exact h | exact h.elim
theorem leaves_marks {fn : Func} {tmps : Array Value} {rt : Tmp} {R : Nat} {v : Bool} {w : World} (hf : fn.results = #[.cell rt 4]) (ht : tmps.getD rt undef = .pointer (some ⟨R, 0, none⟩)) :
    ∀ (Ds : List Nat) (W : World), Ds.Nodup → (∀ D ∈ Ds, W.heap[D]? = some (.deferred (some []))) → (∀ D ∈ Ds, w.heap.size ≤ D) → W.cell? ⟨R, 0, none⟩ = some (.bool v) → Below w.heap.size w W →
     LeavesInM Fence.wide 4 Tryz.prog fn tmps (fun e w' => e = .returned (.bool v) ∧ Below w.heap.size w w') (Ds.map fun D => { target := .collected D, args := #[] }) .returning W
 | [], W, _, _, _, hc, hB => by
  refine ⟨.bool v, resultsP_cell hf tmps Tryz.prog W ht ?_, rfl, hB⟩
  simp [loadVar, go_sem, hc]
 | D :: r, W, hn, hK, hD, hc, hB => by
  have hKD := hK D (by simp)
  rw [List.nodup_cons] at hn
  refine ⟨by simp, .inl ⟨D, W.putObj D (.deferred none), rfl, run_takeDeferred hKD, ?_⟩⟩
  refine leaves_marks hf ht r _ hn.2 (fun D' h' => (World.putObj_heap_other (fun e => hn.1 (by first | (rw [e]; exact h') | (rw [← e]; exact h')))).trans (hK D' (by simp [h']))) (fun D' h' => hD D' (by simp [h'])) ?_ ?_
  · exact cell_kept hc (grownBy_putObj' _ D (.deferred none)) (fun r e => by cases e; exact ⟨_, hKD, rfl⟩)
  · exact hB.trans (belowK_b (w := w) (Nat.le_refl _) W D _ _ (hD D (by simp)) hKD rfl rfl)
theorem may_lv {O : Nat → Prop} {w : World} {a b : Lv} {pa pb : Pl} (ha : IsL O w a pa) (hb : IsL O w b pb) (hO : ∀ k, O k → k < w.heap.size) (hza : SzL a) (hzb : SzL b) (u : ByteArray) :
    Calls Tryz.prog 94 #[valL a pa, valL b pb, .string u] w fun e w' => e = .returned (.bool (mayL a b u)) ∧ Below w.heap.size w w' := by
 refine callsIn_wide.1 (callsIn_of_wp_marks (n := 4) Tryz.func94 rfl trivial (wpIn_wide.2 ?_) rfl)
 obtain ⟨W0, hW0⟩ : ∃ W0, W0 = (((w.alloc (.cells (cellsL a pa).toArray 47)).alloc (.cells (cellsL b pb).toArray 47)).alloc (.cells #[.string u] 9)).alloc (.cells #[.bool false] 4) := ⟨_, rfl⟩
 have hb0 : Below w.heap.size w W0 := by rw [hW0]; exact ((((Below.refl _ _).alloc (Nat.le_refl _) _).alloc (by simp) _).alloc (by simp; omega) _).alloc (by simp; omega) _
 have hs0 : W0.heap.size = w.heap.size + 4 := by rw [hW0]; simp
 have k23 := allocP2 (w := (w.alloc (.cells (cellsL a pa).toArray 47)).alloc (.cells (cellsL b pb).toArray 47)) (.cells #[.string u] 9) (.cells #[.bool false] 4)
 have k01 := allocP2 (w := w) (.cells (cellsL a pa).toArray 47) (.cells (cellsL b pb).toArray 47)
 rw [← hW0] at k23
 simp only [World.size_alloc] at k23
 have k0 : W0.heap[w.heap.size]? = some (.cells (cellsL a pa).toArray 47 (0, 0)) := by
  rw [hW0, Below.heap_alloc _ _ _ (by simp only [World.size_alloc]; omega), Below.heap_alloc _ _ _ (by simp only [World.size_alloc]; omega)]; exact k01.1
 have k1 : W0.heap[w.heap.size + 1]? = some (.cells (cellsL b pb).toArray 47 (0, 0)) := by
  rw [hW0, Below.heap_alloc _ _ _ (by simp only [World.size_alloc]; omega), Below.heap_alloc _ _ _ (by simp only [World.size_alloc]; omega)]; exact k01.2
 obtain ⟨k2, k3⟩ := k23
 have hU := user_lv (ha.below hO hb0) (fun k hk => Nat.lt_of_lt_of_le (hO k hk) hb0.size) hza u
 have HMay : Hid (mayL a b u = (quiet (Chg.above (usr a u)) (nums a) (nums b) && (quiet (Chg.above (usr a u)) a.byType b.byType && quiet (Chg.bad u (usr a u)) a.byUser b.byUser))) := rfl
 generalize mayL a b u = MAY at HMay ⊢
 generalize usr a u = s at hU HMay
 have HN1 : Hid (∀ X : World, Calls Tryz.prog 125 #[valL a pa] X fun e w' => (∃ b, e = .returned (.slice (some ⟨b, 0, none⟩) 7 7) ∧ X.heap.size ≤ b ∧ b < w'.heap.size ∧ RdN (fun k => k = b) w' (some ⟨b, 0, none⟩) 7 (nums a)) ∧ Below X.heap.size X w') := fun X => numbers_lv
 have HN2 : Hid (∀ X : World, Calls Tryz.prog 125 #[valL b pb] X fun e w' => (∃ b', e = .returned (.slice (some ⟨b', 0, none⟩) 7 7) ∧ X.heap.size ≤ b' ∧ b' < w'.heap.size ∧ RdN (fun k => k = b') w' (some ⟨b', 0, none⟩) 7 (nums b)) ∧ Below X.heap.size X w') := fun X => numbers_lv
 have HSN : Hid (SzN (nums a) ∧ SzN (nums b) ∧ (nums a).length = 7 ∧ (nums b).length = 7) := ⟨szN_nums a, szN_nums b, rfl, rfl⟩
 have HIS : Hid (IsL O w a pa ∧ IsL O w b pb ∧ SzL a ∧ SzL b) := ⟨ha, hb, hza, hzb⟩
 have HK : Hid (W0.heap[w.heap.size]? = some (.cells (cellsL a pa).toArray 47 (0, 0)) ∧ W0.heap[w.heap.size + 1]? = some (.cells (cellsL b pb).toArray 47 (0, 0)) ∧ W0.heap[w.heap.size + 2]? = some (.cells #[.string u] 9 (0, 0)) ∧ W0.heap[w.heap.size + 3]? = some (.cells #[.bool false] 4 (0, 0))) := ⟨k0, k1, k2, k3⟩
 generalize nums a = NA at HMay HN1 HSN
 generalize nums b = NB at HMay HN2 HSN
 obtain ⟨ban, kick, invite, redact, state, events, users, us, ty⟩ := a
 obtain ⟨pu, cu, pt, ct⟩ := pa
 obtain ⟨ban', kick', invite', redact', state', events', users', us', ty'⟩ := b
 obtain ⟨pu', cu', pt', ct'⟩ := pb
 clear ha hb hza hzb k0 k1 k2 k3 k01
 simp only [valL, cellsL] at hW0 hU HK HN1 HN2 ⊢
 simp only [Tryz.ntmps94, List.size_toArray, List.length_cons, List.length_nil, Nat.reduceAdd, Nat.reduceSub, Array.replicate_succ, Array.replicate_zero, List.push_toArray, List.append_toArray, List.nil_append, List.cons_append]
 go_upto_region 1 with fail
 rw [← hW0]
 obtain ⟨q0, q1, q2, q3⟩ := HK.out
 have c0 := cellP q0 0 _ rfl; have c1 := cellP q0 1 _ rfl; have c2 := cellP q0 2 _ rfl; have c3 := cellP q0 3 _ rfl; have c4 := cellP q0 4 _ rfl; have c5 := cellP q0 5 _ rfl; have c6 := cellP q0 6 _ rfl; have c7 := cellP q0 7 _ rfl; have c8 := cellP q0 8 _ rfl
 have d0 := cellP q2 0 _ rfl
 clear q0 q1 q2 q3 hW0
 go_upto_region 2 with (go_at_call 90; refine hU.mono ?_; rintro e w1 ⟨rfl, hb1⟩)
 clear c0 c1 c2 c3 c4 c5 c6 c7 c8 d0 hU
 obtain ⟨W2, hW2⟩ : ∃ W2, W2 = w1.alloc (.cells #[.int .i64 s] 2) := ⟨_, rfl⟩
 rw [← hW2]
 have hb2 : Below W0.heap.size W0 W2 := by rw [hW2]; exact belowP hb1 ((Below.refl _ _).alloc (Nat.le_refl _) _)
 have k7 : W2.heap[w1.heap.size]? = some (.cells #[.int .i64 s] 2 (0, 0)) := by rw [hW2]; exact newP _
 have hs2 := hb2.size
 have hs1 := hb1.size
 have hs7 := objP_lt k7
 have HC0 : Hid (∀ X, Below W2.heap.size W2 X → X.heap[w.heap.size]? = some (.cells #[.int .i64 ban, .int .i64 kick, .int .i64 invite, .int .i64 redact, .int .i64 state, .int .i64 events, .int .i64 users, .slice pu us.length cu, .slice pt ty.length ct] 47 (0, 0))) := fun X hX => ((hX.block _ (by omega)).trans (hb2.block _ (by omega))).trans HK.out.1
 have HC1 : Hid (∀ X, Below W2.heap.size W2 X → X.heap[w.heap.size + 1]? = some (.cells #[.int .i64 ban', .int .i64 kick', .int .i64 invite', .int .i64 redact', .int .i64 state', .int .i64 events', .int .i64 users', .slice pu' us'.length cu', .slice pt' ty'.length ct'] 47 (0, 0))) := fun X hX => ((hX.block _ (by omega)).trans (hb2.block _ (by omega))).trans HK.out.2.1
 have HC2 : Hid (∀ X, Below W2.heap.size W2 X → X.heap[w.heap.size + 1 + 1]? = some (.cells #[.string u] 9 (0, 0))) := fun X hX => ((hX.block _ (by omega)).trans (hb2.block _ (by omega))).trans HK.out.2.2.1
 have HC3 : Hid (∀ X, Below W2.heap.size W2 X → X.heap[w.heap.size + 1 + 1 + 1]? = some (.cells #[.bool false] 4 (0, 0))) := fun X hX => ((hX.block _ (by omega)).trans (hb2.block _ (by omega))).trans HK.out.2.2.2
 have HC7 : Hid (∀ X, Below W2.heap.size W2 X → X.heap[w1.heap.size]? = some (.cells #[.int .i64 s] 2 (0, 0))) := fun X hX => (hX.block _ hs7).trans k7
 have HBW : Hid (Below w.heap.size w W2) := belowP hb0 hb2
 clear hW2 k7 HK
 refine wp_narrow ?_
 refine wp_region_in (by kernel_rfl) (fun w' => Below W2.heap.size W2 w') ?_
 change wpIn _ _ _ _ _ _ _ _ (World.drew _)
 have hD : Below W2.heap.size W2 W2.drew := (Below.refl _ _).drew
 refine wpIn_tp (i := 0) (d := some 14) rfl (by (intro wq hq; have zz := HC0.out wq hq; have z0 := cellP zz 0 _ rfl; have z1 := cellP zz 1 _ rfl; have z2 := cellP zz 2 _ rfl; have z3 := cellP zz 3 _ rfl; have z4 := cellP zz 4 _ rfl; have z5 := cellP zz 5 _ rfl; have z6 := cellP zz 6 _ rfl; have z7 := cellP zz 7 _ rfl; have z8 := cellP zz 8 _ rfl; go_simp; first | done | with_reducible rfl)) ?_
 refine wpIn_tp (i := 2) (d := some 16) rfl (by (intro wq hq; have zz := HC1.out wq hq; have z0 := cellP zz 0 _ rfl; have z1 := cellP zz 1 _ rfl; have z2 := cellP zz 2 _ rfl; have z3 := cellP zz 3 _ rfl; have z4 := cellP zz 4 _ rfl; have z5 := cellP zz 5 _ rfl; have z6 := cellP zz 6 _ rfl; have z7 := cellP zz 7 _ rfl; have z8 := cellP zz 8 _ rfl; go_simp; first | done | with_reducible rfl)) ?_
 refine wpIn_do (i := 1) hD (by kernel_rfl) rfl (by rfl) ?_
 intro K hK
 go_simp
 go_wp2_with (go_at_call 125; refine (HN1.out _).mono ?_; rintro e w3 ⟨⟨b3, rfl, hg3, hl3, hr3⟩, hb3⟩)
 have hD3 : Below W2.heap.size W2 w3 := belowP hD hb3
 refine wpIn_do (i := 3) hD3 (by kernel_rfl) rfl (by rfl) ?_
 intro K hK
 go_simp
 go_wp2_with (go_at_call 125; refine (HN2.out _).mono ?_; rintro e w4 ⟨⟨b4, rfl, hg4, hl4, hr4⟩, hb4⟩)
 have hD4 : Below W2.heap.size W2 w4 := belowP hD3 hb4
 refine wpIn_do (i := 4) hD4 (by kernel_rfl) rfl (by rfl) ?_
 intro K hK
 go_simp
 go_wp2_with (go_at_call 124; refine (changes_fn _ _ _ _ _ _).mono ?_; rintro e w5 ⟨rfl, hw5⟩; have HW5 := (show Hid _ from hw5); clear hw5)
 have hw5 := HW5.out
 have hb5 : Below w4.heap.size w4 w5 := by rw [hw5]; exact ((Below.refl _ _).alloc (Nat.le_refl _) _).alloc (by simp) _
 have hD5 : Below W2.heap.size W2 w5 := belowP hD4 hb5
 refine wpIn_done hD5 (by kernel_rfl) ?_ _
 have k45 := allocP2 (w := w4) (.cells #[.slice (some ⟨b3, 0, none⟩) 7 7] 45) (.cells #[.slice (some ⟨b4, 0, none⟩) 7 7] 45)
 rw [← hw5] at k45
 have hs5 : w5.heap.size = w4.heap.size + 2 := by rw [hw5]; simp
 have HR1 : Hid (RdN (fun k => k < w5.heap.size) w5 (some ⟨b3, 0, none⟩) 7 NA) := hr3.carry fun k hk => ⟨by have := hb4.size; omega, (hb5.block k (by have := hb4.size; omega)).trans (hb4.block k (by omega))⟩
 have HR2 : Hid (RdN (fun k => k < w5.heap.size) w5 (some ⟨b4, 0, none⟩) 7 NB) := hr4.carry fun k hk => ⟨by omega, hb5.block k (by omega)⟩
 clear hr3 hr4 hb3 hb4 hb5 hw5
 have hc1 : w5.cell? ⟨w4.heap.size, 0, none⟩ = some (.slice (some ⟨b3, 0, none⟩) NA.length 7) := by rw [HSN.out.2.2.1]; exact cellP k45.1 0 _ rfl
 have hc2 : w5.cell? ⟨w4.heap.size + 1, 0, none⟩ = some (.slice (some ⟨b4, 0, none⟩) NB.length 7) := by rw [HSN.out.2.2.2]; exact cellP k45.2 0 _ rfl
 have HRB : Hid (w5.heap[w.heap.size + 1 + 1 + 1]? = some (.cells #[.bool false] 4 (0, 0))) := HC3.out w5 hD5
 have hB5 : Below w.heap.size w w5 := belowP HBW.out hD5
 clear k45
 go_wp2
 refine wp_chg (n := 4) (sb := 8) (by omega) (Chg.above s) rfl HR1.out HR2.out (fun _ h => h) HSN.out.1 HSN.out.2.1 hc1 hc2 (by omega) (by omega) HRB.out ?assign ?body ?done ?stop
 case assign =>
  intro l x W K hK
  obtain ⟨xn, xo, xx⟩ := x
  simp only [valC, cellsC] at hK ⊢
  gi_wp2
  exact hK
 case body =>
  intro l x W Bx hB hh hBx
  have hW : Below W2.heap.size W2 W := belowP hD5 hB
  have hab := above_lv (w := W) x s
  have HRW : Hid (∀ X, Below W.heap.size W X → X.heap[w.heap.size + 1 + 1 + 1]? = some (.cells #[.bool false] 4 (0, 0))) := fun X hX => HC3.out X (belowP hW hX)
  have y7 := cellP (HC7.out W hW) 0 _ rfl
  cases hv : Chg.above s x with
  | false =>
   have HV : Hid (Chg.above s x = false) := hv
   rw [hv] at hab
   obtain ⟨xn, xo, xx⟩ := x
   simp only [valC, cellsC] at hh hab HV ⊢
   have x0 := cellP hh 0 _ rfl; have x1 := cellP hh 1 _ rfl; have x2 := cellP hh 2 _ rfl; have x3 := cellP hh 3 _ rfl; have x4 := cellP hh 4 _ rfl
   clear hh hv
   gi_wp2_with (refine ⟨trivial, ?_⟩; gi_at_call 126; refine (CallsIn.inRound l (callsIn_wide.2 hab)).mono ?_; rintro e w6 ⟨rfl, hb6⟩)
   exact ⟨HV.out, hb6⟩
  | true =>
   have HV : Hid (Chg.above s x = true) := hv
   rw [hv] at hab
   obtain ⟨xn, xo, xx⟩ := x
   simp only [valC, cellsC] at hh hab HV ⊢
   have x0 := cellP hh 0 _ rfl; have x1 := cellP hh 1 _ rfl; have x2 := cellP hh 2 _ rfl; have x3 := cellP hh 3 _ rfl; have x4 := cellP hh 4 _ rfl
   clear hh hv
   gi_wp2_with (refine ⟨trivial, ?_⟩; gi_at_call 126; refine (CallsIn.inRound l (callsIn_wide.2 hab)).mono ?_; rintro e w6 ⟨rfl, hb6⟩; have r6 := HRW.out w6 hb6; have r0 := cellP r6 0 _ rfl; have rz := fzP r6 0)
   exact ⟨HV.out, w6, hb6, rfl⟩
 case stop =>
  intro D W hD hq hk hc hK
  go_wp2
  have HM : Hid (MAY = false) := by show _ = _; rw [HMay.out, hq]; rfl
  rw [HM.out]
  refine leaves_marks rfl rfl [D] W (by simp) (fun x hx => ?_) (fun x hx => ?_) hc (hB5.trans (hk.below hB5.size fun k hk' e => by unfold OneP at e; omega))
  · simp at hx; subst hx; exact hK
  · simp at hx; subst hx; have := hB5.size; omega
 case done =>
  intro D1 W hD1 hq1 hB1 hK1
  have hW : Below W2.heap.size W2 W := belowP hD5 hB1
  have HQ1 : Hid (quiet (Chg.above s) NA NB = true) := hq1
  have hBW1 : Below w.heap.size w W := belowP hB5 hB1
  obtain ⟨t8, t8'⟩ : W.cell? ⟨w.heap.size, 8, none⟩ = some (.slice pt ty.length ct) ∧ W.cell? ⟨w.heap.size + 1, 8, none⟩ = some (.slice pt' ty'.length ct') := ⟨cellP (HC0.out W hW) 8 _ rfl, cellP (HC1.out W hW) 8 _ rfl⟩
  have hsW := hB1.size
  have hsD := objP_lt hK1
  clear hc1 hc2 HR1 HR2 HRB hq1
  go_wp2_with (go_at_call 124; refine (changes_fn _ _ _ _ _ _).mono ?_; rintro e w8 ⟨rfl, hw8⟩; have HW8 := (show Hid _ from hw8); clear hw8)
  have k89 := allocP2 (w := W) (.cells #[.slice pt ty.length ct] 45) (.cells #[.slice pt' ty'.length ct'] 45)
  have hb8 : Below W.heap.size W w8 := by rw [HW8.out]; exact ((Below.refl _ _).alloc (Nat.le_refl _) _).alloc (by simp) _
  have hs8 : w8.heap.size = W.heap.size + 2 := by rw [HW8.out]; simp
  rw [← HW8.out] at k89
  have hD8 : Below W2.heap.size W2 w8 := belowP hW hb8
  have hB8 : Below w.heap.size w w8 := belowP hBW1 hb8
  have hK18 : w8.heap[D1]? = some (.deferred (some [])) := (hb8.block D1 hsD).trans hK1
  have hc1 := cellP k89.1 0 _ rfl
  have hc2 := cellP k89.2 0 _ rfl
  have HK18 : Hid (w8.heap[D1]? = some (.deferred (some []))) := hK18
  clear t8 t8' k89 hK1 hK18
  refine wp_chg (n := 4) (sb := 9) (by omega) (Chg.above s) rfl (HIS.out.1.ty.below hO hB8) (HIS.out.2.1.ty.below hO hB8) (fun k hk => Nat.lt_of_lt_of_le (hO k hk) hB8.size) HIS.out.2.2.1.ty HIS.out.2.2.2.ty hc1 hc2 (by omega) (by omega) (HC3.out w8 hD8) ?assign ?body ?done ?stop
  case assign =>
   intro l x W K hK
   obtain ⟨xn, xo, xx⟩ := x
   simp only [valC, cellsC] at hK ⊢
   gi_wp2
   exact hK
  case body =>
   intro l x W Bx hB hh hBx
   have hW : Below W2.heap.size W2 W := belowP hD8 hB
   have hab := above_lv (w := W) x s
   have HRW : Hid (∀ X, Below W.heap.size W X → X.heap[w.heap.size + 1 + 1 + 1]? = some (.cells #[.bool false] 4 (0, 0))) := fun X hX => HC3.out X (belowP hW hX)
   have y7 := cellP (HC7.out W hW) 0 _ rfl
   cases hv : Chg.above s x with
   | false =>
    have HV : Hid (Chg.above s x = false) := hv
    rw [hv] at hab
    obtain ⟨xn, xo, xx⟩ := x
    simp only [valC, cellsC] at hh hab HV ⊢
    have x0 := cellP hh 0 _ rfl; have x1 := cellP hh 1 _ rfl; have x2 := cellP hh 2 _ rfl; have x3 := cellP hh 3 _ rfl; have x4 := cellP hh 4 _ rfl
    clear hh hv
    gi_wp2_with (refine ⟨trivial, ?_⟩; gi_at_call 126; refine (CallsIn.inRound l (callsIn_wide.2 hab)).mono ?_; rintro e w6 ⟨rfl, hb6⟩)
    exact ⟨HV.out, hb6⟩
   | true =>
    have HV : Hid (Chg.above s x = true) := hv
    rw [hv] at hab
    obtain ⟨xn, xo, xx⟩ := x
    simp only [valC, cellsC] at hh hab HV ⊢
    have x0 := cellP hh 0 _ rfl; have x1 := cellP hh 1 _ rfl; have x2 := cellP hh 2 _ rfl; have x3 := cellP hh 3 _ rfl; have x4 := cellP hh 4 _ rfl
    clear hh hv
    gi_wp2_with (refine ⟨trivial, ?_⟩; gi_at_call 126; refine (CallsIn.inRound l (callsIn_wide.2 hab)).mono ?_; rintro e w6 ⟨rfl, hb6⟩; have r6 := HRW.out w6 hb6; have r0 := cellP r6 0 _ rfl; have rz := fzP r6 0)
    exact ⟨HV.out, w6, hb6, rfl⟩
  case stop =>
   intro D W hD hq hk hc hK
   go_wp2
   have HM : Hid (MAY = false) := by show _ = _; rw [HMay.out, HQ1.out, hq]; rfl
   rw [HM.out]
   refine leaves_marks rfl rfl [D, D1] W (by simp; omega) (fun x hx => ?_) (fun x hx => ?_) hc (hB8.trans (hk.below hB8.size fun k hk' e => by unfold OneP at e; omega))
   · simp at hx
     rcases hx with rfl | rfl
     · exact hK
     · exact (hk.block _ (by omega) (by have := hD5.size; unfold OneP; omega)).trans HK18.out
   · simp at hx
     have := hB5.size
     rcases hx with rfl | rfl <;> omega
  case done =>
   intro D2 W' hD2 hq2 hB2 hK2
   have hW' : Below W2.heap.size W2 W' := belowP hD8 hB2
   have HQ2 : Hid (quiet (Chg.above s) ty ty' = true) := hq2
   have hBW2 : Below w.heap.size w W' := belowP hB8 hB2
   obtain ⟨t7, t7'⟩ : W'.cell? ⟨w.heap.size, 7, none⟩ = some (.slice pu us.length cu) ∧ W'.cell? ⟨w.heap.size + 1, 7, none⟩ = some (.slice pu' us'.length cu') := ⟨cellP (HC0.out W' hW') 7 _ rfl, cellP (HC1.out W' hW') 7 _ rfl⟩
   have hsW2 := hB2.size
   have hsD2 := objP_lt hK2
   clear hc1 hc2 hq2
   go_wp2_with (go_at_call 124; refine (changes_fn _ _ _ _ _ _).mono ?_; rintro e w9 ⟨rfl, hw9⟩; have HW9 := (show Hid _ from hw9); clear hw9)
   have k89 := allocP2 (w := W') (.cells #[.slice pu us.length cu] 45) (.cells #[.slice pu' us'.length cu'] 45)
   have hb9 : Below W'.heap.size W' w9 := by rw [HW9.out]; exact ((Below.refl _ _).alloc (Nat.le_refl _) _).alloc (by simp) _
   have hs9 : w9.heap.size = W'.heap.size + 2 := by rw [HW9.out]; simp
   rw [← HW9.out] at k89
   have hD9 : Below W2.heap.size W2 w9 := belowP hW' hb9
   have hB9 : Below w.heap.size w w9 := belowP hBW2 hb9
   have HK19 : Hid (w9.heap[D1]? = some (.deferred (some [])) ∧ w9.heap[D2]? = some (.deferred (some []))) := ⟨(hb9.block D1 (by omega)).trans ((hB2.block D1 (by omega)).trans HK18.out), (hb9.block D2 hsD2).trans hK2⟩
   have hc1 := cellP k89.1 0 _ rfl
   have hc2 := cellP k89.2 0 _ rfl
   clear t7 t7' k89 hK2
   refine wp_chg (n := 4) (sb := 10) (by omega) (Chg.bad u s) rfl (HIS.out.1.us.below hO hB9) (HIS.out.2.1.us.below hO hB9) (fun k hk => Nat.lt_of_lt_of_le (hO k hk) hB9.size) HIS.out.2.2.1.us HIS.out.2.2.2.us hc1 hc2 (by omega) (by omega) (HC3.out w9 hD9) ?assign ?body ?done ?stop
   case assign =>
    intro l x W K hK
    obtain ⟨xn, xo, xx⟩ := x
    simp only [valC, cellsC] at hK ⊢
    gi_wp2
    exact hK
   case body =>
    intro l x W Bx hB hh hBx
    have hW : Below W2.heap.size W2 W := belowP hD9 hB
    have hab := above_lv (w := W) x s
    have HRW : Hid (∀ X, Below W.heap.size W X → X.heap[w.heap.size + 1 + 1 + 1]? = some (.cells #[.bool false] 4 (0, 0)) ∧ X.heap[w1.heap.size]? = some (.cells #[.int .i64 s] 2 (0, 0)) ∧ X.heap[w.heap.size + 1 + 1]? = some (.cells #[.string u] 9 (0, 0)) ∧ X.heap[Bx]? = some (.cells (cellsC x).toArray 143 (0, 0))) := fun X hX => ⟨HC3.out X (belowP hW hX), HC7.out X (belowP hW hX), HC2.out X (belowP hW hX), (hX.block Bx (objP_lt hh)).trans hh⟩
    have y7 := cellP (HC7.out W hW) 0 _ rfl
    have HBad : Hid (Chg.bad u s x = (Chg.above s x || (!(x.name.toList == u.toList) && least s x.old))) := rfl
    cases hv : Chg.above s x with
    | true =>
     have HV : Hid (Chg.bad u s x = true) := by show _ = _; rw [HBad.out, hv]; rfl
     rw [hv] at hab
     clear hv HBad
     obtain ⟨xn, xo, xx⟩ := x
     simp only [valC, cellsC] at hh hab HRW ⊢
     have x0 := cellP hh 0 _ rfl; have x1 := cellP hh 1 _ rfl; have x2 := cellP hh 2 _ rfl; have x3 := cellP hh 3 _ rfl; have x4 := cellP hh 4 _ rfl
     clear hh
     gi_wp2_with (refine ⟨trivial, ?_⟩; gi_at_call 126; refine (CallsIn.inRound l (callsIn_wide.2 hab)).mono ?_; rintro e w6 ⟨rfl, hb6⟩; obtain ⟨r6, s6, u6, x6⟩ := HRW.out w6 hb6; have r0 := cellP r6 0 _ rfl; have rz := fzP r6 0; have s0 := cellP s6 0 _ rfl; have u0 := cellP u6 0 _ rfl; have f0 := cellP x6 0 _ rfl; have f1 := cellP x6 1 _ rfl; have f2 := cellP x6 2 _ rfl)
     exact ⟨HV.out, w6, hb6, rfl⟩
    | false =>
     rw [hv] at hab HBad
     clear hv
     obtain ⟨xn, xo, xx⟩ := x
     cases hn : (xn.toList == u.toList) with
     | true =>
      have HV : Hid (Chg.bad u s ⟨xn, xo, xx⟩ = false) := by show _ = _; rw [HBad.out]; simp [hn]
      clear HBad
      simp only [valC, cellsC] at hh hab HRW ⊢
      have x0 := cellP hh 0 _ rfl; have x1 := cellP hh 1 _ rfl; have x2 := cellP hh 2 _ rfl; have x3 := cellP hh 3 _ rfl; have x4 := cellP hh 4 _ rfl
      clear hh
      gi_wp2_with (refine ⟨trivial, ?_⟩; gi_at_call 126; refine (CallsIn.inRound l (callsIn_wide.2 hab)).mono ?_; rintro e w6 ⟨rfl, hb6⟩; obtain ⟨r6, s6, u6, x6⟩ := HRW.out w6 hb6; have r0 := cellP r6 0 _ rfl; have rz := fzP r6 0; have s0 := cellP s6 0 _ rfl; have u0 := cellP u6 0 _ rfl; have f0 := cellP x6 0 _ rfl; have f1 := cellP x6 1 _ rfl; have f2 := cellP x6 2 _ rfl)
      exact ⟨HV.out, hb6⟩
     | false =>
      cases xo with
      | none =>
       have HV : Hid (Chg.bad u s ⟨xn, none, xx⟩ = false) := by show _ = _; rw [HBad.out]; simp [least]
       clear HBad
       simp only [valC, cellsC] at hh hab HRW ⊢
       have x0 := cellP hh 0 _ rfl; have x1 := cellP hh 1 _ rfl; have x2 := cellP hh 2 _ rfl; have x3 := cellP hh 3 _ rfl; have x4 := cellP hh 4 _ rfl
       clear hh
       gi_wp2_with (refine ⟨trivial, ?_⟩; gi_at_call 126; refine (CallsIn.inRound l (callsIn_wide.2 hab)).mono ?_; rintro e w6 ⟨rfl, hb6⟩; obtain ⟨r6, s6, u6, x6⟩ := HRW.out w6 hb6; have r0 := cellP r6 0 _ rfl; have rz := fzP r6 0; have s0 := cellP s6 0 _ rfl; have u0 := cellP u6 0 _ rfl; have f0 := cellP x6 0 _ rfl; have f1 := cellP x6 1 _ rfl; have f2 := cellP x6 2 _ rfl)
       exact ⟨HV.out, hb6⟩
      | some y =>
       by_cases hy : s ≤ y
       · have HV : Hid (Chg.bad u s ⟨xn, some y, xx⟩ = true) := by show _ = _; rw [HBad.out]; simp [least, hn, hy]
         clear HBad
         simp only [valC, cellsC] at hh hab HRW ⊢
         have x0 := cellP hh 0 _ rfl; have x1 := cellP hh 1 _ rfl; have x2 := cellP hh 2 _ rfl; have x3 := cellP hh 3 _ rfl; have x4 := cellP hh 4 _ rfl
         clear hh
         gi_wp2_with (refine ⟨trivial, ?_⟩; gi_at_call 126; refine (CallsIn.inRound l (callsIn_wide.2 hab)).mono ?_; rintro e w6 ⟨rfl, hb6⟩; obtain ⟨r6, s6, u6, x6⟩ := HRW.out w6 hb6; have r0 := cellP r6 0 _ rfl; have rz := fzP r6 0; have s0 := cellP s6 0 _ rfl; have u0 := cellP u6 0 _ rfl; have f0 := cellP x6 0 _ rfl; have f1 := cellP x6 1 _ rfl; have f2 := cellP x6 2 _ rfl)
         exact ⟨HV.out, w6, hb6, rfl⟩
       · have HV : Hid (Chg.bad u s ⟨xn, some y, xx⟩ = false) := by show _ = _; rw [HBad.out]; simp [least, hn, hy]
         clear HBad
         simp only [valC, cellsC] at hh hab HRW ⊢
         have x0 := cellP hh 0 _ rfl; have x1 := cellP hh 1 _ rfl; have x2 := cellP hh 2 _ rfl; have x3 := cellP hh 3 _ rfl; have x4 := cellP hh 4 _ rfl
         clear hh
         gi_wp2_with (refine ⟨trivial, ?_⟩; gi_at_call 126; refine (CallsIn.inRound l (callsIn_wide.2 hab)).mono ?_; rintro e w6 ⟨rfl, hb6⟩; obtain ⟨r6, s6, u6, x6⟩ := HRW.out w6 hb6; have r0 := cellP r6 0 _ rfl; have rz := fzP r6 0; have s0 := cellP s6 0 _ rfl; have u0 := cellP u6 0 _ rfl; have f0 := cellP x6 0 _ rfl; have f1 := cellP x6 1 _ rfl; have f2 := cellP x6 2 _ rfl)
         exact ⟨HV.out, hb6⟩
   case stop =>
    intro D W hD hq hk hc hK
    go_wp2
    have HM : Hid (MAY = false) := by show _ = _; rw [HMay.out, HQ1.out, HQ2.out, hq]; rfl
    rw [HM.out]
    refine leaves_marks rfl rfl [D, D2, D1] W (by simp; omega) (fun x hx => ?_) (fun x hx => ?_) hc (hB9.trans (hk.below hB9.size fun k hk' e => by unfold OneP at e; omega))
    · simp at hx
      rcases hx with rfl | rfl | rfl
      · exact hK
      · exact (hk.block _ (by omega) (by have := hD5.size; unfold OneP; omega)).trans HK19.out.2
      · exact (hk.block _ (by omega) (by have := hD5.size; unfold OneP; omega)).trans HK19.out.1
    · simp at hx
      have := hB5.size
      rcases hx with rfl | rfl | rfl <;> omega
   case done =>
    intro D3 W3 hD3' hq3 hB3 hK3
    have hW3 : Below W2.heap.size W2 W3 := belowP hD9 hB3
    have HM : Hid (MAY = true) := by show _ = _; rw [HMay.out, HQ1.out, HQ2.out, hq3]; rfl
    have hBW3 : Below w.heap.size w W3 := belowP hB9 hB3
    have r0 := cellP (HC3.out W3 hW3) 0 _ rfl
    have rz := fzP (HC3.out W3 hW3) 0
    have HRC : Hid (W3.heap[w.heap.size + 1 + 1 + 1]? = some (.cells #[.bool false] 4 (0, 0))) := HC3.out W3 hW3
    have HK3 : Hid (W3.heap[D3]? = some (.deferred (some [])) ∧ W3.heap[D2]? = some (.deferred (some [])) ∧ W3.heap[D1]? = some (.deferred (some []))) := ⟨hK3, (hB3.block _ (by omega)).trans HK19.out.2, (hB3.block _ (by omega)).trans HK19.out.1⟩
    clear hK3 hq3 hc1 hc2
    go_wp2
    rw [HM.out]
    have hks := KeepsOthers.setCell W3 ⟨w.heap.size + 1 + 1 + 1, 0, none⟩ (.bool true)
    refine leaves_marks rfl rfl [D3, D2, D1] _ (by simp; omega) (fun x hx => ?_) (fun x hx => ?_) (World.cell?_setCell_same' _ _ _ (by rw [cellP HRC.out 0 _ rfl]; rfl)) (hBW3.setCell (p := ⟨w.heap.size + 1 + 1 + 1, 0, none⟩) (by simp; omega) _)
    · simp at hx
      rcases hx with rfl | rfl | rfl
      · exact hks.same _ _ HK3.out.1 rfl
      · exact hks.same _ _ HK3.out.2.1 rfl
      · exact hks.same _ _ HK3.out.2.2 rfl
    · simp at hx
      have := hB5.size
      rcases hx with rfl | rfl | rfl <;> omega
end
end Go.Proofs.YtldegjjaknelgaaGreatDoor
namespace Go.Proofs.YtldegjjaknelgaaGreatDoor
open Go.RowKit
theorem belowN (w : World) (n : Nat) : Below w.heap.size w (w.drewN n) := ⟨rfl, rfl, rfl, Nat.le_refl _, fun _ _ => rfl⟩
theorem exec_loadR {a : Act} {o : Oper} {m : Operand} {T : TypeId} {ad : Addr} {w : World} {v : Value} (hop : o.op = Op.load T m) (hm : a.eval m = .pointer (some ad)) (hl : (Instr.loadAt T (.pointer (some ad))).run Tryz.prog w = .ok v w) : (execOp a.eval o).run Tryz.prog w = .ok (.value v) w := by
 simp [execOp, hop, hm, hl]
theorem lit_vJoin : vJoin.toList = [106, 111, 105, 110] := by rw [Lib.toList_data]
theorem lit_vInvite : vInvite.toList = [105, 110, 118, 105, 116, 101] := by rw [Lib.toList_data]
theorem lit_vLeave : vLeave.toList = [108, 101, 97, 118, 101] := by rw [Lib.toList_data]
theorem lit_vBan : vBan.toList = [98, 97, 110] := by rw [Lib.toList_data]
theorem lit_vPublic : vPublic.toList = [112, 117, 98, 108, 105, 99] := by rw [Lib.toList_data]
theorem lit_tMember : tMember.toList = [109, 46, 114, 111, 111, 109, 46, 109, 101, 109, 98, 101, 114] := by rw [Lib.toList_data]
theorem lit_tCreate : tCreate.toList = [109, 46, 114, 111, 111, 109, 46, 99, 114, 101, 97, 116, 101] := by rw [Lib.toList_data]
theorem lit_tPower : tPower.toList = [109, 46, 114, 111, 111, 109, 46, 112, 111, 119, 101, 114, 95, 108, 101, 118, 101, 108, 115] := by rw [Lib.toList_data]
theorem lit_nix : (⟨#[]⟩ : ByteArray).toList = [] := by rw [Lib.toList_data]
section
variable {w : World} {hb : Nat} {h : Hr} {p : Ph}
theorem IsH.rangeL (x : IsH w hb h p) : w.rangeAt hb 34 (cellsL h.l p.l) := range_sub x.blk 34 rfl
theorem IsH.rangeE (x : IsH w hb h p) : w.rangeAt hb 0 (cellsE h.e p.e) := range_sub x.blk 0 rfl
theorem IsH.rangeJ (x : IsH w hb h p) : w.rangeAt hb 5 [.int .i64 h.e.content.kind, .int .i64 h.e.content.int, .string h.e.content.text, .slice p.e.pk h.e.content.keys.length p.e.ck, .slice p.e.pl h.e.content.list.length p.e.cl] := range_sub x.blk 5 rfl
theorem IsH.runL (x : IsH w hb h p) : (Instr.loadAt 47 (.pointer (some ⟨hb, 34, none⟩))).run Tryz.prog w = .ok (valL h.l p.l) w := run_loadAt_mid w hb 34 47 (cellsL h.l p.l) _ x.rangeL Tryz.underlying47 rfl infoL
theorem memb_any (x : IsH w hb h p) (hz : SzH h) (u : ByteArray) : Calls Tryz.prog 89 #[.pointer (some ⟨hb, 0, none⟩), .string u] w fun e w' => e = .returned (.string (membT h.st u)) ∧ Below w.heap.size w w' := by
 have hT := textOf_any x.st (fun _ h => h) hz.st tMember u nMemb
 have HT : Hid (membT h.st u = textOfT h.st tMember u nMemb) := rfl
 have hs := x.state
 clear x
 go_enter Tryz.func89, Tryz.ntmps89
 go_wp2_with (go_at_call 123; refine hT.mono ?_; rintro e w1 ⟨rfl, hb1⟩)
 go_ret
 exact ⟨by rw [HT.out]; rfl, hb1⟩
theorem joined_any (x : IsH w hb h p) (hz : SzH h) : Calls Tryz.prog 55 #[.pointer (some ⟨hb, 0, none⟩)] w fun e w' => e = .returned (.bool h.joined) ∧ Below w.heap.size w w' := by
 have hM := memb_any x hz h.e.sender
 have HT : Hid (h.joined = eqT (membT h.st h.e.sender) vJoin) := rfl
 have hs := x.sender
 clear x
 generalize membT h.st h.e.sender = m at hM HT
 go_enter Tryz.func55, Tryz.ntmps55
 go_wp2_with (go_at_call 89; refine hM.mono ?_; rintro e w1 ⟨rfl, hb1⟩)
 go_ret
 exact ⟨by rw [HT.out]; unfold eqT; rw [lit_vJoin]; rfl, hb1⟩
theorem target_any (x : IsH w hb h p) (hz : SzH h) : Calls Tryz.prog 86 #[.pointer (some ⟨hb, 0, none⟩)] w fun e w' => e = .returned (.string h.target) ∧ Below w.heap.size w w' := by
 have hM := memb_any x hz h.e.key
 have HT : Hid (h.target = membT h.st h.e.key) := rfl
 have hs := x.key
 clear x
 go_enter Tryz.func86, Tryz.ntmps86
 go_wp2_with (go_at_call 89; refine hM.mono ?_; rintro e w1 ⟨rfl, hb1⟩)
 go_ret
 exact ⟨by rw [HT.out]; rfl, hb1⟩
theorem own_any (x : IsH w hb h p) : Calls Tryz.prog 59 #[.pointer (some ⟨hb, 0, none⟩)] w fun e w' => e = .returned (.bool h.own) ∧ Below w.heap.size w w' := by
 have HT : Hid (h.own = eqT h.e.key h.e.sender) := rfl
 have hk := x.key
 have hs := x.sender
 clear x
 go_enter Tryz.func59, Tryz.ntmps59
 go_wp2
 go_quiet (fail)
 go_wp2
 go_ret
 exact ⟨by rw [HT.out]; rfl, belowN _ _⟩
theorem lev_s_any (x : IsH w hb h p) (hz : SzH h) : Calls Tryz.prog 56 #[.pointer (some ⟨hb, 0, none⟩)] w fun e w' => e = .returned (.int .i64 h.s) ∧ Below w.heap.size w w' := by
 have HX : Hid (∀ X, Below w.heap.size w X → IsH X hb h p) := fun X hX => x.below hX
 have HU : Hid (∀ X, Below w.heap.size w X → Calls Tryz.prog 90 #[valL h.l p.l, .string h.e.sender] X fun e w' => e = .returned (.int .i64 h.s) ∧ Below X.heap.size X w') := fun X hX => user_lv (HX.out X hX).lv (fun _ h => h) hz.l h.e.sender
 clear x
 obtain ⟨W, hW⟩ : ∃ W, W = w := ⟨_, rfl⟩
 go_enter Tryz.func56, Tryz.ntmps56
 go_upto_region 1 with fail
 subst hW
 refine wp_region_in (by kernel_rfl) (fun w' => Below W.heap.size W w') ?_
 change wpIn _ _ _ _ _ _ _ _ (World.drew _)
 have hD : Below W.heap.size W W.drew := (Below.refl _ _).drew
 refine wpIn_tk (i := 0) (d := some 3) rfl ?_
 refine wpIn_tk (i := 1) (d := some 4) rfl ?_
 refine wpIn_tk (i := 2) (d := some 5) rfl ?_
 refine wpIn_take (i := 3) (d := (some 6)) (v := (valL h.l p.l)) (a' := ?aqr3) rfl rfl (by kernel_rfl) (by kernel_rfl) (by kernel_rfl) (fun _ _ _ h => h) (Or.inl ⟨by rfl, ?yqr3⟩) ?fqr3 ?_
 case yqr3 => exact fun wq hq => exec_loadR rfl rfl ((HX.out wq hq).runL)
 case fqr3 => (go_frame; rfl)
 refine wpIn_tk (i := 4) (d := some 7) rfl ?_
 refine wpIn_tk (i := 5) (d := some 8) rfl ?_
 refine wpIn_tk (i := 6) (d := some 9) rfl ?_
 refine wpIn_tk (i := 7) (d := some 10) rfl ?_
 refine wpIn_tp (i := 8) (d := some 11) rfl (by (intro wq hq; have zf := (HX.out wq hq).sender; go_simp; first | done | with_reducible rfl)) ?_
 refine wpIn_do (i := 9) hD (by kernel_rfl) rfl (by rfl) ?_
 intro K hK
 go_simp
 go_wp2_with (go_at_call 90; refine (HU.out _ hD).mono ?_; rintro e w1 ⟨rfl, hbw1⟩)
 have hD9 : Below W.heap.size W w1 := belowP hD hbw1
 refine wpIn_tk (i := 10) (d := some 2) rfl ?_
 refine wpIn_done hD9 (by kernel_rfl) ?_ _
 go_wp2
 go_ret
 exact ⟨rfl, hD9⟩
theorem lev_t_any (x : IsH w hb h p) (hz : SzH h) : Calls Tryz.prog 88 #[.pointer (some ⟨hb, 0, none⟩)] w fun e w' => e = .returned (.int .i64 h.t) ∧ Below w.heap.size w w' := by
 have HX : Hid (∀ X, Below w.heap.size w X → IsH X hb h p) := fun X hX => x.below hX
 have HU : Hid (∀ X, Below w.heap.size w X → Calls Tryz.prog 90 #[valL h.l p.l, .string h.e.key] X fun e w' => e = .returned (.int .i64 h.t) ∧ Below X.heap.size X w') := fun X hX => user_lv (HX.out X hX).lv (fun _ h => h) hz.l h.e.key
 clear x
 obtain ⟨W, hW⟩ : ∃ W, W = w := ⟨_, rfl⟩
 go_enter Tryz.func88, Tryz.ntmps88
 go_upto_region 1 with fail
 subst hW
 refine wp_region_in (by kernel_rfl) (fun w' => Below W.heap.size W w') ?_
 change wpIn _ _ _ _ _ _ _ _ (World.drew _)
 have hD : Below W.heap.size W W.drew := (Below.refl _ _).drew
 refine wpIn_tk (i := 0) (d := some 3) rfl ?_
 refine wpIn_tk (i := 1) (d := some 4) rfl ?_
 refine wpIn_tk (i := 2) (d := some 5) rfl ?_
 refine wpIn_take (i := 3) (d := (some 6)) (v := (valL h.l p.l)) (a' := ?aqr3) rfl rfl (by kernel_rfl) (by kernel_rfl) (by kernel_rfl) (fun _ _ _ h => h) (Or.inl ⟨by rfl, ?yqr3⟩) ?fqr3 ?_
 case yqr3 => exact fun wq hq => exec_loadR rfl rfl ((HX.out wq hq).runL)
 case fqr3 => (go_frame; rfl)
 refine wpIn_tk (i := 4) (d := some 7) rfl ?_
 refine wpIn_tk (i := 5) (d := some 8) rfl ?_
 refine wpIn_tk (i := 6) (d := some 9) rfl ?_
 refine wpIn_tk (i := 7) (d := some 10) rfl ?_
 refine wpIn_tp (i := 8) (d := some 11) rfl (by (intro wq hq; have zf := (HX.out wq hq).key; go_simp; first | done | with_reducible rfl)) ?_
 refine wpIn_do (i := 9) hD (by kernel_rfl) rfl (by rfl) ?_
 intro K hK
 go_simp
 go_wp2_with (go_at_call 90; refine (HU.out _ hD).mono ?_; rintro e w1 ⟨rfl, hbw1⟩)
 have hD9 : Below W.heap.size W w1 := belowP hD hbw1
 refine wpIn_tk (i := 10) (d := some 2) rfl ?_
 refine wpIn_done hD9 (by kernel_rfl) ?_ _
 go_wp2
 go_ret
 exact ⟨rfl, hD9⟩
end
abbrev thrown (b : Bool) : Ending := .panicked [{ v := .iface 84 (.agg #[.bool b]), recovered := false }]
theorem says_any (b : Bool) (w : World) : Calls Tryz.prog 50 #[.bool b] w fun e w' => e = thrown b ∧ w' = w := by
 go_enter Tryz.func50, Tryz.ntmps50
 go_wp2
 exact ⟨rfl, rfl, rfl⟩
theorem noIf_no (w : World) : Calls Tryz.prog 54 #[.bool false] w fun e w' => e = .returned (.tuple #[]) ∧ w' = w := by
 go_enter Tryz.func54, Tryz.ntmps54
 go_wp2
 go_end0
 exact ⟨rfl, rfl⟩
theorem noIf_yes (w : World) : Calls Tryz.prog 54 #[.bool true] w fun e w' => e = thrown false ∧ w' = w := by
 go_enter Tryz.func54, Tryz.ntmps54
 go_wp2_with (go_at_call 50; refine (says_any false _).mono ?_; rintro e w1 ⟨rfl, rfl⟩)
 exact ⟨rfl, rfl, rfl⟩
theorem yesIf_no (w : World) : Calls Tryz.prog 93 #[.bool false] w fun e w' => e = .returned (.tuple #[]) ∧ w' = w := by
 go_enter Tryz.func93, Tryz.ntmps93
 go_wp2
 go_end0
 exact ⟨rfl, rfl⟩
theorem yesIf_yes (w : World) : Calls Tryz.prog 93 #[.bool true] w fun e w' => e = thrown true ∧ w' = w := by
 go_enter Tryz.func93, Tryz.ntmps93
 go_wp2_with (go_at_call 50; refine (says_any true _).mono ?_; rintro e w1 ⟨rfl, rfl⟩)
 exact ⟨rfl, rfl, rfl⟩
theorem verdict_any (b : Bool) (w : World) : Calls Tryz.prog 26 #[.iface 84 (.agg #[.bool b])] w fun e w' => e = .returned (.int .i64 (if b = true then 0 else 110)) ∧ Below w.heap.size w w' := by
 have hta : ∀ (b : Bool) (w : World), (Instr.typeAssert (.iface 84 (.agg #[.bool b])) 20 84 true).run Tryz.prog w = .ok (.tuple #[.agg #[.bool b], .bool true]) w := fun _ _ => by kernel_rfl
 cases b
 · go_enter Tryz.func26, Tryz.ntmps26
   go_wp2
   go_ret
   exact ⟨rfl, (Below.refl _ _).alloc (Nat.le_refl _) _⟩
 · go_enter Tryz.func26, Tryz.ntmps26
   go_wp2
   go_ret
   exact ⟨rfl, (Below.refl _ _).alloc (Nat.le_refl _) _⟩
def NoP : Bool → Ending → Prop
 | true, e => e = thrown false
 | false, e => e = .returned (.tuple #[])
def YesP : Bool → Ending → Prop
 | true, e => e = thrown true
 | false, e => e = .returned (.tuple #[])
theorem noIf_any (b : Bool) (w : World) : Calls Tryz.prog 54 #[.bool b] w fun e w' => NoP b e ∧ w = w' := by
 cases b
 · exact (noIf_no w).mono fun _ _ h => ⟨h.1, h.2.symm⟩
 · exact (noIf_yes w).mono fun _ _ h => ⟨h.1, h.2.symm⟩
theorem yesIf_any (b : Bool) (w : World) : Calls Tryz.prog 93 #[.bool b] w fun e w' => YesP b e ∧ w = w' := by
 cases b
 · exact (yesIf_no w).mono fun _ _ h => ⟨h.1, h.2.symm⟩
 · exact (yesIf_yes w).mono fun _ _ h => ⟨h.1, h.2.symm⟩
theorem says_eq (b : Bool) (w : World) : Calls Tryz.prog 50 #[.bool b] w fun e w' => e = thrown b ∧ w = w' := (says_any b w).mono fun _ _ h => ⟨h.1, h.2.symm⟩
structure IsV (w : World) (eb : Nat) (e : Ev) (p : Pt) : Prop where
 blk : w.heap[eb]? = some (.cells (cellsE e p).toArray 28 (0, 0))
 ev : IsE (· < w.heap.size) w e p
section
variable {w : World} {eb : Nat} {e : Ev} {p : Pt}
theorem IsV.below {w' : World} (x : IsV w eb e p) (b : Below w.heap.size w w') : IsV w' eb e p := ⟨(b.block eb (objP_lt x.blk)).trans x.blk, x.ev.carry fun k hk => ⟨Nat.lt_of_lt_of_le hk b.size, b.block k hk⟩⟩
theorem IsV.room (x : IsV w eb e p) : w.cell? ⟨eb, 0, none⟩ = some (.string e.room) := cellP x.blk 0 _ rfl
theorem IsV.typ (x : IsV w eb e p) : w.cell? ⟨eb, 1, none⟩ = some (.string e.typ) := cellP x.blk 1 _ rfl
theorem IsV.sender (x : IsV w eb e p) : w.cell? ⟨eb, 2, none⟩ = some (.string e.sender) := cellP x.blk 2 _ rfl
theorem IsV.isSt (x : IsV w eb e p) : w.cell? ⟨eb, 3, none⟩ = some (.bool e.st) := cellP x.blk 3 _ rfl
theorem IsV.key (x : IsV w eb e p) : w.cell? ⟨eb, 4, none⟩ = some (.string e.key) := cellP x.blk 4 _ rfl
theorem IsV.prev (x : IsV w eb e p) : w.cell? ⟨eb, 10, none⟩ = some (.slice p.pp e.prev.length p.cp) := cellP x.blk 10 _ rfl
theorem IsV.authS (x : IsV w eb e p) : w.cell? ⟨eb, 11, none⟩ = some (.slice p.pa e.auth.length p.ca) := cellP x.blk 11 _ rfl
theorem IsV.rangeJ (x : IsV w eb e p) : w.rangeAt eb 5 [.int .i64 e.content.kind, .int .i64 e.content.int, .string e.content.text, .slice p.pk e.content.keys.length p.ck, .slice p.pl e.content.list.length p.cl] := range_sub x.blk 5 rfl
theorem IsV.rangeE (x : IsV w eb e p) : w.rangeAt eb 0 (cellsE e p) := range_sub x.blk 0 rfl
theorem IsV.runJ (x : IsV w eb e p) : (Instr.loadAt 25 (.pointer (some ⟨eb, 5, none⟩))).run Tryz.prog w = .ok (.agg #[.int .i64 e.content.kind, .int .i64 e.content.int, .string e.content.text, .slice p.pk e.content.keys.length p.ck, .slice p.pl e.content.list.length p.cl]) w := run_loadAt_mid w eb 5 25 [.int .i64 e.content.kind, .int .i64 e.content.int, .string e.content.text, .slice p.pk e.content.keys.length p.ck, .slice p.pl e.content.list.length p.cl] _ x.rangeJ Tryz.underlying25 rfl (by kernel_rfl)
end
theorem isV_new {O : Nat → Prop} {w : World} {e : Ev} {p : Pt} (h : IsE O w e p) (hO : ∀ b, O b → b < w.heap.size) {W : World} (hb : Below w.heap.size w W) (hX : W.heap[w.heap.size]? = some (.cells (cellsE e p).toArray 28 (0, 0))) : IsV W w.heap.size e p :=
 ⟨hX, h.carry fun k hk => ⟨Nat.lt_of_lt_of_le (hO k hk) hb.size, hb.block k (hO k hk)⟩⟩
def LevP (w w' : World) (r : Lv × Int) (x : Ending) : Prop := ((r.2 = 0 ∧ ∃ q, x = .returned (valL r.1 q) ∧ IsL (fun b => w.heap.size ≤ b ∧ b < w'.heap.size) w' r.1 q) ∨ (r.2 = 1 ∧ x = thrown false)) ∧ Below w.heap.size w w'
theorem one_L (l : Lv) (p : Pl) : (cellsL l p).toArray.all (·.oneCell') = true := all_oneCell_toArray fun v hv => by
 simp only [cellsL, List.mem_cons, List.not_mem_nil, or_false] at hv
 rcases hv with rfl | rfl | rfl | rfl | rfl | rfl | rfl | rfl | rfl <;> rfl
theorem loadL_at {w : World} {b o : Nat} {l : Lv} {p : Pl} (h : w.rangeAt b o (cellsL l p)) : (loadVar 47 ⟨b, o, none⟩).run Tryz.prog w = .ok (valL l p) w := run_loadVar_mid w b o 47 (cellsL l p) _ h Tryz.underlying47 rfl infoL
theorem levelsIn_any {O : Nat → Prop} {w : World} {e : Ev} {p : Pt} (h : IsE O w e p) (hO : ∀ b, O b → b < w.heap.size) (hz : szJ 12 e.content = true) :
    Calls Tryz.prog 83 #[valE e p] w fun x w' => LevP w w' (parseT (ordT e.content)) x := by
 obtain ⟨W0, hW0⟩ : ∃ W0, W0 = (w.alloc (.cells (cellsE e p).toArray 28)).alloc (.cells #[.int .i64 0, .int .i64 0, .int .i64 0, .int .i64 0, .int .i64 0, .int .i64 0, .int .i64 0, .slice none 0 0, .slice none 0 0] 47) := ⟨_, rfl⟩
 have hb0 : Below w.heap.size w W0 := by rw [hW0]; exact ((Below.refl _ _).alloc (Nat.le_refl _) _).alloc (by simp) _
 have hX0 : W0.heap[w.heap.size]? = some (.cells (cellsE e p).toArray 28 (0, 0)) := by rw [hW0, Below.heap_alloc _ _ _ (by simp)]; exact newP _
 have hR0 : W0.heap[w.heap.size + 1]? = some (.cells #[.int .i64 0, .int .i64 0, .int .i64 0, .int .i64 0, .int .i64 0, .int .i64 0, .int .i64 0, .slice none 0 0, .slice none 0 0] 47 (0, 0)) := by
  rw [hW0]
  have := newP (w := w.alloc (.cells (cellsE e p).toArray 28)) (.cells #[.int .i64 0, .int .i64 0, .int .i64 0, .int .i64 0, .int .i64 0, .int .i64 0, .int .i64 0, .slice none 0 0, .slice none 0 0] 47)
  rw [World.size_alloc] at this
  exact this
 have hV := isV_new h hO hb0 hX0
 have HR : Hid (W0.rangeAt w.heap.size 5 [.int .i64 e.content.kind, .int .i64 e.content.int, .string e.content.text, .slice p.pk e.content.keys.length p.ck, .slice p.pl e.content.list.length p.cl]) := hV.rangeJ
 have hP := parse_any (O := (· < W0.heap.size)) (w := W0) (c := e.content) hV.ev.cont (fun _ h => h) hz
 have HRB : Hid (∀ X, Below W0.heap.size W0 X → X.heap[w.heap.size + 1]? = some (.cells #[.int .i64 0, .int .i64 0, .int .i64 0, .int .i64 0, .int .i64 0, .int .i64 0, .int .i64 0, .slice none 0 0, .slice none 0 0] 47 (0, 0))) := fun X hX => (hX.block _ (objP_lt hR0)).trans hR0
 have HSZ : Hid (w.heap.size + 2 ≤ W0.heap.size) := by show _ ≤ _; rw [hW0]; simp
 have HE : Hid ((parseT (ordT e.content)).2 = 0 ∨ (parseT (ordT e.content)).2 = 1) := parse_err _
 generalize parseT (ordT e.content) = R at hP HE
 obtain ⟨L, E⟩ := R
 simp only at hP HE
 clear h hV hR0 hX0
 unfold valE
 rcases HE.out with rfl | rfl
 · go_enter Tryz.func83, Tryz.ntmps83
   go_upto_region 1 with fail
   rw [← hW0]
   clear hW0
   go_upto_region 2 with (first
    | (refine wpList_load_mid rfl 25 _ rfl w.heap.size 5 rfl _ _ HR.out Tryz.underlying25 rfl (by kernel_rfl) ?_)
    | (go_at_call 120; refine hP.mono ?_; rintro x w1 ⟨⟨q, rfl, hI⟩, hb1⟩)
    | (refine wpList_store_row rfl 47 _ _ rfl w1.heap.size 47 _ (cellsL L q).toArray rfl rfl (newP _) infoL rfl (one_L L q) ?_))
   have hbA : Below w1.heap.size w1 ((w1.alloc (.cells #[.int .i64 0, .int .i64 0, .int .i64 0, .int .i64 0, .int .i64 0, .int .i64 0, .int .i64 0, .slice none 0 0, .slice none 0 0] 47)).setRow w1.heap.size (cellsL L q).toArray) :=
    ((Below.refl _ _).alloc (Nat.le_refl _) _).trans ((keep_setRow _ w1.heap.size _).below (by simp) fun q hq e => by unfold OneP at e; omega)
   have hXA : ((w1.alloc (.cells #[.int .i64 0, .int .i64 0, .int .i64 0, .int .i64 0, .int .i64 0, .int .i64 0, .int .i64 0, .slice none 0 0, .slice none 0 0] 47)).setRow w1.heap.size (cellsL L q).toArray).heap[w1.heap.size]? = some (.cells (cellsL L q).toArray 47 (0, 0)) := setRow_heap _ _ _ _ _ _ (newP _)
   generalize (w1.alloc (.cells #[.int .i64 0, .int .i64 0, .int .i64 0, .int .i64 0, .int .i64 0, .int .i64 0, .int .i64 0, .slice none 0 0, .slice none 0 0] 47)).setRow w1.heap.size (cellsL L q).toArray = W1 at hbA hXA
   have HRA : Hid (W1.rangeAt w1.heap.size 0 (cellsL L q)) := range_of hXA
   have HB := HRB.out W1 (belowP hb1 hbA)
   have HBH := (show Hid _ from HB)
   clear HB hXA
   go_wp2_with (first
    | (go_at_call 54; refine (noIf_any _ _).mono ?_; rintro e wn ⟨he, rfl⟩; replace he : e = _ := he; subst he)
    | (refine wpList_load_mid rfl 47 _ rfl w1.heap.size 0 rfl (cellsL L q) _ HRA.out Tryz.underlying47 rfl infoL ?_)
    | (refine wpList_store_row rfl 47 _ _ rfl (w.heap.size + 1) 47 _ (cellsL L q).toArray rfl rfl HBH.out infoL rfl (one_L L q) ?_))
   refine bodyPost_ret (resultsP_cell rfl _ _ _ rfl (loadL_at (range_of (setRow_heap _ _ _ _ _ _ HBH.out)))) rfl ?_
   have hbW : Below w.heap.size w W1 := belowP hb0 (belowP hb1 hbA)
   have hkk := keep_setRow W1 (w.heap.size + 1) (cellsL L q).toArray
   refine ⟨.inl ⟨rfl, q, rfl, hI.carry fun b hb => ?_⟩, hbW.trans (hkk.below hbW.size fun k hk e => by unfold OneP at e; omega)⟩
   have s1 := HSZ.out
   have s2 := hb1.size
   exact ⟨⟨by have := hb.1; omega, Nat.lt_of_lt_of_le (Nat.lt_of_lt_of_le hb.2 hbA.size) hkk.size⟩, (hkk.block b (Nat.lt_of_lt_of_le hb.2 hbA.size) (by unfold OneP; have := hb.1; omega)).trans (hbA.block b hb.2)⟩
 · go_enter Tryz.func83, Tryz.ntmps83
   go_upto_region 1 with fail
   rw [← hW0]
   clear hW0
   go_wp2_with (first
    | (refine wpList_load_mid rfl 25 _ rfl w.heap.size 5 rfl _ _ HR.out Tryz.underlying25 rfl (by kernel_rfl) ?_)
    | (go_at_call 120; refine hP.mono ?_; rintro x w1 ⟨⟨q, rfl, hI⟩, hb1⟩)
    | (refine wpList_store_row rfl 47 _ _ rfl w1.heap.size 47 _ (cellsL L q).toArray rfl rfl (newP _) infoL rfl (one_L L q) ?_)
    | (go_at_call 54; refine (noIf_any _ _).mono ?_; rintro e wn ⟨he, rfl⟩; replace he : e = _ := he; subst he))
   refine ⟨rfl, .inr ⟨rfl, rfl⟩, belowP hb0 (belowP hb1 ?_)⟩
   exact ((Below.refl _ _).alloc (Nat.le_refl _) _).trans ((keep_setRow _ w1.heap.size _).below (by simp) fun q hq e => by unfold OneP at e; omega)
end Go.Proofs.YtldegjjaknelgaaGreatDoor

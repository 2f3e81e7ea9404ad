/-
  May, by a contract.
  The document's users and types: by contracts.
  What is asked of a hearing: by contracts.
  What a rule says: by contracts of what is thrown.
  Which event makes a room; the levels of an event: by contracts.
  On which types and keys an event hangs: by a contract.
  The examples: what is judged of them.
  Events with their names that are built, rows of them, and rows that are appended to.
  What is heard of an event by a state: by a contract.
  open: the walk.
  Who joins: by contracts.
  Who leaves: by a contract.
  Who is made a member, and who no longer: by a contract.
  Who changes levels: by a contract.
  Which event makes a room: by a contract.
  Judge: what is thrown is recovered, deferred: by contracts.
  What the rules say of an event, by a state: by contracts.
  The examples hold: by a contract.
  How many of so many values are left (the law of events), by a contract.
  Which events are small, by a contract.
  Which states are small, by a contract.
  The document's event of a type and a key, its text under a key, a user's membership: by contracts.
  The document's text under a key of an event's content, and a user's membership: by contracts.
  Who is not joined does nothing but create a room, join it, or leave it: the law.
  The document's levels of a content: a number, what is told under a key, who is a user: by contracts.
  The document's rows of levels: by contracts.
  The document's levels of a content, by a contract.
  The document's levels: who may change them: by contracts.
  The document's May: by contracts.
  The document's May, walked.
  The document's Type, Start, and levels that are the same: by contracts.
  The document's levels of a state: by contracts.
  Nobody bans or throws out anybody whose level is no less than their own, and what needs a level is done by nobody below it: the law.
  What is left of an event, and that it counts alone: as plain functions.
  On which types and keys an event hangs, as the document says: by contracts.
  Which keys are kept, as the document answers: by a contract.
  Who is banned does not join, and is not invited, and is let go only by who may ban: the law.
  Redacting an event, and all of a state, changes no verdict: the law.
-/
import Derived.Test.YtnngalkdjgjmbaaGreatPR15
import Derived.Laws.AppendOwn
import Derived.Laws.Append
import Derived.OwnWalk
import Derived.Defers
import Derived.Recover
set_option maxRecDepth 100000
set_option maxHeartbeats 16000000
namespace Go.Proofs.YtnngalkdjgjmbaaGreat
open Go.RowKit Go.Maps Go.Shelf
section
attribute [local go_sem] Oper.semAt_some
theorem szN_nums (l : Lv) : SzN (nums l) := by
 refine ⟨by simp [nums], fun p hp => ?_⟩
 simp only [nums, List.mem_cons, List.not_mem_nil, or_false] at hp
 rcases hp with rfl | rfl | rfl | rfl | rfl | rfl | rfl <;> simp [ByteArray.size]
theorem allocP2 {w : World} (o1 o2 : Obj) : ((w.alloc o1).alloc o2).heap[w.heap.size]? = some o1 ∧ ((w.alloc o1).alloc o2).heap[w.heap.size + 1]? = some o2 := by
 refine ⟨(Below.heap_alloc _ _ _ (by simp)).trans (newP _), ?_⟩
 have := newP (w := w.alloc o1) o2
 rw [World.size_alloc] at this
 exact this
theorem wp_narrow {P : Program} {c : Code} {K : Act → World → Prop} {Q : Exit → Act → World → Prop} {a : Act} {w : World} (h : c.wp P (Exit.then K (fun _ _ _ => False)) a w) : c.wp P (Exit.then K Q) a w :=
 wp_mono h fun e _ _ h => by cases e <;> first | exact h | exact h.elim
theorem leaves_marks {fn : Func} {tmps : Array Value} {rt : Tmp} {R : Nat} {v : Bool} {w : World} (hf : fn.results = #[.cell rt 4]) (ht : tmps.getD rt undef = .pointer (some ⟨R, 0, none⟩)) :
    ∀ (Ds : List Nat) (W : World), Ds.Nodup → (∀ D ∈ Ds, W.heap[D]? = some (.deferred (some []))) → (∀ D ∈ Ds, w.heap.size ≤ D) → W.cell? ⟨R, 0, none⟩ = some (.bool v) → Below w.heap.size w W →
     LeavesInM Fence.wide 4 Tryz.prog fn tmps (fun e w' => e = .returned (.bool v) ∧ Below w.heap.size w w') (Ds.map fun D => { target := .collected D, args := #[] }) .returning W
 | [], W, _, _, _, hc, hB => by
  refine ⟨.bool v, resultsP_cell hf tmps Tryz.prog W ht ?_, rfl, hB⟩
  simp [loadVar, go_sem, hc]
 | D :: r, W, hn, hK, hD, hc, hB => by
  have hKD := hK D (by simp)
  rw [List.nodup_cons] at hn
  refine ⟨by simp, .inl ⟨D, W.putObj D (.deferred none), rfl, run_takeDeferred hKD, ?_⟩⟩
  refine leaves_marks hf ht r _ hn.2 (fun D' h' => (World.putObj_heap_other (fun e => hn.1 (by first | (rw [e]; exact h') | (rw [← e]; exact h')))).trans (hK D' (by simp [h']))) (fun D' h' => hD D' (by simp [h'])) ?_ ?_
  · exact cell_kept hc (grownBy_putObj' _ D (.deferred none)) (fun r e => by cases e; exact ⟨_, hKD, rfl⟩)
  · exact hB.trans (belowK_b (w := w) (Nat.le_refl _) W D _ _ (hD D (by simp)) hKD rfl rfl)
theorem may_lv {O : Nat → Prop} {w : World} {a b : Lv} {pa pb : Pl} (ha : IsL O w a pa) (hb : IsL O w b pb) (hO : ∀ k, O k → k < w.heap.size) (hza : SzL a) (hzb : SzL b) (u : ByteArray) :
    Calls Tryz.prog 22 #[valL a pa, valL b pb, .string u] w fun e w' => e = .returned (.bool (mayL a b u)) ∧ Below w.heap.size w w' := by
 refine callsIn_wide.1 (callsIn_of_wp_marks (n := 4) Tryz.func22 rfl trivial (wpIn_wide.2 ?_) rfl)
 obtain ⟨W0, hW0⟩ : ∃ W0, W0 = (((w.alloc (.cells (cellsL a pa).toArray 34)).alloc (.cells (cellsL b pb).toArray 34)).alloc (.cells #[.string u] 9)).alloc (.cells #[.bool false] 4) := ⟨_, rfl⟩
 have hb0 : Below w.heap.size w W0 := by rw [hW0]; exact ((((Below.refl _ _).alloc (Nat.le_refl _) _).alloc (by simp) _).alloc (by simp; omega) _).alloc (by simp; omega) _
 have hs0 : W0.heap.size = w.heap.size + 4 := by rw [hW0]; simp
 have k23 := allocP2 (w := (w.alloc (.cells (cellsL a pa).toArray 34)).alloc (.cells (cellsL b pb).toArray 34)) (.cells #[.string u] 9) (.cells #[.bool false] 4)
 have k01 := allocP2 (w := w) (.cells (cellsL a pa).toArray 34) (.cells (cellsL b pb).toArray 34)
 rw [← hW0] at k23
 simp only [World.size_alloc] at k23
 have k0 : W0.heap[w.heap.size]? = some (.cells (cellsL a pa).toArray 34 (0, 0)) := by
  rw [hW0, Below.heap_alloc _ _ _ (by simp only [World.size_alloc]; omega), Below.heap_alloc _ _ _ (by simp only [World.size_alloc]; omega)]; exact k01.1
 have k1 : W0.heap[w.heap.size + 1]? = some (.cells (cellsL b pb).toArray 34 (0, 0)) := by
  rw [hW0, Below.heap_alloc _ _ _ (by simp only [World.size_alloc]; omega), Below.heap_alloc _ _ _ (by simp only [World.size_alloc]; omega)]; exact k01.2
 obtain ⟨k2, k3⟩ := k23
 have hU := user_lv (ha.below hO hb0) (fun k hk => Nat.lt_of_lt_of_le (hO k hk) hb0.size) hza u
 have HMay : Hid (mayL a b u = (quiet (Chg.above (usr a u)) (nums a) (nums b) && (quiet (Chg.above (usr a u)) a.byType b.byType && quiet (Chg.bad u (usr a u)) a.byUser b.byUser))) := rfl
 generalize mayL a b u = MAY at HMay ⊢
 generalize usr a u = s at hU HMay
 have HN1 : Hid (∀ X : World, Calls Tryz.prog 44 #[valL a pa] X fun e w' => (∃ b, e = .returned (.slice (some ⟨b, 0, none⟩) 7 7) ∧ X.heap.size ≤ b ∧ b < w'.heap.size ∧ RdN (fun k => k = b) w' (some ⟨b, 0, none⟩) 7 (nums a)) ∧ Below X.heap.size X w') := fun X => numbers_lv
 have HN2 : Hid (∀ X : World, Calls Tryz.prog 44 #[valL b pb] X fun e w' => (∃ b', e = .returned (.slice (some ⟨b', 0, none⟩) 7 7) ∧ X.heap.size ≤ b' ∧ b' < w'.heap.size ∧ RdN (fun k => k = b') w' (some ⟨b', 0, none⟩) 7 (nums b)) ∧ Below X.heap.size X w') := fun X => numbers_lv
 have HSN : Hid (SzN (nums a) ∧ SzN (nums b) ∧ (nums a).length = 7 ∧ (nums b).length = 7) := ⟨szN_nums a, szN_nums b, rfl, rfl⟩
 have HIS : Hid (IsL O w a pa ∧ IsL O w b pb ∧ SzL a ∧ SzL b) := ⟨ha, hb, hza, hzb⟩
 have HK : Hid (W0.heap[w.heap.size]? = some (.cells (cellsL a pa).toArray 34 (0, 0)) ∧ W0.heap[w.heap.size + 1]? = some (.cells (cellsL b pb).toArray 34 (0, 0)) ∧ W0.heap[w.heap.size + 2]? = some (.cells #[.string u] 9 (0, 0)) ∧ W0.heap[w.heap.size + 3]? = some (.cells #[.bool false] 4 (0, 0))) := ⟨k0, k1, k2, k3⟩
 generalize nums a = NA at HMay HN1 HSN
 generalize nums b = NB at HMay HN2 HSN
 obtain ⟨ban, kick, invite, redact, state, events, users, us, ty⟩ := a
 obtain ⟨pu, cu, pt, ct⟩ := pa
 obtain ⟨ban', kick', invite', redact', state', events', users', us', ty'⟩ := b
 obtain ⟨pu', cu', pt', ct'⟩ := pb
 clear ha hb hza hzb k0 k1 k2 k3 k01
 simp only [valL, cellsL] at hW0 hU HK HN1 HN2 ⊢
 simp only [Tryz.ntmps22, List.size_toArray, List.length_cons, List.length_nil, Nat.reduceAdd, Nat.reduceSub, Array.replicate_succ, Array.replicate_zero, List.push_toArray, List.append_toArray, List.nil_append, List.cons_append]
 go_upto_region 1 with fail
 rw [← hW0]
 obtain ⟨q0, q1, q2, q3⟩ := HK.out
 have c0 := cellP q0 0 _ rfl; have c1 := cellP q0 1 _ rfl; have c2 := cellP q0 2 _ rfl; have c3 := cellP q0 3 _ rfl; have c4 := cellP q0 4 _ rfl; have c5 := cellP q0 5 _ rfl; have c6 := cellP q0 6 _ rfl; have c7 := cellP q0 7 _ rfl; have c8 := cellP q0 8 _ rfl
 have d0 := cellP q2 0 _ rfl
 clear q0 q1 q2 q3 hW0
 go_upto_region 2 with (go_at_call 21; refine hU.mono ?_; rintro e w1 ⟨rfl, hb1⟩)
 clear c0 c1 c2 c3 c4 c5 c6 c7 c8 d0 hU
 obtain ⟨W2, hW2⟩ : ∃ W2, W2 = w1.alloc (.cells #[.int .i64 s] 2) := ⟨_, rfl⟩
 rw [← hW2]
 have hb2 : Below W0.heap.size W0 W2 := by rw [hW2]; exact belowP hb1 ((Below.refl _ _).alloc (Nat.le_refl _) _)
 have k7 : W2.heap[w1.heap.size]? = some (.cells #[.int .i64 s] 2 (0, 0)) := by rw [hW2]; exact newP _
 have hs2 := hb2.size
 have hs1 := hb1.size
 have hs7 := objP_lt k7
 have HC0 : Hid (∀ X, Below W2.heap.size W2 X → X.heap[w.heap.size]? = some (.cells #[.int .i64 ban, .int .i64 kick, .int .i64 invite, .int .i64 redact, .int .i64 state, .int .i64 events, .int .i64 users, .slice pu us.length cu, .slice pt ty.length ct] 34 (0, 0))) := fun X hX => ((hX.block _ (by omega)).trans (hb2.block _ (by omega))).trans HK.out.1
 have HC1 : Hid (∀ X, Below W2.heap.size W2 X → X.heap[w.heap.size + 1]? = some (.cells #[.int .i64 ban', .int .i64 kick', .int .i64 invite', .int .i64 redact', .int .i64 state', .int .i64 events', .int .i64 users', .slice pu' us'.length cu', .slice pt' ty'.length ct'] 34 (0, 0))) := fun X hX => ((hX.block _ (by omega)).trans (hb2.block _ (by omega))).trans HK.out.2.1
 have HC2 : Hid (∀ X, Below W2.heap.size W2 X → X.heap[w.heap.size + 1 + 1]? = some (.cells #[.string u] 9 (0, 0))) := fun X hX => ((hX.block _ (by omega)).trans (hb2.block _ (by omega))).trans HK.out.2.2.1
 have HC3 : Hid (∀ X, Below W2.heap.size W2 X → X.heap[w.heap.size + 1 + 1 + 1]? = some (.cells #[.bool false] 4 (0, 0))) := fun X hX => ((hX.block _ (by omega)).trans (hb2.block _ (by omega))).trans HK.out.2.2.2
 have HC7 : Hid (∀ X, Below W2.heap.size W2 X → X.heap[w1.heap.size]? = some (.cells #[.int .i64 s] 2 (0, 0))) := fun X hX => (hX.block _ hs7).trans k7
 have HBW : Hid (Below w.heap.size w W2) := belowP hb0 hb2
 clear hW2 k7 HK
 refine wp_narrow ?_
 refine wp_region_in (by kernel_rfl) (fun w' => Below W2.heap.size W2 w') ?_
 change wpIn _ _ _ _ _ _ _ _ (World.drew _)
 have hD : Below W2.heap.size W2 W2.drew := (Below.refl _ _).drew
 refine wpIn_tp (i := 0) (d := some 14) rfl (by (intro wq hq; have zz := HC0.out wq hq; have z0 := cellP zz 0 _ rfl; have z1 := cellP zz 1 _ rfl; have z2 := cellP zz 2 _ rfl; have z3 := cellP zz 3 _ rfl; have z4 := cellP zz 4 _ rfl; have z5 := cellP zz 5 _ rfl; have z6 := cellP zz 6 _ rfl; have z7 := cellP zz 7 _ rfl; have z8 := cellP zz 8 _ rfl; go_simp; first | done | with_reducible rfl)) ?_
 refine wpIn_tp (i := 2) (d := some 16) rfl (by (intro wq hq; have zz := HC1.out wq hq; have z0 := cellP zz 0 _ rfl; have z1 := cellP zz 1 _ rfl; have z2 := cellP zz 2 _ rfl; have z3 := cellP zz 3 _ rfl; have z4 := cellP zz 4 _ rfl; have z5 := cellP zz 5 _ rfl; have z6 := cellP zz 6 _ rfl; have z7 := cellP zz 7 _ rfl; have z8 := cellP zz 8 _ rfl; go_simp; first | done | with_reducible rfl)) ?_
 refine wpIn_do (i := 1) hD (by kernel_rfl) rfl (by rfl) ?_
 intro K hK
 go_simp
 go_wp2_with (go_at_call 44; refine (HN1.out _).mono ?_; rintro e w3 ⟨⟨b3, rfl, hg3, hl3, hr3⟩, hb3⟩)
 have hD3 : Below W2.heap.size W2 w3 := belowP hD hb3
 refine wpIn_do (i := 3) hD3 (by kernel_rfl) rfl (by rfl) ?_
 intro K hK
 go_simp
 go_wp2_with (go_at_call 44; refine (HN2.out _).mono ?_; rintro e w4 ⟨⟨b4, rfl, hg4, hl4, hr4⟩, hb4⟩)
 have hD4 : Below W2.heap.size W2 w4 := belowP hD3 hb4
 refine wpIn_do (i := 4) hD4 (by kernel_rfl) rfl (by rfl) ?_
 intro K hK
 go_simp
 go_wp2_with (go_at_call 43; refine (changes_fn _ _ _ _ _ _).mono ?_; rintro e w5 ⟨rfl, hw5⟩; have HW5 := (show Hid _ from hw5); clear hw5)
 have hw5 := HW5.out
 have hb5 : Below w4.heap.size w4 w5 := by rw [hw5]; exact ((Below.refl _ _).alloc (Nat.le_refl _) _).alloc (by simp) _
 have hD5 : Below W2.heap.size W2 w5 := belowP hD4 hb5
 refine wpIn_done hD5 (by kernel_rfl) ?_ _
 have k45 := allocP2 (w := w4) (.cells #[.slice (some ⟨b3, 0, none⟩) 7 7] 32) (.cells #[.slice (some ⟨b4, 0, none⟩) 7 7] 32)
 rw [← hw5] at k45
 have hs5 : w5.heap.size = w4.heap.size + 2 := by rw [hw5]; simp
 have HR1 : Hid (RdN (fun k => k < w5.heap.size) w5 (some ⟨b3, 0, none⟩) 7 NA) := hr3.carry fun k hk => ⟨by have := hb4.size; omega, (hb5.block k (by have := hb4.size; omega)).trans (hb4.block k (by omega))⟩
 have HR2 : Hid (RdN (fun k => k < w5.heap.size) w5 (some ⟨b4, 0, none⟩) 7 NB) := hr4.carry fun k hk => ⟨by omega, hb5.block k (by omega)⟩
 clear hr3 hr4 hb3 hb4 hb5 hw5
 have hc1 : w5.cell? ⟨w4.heap.size, 0, none⟩ = some (.slice (some ⟨b3, 0, none⟩) NA.length 7) := by rw [HSN.out.2.2.1]; exact cellP k45.1 0 _ rfl
 have hc2 : w5.cell? ⟨w4.heap.size + 1, 0, none⟩ = some (.slice (some ⟨b4, 0, none⟩) NB.length 7) := by rw [HSN.out.2.2.2]; exact cellP k45.2 0 _ rfl
 have HRB : Hid (w5.heap[w.heap.size + 1 + 1 + 1]? = some (.cells #[.bool false] 4 (0, 0))) := HC3.out w5 hD5
 have hB5 : Below w.heap.size w w5 := belowP HBW.out hD5
 clear k45
 go_wp2
 refine wp_chg (n := 4) (sb := 8) (by omega) (Chg.above s) rfl HR1.out HR2.out (fun _ h => h) HSN.out.1 HSN.out.2.1 hc1 hc2 (by omega) (by omega) HRB.out ?assign ?body ?done ?stop
 case assign =>
  intro l x W K hK
  obtain ⟨xn, xo, xx⟩ := x
  simp only [valC, cellsC] at hK ⊢
  gi_wp2
  exact hK
 case body =>
  intro l x W Bx hB hh hBx
  have hW : Below W2.heap.size W2 W := belowP hD5 hB
  have hab := above_lv (w := W) x s
  have HRW : Hid (∀ X, Below W.heap.size W X → X.heap[w.heap.size + 1 + 1 + 1]? = some (.cells #[.bool false] 4 (0, 0))) := fun X hX => HC3.out X (belowP hW hX)
  have y7 := cellP (HC7.out W hW) 0 _ rfl
  cases hv : Chg.above s x with
  | false =>
   have HV : Hid (Chg.above s x = false) := hv
   rw [hv] at hab
   obtain ⟨xn, xo, xx⟩ := x
   simp only [valC, cellsC] at hh hab HV ⊢
   have x0 := cellP hh 0 _ rfl; have x1 := cellP hh 1 _ rfl; have x2 := cellP hh 2 _ rfl; have x3 := cellP hh 3 _ rfl; have x4 := cellP hh 4 _ rfl
   clear hh hv
   gi_wp2_with (refine ⟨trivial, ?_⟩; gi_at_call 45; refine (CallsIn.inRound l (callsIn_wide.2 hab)).mono ?_; rintro e w6 ⟨rfl, hb6⟩)
   exact ⟨HV.out, hb6⟩
  | true =>
   have HV : Hid (Chg.above s x = true) := hv
   rw [hv] at hab
   obtain ⟨xn, xo, xx⟩ := x
   simp only [valC, cellsC] at hh hab HV ⊢
   have x0 := cellP hh 0 _ rfl; have x1 := cellP hh 1 _ rfl; have x2 := cellP hh 2 _ rfl; have x3 := cellP hh 3 _ rfl; have x4 := cellP hh 4 _ rfl
   clear hh hv
   gi_wp2_with (refine ⟨trivial, ?_⟩; gi_at_call 45; refine (CallsIn.inRound l (callsIn_wide.2 hab)).mono ?_; rintro e w6 ⟨rfl, hb6⟩; have r6 := HRW.out w6 hb6; have r0 := cellP r6 0 _ rfl; have rz := fzP r6 0)
   exact ⟨HV.out, w6, hb6, rfl⟩
 case stop =>
  intro D W hD hq hk hc hK
  go_wp2
  have HM : Hid (MAY = false) := by show _ = _; rw [HMay.out, hq]; rfl
  rw [HM.out]
  refine leaves_marks rfl rfl [D] W (by simp) (fun x hx => ?_) (fun x hx => ?_) hc (hB5.trans (hk.below hB5.size fun k hk' e => by unfold OneP at e; omega))
  · simp at hx; subst hx; exact hK
  · simp at hx; subst hx; have := hB5.size; omega
 case done =>
  intro D1 W hD1 hq1 hB1 hK1
  have hW : Below W2.heap.size W2 W := belowP hD5 hB1
  have HQ1 : Hid (quiet (Chg.above s) NA NB = true) := hq1
  have hBW1 : Below w.heap.size w W := belowP hB5 hB1
  obtain ⟨t8, t8'⟩ : W.cell? ⟨w.heap.size, 8, none⟩ = some (.slice pt ty.length ct) ∧ W.cell? ⟨w.heap.size + 1, 8, none⟩ = some (.slice pt' ty'.length ct') := ⟨cellP (HC0.out W hW) 8 _ rfl, cellP (HC1.out W hW) 8 _ rfl⟩
  have hsW := hB1.size
  have hsD := objP_lt hK1
  clear hc1 hc2 HR1 HR2 HRB hq1
  go_wp2_with (go_at_call 43; refine (changes_fn _ _ _ _ _ _).mono ?_; rintro e w8 ⟨rfl, hw8⟩; have HW8 := (show Hid _ from hw8); clear hw8)
  have k89 := allocP2 (w := W) (.cells #[.slice pt ty.length ct] 32) (.cells #[.slice pt' ty'.length ct'] 32)
  have hb8 : Below W.heap.size W w8 := by rw [HW8.out]; exact ((Below.refl _ _).alloc (Nat.le_refl _) _).alloc (by simp) _
  have hs8 : w8.heap.size = W.heap.size + 2 := by rw [HW8.out]; simp
  rw [← HW8.out] at k89
  have hD8 : Below W2.heap.size W2 w8 := belowP hW hb8
  have hB8 : Below w.heap.size w w8 := belowP hBW1 hb8
  have hK18 : w8.heap[D1]? = some (.deferred (some [])) := (hb8.block D1 hsD).trans hK1
  have hc1 := cellP k89.1 0 _ rfl
  have hc2 := cellP k89.2 0 _ rfl
  have HK18 : Hid (w8.heap[D1]? = some (.deferred (some []))) := hK18
  clear t8 t8' k89 hK1 hK18
  refine wp_chg (n := 4) (sb := 9) (by omega) (Chg.above s) rfl (HIS.out.1.ty.below hO hB8) (HIS.out.2.1.ty.below hO hB8) (fun k hk => Nat.lt_of_lt_of_le (hO k hk) hB8.size) HIS.out.2.2.1.ty HIS.out.2.2.2.ty hc1 hc2 (by omega) (by omega) (HC3.out w8 hD8) ?assign ?body ?done ?stop
  case assign =>
   intro l x W K hK
   obtain ⟨xn, xo, xx⟩ := x
   simp only [valC, cellsC] at hK ⊢
   gi_wp2
   exact hK
  case body =>
   intro l x W Bx hB hh hBx
   have hW : Below W2.heap.size W2 W := belowP hD8 hB
   have hab := above_lv (w := W) x s
   have HRW : Hid (∀ X, Below W.heap.size W X → X.heap[w.heap.size + 1 + 1 + 1]? = some (.cells #[.bool false] 4 (0, 0))) := fun X hX => HC3.out X (belowP hW hX)
   have y7 := cellP (HC7.out W hW) 0 _ rfl
   cases hv : Chg.above s x with
   | false =>
    have HV : Hid (Chg.above s x = false) := hv
    rw [hv] at hab
    obtain ⟨xn, xo, xx⟩ := x
    simp only [valC, cellsC] at hh hab HV ⊢
    have x0 := cellP hh 0 _ rfl; have x1 := cellP hh 1 _ rfl; have x2 := cellP hh 2 _ rfl; have x3 := cellP hh 3 _ rfl; have x4 := cellP hh 4 _ rfl
    clear hh hv
    gi_wp2_with (refine ⟨trivial, ?_⟩; gi_at_call 45; refine (CallsIn.inRound l (callsIn_wide.2 hab)).mono ?_; rintro e w6 ⟨rfl, hb6⟩)
    exact ⟨HV.out, hb6⟩
   | true =>
    have HV : Hid (Chg.above s x = true) := hv
    rw [hv] at hab
    obtain ⟨xn, xo, xx⟩ := x
    simp only [valC, cellsC] at hh hab HV ⊢
    have x0 := cellP hh 0 _ rfl; have x1 := cellP hh 1 _ rfl; have x2 := cellP hh 2 _ rfl; have x3 := cellP hh 3 _ rfl; have x4 := cellP hh 4 _ rfl
    clear hh hv
    gi_wp2_with (refine ⟨trivial, ?_⟩; gi_at_call 45; refine (CallsIn.inRound l (callsIn_wide.2 hab)).mono ?_; rintro e w6 ⟨rfl, hb6⟩; have r6 := HRW.out w6 hb6; have r0 := cellP r6 0 _ rfl; have rz := fzP r6 0)
    exact ⟨HV.out, w6, hb6, rfl⟩
  case stop =>
   intro D W hD hq hk hc hK
   go_wp2
   have HM : Hid (MAY = false) := by show _ = _; rw [HMay.out, HQ1.out, hq]; rfl
   rw [HM.out]
   refine leaves_marks rfl rfl [D, D1] W (by simp; omega) (fun x hx => ?_) (fun x hx => ?_) hc (hB8.trans (hk.below hB8.size fun k hk' e => by unfold OneP at e; omega))
   · simp at hx
     rcases hx with rfl | rfl
     · exact hK
     · exact (hk.block _ (by omega) (by have := hD5.size; unfold OneP; omega)).trans HK18.out
   · simp at hx
     have := hB5.size
     rcases hx with rfl | rfl <;> omega
  case done =>
   intro D2 W' hD2 hq2 hB2 hK2
   have hW' : Below W2.heap.size W2 W' := belowP hD8 hB2
   have HQ2 : Hid (quiet (Chg.above s) ty ty' = true) := hq2
   have hBW2 : Below w.heap.size w W' := belowP hB8 hB2
   obtain ⟨t7, t7'⟩ : W'.cell? ⟨w.heap.size, 7, none⟩ = some (.slice pu us.length cu) ∧ W'.cell? ⟨w.heap.size + 1, 7, none⟩ = some (.slice pu' us'.length cu') := ⟨cellP (HC0.out W' hW') 7 _ rfl, cellP (HC1.out W' hW') 7 _ rfl⟩
   have hsW2 := hB2.size
   have hsD2 := objP_lt hK2
   clear hc1 hc2 hq2
   go_wp2_with (go_at_call 43; refine (changes_fn _ _ _ _ _ _).mono ?_; rintro e w9 ⟨rfl, hw9⟩; have HW9 := (show Hid _ from hw9); clear hw9)
   have k89 := allocP2 (w := W') (.cells #[.slice pu us.length cu] 32) (.cells #[.slice pu' us'.length cu'] 32)
   have hb9 : Below W'.heap.size W' w9 := by rw [HW9.out]; exact ((Below.refl _ _).alloc (Nat.le_refl _) _).alloc (by simp) _
   have hs9 : w9.heap.size = W'.heap.size + 2 := by rw [HW9.out]; simp
   rw [← HW9.out] at k89
   have hD9 : Below W2.heap.size W2 w9 := belowP hW' hb9
   have hB9 : Below w.heap.size w w9 := belowP hBW2 hb9
   have HK19 : Hid (w9.heap[D1]? = some (.deferred (some [])) ∧ w9.heap[D2]? = some (.deferred (some []))) := ⟨(hb9.block D1 (by omega)).trans ((hB2.block D1 (by omega)).trans HK18.out), (hb9.block D2 hsD2).trans hK2⟩
   have hc1 := cellP k89.1 0 _ rfl
   have hc2 := cellP k89.2 0 _ rfl
   clear t7 t7' k89 hK2
   refine wp_chg (n := 4) (sb := 10) (by omega) (Chg.bad u s) rfl (HIS.out.1.us.below hO hB9) (HIS.out.2.1.us.below hO hB9) (fun k hk => Nat.lt_of_lt_of_le (hO k hk) hB9.size) HIS.out.2.2.1.us HIS.out.2.2.2.us hc1 hc2 (by omega) (by omega) (HC3.out w9 hD9) ?assign ?body ?done ?stop
   case assign =>
    intro l x W K hK
    obtain ⟨xn, xo, xx⟩ := x
    simp only [valC, cellsC] at hK ⊢
    gi_wp2
    exact hK
   case body =>
    intro l x W Bx hB hh hBx
    have hW : Below W2.heap.size W2 W := belowP hD9 hB
    have hab := above_lv (w := W) x s
    have HRW : Hid (∀ X, Below W.heap.size W X → X.heap[w.heap.size + 1 + 1 + 1]? = some (.cells #[.bool false] 4 (0, 0)) ∧ X.heap[w1.heap.size]? = some (.cells #[.int .i64 s] 2 (0, 0)) ∧ X.heap[w.heap.size + 1 + 1]? = some (.cells #[.string u] 9 (0, 0)) ∧ X.heap[Bx]? = some (.cells (cellsC x).toArray 83 (0, 0))) := fun X hX => ⟨HC3.out X (belowP hW hX), HC7.out X (belowP hW hX), HC2.out X (belowP hW hX), (hX.block Bx (objP_lt hh)).trans hh⟩
    have y7 := cellP (HC7.out W hW) 0 _ rfl
    have HBad : Hid (Chg.bad u s x = (Chg.above s x || (!(x.name.toList == u.toList) && least s x.old))) := rfl
    cases hv : Chg.above s x with
    | true =>
     have HV : Hid (Chg.bad u s x = true) := by show _ = _; rw [HBad.out, hv]; rfl
     rw [hv] at hab
     clear hv HBad
     obtain ⟨xn, xo, xx⟩ := x
     simp only [valC, cellsC] at hh hab HRW ⊢
     have x0 := cellP hh 0 _ rfl; have x1 := cellP hh 1 _ rfl; have x2 := cellP hh 2 _ rfl; have x3 := cellP hh 3 _ rfl; have x4 := cellP hh 4 _ rfl
     clear hh
     gi_wp2_with (refine ⟨trivial, ?_⟩; gi_at_call 45; refine (CallsIn.inRound l (callsIn_wide.2 hab)).mono ?_; rintro e w6 ⟨rfl, hb6⟩; obtain ⟨r6, s6, u6, x6⟩ := HRW.out w6 hb6; have r0 := cellP r6 0 _ rfl; have rz := fzP r6 0; have s0 := cellP s6 0 _ rfl; have u0 := cellP u6 0 _ rfl; have f0 := cellP x6 0 _ rfl; have f1 := cellP x6 1 _ rfl; have f2 := cellP x6 2 _ rfl)
     exact ⟨HV.out, w6, hb6, rfl⟩
    | false =>
     rw [hv] at hab HBad
     clear hv
     obtain ⟨xn, xo, xx⟩ := x
     cases hn : (xn.toList == u.toList) with
     | true =>
      have HV : Hid (Chg.bad u s ⟨xn, xo, xx⟩ = false) := by show _ = _; rw [HBad.out]; simp [hn]
      clear HBad
      simp only [valC, cellsC] at hh hab HRW ⊢
      have x0 := cellP hh 0 _ rfl; have x1 := cellP hh 1 _ rfl; have x2 := cellP hh 2 _ rfl; have x3 := cellP hh 3 _ rfl; have x4 := cellP hh 4 _ rfl
      clear hh
      gi_wp2_with (refine ⟨trivial, ?_⟩; gi_at_call 45; refine (CallsIn.inRound l (callsIn_wide.2 hab)).mono ?_; rintro e w6 ⟨rfl, hb6⟩; obtain ⟨r6, s6, u6, x6⟩ := HRW.out w6 hb6; have r0 := cellP r6 0 _ rfl; have rz := fzP r6 0; have s0 := cellP s6 0 _ rfl; have u0 := cellP u6 0 _ rfl; have f0 := cellP x6 0 _ rfl; have f1 := cellP x6 1 _ rfl; have f2 := cellP x6 2 _ rfl)
      exact ⟨HV.out, hb6⟩
     | false =>
      cases xo with
      | none =>
       have HV : Hid (Chg.bad u s ⟨xn, none, xx⟩ = false) := by show _ = _; rw [HBad.out]; simp [least]
       clear HBad
       simp only [valC, cellsC] at hh hab HRW ⊢
       have x0 := cellP hh 0 _ rfl; have x1 := cellP hh 1 _ rfl; have x2 := cellP hh 2 _ rfl; have x3 := cellP hh 3 _ rfl; have x4 := cellP hh 4 _ rfl
       clear hh
       gi_wp2_with (refine ⟨trivial, ?_⟩; gi_at_call 45; refine (CallsIn.inRound l (callsIn_wide.2 hab)).mono ?_; rintro e w6 ⟨rfl, hb6⟩; obtain ⟨r6, s6, u6, x6⟩ := HRW.out w6 hb6; have r0 := cellP r6 0 _ rfl; have rz := fzP r6 0; have s0 := cellP s6 0 _ rfl; have u0 := cellP u6 0 _ rfl; have f0 := cellP x6 0 _ rfl; have f1 := cellP x6 1 _ rfl; have f2 := cellP x6 2 _ rfl)
       exact ⟨HV.out, hb6⟩
      | some y =>
       by_cases hy : s ≤ y
       · have HV : Hid (Chg.bad u s ⟨xn, some y, xx⟩ = true) := by show _ = _; rw [HBad.out]; simp [least, hn, hy]
         clear HBad
         simp only [valC, cellsC] at hh hab HRW ⊢
         have x0 := cellP hh 0 _ rfl; have x1 := cellP hh 1 _ rfl; have x2 := cellP hh 2 _ rfl; have x3 := cellP hh 3 _ rfl; have x4 := cellP hh 4 _ rfl
         clear hh
         gi_wp2_with (refine ⟨trivial, ?_⟩; gi_at_call 45; refine (CallsIn.inRound l (callsIn_wide.2 hab)).mono ?_; rintro e w6 ⟨rfl, hb6⟩; obtain ⟨r6, s6, u6, x6⟩ := HRW.out w6 hb6; have r0 := cellP r6 0 _ rfl; have rz := fzP r6 0; have s0 := cellP s6 0 _ rfl; have u0 := cellP u6 0 _ rfl; have f0 := cellP x6 0 _ rfl; have f1 := cellP x6 1 _ rfl; have f2 := cellP x6 2 _ rfl)
         exact ⟨HV.out, w6, hb6, rfl⟩
       · have HV : Hid (Chg.bad u s ⟨xn, some y, xx⟩ = false) := by show _ = _; rw [HBad.out]; simp [least, hn, hy]
         clear HBad
         simp only [valC, cellsC] at hh hab HRW ⊢
         have x0 := cellP hh 0 _ rfl; have x1 := cellP hh 1 _ rfl; have x2 := cellP hh 2 _ rfl; have x3 := cellP hh 3 _ rfl; have x4 := cellP hh 4 _ rfl
         clear hh
         gi_wp2_with (refine ⟨trivial, ?_⟩; gi_at_call 45; refine (CallsIn.inRound l (callsIn_wide.2 hab)).mono ?_; rintro e w6 ⟨rfl, hb6⟩; obtain ⟨r6, s6, u6, x6⟩ := HRW.out w6 hb6; have r0 := cellP r6 0 _ rfl; have rz := fzP r6 0; have s0 := cellP s6 0 _ rfl; have u0 := cellP u6 0 _ rfl; have f0 := cellP x6 0 _ rfl; have f1 := cellP x6 1 _ rfl; have f2 := cellP x6 2 _ rfl)
         exact ⟨HV.out, hb6⟩
   case stop =>
    intro D W hD hq hk hc hK
    go_wp2
    have HM : Hid (MAY = false) := by show _ = _; rw [HMay.out, HQ1.out, HQ2.out, hq]; rfl
    rw [HM.out]
    refine leaves_marks rfl rfl [D, D2, D1] W (by simp; omega) (fun x hx => ?_) (fun x hx => ?_) hc (hB9.trans (hk.below hB9.size fun k hk' e => by unfold OneP at e; omega))
    · simp at hx
      rcases hx with rfl | rfl | rfl
      · exact hK
      · exact (hk.block _ (by omega) (by have := hD5.size; unfold OneP; omega)).trans HK19.out.2
      · exact (hk.block _ (by omega) (by have := hD5.size; unfold OneP; omega)).trans HK19.out.1
    · simp at hx
      have := hB5.size
      rcases hx with rfl | rfl | rfl <;> omega
   case done =>
    intro D3 W3 hD3' hq3 hB3 hK3
    have hW3 : Below W2.heap.size W2 W3 := belowP hD9 hB3
    have HM : Hid (MAY = true) := by show _ = _; rw [HMay.out, HQ1.out, HQ2.out, hq3]; rfl
    have hBW3 : Below w.heap.size w W3 := belowP hB9 hB3
    have r0 := cellP (HC3.out W3 hW3) 0 _ rfl
    have rz := fzP (HC3.out W3 hW3) 0
    have HRC : Hid (W3.heap[w.heap.size + 1 + 1 + 1]? = some (.cells #[.bool false] 4 (0, 0))) := HC3.out W3 hW3
    have HK3 : Hid (W3.heap[D3]? = some (.deferred (some [])) ∧ W3.heap[D2]? = some (.deferred (some [])) ∧ W3.heap[D1]? = some (.deferred (some []))) := ⟨hK3, (hB3.block _ (by omega)).trans HK19.out.2, (hB3.block _ (by omega)).trans HK19.out.1⟩
    clear hK3 hq3 hc1 hc2
    go_wp2
    rw [HM.out]
    have hks := KeepsOthers.setCell W3 ⟨w.heap.size + 1 + 1 + 1, 0, none⟩ (.bool true)
    refine leaves_marks rfl rfl [D3, D2, D1] _ (by simp; omega) (fun x hx => ?_) (fun x hx => ?_) (World.cell?_setCell_same' _ _ _ (by rw [cellP HRC.out 0 _ rfl]; rfl)) (hBW3.setCell (p := ⟨w.heap.size + 1 + 1 + 1, 0, none⟩) (by simp; omega) _)
    · simp at hx
      rcases hx with rfl | rfl | rfl
      · exact hks.same _ _ HK3.out.1 rfl
      · exact hks.same _ _ HK3.out.2.1 rfl
      · exact hks.same _ _ HK3.out.2.2 rfl
    · simp at hx
      have := hB5.size
      rcases hx with rfl | rfl | rfl <;> omega
end
end Go.Proofs.YtnngalkdjgjmbaaGreat
namespace Go.Proofs.YtnngalkdjgjmbaaGreat
open Go.RowKit
theorem exec_loadR {a : Act} {o : Oper} {m : Operand} {T : TypeId} {ad : Addr} {w : World} {v : Value} (hop : o.op = Op.load T m) (hm : a.eval m = .pointer (some ad)) (hl : (Instr.loadAt T (.pointer (some ad))).run Tryz.prog w = .ok v w) : (execOp a.eval o).run Tryz.prog w = .ok (.value v) w := by
 simp [execOp, hop, hm, hl]
theorem lit_tMember : tMember.toList = [109, 46, 114, 111, 111, 109, 46, 109, 101, 109, 98, 101, 114] := by rw [Lib.toList_data]
theorem lit_tCreate : tCreate.toList = [109, 46, 114, 111, 111, 109, 46, 99, 114, 101, 97, 116, 101] := by rw [Lib.toList_data]
theorem lit_tPower : tPower.toList = [109, 46, 114, 111, 111, 109, 46, 112, 111, 119, 101, 114, 95, 108, 101, 118, 101, 108, 115] := by rw [Lib.toList_data]
structure IsV (w : World) (eb : Nat) (e : Ev) (p : Pt) : Prop where
 blk : w.heap[eb]? = some (.cells (cellsE e p).toArray 29 (0, 0))
 ev : IsE (· < w.heap.size) w e p
section
variable {w : World} {eb : Nat} {e : Ev} {p : Pt}
theorem IsV.below {w' : World} (x : IsV w eb e p) (b : Below w.heap.size w w') : IsV w' eb e p := ⟨(b.block eb (objP_lt x.blk)).trans x.blk, x.ev.carry fun k hk => ⟨Nat.lt_of_lt_of_le hk b.size, b.block k hk⟩⟩
theorem IsV.typ (x : IsV w eb e p) : w.cell? ⟨eb, 1, none⟩ = some (.string e.typ) := cellP x.blk 1 _ rfl
theorem IsV.rangeJ (x : IsV w eb e p) : w.rangeAt eb 5 [.int .i64 e.content.kind, .int .i64 e.content.int, .string e.content.text, .slice p.pk e.content.keys.length p.ck, .slice p.pl e.content.list.length p.cl] := range_sub x.blk 5 rfl
theorem IsV.rangeE (x : IsV w eb e p) : w.rangeAt eb 0 (cellsE e p) := range_sub x.blk 0 rfl
theorem IsV.runJ (x : IsV w eb e p) : (Instr.loadAt 25 (.pointer (some ⟨eb, 5, none⟩))).run Tryz.prog w = .ok (.agg #[.int .i64 e.content.kind, .int .i64 e.content.int, .string e.content.text, .slice p.pk e.content.keys.length p.ck, .slice p.pl e.content.list.length p.cl]) w := run_loadAt_mid w eb 5 25 [.int .i64 e.content.kind, .int .i64 e.content.int, .string e.content.text, .slice p.pk e.content.keys.length p.ck, .slice p.pl e.content.list.length p.cl] _ x.rangeJ Tryz.underlying25 rfl (by kernel_rfl)
end
theorem isV_new {O : Nat → Prop} {w : World} {e : Ev} {p : Pt} (h : IsE O w e p) (hO : ∀ b, O b → b < w.heap.size) {W : World} (hb : Below w.heap.size w W) (hX : W.heap[w.heap.size]? = some (.cells (cellsE e p).toArray 29 (0, 0))) : IsV W w.heap.size e p :=
 ⟨hX, h.carry fun k hk => ⟨Nat.lt_of_lt_of_le (hO k hk) hb.size, hb.block k (hO k hk)⟩⟩
theorem setCells_mid (b t : Nat) : ∀ (vs pre cur post : List Value) (w : World), w.heap[b]? = some (.cells (pre ++ (cur ++ post)).toArray t (0, 0)) → cur.length = vs.length → (w.setCells b pre.length vs).heap[b]? = some (.cells (pre ++ (vs ++ post)).toArray t (0, 0))
 | [], pre, cur, post, w, h, hl => by
  obtain rfl : cur = [] := List.eq_nil_of_length_eq_zero hl
  exact h
 | v :: r, pre, c :: cur, post, w, h, hl => by
  have h0 : (w.setCell ⟨b, pre.length, none⟩ v).heap[b]? = some (.cells ((pre ++ [v]) ++ (cur ++ post)).toArray t (0, 0)) := by
   rw [heap_setCell_same w b pre.length _ _ _ h]
   simp
  have := setCells_mid b t r (pre ++ [v]) cur post _ h0 (by simpa using hl)
  rw [List.length_append] at this
  simpa [World.setCells] using this
theorem setCells_keep (b : Nat) : ∀ (vs : List Value) (w : World) (i : Nat), Keep (OneP b) w (w.setCells b i vs)
 | [], w, _ => Keep.refl _ w
 | v :: r, w, i => (Keep.setCell (p := ⟨b, i, none⟩) (Keep.refl (OneP b) w) (fun _ => (rfl : b = b)) v).then (setCells_keep b r _ (i + 1))
theorem wpList_store_to {ops : Array Oper} {rest : List Oper} {op : Oper} {a : Act} {w : World} {Q : Exit → Act → World → Prop} (hgd : op.guard = none) (ty : TypeId) (x y : Operand) (ho : op.op = .store ty x y)
    (b o : Nat) (cells : Array Value) (hx : a.eval x = .pointer (some ⟨b, o, none⟩)) (hy : a.eval y = .agg cells)
    (ht : w.there b o cells.size) (hi : (Tryz.prog.info? ty).map (·.size) = some cells.size) (h1 : cells.all (·.oneCell') = true) (W' : World) (hW' : W' = w.setCells b o cells.toList)
    (h : wpList Tryz.prog ops Q rest (a.put op.dst undef) W') : wpList Tryz.prog ops Q (op :: rest) a w := by
 subst hW'
 exact wpList_store_mid hgd ty x y ho b o cells hx hy ht hi h1 h
end Go.Proofs.YtnngalkdjgjmbaaGreat
namespace Go.Proofs.YtnngalkdjgjmbaaGreat
open Go.RowKit Go.Maps
def n7 (l : Lv) : List Int := [l.ban, l.kick, l.invite, l.redact, l.state, l.events, l.users]
theorem rnumbers_any {w : World} {l : Lv} {p : Pl} :
    Calls Tryz.prog 32 #[valL l p] w fun e w' => (∃ b, e = .returned (.slice (some ⟨b, 0, none⟩) 7 7) ∧ w'.heap[b]? = some (.cells ((n7 l).map (Value.int .i64)).toArray 2 (0, 0))) ∧ Below w.heap.size w w' := by
 obtain ⟨ban, kick, invite, redact, state, events, users, us, ty⟩ := l
 obtain ⟨pu, cu, pt, ct⟩ := p
 simp only [valL, cellsL]
 go_enter Tryz.func32, Tryz.ntmps32
 go_wp2
 go_ret
 refine ⟨⟨_, rfl, ?_⟩, ((Below.refl _ _).alloc (Nat.le_refl _) _).alloc (by simp) _⟩
 exact (allocP2 (w := w) (.cells #[.int .i64 ban, .int .i64 kick, .int .i64 invite, .int .i64 redact, .int .i64 state, .int .i64 events, .int .i64 users, .slice pu us.length cu, .slice pt ty.length ct] 34) (.cells #[.int .i64 ban, .int .i64 kick, .int .i64 invite, .int .i64 redact, .int .i64 state, .int .i64 events, .int .i64 users] 2)).2
theorem cells7 {w : World} {b : Nat} {l : List Int} (h : w.heap[b]? = some (.cells (l.map (Value.int .i64)).toArray 2 (0, 0))) {k : Nat} (hk : k < l.length) : w.cell? ⟨b, k, none⟩ = some (.int .i64 (l.getD k 0)) := by
 refine cellP h k _ ?_
 rw [List.getElem?_toArray, List.getElem?_map, List.getElem?_eq_getElem hk, List.getD_eq_getElem?_getD, List.getElem?_eq_getElem hk]
 rfl
theorem fieldsNamed : Tryz.prog.underlying 50 = some (.struct (Tryz.prog.fieldsOf 50)) := by kernel_rfl
theorem stoodNamed : Tryz.prog.stoodInHeld 50 = false := by kernel_rfl
theorem fieldsN : (Tryz.prog.fieldsOf 50).toList = [{ name := "Name", type := 9, offset := 0, embedded := false, tag := "", pkgPath := "", byteOffset := 0 }, { name := "Level", type := 2, offset := 1, embedded := false, tag := "", pkgPath := "", byteOffset := 16 }] := by kernel_rfl
theorem named_neq (w : World) (u : ByteArray) (x : Int) : (binOp .neq 50 (.agg #[.string u, .int .i64 x]) (.agg #[.string u, .int .i64 x])).run Tryz.prog w = .ok (.bool false) w := by
 have h9 : Tryz.prog.underlying 9 = some .string := by kernel_rfl
 have h2 : Tryz.prog.underlying 2 = some (.int .i64) := by kernel_rfl
 rw [run_neq_struct, run_equalIn_agg w 9999 50 _ _ fieldsNamed stoodNamed, fieldsN]
 have p0 : ∀ W, (part 9 #[.string u, .int .i64 x] 0).run Tryz.prog W = .ok (.string u) W := fun W => by simp [go_sem, part]
 have p1 : ∀ W, (part 2 #[.string u, .int .i64 x] 1).run Tryz.prog W = .ok (.int .i64 x) W := fun W => by simp [go_sem, part]
 have e0 : ∀ (W : World), (Op.equalIn 9999 9 (.string u) (.string u)).run Tryz.prog W = .ok true W := fun W => by rw [run_equalIn_string W 9998 9 u u h9]; simp
 have e1 : ∀ (W : World), (Op.equalIn 9999 2 (.int .i64 x) (.int .i64 x)).run Tryz.prog W = .ok true W := fun W => by rw [run_equalIn_int W 9998 2 .i64 .i64 x x h2]; simp
 simp [Op.eqFields, p0, p1, e0, e1, Result.andThen]
theorem rsame_eq {O : Nat → Prop} {w : World} {p q : Option Addr} {c d : Nat} {l : Nms} (h1 : RdN O w p c l) (h2 : RdN O w q d l) (hO : ∀ k, O k → k < w.heap.size) (hz : SzN l) :
    Calls Tryz.prog 33 #[.slice p l.length c, .slice q l.length d] w fun e w' => e = .returned (.bool true) ∧ Below w.heap.size w w' := by
 obtain ⟨n, hn⟩ : ∃ n, l.length = n := ⟨_, rfl⟩
 have HN : Hid (l.length = n) := hn
 have hz1 := hz.1
 have hc1 := h1.1.1
 have hc2 := h2.1.1
 rw [hn] at hz1 hc1 hc2 ⊢
 clear hn
 go_enter Tryz.func33, Tryz.ntmps33
 go_wp2
 go_loopw [5] (fun i wr => ∃ k : Nat, i = .int .i64 k ∧ k ≤ n ∧ Below w.heap.size w wr) (fun i _ => n - (intOf i).toNat)
 case atStart => exact ⟨0, rfl, Nat.zero_le _, Below.refl _ _⟩
 case round =>
  obtain ⟨k, rfl, hk, hbr⟩ := hrel
  have hk1 : ∀ (wx : World) (m : Nat), Below w.heap.size w wx → Below w.heap.size w (wx.drewN m) := fun wx m h => ⟨h.os, h.tape, h.output, h.size, h.block⟩
  by_cases hkn : k < n
  · have hkl : k < l.length := by rw [HN.out]; exact hkn
    obtain ⟨b, o, rfl, hb, g1, g2⟩ := h1.at hkl
    obtain ⟨b', o', rfl, hb', g1', g2'⟩ := h2.at hkl
    have x1 := (hbr.cell (p := ⟨b, o + k * 2, none⟩) (hO b hb)).trans g1
    have x2 := (hbr.cell (p := ⟨b, o + k * 2 + 1, none⟩) (hO b hb)).trans g2
    have y1 := (hbr.cell (p := ⟨b', o' + k * 2, none⟩) (hO b' hb')).trans g1'
    have y2 := (hbr.cell (p := ⟨b', o' + k * 2 + 1, none⟩) (hO b' hb')).trans g2'
    generalize l.getD k zN = x at x1 x2 y1 y2
    obtain ⟨xn, xl⟩ := x
    simp only at x1 x2 y1 y2
    have hbl : b < wr.heap.size := Nat.lt_of_lt_of_le (hO b hb) hbr.size
    have hbl' : b' < wr.heap.size := Nat.lt_of_lt_of_le (hO b' hb') hbr.size
    have hne := fun W => named_neq W xn xl
    clear g1 g2 g1' g2'
    go_wp2_with fail
    go_quiet (fail)
    go_wp2_with fail
    go_roundw
    case rel => exact ⟨k + 1, by simp, by omega, hk1 _ _ hbr⟩
    case measure => simp [intOf]; omega
  · obtain rfl : k = n := by omega
    go_wp2
    go_ret
    exact ⟨rfl, hbr⟩
theorem rSame_eq {O : Nat → Prop} {w : World} {a : Lv} {pa pb : Pl} (ha : IsL O w a pa) (hb : IsL O w a pb) (hO : ∀ k, O k → k < w.heap.size) (hz : SzL a) :
    Calls Tryz.prog 9 #[valL a pa, valL a pb] w fun e w' => e = .returned (.bool true) ∧ Below w.heap.size w w' := by
 obtain ⟨W2, hW0⟩ : ∃ W0, W0 = (w.alloc (.cells (cellsL a pa).toArray 34)).alloc (.cells (cellsL a pb).toArray 34) := ⟨_, rfl⟩
 have hb0 : Below w.heap.size w W2 := by rw [hW0]; exact ((Below.refl _ _).alloc (Nat.le_refl _) _).alloc (by simp) _
 have hs0 : w.heap.size + 2 ≤ W2.heap.size := by rw [hW0]; simp
 have k01 := allocP2 (w := w) (.cells (cellsL a pa).toArray 34) (.cells (cellsL a pb).toArray 34)
 rw [← hW0] at k01
 have HU : Hid (∀ X, Below w.heap.size w X → Calls Tryz.prog 33 #[.slice pa.pu a.byUser.length pa.cu, .slice pb.pu a.byUser.length pb.cu] X fun e w' => e = .returned (.bool true) ∧ Below X.heap.size X w') := fun X hX => rsame_eq (ha.us.below hO hX) (hb.us.below hO hX) (fun k hk => Nat.lt_of_lt_of_le (hO k hk) hX.size) hz.us
 have HT : Hid (∀ X, Below w.heap.size w X → Calls Tryz.prog 33 #[.slice pa.pt a.byType.length pa.ct, .slice pb.pt a.byType.length pb.ct] X fun e w' => e = .returned (.bool true) ∧ Below X.heap.size X w') := fun X hX => rsame_eq (ha.ty.below hO hX) (hb.ty.below hO hX) (fun k hk => Nat.lt_of_lt_of_le (hO k hk) hX.size) hz.ty
 have HN1 : Hid (∀ X : World, Calls Tryz.prog 32 #[valL a pa] X fun e w' => (∃ b, e = .returned (.slice (some ⟨b, 0, none⟩) 7 7) ∧ w'.heap[b]? = some (.cells ((n7 a).map (Value.int .i64)).toArray 2 (0, 0))) ∧ Below X.heap.size X w') := fun X => rnumbers_any
 have HN2 : Hid (∀ X : World, Calls Tryz.prog 32 #[valL a pb] X fun e w' => (∃ b', e = .returned (.slice (some ⟨b', 0, none⟩) 7 7) ∧ w'.heap[b']? = some (.cells ((n7 a).map (Value.int .i64)).toArray 2 (0, 0))) ∧ Below X.heap.size X w') := fun X => rnumbers_any
 have HL7 : Hid ((n7 a).length = 7) := rfl
 have HK : Hid (∀ X, Below W2.heap.size W2 X → X.heap[w.heap.size]? = some (.cells (cellsL a pa).toArray 34 (0, 0)) ∧ X.heap[w.heap.size + 1]? = some (.cells (cellsL a pb).toArray 34 (0, 0))) := fun X hX => ⟨(hX.block _ (by omega)).trans k01.1, (hX.block _ (by omega)).trans k01.2⟩
 generalize n7 a = NA at HN1 HN2 HL7
 obtain ⟨ban, kick, invite, redact, state, events, users, us, ty⟩ := a
 obtain ⟨pu, cu, pt, ct⟩ := pa
 obtain ⟨pu', cu', pt', ct'⟩ := pb
 clear ha hb hz k01 hO
 simp only [valL, cellsL] at hW0 HK HN1 HN2 HT HU ⊢
 go_enter Tryz.func9, Tryz.ntmps9
 go_upto_region 1 with fail
 rw [← hW0]
 clear hW0
 have HC0 : Hid (∀ X, Below W2.heap.size W2 X → X.heap[w.heap.size]? = some (.cells #[.int .i64 ban, .int .i64 kick, .int .i64 invite, .int .i64 redact, .int .i64 state, .int .i64 events, .int .i64 users, .slice pu us.length cu, .slice pt ty.length ct] 34 (0, 0))) := fun X hX => (HK.out X hX).1
 have HC1 : Hid (∀ X, Below W2.heap.size W2 X → X.heap[w.heap.size + 1]? = some (.cells #[.int .i64 ban, .int .i64 kick, .int .i64 invite, .int .i64 redact, .int .i64 state, .int .i64 events, .int .i64 users, .slice pu' us.length cu', .slice pt' ty.length ct'] 34 (0, 0))) := fun X hX => (HK.out X hX).2
 refine wp_narrow ?_
 refine wp_region_in (by kernel_rfl) (fun w' => Below W2.heap.size W2 w') ?_
 change wpIn _ _ _ _ _ _ _ _ (World.drew _)
 have hD : Below W2.heap.size W2 W2.drew := (Below.refl _ _).drew
 refine wpIn_tp (i := 0) (d := some 8) rfl (by (intro wq hq; have zz := HC0.out wq hq; have z0 := cellP zz 0 _ rfl; have z1 := cellP zz 1 _ rfl; have z2 := cellP zz 2 _ rfl; have z3 := cellP zz 3 _ rfl; have z4 := cellP zz 4 _ rfl; have z5 := cellP zz 5 _ rfl; have z6 := cellP zz 6 _ rfl; have z7 := cellP zz 7 _ rfl; have z8 := cellP zz 8 _ rfl; go_simp; first | done | with_reducible rfl)) ?_
 refine wpIn_tp (i := 2) (d := some 10) rfl (by (intro wq hq; have zz := HC1.out wq hq; have z0 := cellP zz 0 _ rfl; have z1 := cellP zz 1 _ rfl; have z2 := cellP zz 2 _ rfl; have z3 := cellP zz 3 _ rfl; have z4 := cellP zz 4 _ rfl; have z5 := cellP zz 5 _ rfl; have z6 := cellP zz 6 _ rfl; have z7 := cellP zz 7 _ rfl; have z8 := cellP zz 8 _ rfl; go_simp; first | done | with_reducible rfl)) ?_
 refine wpIn_do (i := 1) hD (by kernel_rfl) rfl (by rfl) ?_
 intro K hK
 go_simp
 go_wp2_with (go_at_call 32; refine (HN1.out _).mono ?_; rintro e w3 ⟨⟨b3, rfl, hr3⟩, hb3⟩)
 have hD3 : Below W2.heap.size W2 w3 := belowP hD hb3
 refine wpIn_do (i := 3) hD3 (by kernel_rfl) rfl (by rfl) ?_
 intro K hK
 go_simp
 go_wp2_with (go_at_call 32; refine (HN2.out _).mono ?_; rintro e w4 ⟨⟨b4, rfl, hr4⟩, hb4⟩)
 have hD4 : Below W2.heap.size W2 w4 := belowP hD3 hb4
 refine wpIn_tk (i := 4) (d := some 5) rfl ?_
 refine wpIn_tk (i := 5) (d := some 6) rfl ?_
 refine wpIn_done hD4 (by kernel_rfl) ?_ _
 have hlt3 := objP_lt hr3
 have hr34 := (hb4.block b3 hlt3).trans hr3
 have HR3 := (show Hid _ from hr34)
 have HR4 := (show Hid _ from hr4)
 have hlt4 := objP_lt hr4
 have hlt34 := objP_lt hr34
 have HBW : Hid (Below w.heap.size w w4) := belowP hb0 hD4
 have HB0 : Hid (Below W2.heap.size W2 w4) := hD4
 clear hr3 hr34 hr4 hD hD3 hb3 hb4 hlt3 HN1 HN2 HC0 HC1
 go_wp2
 go_loopw [7] (fun i wr => ∃ k : Nat, i = .int .i64 k ∧ k ≤ 7 ∧ Below w4.heap.size w4 wr) (fun i _ => 7 - (intOf i).toNat)
 case atStart => exact ⟨0, rfl, by omega, Below.refl _ _⟩
 case round =>
  obtain ⟨k, rfl, hk, hbr⟩ := hrel
  have hk1 : ∀ (wx : World) (m : Nat), Below w4.heap.size w4 wx → Below w4.heap.size w4 (wx.drewN m) := fun wx m h => ⟨h.os, h.tape, h.output, h.size, h.block⟩
  by_cases hkn : k < 7
  · have x3 := cells7 ((hbr.block b3 hlt34).trans HR3.out) (k := k) (by rw [HL7.out]; exact hkn)
    have x4 := cells7 ((hbr.block b4 hlt4).trans HR4.out) (k := k) (by rw [HL7.out]; exact hkn)
    generalize NA.getD k 0 = x at x3 x4
    have hl3 : b3 < wr.heap.size := Nat.lt_of_lt_of_le hlt34 hbr.size
    have hl4 : b4 < wr.heap.size := Nat.lt_of_lt_of_le hlt4 hbr.size
    have hbq : (x == x) = true := by simp
    go_wp2_with fail
    go_quiet (fail)
    go_wp2_with fail
    go_roundw
    case rel => exact ⟨k + 1, by simp, by omega, hk1 _ _ hbr⟩
    case measure => simp [intOf]; omega
  · obtain rfl : k = 7 := by omega
    obtain ⟨e0, e1⟩ := HK.out wr (belowP HB0.out hbr)
    have c7 := cellP e0 7 _ rfl; have d7 := cellP e1 7 _ rfl
    have hU := HU.out wr (belowP HBW.out hbr)
    clear e0 e1
    go_wp2_with (first
     | (have _h := hdone; go_at_call 33; refine hT.mono ?_; rintro e w7 ⟨rfl, hb7⟩)
     | (go_at_call 33; refine hU.mono ?_; rintro e w6 ⟨rfl, hb6⟩
        have hdone : True := trivial
        obtain ⟨e0, e1⟩ := HK.out w6 (belowP HB0.out (belowP hbr hb6))
        clear c7 d7
        have c8 := cellP e0 8 _ rfl; have d8 := cellP e1 8 _ rfl
        have hT := HT.out w6 (belowP HBW.out (belowP hbr hb6))
        clear e0 e1))
    go_ret
    exact ⟨rfl, belowP HBW.out (belowP hbr (belowP hb6 hb7))⟩
end Go.Proofs.YtnngalkdjgjmbaaGreat
namespace Go.Proofs.YtnngalkdjgjmbaaGreat
open Go.RowKit
abbrev nineT : List ByteArray := [kBan, kByType, kEvents, kInvite, kKick, kRedact, kState, kByUser, kUsers]
def keysT (t : ByteArray) : List ByteArray := if eqT t tCreate then [nCreator] else if eqT t tMember then [nMemb] else if eqT t tPower then nineT else if eqT t tRules then [nRule] else []
def keptT (ks : List ByteArray) (c : J) : J := .mk 5 0 nix (ks.filter fun k => (getT c k).isSome) (ks.filterMap (getT c))
def redT (e : Ev) : Ev := if shapedE e then { e with content := ordR (keptT (keysT e.typ) e.content) } else Ev.zero
theorem kept_look (c : J) (s : ByteArray) : ∀ (ks : List ByteArray), s ∈ ks → lookV (ks.filter fun k => (getT c k).isSome) (ks.filterMap (getT c)) s = getT c s
 | [], h => by cases h
 | k :: ks, h => by
  have ih := kept_look c s ks
  rw [List.filter_cons, List.filterMap_cons]
  cases hg : getT c k with
  | none =>
   simp only [Option.isSome_none, Bool.false_eq_true, if_false]
   rcases List.mem_cons.1 h with rfl | h
   · by_cases hm : s ∈ ks
     · rw [ih hm, hg]
     · have : ∀ l : List ByteArray, s ∉ l → ∀ m : List J, lookV l m s = none := by
         intro l
         induction l with
         | nil => intro _ m; unfold lookV; rfl
         | cons a l ihl =>
          intro hn m
          cases m with
          | nil => unfold lookV; rfl
          | cons v m =>
           unfold lookV
           rw [if_neg (fun he => hn (by rw [toList_inj (eq_of_beq he)]; exact List.mem_cons_self ..))]
           exact ihl (fun h => hn (List.mem_cons_of_mem _ h)) m
       rw [this _ (fun h => hm (List.mem_filter.1 h).1), hg]
   · exact ih h
  | some v =>
   simp only [Option.isSome_some, if_true]
   unfold lookV
   by_cases he : (k.toList == s.toList) = true
   · rw [if_pos he, ← toList_inj (eq_of_beq he), hg]
   · rw [if_neg he]
     rcases List.mem_cons.1 h with rfl | h
     · exact absurd (beq_self_eq_true _) he
     · exact ih h
theorem get_mem {c v : J} {s : ByteArray} (h : getT c s = some v) : v ∈ c.ls := by
 unfold getT at h
 split at h
 · exact lookJ_mem h
 · cases h
theorem twice_filter (p : ByteArray → Bool) : ∀ ks : List ByteArray, noKeyTwice ks = true → noKeyTwice (ks.filter p) = true
 | [], _ => rfl
 | k :: ks, h => by
  unfold noKeyTwice at h
  rw [Bool.and_eq_true] at h
  have ih := twice_filter p ks h.2
  rw [List.filter_cons]
  split
  · unfold noKeyTwice
    rw [ih, Bool.and_true, Bool.not_eq_true', List.any_eq_false]
    intro x hx
    have h1 : ks.any (fun y => decide (y.data = k.data)) = false := by have h3 := h.1; rw [Bool.not_eq_true'] at h3; exact h3
    exact List.any_eq_false.1 h1 x (List.mem_filter.1 hx).1
  · exact ih
theorem kept_len (c : J) : ∀ ks : List ByteArray, (ks.filter fun k => (getT c k).isSome).length = (ks.filterMap (getT c)).length
 | [] => rfl
 | k :: ks => by
  rw [List.filter_cons, List.filterMap_cons]
  cases getT c k with
  | none => simpa using kept_len c ks
  | some v => simpa using kept_len c ks
theorem kept_good {d : Nat} {c : J} {ks : List ByteArray} (hg : goodJ (d + 1) c = true) (hl : ks.all letters = true) (h2 : noKeyTwice ks = true) : goodJ (d + 1) (keptT ks c) = true := by
 unfold keptT goodJ
 have e1 : ((ks.filterMap (getT c)).all (goodJ d)) = true := List.all_eq_true.2 fun v hv => by
  obtain ⟨k, _, hk⟩ := List.mem_filterMap.1 hv
  exact good_in hg (get_mem hk)
 have e2 : ((ks.filter fun k => (getT c k).isSome).all letters) = true := List.all_eq_true.2 fun k hk => List.all_eq_true.1 hl k (List.mem_filter.1 hk).1
 rw [show bare (.mk 5 0 nix (ks.filter fun k => (getT c k).isSome) (ks.filterMap (getT c))) = true by unfold bare; simp; rfl]
 simp only [show ¬ (5 : Int) = 0 by decide, show ¬ (5 : Int) = 1 by decide, show ¬ (5 : Int) = 2 by decide, show ¬ (5 : Int) = 3 by decide, show ¬ (5 : Int) = 4 by decide, if_false, if_true, Bool.true_and]
 rw [kept_len, twice_filter _ _ h2, e2, e1]
 simp
theorem keys_letters (t : ByteArray) : (keysT t).all letters = true := by
 unfold keysT
 split
 · kernel_rfl
 · split
   · kernel_rfl
   · split
     · kernel_rfl
     · split
       · kernel_rfl
       · rfl
theorem keys_twice (t : ByteArray) : noKeyTwice (keysT t) = true := by
 unfold keysT
 split
 · rfl
 · split
   · rfl
   · split
     · kernel_rfl
     · split
       · rfl
       · rfl
theorem shaped_fill {e : Ev} (h : shapedE e = true) : e.content.kind = 5 ∧ goodJ 11 e.content = true := by
 unfold shapedE at h
 simp only [Bool.and_eq_true] at h
 obtain ⟨⟨⟨⟨⟨⟨⟨⟨_, _⟩, hf⟩, _⟩, _⟩, _⟩, _⟩, _⟩, _⟩ := h
 unfold filledE at hf
 simp only [Bool.and_eq_true, decide_eq_true_eq] at hf
 refine ⟨hf.1, ?_⟩
 have h2 := hf.2
 unfold goodJ at h2
 simp only [Bool.and_eq_true] at h2
 simpa using h2.2
theorem red_content {e : Ev} (h : shapedE e = true) : redT e = { e with content := ord (keptT (keysT e.typ) e.content) } ∧ goodJ 11 (keptT (keysT e.typ) e.content) = true := by
 have hg := kept_good (d := 10) (shaped_fill h).2 (keys_letters e.typ) (keys_twice e.typ)
 refine ⟨?_, hg⟩
 unfold redT ordR
 rw [if_pos h, if_pos (good_up 11 _ hg)]
theorem kept_kd (ks : List ByteArray) (c : J) : (ord (keptT ks c)).kd = 5 := by rw [kd_ord]; rfl
theorem kd_kind (j : J) : j.kd = j.kind := by obtain ⟨k, i, t, ks, l⟩ := j; rfl
theorem red_get {e : Ev} (h : shapedE e = true) {s : ByteArray} (hs : s ∈ keysT e.typ) : getT (redT e).content s = (getT e.content s).map ord := by
 obtain ⟨he, hg⟩ := red_content h
 rw [he]
 show getT (ord (keptT (keysT e.typ) e.content)) s = _
 conv => lhs; unfold getT
 rw [if_pos (kept_kd _ _), look_ord hg]
 show (lookV ((keysT e.typ).filter fun k => (getT e.content k).isSome) ((keysT e.typ).filterMap (getT e.content)) s).map ord = _
 rw [kept_look _ _ _ hs]
theorem num_ord {d : Nat} (z : Int) {o : Option J} (hg : ∀ v, o = some v → goodJ (d + 1) v = true) : numT z (o.map ord) = numT z o := by
 cases o with
 | none => rfl
 | some v =>
  show numT z (some (ord v)) = numT z (some v)
  unfold numT
  dsimp only
  rw [kd_ord, nm_ord (hg v rfl)]
theorem nam_ord (fit : ByteArray → Bool) {o : Option J} (hg : ∀ v, o = some v → goodJ 10 v = true) : namT fit (o.map ord) = namT fit o := by
 cases o with
 | none => rfl
 | some v =>
  have h10 := hg v rfl
  have h12 : goodJ 12 v = true := good_up 11 _ (good_up 10 _ h10)
  have e : ordT (ord v) = ordT v := by
   unfold ordT
   rw [if_pos h12, if_pos (good_ord 12 v h12), ord_same 12 _ (good_ord 12 v h12) (inOrd_ord 12 v h12)]
  show namT fit (some (ord v)) = namT fit (some v)
  unfold namT
  dsimp only
  rw [kd_ord, e]
theorem red_parse {e : Ev} (h : shapedE e = true) (ht : eqT e.typ tPower = true) : parseT (ordT (redT e).content) = parseT (ordT e.content) := by
 rw [parse_same, parse_same]
 have hk : keysT e.typ = nineT := by
  unfold keysT
  have n1 : eqT e.typ tCreate = false := by unfold eqT at ht ⊢; rw [eq_of_beq ht, lit_tPower, lit_tCreate]; rfl
  have n2 : eqT e.typ tMember = false := by unfold eqT at ht ⊢; rw [eq_of_beq ht, lit_tPower, lit_tMember]; rfl
  rw [n1, n2, ht]
  rfl
 obtain ⟨he, hg⟩ := red_content h
 have hf := shaped_fill h
 have g1 : goodJ 12 (redT e).content = true := by rw [he]; exact good_up 11 _ (good_ord 11 _ hg)
 have k1 : (redT e).content.kd = 5 := by rw [he]; exact kept_kd _ _
 have g2 : goodJ 12 e.content = true := good_up 11 _ hf.2
 have k2 : e.content.kd = 5 := by rw [kd_kind]; exact hf.1
 have hgv : ∀ s v, getT e.content s = some v → goodJ 10 v = true := fun s v hv => good_in hf.2 (get_mem hv)
 have hget : ∀ s, s ∈ nineT → getT (redT e).content s = (getT e.content s).map ord := fun s hs => red_get h (by rw [hk]; exact hs)
 have hn : ∀ (z : Int) s, s ∈ nineT → numT z (getT (redT e).content s) = numT z (getT e.content s) := fun z s hs => by rw [hget s hs]; exact num_ord (d := 9) z (hgv s)
 have hm : ∀ (fit : ByteArray → Bool) s, s ∈ nineT → namT fit (getT (redT e).content s) = namT fit (getT e.content s) := fun fit s hs => by rw [hget s hs]; exact nam_ord fit (hgv s)
 have i0 : kBan ∈ nineT := .head _
 have i1 : kByType ∈ nineT := .tail _ (.head _)
 have i2 : kEvents ∈ nineT := .tail _ (.tail _ (.head _))
 have i3 : kInvite ∈ nineT := .tail _ (.tail _ (.tail _ (.head _)))
 have i4 : kKick ∈ nineT := .tail _ (.tail _ (.tail _ (.tail _ (.head _))))
 have i5 : kRedact ∈ nineT := .tail _ (.tail _ (.tail _ (.tail _ (.tail _ (.head _)))))
 have i6 : kState ∈ nineT := .tail _ (.tail _ (.tail _ (.tail _ (.tail _ (.tail _ (.head _))))))
 have i7 : kByUser ∈ nineT := .tail _ (.tail _ (.tail _ (.tail _ (.tail _ (.tail _ (.tail _ (.head _)))))))
 have i8 : kUsers ∈ nineT := .tail _ (.tail _ (.tail _ (.tail _ (.tail _ (.tail _ (.tail _ (.tail _ (.head _))))))))
 unfold rparseT
 rw [g1, k1, g2, k2]
 unfold rparB rparL
 rw [hn _ _ i0, hn _ _ i4, hn _ _ i3, hn _ _ i5, hn _ _ i6, hn _ _ i2, hn _ _ i8, hm _ _ i7, hm _ _ i1]
theorem lit_tRules : tRules.toList = [109, 46, 114, 111, 111, 109, 46, 106, 111, 105, 110, 95, 114, 117, 108, 101, 115] := by rw [Lib.toList_data]
theorem rdK_new {w : World} {l : List ByteArray} {cs : Array Value} (hc : cs = (l.map Value.string).toArray) : RdK (fun b => w.heap.size ≤ b ∧ b < (w.alloc (.cells cs 9)).heap.size) (w.alloc (.cells cs 9)) (some ⟨w.heap.size, 0, none⟩) l.length l := by
 refine ⟨Nat.le_refl _, fun j hj => ⟨_, rfl, ⟨Nat.le_refl _, by simp⟩, ?_⟩⟩
 have ea : (⟨w.heap.size, 0, none⟩ : Addr).add j = ⟨w.heap.size, j, none⟩ := by unfold Addr.add; split <;> simp_all
 rw [ea]
 refine cellP (newP _) j _ ?_
 rw [hc, List.getElem?_toArray, List.getElem?_map, List.getD_eq_getElem?_getD, List.getElem?_eq_getElem hj]
 rfl
theorem rkeys6_any (t : ByteArray) (w : World) : Calls Tryz.prog 28 #[.string t] w fun x w' => (∃ q c, x = .returned (.slice q (keysT t).length c) ∧ RdK (fun b => w.heap.size ≤ b ∧ b < w'.heap.size) w' q c (keysT t)) ∧ Below w.heap.size w w' := by
 have HT : Hid (keysT t = if (t.toList == tCreate.toList) then [nCreator] else if (t.toList == tMember.toList) then [nMemb] else if (t.toList == tPower.toList) then nineT else if (t.toList == tRules.toList) then [nRule] else []) := rfl
 rw [lit_tCreate, lit_tMember, lit_tPower, lit_tRules] at HT
 cases h1 : (t.toList == [109, 46, 114, 111, 111, 109, 46, 99, 114, 101, 97, 116, 101]) with
 | true =>
  have HK : Hid (keysT t = [nCreator]) := by show _ = _; rw [HT.out, h1]; rfl
  go_enter Tryz.func28, Tryz.ntmps28
  go_wp2
  go_ret
  rw [HK.out]
  exact ⟨⟨_, _, rfl, rdK_new rfl⟩, (Below.refl _ _).alloc (Nat.le_refl _) _⟩
 | false =>
  cases h2 : (t.toList == [109, 46, 114, 111, 111, 109, 46, 109, 101, 109, 98, 101, 114]) with
  | true =>
   have HK : Hid (keysT t = [nMemb]) := by show _ = _; rw [HT.out, h1, h2]; rfl
   go_enter Tryz.func28, Tryz.ntmps28
   go_wp2
   go_ret
   rw [HK.out]
   exact ⟨⟨_, _, rfl, rdK_new rfl⟩, (Below.refl _ _).alloc (Nat.le_refl _) _⟩
  | false =>
   cases h3 : (t.toList == [109, 46, 114, 111, 111, 109, 46, 112, 111, 119, 101, 114, 95, 108, 101, 118, 101, 108, 115]) with
   | true =>
    have HK : Hid (keysT t = nineT) := by show _ = _; rw [HT.out, h1, h2, h3]; rfl
    go_enter Tryz.func28, Tryz.ntmps28
    go_wp2
    go_ret
    rw [HK.out]
    exact ⟨⟨_, _, rfl, rdK_new rfl⟩, (Below.refl _ _).alloc (Nat.le_refl _) _⟩
   | false =>
    cases h4 : (t.toList == [109, 46, 114, 111, 111, 109, 46, 106, 111, 105, 110, 95, 114, 117, 108, 101, 115]) with
    | true =>
     have HK : Hid (keysT t = [nRule]) := by show _ = _; rw [HT.out, h1, h2, h3, h4]; rfl
     go_enter Tryz.func28, Tryz.ntmps28
     go_wp2
     go_ret
     rw [HK.out]
     exact ⟨⟨_, _, rfl, rdK_new rfl⟩, (Below.refl _ _).alloc (Nat.le_refl _) _⟩
    | false =>
     have HK : Hid (keysT t = []) := by show _ = _; rw [HT.out, h1, h2, h3, h4]; rfl
     go_enter Tryz.func28, Tryz.ntmps28
     go_wp2
     go_ret
     rw [HK.out]
     exact ⟨⟨none, 0, rfl, RdK.nil _ _⟩, Below.refl _ _⟩
theorem red_szJ {d : Nat} {ks : List ByteArray} {c : J} (hz : szJ (d + 1) c = true) (hl : ks.length ≤ 100000) (hk : ∀ k ∈ ks, k.size ≤ 1000000000) : szJ (d + 1) (keptT ks c) = true := by
 obtain ⟨k0, i0, t0, ks0, l0⟩ := c
 unfold szJ at hz
 simp only [Bool.and_eq_true, decide_eq_true_eq] at hz
 unfold keptT szJ
 simp only [Bool.and_eq_true, decide_eq_true_eq]
 refine ⟨Nat.zero_le _, Nat.le_trans (List.length_filter_le ..) hl, List.all_eq_true.2 fun k hkm => decide_eq_true (hk k (List.mem_filter.1 hkm).1), Nat.le_trans (List.length_filterMap_le ..) hl, List.all_eq_true.2 fun v hv => ?_⟩
 obtain ⟨k, _, hkv⟩ := List.mem_filterMap.1 hv
 exact List.all_eq_true.1 hz.2.2.2.2 v (get_mem hkv)
theorem keys_len (t : ByteArray) : (keysT t).length ≤ 9 ∧ ∀ k ∈ keysT t, k.size ≤ 100 := by
 unfold keysT
 split
 · exact ⟨by decide, fun k hk => by rw [List.mem_singleton.1 hk]; decide⟩
 · split
   · exact ⟨by decide, fun k hk => by rw [List.mem_singleton.1 hk]; decide⟩
   · split
     · exact ⟨by decide, fun k hk => by
         simp only [nineT, List.mem_cons, List.not_mem_nil, or_false] at hk
         rcases hk with rfl | rfl | rfl | rfl | rfl | rfl | rfl | rfl | rfl <;> decide⟩
     · split
       · exact ⟨by decide, fun k hk => by rw [List.mem_singleton.1 hk]; decide⟩
       · exact ⟨by decide, fun k hk => by cases hk⟩
end Go.Proofs.YtnngalkdjgjmbaaGreat

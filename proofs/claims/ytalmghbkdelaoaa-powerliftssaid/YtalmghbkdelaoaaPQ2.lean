/-
  Nobody lifts above themselves: the walk of the law.
  Nobody lifts above themselves: the walk of the law.
-/
import Derived.Test.YtalmghbkdelaoaaPBaseM
import Derived.Deep.Cut
import Derived.Deep.CutRange
import Derived.Deep.CutBlock
namespace Go.Proofs.Ytalmghbkdelaoaa
open Go.RowKit

theorem quiet_one {f : Chg → Bool} {a b : Nms} (h : quiet f a b = true) {u : ByteArray} (hu : fnd a u ≠ none ∨ fnd b u ≠ none) (ht : fnd a u ≠ fnd b u) : f ⟨u, fnd a u, fnd b u⟩ = false := by
  rw [quiet_any, Bool.not_eq_true', List.any_eq_false] at h
  have key : ∃ p ∈ a ++ b, p.1 = u := by
    rcases hu with hu | hu
    · cases e : fnd a u with
      | none => exact absurd e hu
      | some x => obtain ⟨p, hp, hpu⟩ := fnd_mem e; exact ⟨p, List.mem_append_left _ hp, hpu⟩
    · cases e : fnd b u with
      | none => exact absurd e hu
      | some x => obtain ⟨p, hp, hpu⟩ := fnd_mem e; exact ⟨p, List.mem_append_right _ hp, hpu⟩
  obtain ⟨p, hp, rfl⟩ := key
  have := h p hp
  simp only [chg, Chg.turns, Bool.and_eq_true, Bool.not_eq_true', beq_eq_false_iff_ne, ne_eq, not_and, Bool.not_eq_true] at this
  exact this ht
structure LiftF (own : Int) (eq : Bool) (oa ob : Option Int) (a0 b0 a4 b4 a6 b6 : Int) : Prop where
  f1 : ∀ x, oa = some x → eq = false → own ≤ x → ob = some x
  f2 : ∀ y, ob = some y → own < y → oa = some y
  n0 : a0 = b0 ∨ a0 ≤ own ∧ b0 ≤ own
  n4 : a4 = b4 ∨ a4 ≤ own ∧ b4 ≤ own
  n6 : a6 = b6 ∨ b6 ≤ own
theorem lift1_no {s x y : Int} (h : lift1 s x y = false) : x = y ∨ x ≤ s ∧ y ≤ s := by
  unfold lift1 at h
  by_cases e : x = y
  · exact .inl e
  · right
    have e' : (x == y) = false := by simpa using e
    rw [e'] at h
    simp at h
    exact h
theorem lift_facts {a b : Lv} {sender u : ByteArray} (h : mayL a b sender = true) : LiftF (usr a sender) (u.toList == sender.toList) (fnd a.byUser u) (fnd b.byUser u) a.ban b.ban a.state b.state a.users b.users := by
  unfold mayL at h
  simp only [Bool.and_eq_true] at h
  obtain ⟨hn, _, hu⟩ := h
  rw [quiet_nums] at hn
  unfold okNum at hn
  rw [Bool.not_eq_true', List.any_eq_false] at hn
  have g0 := hn (a.ban, b.ban) (by simp [n7])
  have g4 := hn (a.state, b.state) (by simp [n7])
  have g6 := hn (a.users, b.users) (by simp [n7])
  simp only [Bool.not_eq_true] at g0 g4 g6
  refine ⟨fun x hx he hl => ?_, fun y hy hl => ?_, lift1_no g0, lift1_no g4, (lift1_no g6).imp id And.right⟩
  · refine Classical.byContradiction fun hne => ?_
    have := quiet_one hu (u := u) (.inl (by rw [hx]; simp)) (by rw [hx]; exact fun e => hne e.symm)
    rw [hx] at this
    simp [Chg.bad, he, least, hl] at this
  · refine Classical.byContradiction fun hne => ?_
    have := quiet_one hu (u := u) (.inr (by rw [hy]; simp)) (by rw [hy]; exact hne)
    rw [hy] at this
    simp [Chg.bad, Chg.above, over, hl] at this
theorem fnd_take_one {l : Nms} {s : ByteArray} {k : Nat} (hk : k < l.length) : (fnd (l.take (k + 1)) s).isSome = ((fnd (l.take k) s).isSome || ((l.getD k zN).1.toList == s.toList)) := by
  rw [take_one (z := zN) hk, fnd_append]
  cases e : fnd (l.take k) s with
  | some x => rfl
  | none =>
    rw [fnd_one]
    by_cases e2 : ((l.getD k zN).1.toList == s.toList) = true
    · rw [if_pos e2, e2]; rfl
    · rw [if_neg e2]; simp only [Bool.not_eq_true] at e2; rw [e2]; rfl
set_option maxRecDepth 100000 in
set_option maxHeartbeats 4000000 in
theorem loadTwo {W : World} {b t : Nat} {a0 a1 a2 a3 a4 a5 a6 a7 a8 a9 a10 a11 a12 a13 a14 a15 a16 a17 : Value} (h : W.heap[b]? = some (.cells #[a0, a1, a2, a3, a4, a5, a6, a7, a8, a9, a10, a11, a12, a13, a14, a15, a16, a17] t (0, 0))) :
    (Instr.loadAt 24 (.pointer (some ⟨b, 0, none⟩))).run Try.prog W = .ok (.agg #[a0, a1, a2, a3, a4, a5, a6, a7, a8]) W ∧ (Instr.loadAt 24 (.pointer (some ⟨b, 9, none⟩))).run Try.prog W = .ok (.agg #[a9, a10, a11, a12, a13, a14, a15, a16, a17]) W := by
  have k0 := cellP h 0 _ rfl
  have k1 := cellP h 1 _ rfl
  have k2 := cellP h 2 _ rfl
  have k3 := cellP h 3 _ rfl
  have k4 := cellP h 4 _ rfl
  have k5 := cellP h 5 _ rfl
  have k6 := cellP h 6 _ rfl
  have k7 := cellP h 7 _ rfl
  have k8 := cellP h 8 _ rfl
  have k9 := cellP h 9 _ rfl
  have k10 := cellP h 10 _ rfl
  have k11 := cellP h 11 _ rfl
  have k12 := cellP h 12 _ rfl
  have k13 := cellP h 13 _ rfl
  have k14 := cellP h 14 _ rfl
  have k15 := cellP h 15 _ rfl
  have k16 := cellP h 16 _ rfl
  have k17 := cellP h 17 _ rfl
  constructor
  · simp [Instr.loadAt, go_sem, k0, k1, k2, k3, k4, k5, k6, k7, k8]
  · simp [Instr.loadAt, go_sem, k9, k10, k11, k12, k13, k14, k15, k16, k17]
end Go.Proofs.Ytalmghbkdelaoaa
namespace Go.Proofs.Ytalmghbkdelaoaa
open Go.RowKit

abbrev valTwo (a b : Lv) (pa pb : Pl) : Value := .agg #[.int .i64 a.ban, .int .i64 a.kick, .int .i64 a.invite, .int .i64 a.redact, .int .i64 a.state, .int .i64 a.events, .int .i64 a.users, .slice pa.pu a.byUser.length pa.cu, .slice pa.pt a.byType.length pa.ct, .int .i64 b.ban, .int .i64 b.kick, .int .i64 b.invite, .int .i64 b.redact, .int .i64 b.state, .int .i64 b.events, .int .i64 b.users, .slice pb.pu b.byUser.length pb.cu, .slice pb.pt b.byType.length pb.ct]
set_option maxRecDepth 100000 in
set_option maxHeartbeats 64000000 in
theorem powerLifts_any {w : World} {a b : Lv} {pa pb : Pl} (ha : IsL (· < w.heap.size) w a pa) (hb : IsL (· < w.heap.size) w b pb) (sn u : ByteArray) :
    Calls Try.prog 6 #[valTwo a b pa pb, .string sn, .string u] w fun e w' => e = .returned (.bool true) ∧ Below w.heap.size w w' := by
  obtain ⟨wA, hwA⟩ : ∃ wA, wA = w.alloc (.cells #[.int .i64 a.ban, .int .i64 a.kick, .int .i64 a.invite, .int .i64 a.redact, .int .i64 a.state, .int .i64 a.events, .int .i64 a.users, .slice pa.pu a.byUser.length pa.cu, .slice pa.pt a.byType.length pa.ct, .int .i64 b.ban, .int .i64 b.kick, .int .i64 b.invite, .int .i64 b.redact, .int .i64 b.state, .int .i64 b.events, .int .i64 b.users, .slice pb.pu b.byUser.length pb.cu, .slice pb.pt b.byType.length pb.ct] 34) := ⟨_, rfl⟩
  have hbA : Below w.heap.size w wA := by rw [hwA]; exact (Below.refl _ _).alloc (Nat.le_refl _) _
  have hA : wA.heap[w.heap.size]? = some (.cells #[.int .i64 a.ban, .int .i64 a.kick, .int .i64 a.invite, .int .i64 a.redact, .int .i64 a.state, .int .i64 a.events, .int .i64 a.users, .slice pa.pu a.byUser.length pa.cu, .slice pa.pt a.byType.length pa.ct, .int .i64 b.ban, .int .i64 b.kick, .int .i64 b.invite, .int .i64 b.redact, .int .i64 b.state, .int .i64 b.events, .int .i64 b.users, .slice pb.pu b.byUser.length pb.cu, .slice pb.pt b.byType.length pb.ct] 34 (0, 0)) := by rw [hwA]; exact newP _
  have HIa : Hid (∀ X, Below w.heap.size w X → IsL (· < w.heap.size) X a pa) := fun X hX => ha.below (fun _ h => h) hX
  have HIb : Hid (∀ X, Below w.heap.size w X → IsL (· < w.heap.size) X b pb) := fun X hX => hb.below (fun _ h => h) hX
  have HO : Hid (∀ X, Below w.heap.size w X → ∀ k, k < w.heap.size → k < X.heap.size) := fun X hX k hk => Nat.lt_of_lt_of_le hk hX.size
  have HF1 : Hid (∀ X, Below w.heap.size w X → Calls Try.prog 7 #[valL a pa] X fun e w' => e = .returned (.bool (fewL a)) ∧ Below X.heap.size X w') := fun X hX => few_lv (HIa.out X hX) (HO.out X hX)
  have HF2 : Hid (∀ X, Below w.heap.size w X → Calls Try.prog 7 #[valL b pb] X fun e w' => e = .returned (.bool (fewL b)) ∧ Below X.heap.size X w') := fun X hX => few_lv (HIb.out X hX) (HO.out X hX)
  have HM : Hid (fewL a = true → fewL b = true → ∀ X, Below w.heap.size w X → Calls Try.prog 16 #[valL a pa, valL b pb, .string sn] X fun e w' => e = .returned (.bool (mayL a b sn)) ∧ Below X.heap.size X w') := fun h1 h2 X hX => may_lv (HIa.out X hX) (HIb.out X hX) (HO.out X hX) (fewL_sz h1) (fewL_sz h2) sn
  have HUa : Hid (fewL a = true → ∀ X s, Below w.heap.size w X → Calls Try.prog 9 #[valL a pa, .string s] X fun e w' => e = .returned (.int .i64 (usr a s)) ∧ Below X.heap.size X w') := fun h1 X s hX => user_lv (HIa.out X hX) (HO.out X hX) (fewL_sz h1) s
  have HUb : Hid (fewL b = true → ∀ X s, Below w.heap.size w X → Calls Try.prog 9 #[valL b pb, .string s] X fun e w' => e = .returned (.int .i64 (usr b s)) ∧ Below X.heap.size X w') := fun h1 X s hX => user_lv (HIb.out X hX) (HO.out X hX) (fewL_sz h1) s
  have HLF : Hid (mayL a b sn = true → LiftF (usr a sn) (u.toList == sn.toList) (fnd a.byUser u) (fnd b.byUser u) a.ban b.ban a.state b.state a.users b.users) := fun h => lift_facts h
  have HRa : Hid (∀ X, Below w.heap.size w X → RdN (· < w.heap.size) X pa.pu pa.cu a.byUser) := fun X hX => (HIa.out X hX).us
  have HRb : Hid (∀ X, Below w.heap.size w X → RdN (· < w.heap.size) X pb.pu pb.cu b.byUser) := fun X hX => (HIb.out X hX).us
  have HSz : Hid (fewL a = true → fewL b = true → a.byUser.length ≤ 80000 ∧ b.byUser.length ≤ 80000) := fun h1 h2 => ⟨(fewL_sz h1).us.1, (fewL_sz h2).us.1⟩
  have HUE : Hid (usr a u = (fnd a.byUser u).getD a.users ∧ usr b u = (fnd b.byUser u).getD b.users) := ⟨rfl, rfl⟩
  generalize fewL a = FA at HF1 HM HUa HSz
  generalize fewL b = FB at HF2 HM HUb HSz
  generalize mayL a b sn = MY at HM HLF
  obtain ⟨ban, kick, invite, redact, state, events, users, us, ty⟩ := a
  obtain ⟨pu, cu, pt, ct⟩ := pa
  obtain ⟨ban', kick', invite', redact', state', events', users', us', ty'⟩ := b
  obtain ⟨pu', cu', pt', ct'⟩ := pb
  clear ha hb
  simp only [valL, cellsL, valTwo] at hwA hA HF1 HF2 HM HUa HUb HLF HRa HRb HSz HUE ⊢
  have HA := (show Hid _ from hA)
  have hsA := objP_lt hA
  clear hA HIa HIb HO
  go_enter Try.func6, Try.ntmps6
  go_upto_region 1 with fail
  rw [← hwA]
  clear hwA
  go_cut [7, 8] from 16 to 19 (fun v7 v8 wx => ∃ B7 B8, v7 = .pointer (some ⟨B7, 0, none⟩) ∧ v8 = .pointer (some ⟨B8, 0, none⟩) ∧ wx.heap[B7]? = some (.cells #[.int .i64 ban, .int .i64 kick, .int .i64 invite, .int .i64 redact, .int .i64 state, .int .i64 events, .int .i64 users, .slice pu us.length cu, .slice pt ty.length ct] 24 (0, 0)) ∧ wx.heap[B8]? = some (.cells #[.int .i64 ban', .int .i64 kick', .int .i64 invite', .int .i64 redact', .int .i64 state', .int .i64 events', .int .i64 users', .slice pu' us'.length cu', .slice pt' ty'.length ct'] 24 (0, 0)) ∧ Below w.heap.size w wx)
  case first =>
    have HC : Hid (∀ X, Below wA.heap.size wA X → X.heap[w.heap.size]? = some (.cells #[.int .i64 ban, .int .i64 kick, .int .i64 invite, .int .i64 redact, .int .i64 state, .int .i64 events, .int .i64 users, .slice pu us.length cu, .slice pt ty.length ct, .int .i64 ban', .int .i64 kick', .int .i64 invite', .int .i64 redact', .int .i64 state', .int .i64 events', .int .i64 users', .slice pu' us'.length cu', .slice pt' ty'.length ct'] 34 (0, 0))) := fun X hX => (hX.block _ hsA).trans HA.out
    refine wp_region_in (by kernel_rfl) (fun w' => Below wA.heap.size wA w') ?_
    change wpIn _ _ _ _ _ _ _ _ (World.drew _)
    have hD : Below wA.heap.size wA wA.drew := (Below.refl _ _).drew
    refine wpIn_take (i := 0) (d := (some 16)) (v := ?vqg0) (a' := ?aqg0) rfl rfl (by kernel_rfl) (by kernel_rfl) (by kernel_rfl) (fun _ _ _ h => h) (Or.inl ⟨by rfl, ?yqg0⟩) ?fqg0 ?_
    case yqg0 => (intro wq hq; go_simp; first | done | with_reducible rfl)
    case fqg0 => (go_frame; rfl)
    refine wpIn_take (i := 1) (d := (some 17)) (v := ?vqg1) (a' := ?aqg1) rfl rfl (by kernel_rfl) (by kernel_rfl) (by kernel_rfl) (fun _ _ _ h => h) (Or.inl ⟨by rfl, ?yqg1⟩) ?fqg1 ?_
    case yqg1 => (intro wq hq; have zz := HC.out wq hq; have z0 := cellP zz 0 _ rfl; have z1 := cellP zz 1 _ rfl; have z2 := cellP zz 2 _ rfl; have z3 := cellP zz 3 _ rfl; have z4 := cellP zz 4 _ rfl; have z5 := cellP zz 5 _ rfl; have z6 := cellP zz 6 _ rfl; have z7 := cellP zz 7 _ rfl; have z8 := cellP zz 8 _ rfl; clear zz; go_simp; first | done | with_reducible rfl)
    case fqg1 => (go_frame; rfl)
    refine wpIn_take (i := 2) (d := (some 18)) (v := ?vqg2) (a' := ?aqg2) rfl rfl (by kernel_rfl) (by kernel_rfl) (by kernel_rfl) (fun _ _ _ h => h) (Or.inl ⟨by rfl, ?yqg2⟩) ?fqg2 ?_
    case yqg2 => (intro wq hq; go_simp; first | done | with_reducible rfl)
    case fqg2 => (go_frame; rfl)
    refine wpIn_take (i := 3) (d := (some 19)) (v := ?vqg3) (a' := ?aqg3) rfl rfl (by kernel_rfl) (by kernel_rfl) (by kernel_rfl) (fun _ _ _ h => h) (Or.inl ⟨by rfl, ?yqg3⟩) ?fqg3 ?_
    case yqg3 => (intro wq hq; have zz := HC.out wq hq; have z9 := cellP zz 9 _ rfl; have z10 := cellP zz 10 _ rfl; have z11 := cellP zz 11 _ rfl; have z12 := cellP zz 12 _ rfl; have z13 := cellP zz 13 _ rfl; have z14 := cellP zz 14 _ rfl; have z15 := cellP zz 15 _ rfl; have z16 := cellP zz 16 _ rfl; have z17 := cellP zz 17 _ rfl; clear zz; go_simp; first | done | with_reducible rfl)
    case fqg3 => (go_frame; rfl)
    refine wpIn_pair (i := 4) (j := 5) hD (by kernel_rfl) rfl rfl (by rfl) (by rfl) ?_ ?_
    · intro K hK
      go_simp
      refine hK _ _ ?_
      clear hK K
      have hD1 : Below wA.heap.size wA (wA.drew.alloc (.cells #[.int .i64 0, .int .i64 0, .int .i64 0, .int .i64 0, .int .i64 0, .int .i64 0, .int .i64 0, .slice none 0 0, .slice none 0 0] 24)) := hD.trans ((Below.refl _ _).alloc (by simp) _)
      refine wpIn_do (i := 5) hD1 (by kernel_rfl) rfl (by rfl) ?_
      intro K hK
      go_simp
      refine hK _ _ ?_
      clear hK K
      have hD2 : Below wA.heap.size wA (((wA.alloc (.cells #[.int .i64 0, .int .i64 0, .int .i64 0, .int .i64 0, .int .i64 0, .int .i64 0, .int .i64 0, .slice none 0 0, .slice none 0 0] 24 (0, 0))).alloc (.cells #[.int .i64 0, .int .i64 0, .int .i64 0, .int .i64 0, .int .i64 0, .int .i64 0, .int .i64 0, .slice none 0 0, .slice none 0 0] 24 (0, 0))).drew) := (((Below.refl wA.heap.size wA).alloc (Nat.le_refl _) (.cells #[.int .i64 0, .int .i64 0, .int .i64 0, .int .i64 0, .int .i64 0, .int .i64 0, .int .i64 0, .slice none 0 0, .slice none 0 0] 24 (0, 0))).alloc (by simp) (.cells #[.int .i64 0, .int .i64 0, .int .i64 0, .int .i64 0, .int .i64 0, .int .i64 0, .int .i64 0, .slice none 0 0, .slice none 0 0] 24 (0, 0))).drew
      refine wpIn_do (i := 6) hD2 (by kernel_rfl) rfl (by rfl) ?_
      intro K hK
      go_simp
      refine hK _ _ ?_
      clear hK K
      have hD3 : Below wA.heap.size wA (((wA.alloc (.cells #[.int .i64 ban, .int .i64 kick, .int .i64 invite, .int .i64 redact, .int .i64 state, .int .i64 events, .int .i64 users, .slice pu us.length cu, .slice pt ty.length ct] 24 (0, 0))).alloc (.cells #[.int .i64 0, .int .i64 0, .int .i64 0, .int .i64 0, .int .i64 0, .int .i64 0, .int .i64 0, .slice none 0 0, .slice none 0 0] 24 (0, 0))).drew) := (((Below.refl wA.heap.size wA).alloc (Nat.le_refl _) (.cells #[.int .i64 ban, .int .i64 kick, .int .i64 invite, .int .i64 redact, .int .i64 state, .int .i64 events, .int .i64 users, .slice pu us.length cu, .slice pt ty.length ct] 24 (0, 0))).alloc (by simp) (.cells #[.int .i64 0, .int .i64 0, .int .i64 0, .int .i64 0, .int .i64 0, .int .i64 0, .int .i64 0, .slice none 0 0, .slice none 0 0] 24 (0, 0))).drew
      refine wpIn_do (i := 7) hD3 (by kernel_rfl) rfl (by rfl) ?_
      intro K hK
      go_simp
      refine hK _ _ ?_
      clear hK K
      have hD4 : Below wA.heap.size wA (((wA.alloc (.cells #[.int .i64 ban, .int .i64 kick, .int .i64 invite, .int .i64 redact, .int .i64 state, .int .i64 events, .int .i64 users, .slice pu us.length cu, .slice pt ty.length ct] 24 (0, 0))).alloc (.cells #[.int .i64 ban', .int .i64 kick', .int .i64 invite', .int .i64 redact', .int .i64 state', .int .i64 events', .int .i64 users', .slice pu' us'.length cu', .slice pt' ty'.length ct'] 24 (0, 0))).drew) := (((Below.refl wA.heap.size wA).alloc (Nat.le_refl _) (.cells #[.int .i64 ban, .int .i64 kick, .int .i64 invite, .int .i64 redact, .int .i64 state, .int .i64 events, .int .i64 users, .slice pu us.length cu, .slice pt ty.length ct] 24 (0, 0))).alloc (by simp) (.cells #[.int .i64 ban', .int .i64 kick', .int .i64 invite', .int .i64 redact', .int .i64 state', .int .i64 events', .int .i64 users', .slice pu' us'.length cu', .slice pt' ty'.length ct'] 24 (0, 0))).drew
      refine wpIn_done hD4 (by kernel_rfl) ?_ _
      go_wp2
      go_meet
      case rel =>
        have k01 := allocP2 (w := wA) (.cells #[.int .i64 ban, .int .i64 kick, .int .i64 invite, .int .i64 redact, .int .i64 state, .int .i64 events, .int .i64 users, .slice pu us.length cu, .slice pt ty.length ct] 24 (0, 0)) (.cells #[.int .i64 ban', .int .i64 kick', .int .i64 invite', .int .i64 redact', .int .i64 state', .int .i64 events', .int .i64 users', .slice pu' us'.length cu', .slice pt' ty'.length ct'] 24 (0, 0))
        exact ⟨wA.heap.size, wA.heap.size + 1, rfl, rfl, k01.1, k01.2, belowP hbA hD4⟩
    · intro K hK
      go_simp
      refine hK _ _ ?_
      clear hK K
      have hD1 : Below wA.heap.size wA (wA.drew.alloc (.cells #[.int .i64 0, .int .i64 0, .int .i64 0, .int .i64 0, .int .i64 0, .int .i64 0, .int .i64 0, .slice none 0 0, .slice none 0 0] 24)) := hD.trans ((Below.refl _ _).alloc (by simp) _)
      refine wpIn_do (i := 4) hD1 (by kernel_rfl) rfl (by rfl) ?_
      intro K hK
      go_simp
      refine hK _ _ ?_
      clear hK K
      have hD2 : Below wA.heap.size wA (((wA.alloc (.cells #[.int .i64 0, .int .i64 0, .int .i64 0, .int .i64 0, .int .i64 0, .int .i64 0, .int .i64 0, .slice none 0 0, .slice none 0 0] 24 (0, 0))).alloc (.cells #[.int .i64 0, .int .i64 0, .int .i64 0, .int .i64 0, .int .i64 0, .int .i64 0, .int .i64 0, .slice none 0 0, .slice none 0 0] 24 (0, 0))).drew) := (((Below.refl wA.heap.size wA).alloc (Nat.le_refl _) (.cells #[.int .i64 0, .int .i64 0, .int .i64 0, .int .i64 0, .int .i64 0, .int .i64 0, .int .i64 0, .slice none 0 0, .slice none 0 0] 24 (0, 0))).alloc (by simp) (.cells #[.int .i64 0, .int .i64 0, .int .i64 0, .int .i64 0, .int .i64 0, .int .i64 0, .int .i64 0, .slice none 0 0, .slice none 0 0] 24 (0, 0))).drew
      refine wpIn_do (i := 6) hD2 (by kernel_rfl) rfl (by rfl) ?_
      intro K hK
      go_simp
      refine hK _ _ ?_
      clear hK K
      have hD3 : Below wA.heap.size wA (((wA.alloc (.cells #[.int .i64 0, .int .i64 0, .int .i64 0, .int .i64 0, .int .i64 0, .int .i64 0, .int .i64 0, .slice none 0 0, .slice none 0 0] 24 (0, 0))).alloc (.cells #[.int .i64 ban, .int .i64 kick, .int .i64 invite, .int .i64 redact, .int .i64 state, .int .i64 events, .int .i64 users, .slice pu us.length cu, .slice pt ty.length ct] 24 (0, 0))).drew) := (((Below.refl wA.heap.size wA).alloc (Nat.le_refl _) (.cells #[.int .i64 0, .int .i64 0, .int .i64 0, .int .i64 0, .int .i64 0, .int .i64 0, .int .i64 0, .slice none 0 0, .slice none 0 0] 24 (0, 0))).alloc (by simp) (.cells #[.int .i64 ban, .int .i64 kick, .int .i64 invite, .int .i64 redact, .int .i64 state, .int .i64 events, .int .i64 users, .slice pu us.length cu, .slice pt ty.length ct] 24 (0, 0))).drew
      refine wpIn_do (i := 7) hD3 (by kernel_rfl) rfl (by rfl) ?_
      intro K hK
      go_simp
      refine hK _ _ ?_
      clear hK K
      have hD4 : Below wA.heap.size wA (((wA.alloc (.cells #[.int .i64 ban', .int .i64 kick', .int .i64 invite', .int .i64 redact', .int .i64 state', .int .i64 events', .int .i64 users', .slice pu' us'.length cu', .slice pt' ty'.length ct'] 24 (0, 0))).alloc (.cells #[.int .i64 ban, .int .i64 kick, .int .i64 invite, .int .i64 redact, .int .i64 state, .int .i64 events, .int .i64 users, .slice pu us.length cu, .slice pt ty.length ct] 24 (0, 0))).drew) := (((Below.refl wA.heap.size wA).alloc (Nat.le_refl _) (.cells #[.int .i64 ban', .int .i64 kick', .int .i64 invite', .int .i64 redact', .int .i64 state', .int .i64 events', .int .i64 users', .slice pu' us'.length cu', .slice pt' ty'.length ct'] 24 (0, 0))).alloc (by simp) (.cells #[.int .i64 ban, .int .i64 kick, .int .i64 invite, .int .i64 redact, .int .i64 state, .int .i64 events, .int .i64 users, .slice pu us.length cu, .slice pt ty.length ct] 24 (0, 0))).drew
      refine wpIn_done hD4 (by kernel_rfl) ?_ _
      go_wp2
      go_meet
      case rel =>
        have k01 := allocP2 (w := wA) (.cells #[.int .i64 ban', .int .i64 kick', .int .i64 invite', .int .i64 redact', .int .i64 state', .int .i64 events', .int .i64 users', .slice pu' us'.length cu', .slice pt' ty'.length ct'] 24 (0, 0)) (.cells #[.int .i64 ban, .int .i64 kick, .int .i64 invite, .int .i64 redact, .int .i64 state, .int .i64 events, .int .i64 users, .slice pu us.length cu, .slice pt ty.length ct] 24 (0, 0))
        exact ⟨wA.heap.size + 1, wA.heap.size, rfl, rfl, k01.2, k01.1, belowP hbA hD4⟩
  case rest =>
    obtain ⟨B7, B8, rfl, rfl, g7, g8, hbC⟩ := hcut
    have HK7 : Hid (∀ X, Below wc.heap.size wc X → X.heap[B7]? = some (.cells #[.int .i64 ban, .int .i64 kick, .int .i64 invite, .int .i64 redact, .int .i64 state, .int .i64 events, .int .i64 users, .slice pu us.length cu, .slice pt ty.length ct] 24 (0, 0))) := fun X hX => (hX.block _ (objP_lt g7)).trans g7
    have HK8 : Hid (∀ X, Below wc.heap.size wc X → X.heap[B8]? = some (.cells #[.int .i64 ban', .int .i64 kick', .int .i64 invite', .int .i64 redact', .int .i64 state', .int .i64 events', .int .i64 users', .slice pu' us'.length cu', .slice pt' ty'.length ct'] 24 (0, 0))) := fun X hX => (hX.block _ (objP_lt g8)).trans g8
    have c0 := cellP g7 0 _ rfl; have c1 := cellP g7 1 _ rfl; have c2 := cellP g7 2 _ rfl; have c3 := cellP g7 3 _ rfl; have c4 := cellP g7 4 _ rfl; have c5 := cellP g7 5 _ rfl; have c6 := cellP g7 6 _ rfl; have c7 := cellP g7 7 _ rfl; have c8 := cellP g7 8 _ rfl
    have hF1 := HF1.out wc hbC
    clear g7 g8 HA hsA hbA
    cases FA with
    | false =>
      go_wp2_with (first
        | (go_at_call 15; refine awake_any.mono ?_; rintro e w9 ⟨rfl, hb9⟩)
        | (go_at_call 7; refine hF1.mono ?_; rintro e w1 ⟨rfl, hb1⟩))
      go_ret
      exact ⟨rfl, belowP hbC (belowP hb1 hb9)⟩
    | true =>
      cases FB with
      | false =>
        go_wp2_with (first
          | (go_at_call 15; refine awake_any.mono ?_; rintro e w9 ⟨rfl, hb9⟩)
          | (have _h := hdone; go_at_call 7; refine hF2.mono ?_; rintro e w2 ⟨rfl, hb2⟩)
          | (go_at_call 7; refine hF1.mono ?_; rintro e w1 ⟨rfl, hb1⟩
             have hdone : True := trivial
             have hF2 := HF2.out w1 (belowP hbC hb1)
             have q1 := HK8.out w1 hb1
             clear c0 c1 c2 c3 c4 c5 c6 c7 c8
             have d0 := cellP q1 0 _ rfl; have d1 := cellP q1 1 _ rfl; have d2 := cellP q1 2 _ rfl; have d3 := cellP q1 3 _ rfl; have d4 := cellP q1 4 _ rfl; have d5 := cellP q1 5 _ rfl; have d6 := cellP q1 6 _ rfl; have d7 := cellP q1 7 _ rfl; have d8 := cellP q1 8 _ rfl
             clear q1))
        go_ret
        exact ⟨rfl, belowP hbC (belowP hb1 (belowP hb2 hb9))⟩
      | true =>
        have HM0 := (show Hid _ from HM.out rfl rfl)
        have HUa0 := (show Hid _ from HUa.out rfl)
        have HUb0 := (show Hid _ from HUb.out rfl)
        have HSz0 := (show Hid _ from HSz.out rfl rfl)
        clear HM HUa HUb HSz
        by_cases hs : sn.size ≤ 200
        · by_cases hu : u.size ≤ 200
          · cases MY with
            | false =>
              go_wp2_with (first
                | (go_at_call 15; refine awake_any.mono ?_; rintro e w9 ⟨rfl, hb9⟩)
                | (have _h := hdone2; go_at_call 16; refine hM.mono ?_; rintro e w3 ⟨rfl, hb3⟩)
                | (have _h := hdone; go_at_call 7; refine hF2.mono ?_; rintro e w2 ⟨rfl, hb2⟩
                   have hdone2 : True := trivial
                   have hM := HM0.out w2 (belowP hbC (belowP hb1 hb2))
                   have q1 := HK8.out w2 (belowP hb1 hb2)
                   have q0 := HK7.out w2 (belowP hb1 hb2)
                   clear d0 d1 d2 d3 d4 d5 d6 d7 d8
                   have x0 := cellP q0 0 _ rfl; have x1 := cellP q0 1 _ rfl; have x2 := cellP q0 2 _ rfl; have x3 := cellP q0 3 _ rfl; have x4 := cellP q0 4 _ rfl; have x5 := cellP q0 5 _ rfl; have x6 := cellP q0 6 _ rfl; have x7 := cellP q0 7 _ rfl; have x8 := cellP q0 8 _ rfl
                   have y0 := cellP q1 0 _ rfl; have y1 := cellP q1 1 _ rfl; have y2 := cellP q1 2 _ rfl; have y3 := cellP q1 3 _ rfl; have y4 := cellP q1 4 _ rfl; have y5 := cellP q1 5 _ rfl; have y6 := cellP q1 6 _ rfl; have y7 := cellP q1 7 _ rfl; have y8 := cellP q1 8 _ rfl
                   clear q0 q1)
                | (go_at_call 7; refine hF1.mono ?_; rintro e w1 ⟨rfl, hb1⟩
                   have hdone : True := trivial
                   have hF2 := HF2.out w1 (belowP hbC hb1)
                   have q1 := HK8.out w1 hb1
                   clear c0 c1 c2 c3 c4 c5 c6 c7 c8
                   have d0 := cellP q1 0 _ rfl; have d1 := cellP q1 1 _ rfl; have d2 := cellP q1 2 _ rfl; have d3 := cellP q1 3 _ rfl; have d4 := cellP q1 4 _ rfl; have d5 := cellP q1 5 _ rfl; have d6 := cellP q1 6 _ rfl; have d7 := cellP q1 7 _ rfl; have d8 := cellP q1 8 _ rfl
                   clear q1))
              go_ret
              exact ⟨rfl, belowP hbC (belowP hb1 (belowP hb2 (belowP hb3 hb9)))⟩
            | true =>
              have HL0 := (show Hid _ from HLF.out rfl)
              clear HLF
              go_upto_region 4 with (first
                | (have _h := hdone2; go_at_call 16; refine hM.mono ?_; rintro e w3 ⟨rfl, hb3⟩)
                | (have _h := hdone; go_at_call 7; refine hF2.mono ?_; rintro e w2 ⟨rfl, hb2⟩
                   have hdone2 : True := trivial
                   have hM := HM0.out w2 (belowP hbC (belowP hb1 hb2))
                   have q1 := HK8.out w2 (belowP hb1 hb2)
                   have q0 := HK7.out w2 (belowP hb1 hb2)
                   clear d0 d1 d2 d3 d4 d5 d6 d7 d8
                   have x0 := cellP q0 0 _ rfl; have x1 := cellP q0 1 _ rfl; have x2 := cellP q0 2 _ rfl; have x3 := cellP q0 3 _ rfl; have x4 := cellP q0 4 _ rfl; have x5 := cellP q0 5 _ rfl; have x6 := cellP q0 6 _ rfl; have x7 := cellP q0 7 _ rfl; have x8 := cellP q0 8 _ rfl
                   have y0 := cellP q1 0 _ rfl; have y1 := cellP q1 1 _ rfl; have y2 := cellP q1 2 _ rfl; have y3 := cellP q1 3 _ rfl; have y4 := cellP q1 4 _ rfl; have y5 := cellP q1 5 _ rfl; have y6 := cellP q1 6 _ rfl; have y7 := cellP q1 7 _ rfl; have y8 := cellP q1 8 _ rfl
                   clear q0 q1)
                | (go_at_call 7; refine hF1.mono ?_; rintro e w1 ⟨rfl, hb1⟩
                   have hdone : True := trivial
                   have hF2 := HF2.out w1 (belowP hbC hb1)
                   have q1 := HK8.out w1 hb1
                   clear c0 c1 c2 c3 c4 c5 c6 c7 c8
                   have d0 := cellP q1 0 _ rfl; have d1 := cellP q1 1 _ rfl; have d2 := cellP q1 2 _ rfl; have d3 := cellP q1 3 _ rfl; have d4 := cellP q1 4 _ rfl; have d5 := cellP q1 5 _ rfl; have d6 := cellP q1 6 _ rfl; have d7 := cellP q1 7 _ rfl; have d8 := cellP q1 8 _ rfl
                   clear q1))
              have hW3 : Below wc.heap.size wc w3 := belowP hb1 (belowP hb2 hb3)
              clear x0 x1 x2 x3 x4 x5 x6 x7 x8 y0 y1 y2 y3 y4 y5 y6 y7 y8 hF1 hF2 hM hdone hdone2 HM0 HF1 HF2
              have q0 := HK7.out w3 hW3
              have x0 := cellP q0 0 _ rfl; have x1 := cellP q0 1 _ rfl; have x2 := cellP q0 2 _ rfl; have x3 := cellP q0 3 _ rfl; have x4 := cellP q0 4 _ rfl; have x5 := cellP q0 5 _ rfl; have x6 := cellP q0 6 _ rfl; have x7 := cellP q0 7 _ rfl; have x8 := cellP q0 8 _ rfl
              have hU := HUa0.out w3 sn (belowP hbC hW3)
              generalize usr ⟨ban, kick, invite, redact, state, events, users, us, ty⟩ sn = own at hU HL0
              clear q0
              go_wp2_with (go_at_call 9; refine hU.mono ?_; rintro e w4 ⟨rfl, hb4⟩)
              have hW4 : Below wc.heap.size wc w4 := belowP hW3 hb4
              clear x0 x1 x2 x3 x4 x5 x6 x7 x8 hU hW3 hb1 hb2 hb3 hb4
              have g7 := cellP (HK7.out w4 hW4) 7 _ rfl
              have g8 := cellP (HK8.out w4 hW4) 7 _ rfl
              have hRa := HRa.out w4 (belowP hbC hW4)
              have hRb := HRb.out w4 (belowP hbC hW4)
              obtain ⟨hz1, hz2⟩ := HSz0.out
              have hc1 := hRa.1.1
              have hc2 := hRb.1.1
              obtain ⟨n, hn⟩ : ∃ n, us.length = n := ⟨_, rfl⟩
              have HN : Hid (us.length = n) := hn
              obtain ⟨m, hm⟩ : ∃ m, us'.length = m := ⟨_, rfl⟩
              have HN2 : Hid (us'.length = m) := hm
              have Hz : Hid (n ≤ 80000 ∧ m ≤ 80000 ∧ n ≤ cu ∧ m ≤ cu') := ⟨hn ▸ hz1, hm ▸ hz2, hn ▸ hc1, hm ▸ hc2⟩
              rw [hn] at hz1 hc1 g7
              rw [hm] at hz2 hc2 g8
              clear hn hm
              go_loopw [10, 11] (fun v i wr => (∃ k : Nat, i = .int .i64 k ∧ k ≤ n ∧ v = .bool (fnd (us.take k) u).isSome) ∧ wr = w4) (fun _ i _ => n - (intOf i).toNat)
              case atStart => exact ⟨⟨0, rfl, Nat.zero_le _, rfl⟩, rfl⟩
              case round =>
                obtain ⟨⟨k, rfl, hk, rfl⟩, hwr⟩ := hrel
                rw [hwr]
                clear hwr
                by_cases hkn : k < n
                · have hkl : k < us.length := by rw [HN.out]; exact hkn
                  obtain ⟨b, o, rfl, hb, h1, h2⟩ := hRa.at hkl
                  obtain ⟨v1, hv1⟩ : ∃ v1, (fnd (us.take (k + 1)) u).isSome = v1 := ⟨_, rfl⟩
                  have HV : Hid ((fnd (us.take (k + 1)) u).isSome = v1) := hv1
                  have HT : Hid (v1 = _) := hv1.symm.trans (fnd_take_one (s := u) hkl)
                  clear hv1
                  generalize (fnd (us.take k) u).isSome = v0 at HT ⊢
                  clear hRa hRb
                  cases v0 with
                  | true =>
                    go_wp2
                    go_roundw
                    case rel => exact ⟨⟨k + 1, by simp, by omega, by rw [HV.out, HT.out]; rfl⟩, trivial⟩
                    case measure => simp [intOf]; omega
                  | false =>
                    generalize us.getD k zN = x at h1 h2 HT
                    obtain ⟨xn, xl⟩ := x
                    simp only at h1 h2
                    cases he : (xn.toList == u.toList) with
                    | true =>
                      go_wp2
                      go_roundw
                      case rel => exact ⟨⟨k + 1, by simp, by omega, by rw [HV.out, HT.out]; simp [he]⟩, trivial⟩
                      case measure => simp [intOf]; omega
                    | false =>
                      go_wp2
                      go_roundw
                      case rel => exact ⟨⟨k + 1, by simp, by omega, by rw [HV.out, HT.out]; simp [he]⟩, trivial⟩
                      case measure => simp [intOf]; omega
                · obtain rfl : k = n := by omega
                  have HV : Hid ((fnd (us.take k) u).isSome = (fnd us u).isSome) := by show _ = _; rw [← HN.out, List.take_length]
                  rw [HV.out]
                  go_wp2
                  go_loopw [12, 13] (fun v i wr => (∃ k : Nat, i = .int .i64 k ∧ k ≤ m ∧ v = .bool (fnd (us'.take k) u).isSome) ∧ wr = w4) (fun _ i _ => m - (intOf i).toNat)
                  case atStart => exact ⟨⟨0, rfl, Nat.zero_le _, rfl⟩, rfl⟩
                  case round =>
                    obtain ⟨⟨k, rfl, hk, rfl⟩, hwr⟩ := hrel
                    rw [hwr]
                    clear hwr
                    by_cases hkn : k < m
                    · have hkl : k < us'.length := by rw [HN2.out]; exact hkn
                      obtain ⟨b, o, rfl, hb, h1, h2⟩ := hRb.at hkl
                      obtain ⟨v1, hv1⟩ : ∃ v1, (fnd (us'.take (k + 1)) u).isSome = v1 := ⟨_, rfl⟩
                      have HV : Hid ((fnd (us'.take (k + 1)) u).isSome = v1) := hv1
                      have HT : Hid (v1 = _) := hv1.symm.trans (fnd_take_one (s := u) hkl)
                      clear hv1
                      generalize (fnd (us'.take k) u).isSome = v0 at HT ⊢
                      clear hRa hRb
                      cases v0 with
                      | true =>
                        go_wp2
                        go_roundw
                        case rel => exact ⟨⟨k + 1, by simp, by omega, by rw [HV.out, HT.out]; rfl⟩, trivial⟩
                        case measure => simp [intOf]; omega
                      | false =>
                        generalize us'.getD k zN = x at h1 h2 HT
                        obtain ⟨xn, xl⟩ := x
                        simp only at h1 h2
                        cases he : (xn.toList == u.toList) with
                        | true =>
                          go_wp2
                          go_roundw
                          case rel => exact ⟨⟨k + 1, by simp, by omega, by rw [HV.out, HT.out]; simp [he]⟩, trivial⟩
                          case measure => simp [intOf]; omega
                        | false =>
                          go_wp2
                          go_roundw
                          case rel => exact ⟨⟨k + 1, by simp, by omega, by rw [HV.out, HT.out]; simp [he]⟩, trivial⟩
                          case measure => simp [intOf]; omega
                    · obtain rfl : k = m := by omega
                      have HV : Hid ((fnd (us'.take k) u).isSome = (fnd us' u).isSome) := by show _ = _; rw [← HN2.out, List.take_length]
                      rw [HV.out]
                      go_upto_region 15 with fail
                      have HC0 : Hid (∀ X, Below w4.heap.size w4 X → X.heap[B7]? = some (.cells #[.int .i64 ban, .int .i64 kick, .int .i64 invite, .int .i64 redact, .int .i64 state, .int .i64 events, .int .i64 users, .slice pu us.length cu, .slice pt ty.length ct] 24 (0, 0))) := fun X hX => HK7.out X (belowP hW4 hX)
                      have HC1 : Hid (∀ X, Below w4.heap.size w4 X → X.heap[B8]? = some (.cells #[.int .i64 ban', .int .i64 kick', .int .i64 invite', .int .i64 redact', .int .i64 state', .int .i64 events', .int .i64 users', .slice pu' us'.length cu', .slice pt' ty'.length ct'] 24 (0, 0))) := fun X hX => HK8.out X (belowP hW4 hX)
                      have hU1 := fun X (hX : Below w4.heap.size w4 X) => HUa0.out X u (belowP hbC (belowP hW4 hX))
                      have hU2 := fun X (hX : Below w4.heap.size w4 X) => HUb0.out X u (belowP hbC (belowP hW4 hX))
                      have HU1 := (show Hid _ from hU1)
                      have HU2 := (show Hid _ from hU2)
                      clear hU1 hU2 hRa hRb g7 g8 HUa0 HUb0
                      generalize usr ⟨ban, kick, invite, redact, state, events, users, us, ty⟩ u = wa at HU1 HUE
                      generalize usr ⟨ban', kick', invite', redact', state', events', users', us', ty'⟩ u = wb at HU2 HUE
                      generalize fnd us u = oa at HL0 HUE ⊢
                      generalize fnd us' u = ob at HL0 HUE ⊢
                      refine wp_region_in (by kernel_rfl) (fun w' => Below w4.heap.size w4 w') ?_
                      change wpIn _ _ _ _ _ _ _ _ (World.drew _)
                      have hD : Below w4.heap.size w4 w4.drew := (Below.refl _ _).drew
                      refine wpIn_take (i := 0) (d := (some 85)) (v := ?vqh0) (a' := ?aqh0) rfl rfl (by kernel_rfl) (by kernel_rfl) (by kernel_rfl) (fun _ _ _ h => h) (Or.inl ⟨by rfl, ?yqh0⟩) ?fqh0 ?_
                      case yqh0 => (intro wq hq; have zz := HC0.out wq hq; have z0 := cellP zz 0 _ rfl; have z1 := cellP zz 1 _ rfl; have z2 := cellP zz 2 _ rfl; have z3 := cellP zz 3 _ rfl; have z4 := cellP zz 4 _ rfl; have z5 := cellP zz 5 _ rfl; have z6 := cellP zz 6 _ rfl; have z7 := cellP zz 7 _ rfl; have z8 := cellP zz 8 _ rfl; clear zz; go_simp; first | done | with_reducible rfl)
                      case fqh0 => (go_frame; rfl)
                      refine wpIn_take (i := 1) (d := (some 86)) (v := ?vqh1) (a' := ?aqh1) rfl rfl (by kernel_rfl) (by kernel_rfl) (by kernel_rfl) (fun _ _ _ h => h) (Or.inl ⟨by rfl, ?yqh1⟩) ?fqh1 ?_
                      case yqh1 => (intro wq hq; go_simp; first | done | with_reducible rfl)
                      case fqh1 => (go_frame; rfl)
                      refine wpIn_take (i := 3) (d := (some 88)) (v := ?vqh3) (a' := ?aqh3) rfl rfl (by kernel_rfl) (by kernel_rfl) (by kernel_rfl) (fun _ _ _ h => h) (Or.inl ⟨by rfl, ?yqh3⟩) ?fqh3 ?_
                      case yqh3 => (intro wq hq; have zz := HC1.out wq hq; have z0 := cellP zz 0 _ rfl; have z1 := cellP zz 1 _ rfl; have z2 := cellP zz 2 _ rfl; have z3 := cellP zz 3 _ rfl; have z4 := cellP zz 4 _ rfl; have z5 := cellP zz 5 _ rfl; have z6 := cellP zz 6 _ rfl; have z7 := cellP zz 7 _ rfl; have z8 := cellP zz 8 _ rfl; clear zz; go_simp; first | done | with_reducible rfl)
                      case fqh3 => (go_frame; rfl)
                      refine wpIn_take (i := 4) (d := (some 89)) (v := ?vqh4) (a' := ?aqh4) rfl rfl (by kernel_rfl) (by kernel_rfl) (by kernel_rfl) (fun _ _ _ h => h) (Or.inl ⟨by rfl, ?yqh4⟩) ?fqh4 ?_
                      case yqh4 => (intro wq hq; go_simp; first | done | with_reducible rfl)
                      case fqh4 => (go_frame; rfl)
                      refine wpIn_do (i := 2) hD (by kernel_rfl) rfl (by rfl) ?_
                      intro K hK
                      go_simp
                      go_wp2_with (go_at_call 9; refine (HU1.out _ (Below.refl _ _).drew).mono ?_; rintro e w5 ⟨rfl, hb5⟩)
                      have hD5 : Below w4.heap.size w4 w5 := belowP hD hb5
                      refine wpIn_do (i := 5) hD5 (by kernel_rfl) rfl (by rfl) ?_
                      intro K hK
                      go_simp
                      go_wp2_with (go_at_call 9; refine (HU2.out _ hD5).mono ?_; rintro e w6 ⟨rfl, hb6⟩)
                      have hD6 : Below w4.heap.size w4 w6 := belowP hD5 hb6
                      refine wpIn_take (i := 6) (d := (some 14)) (v := ?vqh6) (a' := ?aqh6) rfl rfl (by kernel_rfl) (by kernel_rfl) (by kernel_rfl) (fun _ _ _ h => h) (Or.inl ⟨by rfl, ?yqh6⟩) ?fqh6 ?_
                      case yqh6 => (intro wq hq; go_simp; first | done | with_reducible rfl)
                      case fqh6 => (go_frame; rfl)
                      refine wpIn_take (i := 7) (d := (some 15)) (v := ?vqh7) (a' := ?aqh7) rfl rfl (by kernel_rfl) (by kernel_rfl) (by kernel_rfl) (fun _ _ _ h => h) (Or.inl ⟨by rfl, ?yqh7⟩) ?fqh7 ?_
                      case yqh7 => (intro wq hq; go_simp; first | done | with_reducible rfl)
                      case fqh7 => (go_frame; rfl)
                      refine wpIn_done hD6 (by kernel_rfl) ?_ _
                      have hW6 : Below wc.heap.size wc w6 := belowP hW4 hD6
                      clear hD hD5 hD6 hb5 hb6 HU1 HU2 HC0 HC1 hW4
                      have F := HL0.out
                      obtain ⟨rfl, rfl⟩ := HUE.out
                      clear HL0 HUE HV
                      have gA := HK7.out w6 hW6
                      have gB := HK8.out w6 hW6
                      have x0 := cellP gA 0 (.int .i64 ban) rfl; have x4 := cellP gA 4 (.int .i64 state) rfl; have x6 := cellP gA 6 (.int .i64 users) rfl
                      have y0 := cellP gB 0 (.int .i64 ban') rfl; have y4 := cellP gB 4 (.int .i64 state') rfl; have y6 := cellP gB 6 (.int .i64 users') rfl
                      clear gA gB HK7 HK8
                      go_upto_region 16 with fail
                      go_cut [110] from 91 to 109 (fun v wx => v = .bool false ∧ wx = w6)
                      case first =>
                        clear x0 x4 x6 y0 y4 y6
                        have FF := (show Hid _ from F)
                        clear F
                        rcases oa with _ | x
                        · go_wp2
                          go_meet
                          case rel => exact ⟨rfl, rfl⟩
                        · cases he : (u.toList == sn.toList) with
                          | true =>
                            clear FF
                            go_wp2
                            go_meet
                            case rel => exact ⟨rfl, rfl⟩
                          | false =>
                            by_cases hx : own ≤ x
                            · obtain rfl : ob = some x := FF.out.f1 x rfl he hx
                              clear FF
                              go_wp2
                              go_meet
                              case rel => exact ⟨rfl, rfl⟩
                            · clear FF
                              go_wp2
                              go_meet
                              case rel => exact ⟨rfl, rfl⟩
                      case rest =>
                        obtain ⟨rfl, hw6⟩ := hcut
                        rw [hw6]
                        clear hw6
                        go_upto_region 18 with fail
                        go_cut [125] from 111 to 124 (fun v wx => v = .bool false ∧ wx = w6)
                        case first =>
                          clear x0 x4 x6 y0 y4 y6
                          have FF := (show Hid _ from F)
                          clear F
                          rcases ob with _ | y
                          · go_wp2
                            go_meet
                            case rel => exact ⟨rfl, rfl⟩
                          · by_cases hy : own < y
                            · obtain rfl : oa = some y := FF.out.f2 y rfl hy
                              clear FF
                              go_wp2
                              go_meet
                              case rel => exact ⟨rfl, rfl⟩
                            · clear FF
                              go_wp2
                              go_meet
                              case rel => exact ⟨rfl, rfl⟩
                        case rest =>
                          obtain ⟨rfl, hw6⟩ := hcut
                          rw [hw6]
                          clear hw6
                          obtain ⟨-, -, n0, n4, n6⟩ := F
                          go_upto_region 20 with fail
                          by_cases e0 : ban = ban'
                          · have b0 : (ban == ban') = true := by simpa using e0
                            clear n0
                            by_cases e4 : state = state'
                            · have b4 : (state == state') = true := by simpa using e4
                              clear n4
                              by_cases e6 : users = users'
                              · have b6 : (users == users') = true := by simpa using e6
                                clear n6
                                go_wp2_with (go_at_call 15; refine awake_any.mono ?_; rintro e w9 ⟨rfl, hb9⟩)
                                go_ret
                                exact ⟨rfl, belowP hbC (belowP hW6 hb9)⟩
                              · have b6 : (users == users') = false := by simpa using e6
                                have q6 := n6.resolve_left e6
                                clear n6
                                go_wp2_with (go_at_call 15; refine awake_any.mono ?_; rintro e w9 ⟨rfl, hb9⟩)
                                go_ret
                                exact ⟨rfl, belowP hbC (belowP hW6 hb9)⟩
                            · have b4 : (state == state') = false := by simpa using e4
                              obtain ⟨p4, q4⟩ := n4.resolve_left e4
                              clear n4
                              by_cases e6 : users = users'
                              · have b6 : (users == users') = true := by simpa using e6
                                clear n6
                                go_wp2_with (go_at_call 15; refine awake_any.mono ?_; rintro e w9 ⟨rfl, hb9⟩)
                                go_ret
                                exact ⟨rfl, belowP hbC (belowP hW6 hb9)⟩
                              · have b6 : (users == users') = false := by simpa using e6
                                have q6 := n6.resolve_left e6
                                clear n6
                                go_wp2_with (go_at_call 15; refine awake_any.mono ?_; rintro e w9 ⟨rfl, hb9⟩)
                                go_ret
                                exact ⟨rfl, belowP hbC (belowP hW6 hb9)⟩
                          · have b0 : (ban == ban') = false := by simpa using e0
                            obtain ⟨p0, q0⟩ := n0.resolve_left e0
                            clear n0
                            by_cases e4 : state = state'
                            · have b4 : (state == state') = true := by simpa using e4
                              clear n4
                              by_cases e6 : users = users'
                              · have b6 : (users == users') = true := by simpa using e6
                                clear n6
                                go_wp2_with (go_at_call 15; refine awake_any.mono ?_; rintro e w9 ⟨rfl, hb9⟩)
                                go_ret
                                exact ⟨rfl, belowP hbC (belowP hW6 hb9)⟩
                              · have b6 : (users == users') = false := by simpa using e6
                                have q6 := n6.resolve_left e6
                                clear n6
                                go_wp2_with (go_at_call 15; refine awake_any.mono ?_; rintro e w9 ⟨rfl, hb9⟩)
                                go_ret
                                exact ⟨rfl, belowP hbC (belowP hW6 hb9)⟩
                            · have b4 : (state == state') = false := by simpa using e4
                              obtain ⟨p4, q4⟩ := n4.resolve_left e4
                              clear n4
                              by_cases e6 : users = users'
                              · have b6 : (users == users') = true := by simpa using e6
                                clear n6
                                go_wp2_with (go_at_call 15; refine awake_any.mono ?_; rintro e w9 ⟨rfl, hb9⟩)
                                go_ret
                                exact ⟨rfl, belowP hbC (belowP hW6 hb9)⟩
                              · have b6 : (users == users') = false := by simpa using e6
                                have q6 := n6.resolve_left e6
                                clear n6
                                go_wp2_with (go_at_call 15; refine awake_any.mono ?_; rintro e w9 ⟨rfl, hb9⟩)
                                go_ret
                                exact ⟨rfl, belowP hbC (belowP hW6 hb9)⟩
          · go_wp2_with (first
              | (go_at_call 15; refine awake_any.mono ?_; rintro e w9 ⟨rfl, hb9⟩)
              | (have _h := hdone; go_at_call 7; refine hF2.mono ?_; rintro e w2 ⟨rfl, hb2⟩)
              | (go_at_call 7; refine hF1.mono ?_; rintro e w1 ⟨rfl, hb1⟩
                 have hdone : True := trivial
                 have hF2 := HF2.out w1 (belowP hbC hb1)
                 have q1 := HK8.out w1 hb1
                 clear c0 c1 c2 c3 c4 c5 c6 c7 c8
                 have d0 := cellP q1 0 _ rfl; have d1 := cellP q1 1 _ rfl; have d2 := cellP q1 2 _ rfl; have d3 := cellP q1 3 _ rfl; have d4 := cellP q1 4 _ rfl; have d5 := cellP q1 5 _ rfl; have d6 := cellP q1 6 _ rfl; have d7 := cellP q1 7 _ rfl; have d8 := cellP q1 8 _ rfl
                 clear q1))
            go_ret
            exact ⟨rfl, belowP hbC (belowP hb1 (belowP hb2 hb9))⟩
        · go_wp2_with (first
              | (go_at_call 15; refine awake_any.mono ?_; rintro e w9 ⟨rfl, hb9⟩)
              | (have _h := hdone; go_at_call 7; refine hF2.mono ?_; rintro e w2 ⟨rfl, hb2⟩)
              | (go_at_call 7; refine hF1.mono ?_; rintro e w1 ⟨rfl, hb1⟩
                 have hdone : True := trivial
                 have hF2 := HF2.out w1 (belowP hbC hb1)
                 have q1 := HK8.out w1 hb1
                 clear c0 c1 c2 c3 c4 c5 c6 c7 c8
                 have d0 := cellP q1 0 _ rfl; have d1 := cellP q1 1 _ rfl; have d2 := cellP q1 2 _ rfl; have d3 := cellP q1 3 _ rfl; have d4 := cellP q1 4 _ rfl; have d5 := cellP q1 5 _ rfl; have d6 := cellP q1 6 _ rfl; have d7 := cellP q1 7 _ rfl; have d8 := cellP q1 8 _ rfl
                 clear q1))
          go_ret
          exact ⟨rfl, belowP hbC (belowP hb1 (belowP hb2 hb9))⟩
end Go.Proofs.Ytalmghbkdelaoaa

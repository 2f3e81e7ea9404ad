/-
  The document's May and the program's are the same; the walk of the law.
  Levels that came in, as the walks read them.
-/
import Derived.Test.YtalmghbkdelaoaaP11
import Derived.Test.YtalmghbkdelaoaaChecked
import Derived.ProofKit
import Derived.SizedLaws
import Derived.Deep.Strs
import Derived.Deep.Slices
set_option maxRecDepth 100000
set_option maxHeartbeats 64000000
namespace Go.Proofs.Ytalmghbkdelaoaa
open Go.RowKit

theorem fnd_n0 (l : Lv) : fnd (nums l) kBan = some l.ban := by simp [nums, fnd, Lib.toList_data]
theorem fnd_n1 (l : Lv) : fnd (nums l) kKick = some l.kick := by simp [nums, fnd, Lib.toList_data]
theorem fnd_n2 (l : Lv) : fnd (nums l) kInvite = some l.invite := by simp [nums, fnd, Lib.toList_data]
theorem fnd_n3 (l : Lv) : fnd (nums l) kRedact = some l.redact := by simp [nums, fnd, Lib.toList_data]
theorem fnd_n4 (l : Lv) : fnd (nums l) kState = some l.state := by simp [nums, fnd, Lib.toList_data]
theorem fnd_n5 (l : Lv) : fnd (nums l) kEvents = some l.events := by simp [nums, fnd, Lib.toList_data]
theorem fnd_n6 (l : Lv) : fnd (nums l) kUsers = some l.users := by simp [nums, fnd, Lib.toList_data]
theorem quiet_any (f : Chg → Bool) (a b : Nms) : quiet f a b = !(a ++ b).any (fun p => (chg a b p).turns && f (chg a b p)) := by
  unfold quiet chs
  rw [List.any_filter, List.any_map]
  rfl
theorem lift_eq (s x y : Int) (n : ByteArray) : (Chg.turns ⟨n, some x, some y⟩ && Chg.above s ⟨n, some x, some y⟩) = lift1 s x y := by
  unfold Chg.turns Chg.above lift1 over
  simp
theorem quiet_nums (s : Int) (a b : Lv) : quiet (Chg.above s) (nums a) (nums b) = okNum s (n7 a) (n7 b) := by
  rw [quiet_any]
  have key : ∀ (l : Lv), (nums l).any (fun p => (chg (nums a) (nums b) p).turns && Chg.above s (chg (nums a) (nums b) p)) = ((n7 a).zip (n7 b)).any fun q => lift1 s q.1 q.2 := fun l => by
    simp only [nums, n7, chg, List.any_cons, List.any_nil, List.zip_cons_cons, List.zip_nil_left]
    simp only [show ∀ x : Lv, [(kBan, x.ban), (kKick, x.kick), (kInvite, x.invite), (kRedact, x.redact), (kState, x.state), (kEvents, x.events), (kUsers, x.users)] = nums x from fun _ => rfl, fnd_n0, fnd_n1, fnd_n2, fnd_n3, fnd_n4, fnd_n5, fnd_n6, lift_eq]
  rw [List.any_append, key a, key b, Bool.or_self, okNum]
theorem all_quiet (a b : Nms) (s : Int) (self : ByteArray) : quiet (Chg.above s) a b = okAll a b self s false (a ++ b) := by
  rw [quiet_any, okAll, List.not_any_eq_all_not]
  congr 1 <;> (funext p; simp [mayN, chg, Chg.above])
theorem all_quiet2 (a b : Nms) (s : Int) (self : ByteArray) : quiet (Chg.bad self s) a b = okAll a b self s true (a ++ b) := by
  rw [quiet_any, okAll, List.not_any_eq_all_not]
  congr 1 <;> (funext p; simp [mayN, chg, Chg.above, Chg.bad, Bool.or_assoc])
theorem may_same (a b : Lv) (u : ByteArray) : mayL a b u = mayR a b u := by
  unfold mayL mayR
  rw [quiet_nums, all_quiet _ _ _ ⟨#[]⟩, all_quiet2]
theorem powerMay_any {w : World} {a b : Lv} {pa pb : Pl} (ha : IsL (· < w.heap.size) w a pa) (hb : IsL (· < w.heap.size) w b pb) (u : ByteArray) :
    Calls Try.prog 4 #[valL a pa, valL b pb, .string u] w fun e w' => e = .returned (.bool true) ∧ Below w.heap.size w w' := by
  obtain ⟨W0, hW0⟩ : ∃ W0, W0 = (w.alloc (.cells (cellsL a pa).toArray 24)).alloc (.cells (cellsL b pb).toArray 24) := ⟨_, rfl⟩
  have hb0 : Below w.heap.size w W0 := by rw [hW0]; exact ((Below.refl _ _).alloc (Nat.le_refl _) _).alloc (by simp) _
  have hs0 : w.heap.size + 2 ≤ W0.heap.size := by rw [hW0]; simp
  have k01 := allocP2 (w := w) (.cells (cellsL a pa).toArray 24) (.cells (cellsL b pb).toArray 24)
  rw [← hW0] at k01
  have HK : Hid (∀ X, Below W0.heap.size W0 X → X.heap[w.heap.size]? = some (.cells (cellsL a pa).toArray 24 (0, 0)) ∧ X.heap[w.heap.size + 1]? = some (.cells (cellsL b pb).toArray 24 (0, 0))) := fun X hX => ⟨(hX.block _ (by omega)).trans k01.1, (hX.block _ (by omega)).trans k01.2⟩
  have HO : Hid (∀ X, Below W0.heap.size W0 X → ∀ k, k < w.heap.size → k < X.heap.size) := fun X hX k hk => Nat.lt_of_lt_of_le hk (belowP hb0 hX).size
  have HF1 : Hid (∀ X, Below W0.heap.size W0 X → Calls Try.prog 7 #[valL a pa] X fun e w' => e = .returned (.bool (fewL a)) ∧ Below X.heap.size X w') := fun X hX => few_lv (ha.below (fun _ h => h) (belowP hb0 hX)) (HO.out X hX)
  have HF2 : Hid (∀ X, Below W0.heap.size W0 X → Calls Try.prog 7 #[valL b pb] X fun e w' => e = .returned (.bool (fewL b)) ∧ Below X.heap.size X w') := fun X hX => few_lv (hb.below (fun _ h => h) (belowP hb0 hX)) (HO.out X hX)
  have HM : Hid (fewL a = true → fewL b = true → ∀ X, Below W0.heap.size W0 X → Calls Try.prog 16 #[valL a pa, valL b pb, .string u] X fun e w' => e = .returned (.bool (mayL a b u)) ∧ Below X.heap.size X w') := fun h1 h2 X hX => may_lv (ha.below (fun _ h => h) (belowP hb0 hX)) (hb.below (fun _ h => h) (belowP hb0 hX)) (HO.out X hX) (fewL_sz h1) (fewL_sz h2) u
  have HR : Hid (fewL a = true → fewL b = true → ∀ X, Below W0.heap.size W0 X → Calls Try.prog 17 #[valL a pa, valL b pb, .string u] X fun e w' => e = .returned (.bool (mayL a b u)) ∧ Below X.heap.size X w') := fun h1 h2 X hX => by
    have h := rMay_lv (ha.below (fun _ h => h) (belowP hb0 hX)) (hb.below (fun _ h => h) (belowP hb0 hX)) (HO.out X hX) (fewL_sz h1) (fewL_sz h2) u
    rw [← may_same] at h
    exact h
  generalize fewL a = FA at HF1 HM HR
  generalize fewL b = FB at HF2 HM HR
  generalize mayL a b u = MY at HM HR
  obtain ⟨ban, kick, invite, redact, state, events, users, us, ty⟩ := a
  obtain ⟨pu, cu, pt, ct⟩ := pa
  obtain ⟨ban', kick', invite', redact', state', events', users', us', ty'⟩ := b
  obtain ⟨pu', cu', pt', ct'⟩ := pb
  clear ha hb k01
  simp only [valL, cellsL] at hW0 HK HF1 HF2 HM HR ⊢
  go_enter Try.func4, Try.ntmps4
  go_upto_region 1 with fail
  rw [← hW0]
  obtain ⟨q0, q1⟩ := HK.out W0 (Below.refl _ _)
  have c0 := cellP q0 0 _ rfl; have c1 := cellP q0 1 _ rfl; have c2 := cellP q0 2 _ rfl; have c3 := cellP q0 3 _ rfl; have c4 := cellP q0 4 _ rfl; have c5 := cellP q0 5 _ rfl; have c6 := cellP q0 6 _ rfl; have c7 := cellP q0 7 _ rfl; have c8 := cellP q0 8 _ rfl
  have hF1 := HF1.out W0 (Below.refl _ _)
  clear q0 q1 hW0
  cases FA with
  | false =>
    go_wp2_with (go_at_call 7; refine hF1.mono ?_; rintro e w1 ⟨rfl, hb1⟩)
    go_ret
    exact ⟨rfl, belowP hb0 hb1⟩
  | true =>
    cases FB with
    | false =>
      go_wp2_with (first
        | (have _h := hdone; go_at_call 7; refine hF2.mono ?_; rintro e w2 ⟨rfl, hb2⟩)
        | (go_at_call 7; refine hF1.mono ?_; rintro e w1 ⟨rfl, hb1⟩
           have hdone : True := trivial
           have hF2 := HF2.out w1 hb1
           obtain ⟨q0, q1⟩ := HK.out w1 hb1
           clear c0 c1 c2 c3 c4 c5 c6 c7 c8
           have d0 := cellP q1 0 _ rfl; have d1 := cellP q1 1 _ rfl; have d2 := cellP q1 2 _ rfl; have d3 := cellP q1 3 _ rfl; have d4 := cellP q1 4 _ rfl; have d5 := cellP q1 5 _ rfl; have d6 := cellP q1 6 _ rfl; have d7 := cellP q1 7 _ rfl; have d8 := cellP q1 8 _ rfl
           clear q0 q1))
      go_ret
      exact ⟨rfl, belowP hb0 (belowP hb1 hb2)⟩
    | true =>
      have hM0 := HM.out rfl rfl
      have hR0 := HR.out rfl rfl
      have HM0 := (show Hid _ from hM0)
      have HR0 := (show Hid _ from hR0)
      clear hM0 hR0 HM HR
      by_cases hu : u.size ≤ 200
      · go_upto_region 3 with (first
          | (have _h := hdone; go_at_call 7; refine hF2.mono ?_; rintro e w2 ⟨rfl, hb2⟩)
          | (go_at_call 7; refine hF1.mono ?_; rintro e w1 ⟨rfl, hb1⟩
             have hdone : True := trivial
             have hF2 := HF2.out w1 hb1
             obtain ⟨q0, q1⟩ := HK.out w1 hb1
             clear c0 c1 c2 c3 c4 c5 c6 c7 c8
             have d0 := cellP q1 0 _ rfl; have d1 := cellP q1 1 _ rfl; have d2 := cellP q1 2 _ rfl; have d3 := cellP q1 3 _ rfl; have d4 := cellP q1 4 _ rfl; have d5 := cellP q1 5 _ rfl; have d6 := cellP q1 6 _ rfl; have d7 := cellP q1 7 _ rfl; have d8 := cellP q1 8 _ rfl
             clear q0 q1))
        clear d0 d1 d2 d3 d4 d5 d6 d7 d8 hF1 hF2 HF1 HF2
        have hW2 : Below W0.heap.size W0 w2 := belowP hb1 hb2
        have HK2 : Hid (∀ X, Below w2.heap.size w2 X → X.heap[w.heap.size]? = some (.cells #[.int .i64 ban, .int .i64 kick, .int .i64 invite, .int .i64 redact, .int .i64 state, .int .i64 events, .int .i64 users, .slice pu us.length cu, .slice pt ty.length ct] 24 (0, 0)) ∧ X.heap[w.heap.size + 1]? = some (.cells #[.int .i64 ban', .int .i64 kick', .int .i64 invite', .int .i64 redact', .int .i64 state', .int .i64 events', .int .i64 users', .slice pu' us'.length cu', .slice pt' ty'.length ct'] 24 (0, 0))) := fun X hX => HK.out X (belowP hW2 hX)
        refine wp_narrow ?_
        refine wp_region_in (by kernel_rfl) (fun w' => Below w2.heap.size w2 w') ?_
        change wpIn _ _ _ _ _ _ _ _ (World.drew _)
        have hD : Below w2.heap.size w2 w2.drew := (Below.refl _ _).drew
        refine wpIn_take (i := 0) (d := (some 20)) (v := ?vqf0) (a' := ?aqf0) rfl rfl (by kernel_rfl) (by kernel_rfl) (by kernel_rfl) (fun _ _ _ h => h) (Or.inl ⟨by rfl, ?yqf0⟩) ?fqf0 ?_
        case yqf0 => (intro wq hq; obtain ⟨q0, q1⟩ := HK2.out wq hq; have z0 := cellP q0 0 _ rfl; have z1 := cellP q0 1 _ rfl; have z2 := cellP q0 2 _ rfl; have z3 := cellP q0 3 _ rfl; have z4 := cellP q0 4 _ rfl; have z5 := cellP q0 5 _ rfl; have z6 := cellP q0 6 _ rfl; have z7 := cellP q0 7 _ rfl; have z8 := cellP q0 8 _ rfl; go_simp; first | done | with_reducible rfl)
        case fqf0 => (go_frame; rfl)
        refine wpIn_take (i := 1) (d := (some 21)) (v := ?vqf1) (a' := ?aqf1) rfl rfl (by kernel_rfl) (by kernel_rfl) (by kernel_rfl) (fun _ _ _ h => h) (Or.inl ⟨by rfl, ?yqf1⟩) ?fqf1 ?_
        case yqf1 => (intro wq hq; obtain ⟨q0, q1⟩ := HK2.out wq hq; have z0 := cellP q1 0 _ rfl; have z1 := cellP q1 1 _ rfl; have z2 := cellP q1 2 _ rfl; have z3 := cellP q1 3 _ rfl; have z4 := cellP q1 4 _ rfl; have z5 := cellP q1 5 _ rfl; have z6 := cellP q1 6 _ rfl; have z7 := cellP q1 7 _ rfl; have z8 := cellP q1 8 _ rfl; go_simp; first | done | with_reducible rfl)
        case fqf1 => (go_frame; rfl)
        refine wpIn_take (i := 2) (d := (some 22)) (v := ?vqf2) (a' := ?aqf2) rfl rfl (by kernel_rfl) (by kernel_rfl) (by kernel_rfl) (fun _ _ _ h => h) (Or.inl ⟨by rfl, ?yqf2⟩) ?fqf2 ?_
        case yqf2 => (intro wq hq; go_simp; first | done | with_reducible rfl)
        case fqf2 => (go_frame; rfl)
        refine wpIn_take (i := 4) (d := (some 24)) (v := ?vqf4) (a' := ?aqf4) rfl rfl (by kernel_rfl) (by kernel_rfl) (by kernel_rfl) (fun _ _ _ h => h) (Or.inl ⟨by rfl, ?yqf4⟩) ?fqf4 ?_
        case yqf4 => (intro wq hq; obtain ⟨q0, q1⟩ := HK2.out wq hq; have z0 := cellP q0 0 _ rfl; have z1 := cellP q0 1 _ rfl; have z2 := cellP q0 2 _ rfl; have z3 := cellP q0 3 _ rfl; have z4 := cellP q0 4 _ rfl; have z5 := cellP q0 5 _ rfl; have z6 := cellP q0 6 _ rfl; have z7 := cellP q0 7 _ rfl; have z8 := cellP q0 8 _ rfl; go_simp; first | done | with_reducible rfl)
        case fqf4 => (go_frame; rfl)
        refine wpIn_take (i := 5) (d := (some 25)) (v := ?vqf5) (a' := ?aqf5) rfl rfl (by kernel_rfl) (by kernel_rfl) (by kernel_rfl) (fun _ _ _ h => h) (Or.inl ⟨by rfl, ?yqf5⟩) ?fqf5 ?_
        case yqf5 => (intro wq hq; obtain ⟨q0, q1⟩ := HK2.out wq hq; have z0 := cellP q1 0 _ rfl; have z1 := cellP q1 1 _ rfl; have z2 := cellP q1 2 _ rfl; have z3 := cellP q1 3 _ rfl; have z4 := cellP q1 4 _ rfl; have z5 := cellP q1 5 _ rfl; have z6 := cellP q1 6 _ rfl; have z7 := cellP q1 7 _ rfl; have z8 := cellP q1 8 _ rfl; go_simp; first | done | with_reducible rfl)
        case fqf5 => (go_frame; rfl)
        refine wpIn_take (i := 6) (d := (some 26)) (v := ?vqf6) (a' := ?aqf6) rfl rfl (by kernel_rfl) (by kernel_rfl) (by kernel_rfl) (fun _ _ _ h => h) (Or.inl ⟨by rfl, ?yqf6⟩) ?fqf6 ?_
        case yqf6 => (intro wq hq; go_simp; first | done | with_reducible rfl)
        case fqf6 => (go_frame; rfl)
        refine wpIn_do (i := 3) hD (by kernel_rfl) rfl (by rfl) ?_
        intro K hK
        go_simp
        go_wp2_with (go_at_call 16; refine (HM0.out _ (belowP hW2 hD)).mono ?_; rintro e w3 ⟨rfl, hb3⟩)
        have hD3 : Below w2.heap.size w2 w3 := belowP hD hb3
        refine wpIn_do (i := 7) hD3 (by kernel_rfl) rfl (by rfl) ?_
        intro K hK
        go_simp
        go_wp2_with (go_at_call 17; refine (HR0.out _ (belowP hW2 hD3)).mono ?_; rintro e w4 ⟨rfl, hb4⟩)
        have hD4 : Below w2.heap.size w2 w4 := belowP hD3 hb4
        refine wpIn_take (i := 8) (d := (some 28)) (v := ?vqf8) (a' := ?aqf8) rfl rfl (by kernel_rfl) (by kernel_rfl) (by kernel_rfl) (fun _ _ _ h => h) (Or.inl ⟨by rfl, ?yqf8⟩) ?fqf8 ?_
        case yqf8 => (intro wq hq; go_simp; first | done | with_reducible rfl)
        case fqf8 => (go_frame; rfl)
        refine wpIn_take (i := 9) (d := (some 29)) (v := ?vqf9) (a' := ?aqf9) rfl rfl (by kernel_rfl) (by kernel_rfl) (by kernel_rfl) (fun _ _ _ h => h) (Or.inl ⟨by rfl, ?yqf9⟩) ?fqf9 ?_
        case yqf9 => (intro wq hq; go_simp; first | done | with_reducible rfl)
        case fqf9 => (go_frame; rfl)
        refine wpIn_do (i := 10) hD4 (by kernel_rfl) rfl (by rfl) ?_
        intro K hK
        go_simp
        go_wp2_with (go_at_call 15; refine awake_any.mono ?_; rintro e w5 ⟨rfl, hb5⟩)
        have hD5 : Below w2.heap.size w2 w5 := belowP hD4 hb5
        refine wpIn_take (i := 11) (d := (some 31)) (v := ?vqf11) (a' := ?aqf11) rfl rfl (by kernel_rfl) (by kernel_rfl) (by kernel_rfl) (fun _ _ _ h => h) (Or.inl ⟨by rfl, ?yqf11⟩) ?fqf11 ?_
        case yqf11 => (intro wq hq; go_simp; first | done | with_reducible rfl)
        case fqf11 => (go_frame; rfl)
        refine wpIn_take (i := 12) (d := (some 6)) (v := ?vqf12) (a' := ?aqf12) rfl rfl (by kernel_rfl) (by kernel_rfl) (by kernel_rfl) (fun _ _ _ h => h) (Or.inl ⟨by rfl, ?yqf12⟩) ?fqf12 ?_
        case yqf12 => (intro wq hq; go_simp; first | done | with_reducible rfl)
        case fqf12 => (go_frame; rfl)
        refine wpIn_done hD5 (by kernel_rfl) ?_ _
        go_wp2
        go_ret
        exact ⟨rfl, belowP hb0 (belowP hW2 hD5)⟩
      · go_wp2_with (first
          | (have _h := hdone; go_at_call 7; refine hF2.mono ?_; rintro e w2 ⟨rfl, hb2⟩)
          | (go_at_call 7; refine hF1.mono ?_; rintro e w1 ⟨rfl, hb1⟩
             have hdone : True := trivial
             have hF2 := HF2.out w1 hb1
             obtain ⟨q0, q1⟩ := HK.out w1 hb1
             clear c0 c1 c2 c3 c4 c5 c6 c7 c8
             have d0 := cellP q1 0 _ rfl; have d1 := cellP q1 1 _ rfl; have d2 := cellP q1 2 _ rfl; have d3 := cellP q1 3 _ rfl; have d4 := cellP q1 4 _ rfl; have d5 := cellP q1 5 _ rfl; have d6 := cellP q1 6 _ rfl; have d7 := cellP q1 7 _ rfl; have d8 := cellP q1 8 _ rfl
             clear q0 q1))
        go_ret
        exact ⟨rfl, belowP hb0 (belowP hb1 hb2)⟩
end Go.Proofs.Ytalmghbkdelaoaa
namespace Go.Proofs.Ytalmghbkdelaoaa
open Go.ChangeShapes Go.WideShapes Go.ChangeAt Go.RowKit

theorem ownKP : ownKnob Try.prog.godebug = none := by kernel_rfl
theorem laidOutP : laidOutB Try.prog = true := by kernel_rfl
theorem cellsP2 : Try.prog.cellsOf 2 = 1 := by kernel_rfl
theorem cellsP9 : Try.prog.cellsOf 9 = 1 := by kernel_rfl
theorem cellsPn : Try.prog.cellsOf 36 = 2 := by kernel_rfl
theorem cellsPs : Try.prog.cellsOf 22 = 1 := by kernel_rfl
theorem cellsPl : Try.prog.cellsOf 24 = 9 := by kernel_rfl
theorem cellP_lt {w : World} {a : Addr} {v : Value} (h : w.cell? a = some v) : a.block < w.heap.size := by
  rcases Nat.lt_or_ge a.block w.heap.size with h' | h'
  · exact h'
  · simp [World.cell?, Array.getElem?_eq_none h'] at h
theorem cellP_none {w : World} {b o : Nat} {sp : Option Nat} {v : Value} (h : w.cell? ⟨b, o, sp⟩ = some v) : sp = none := by
  cases sp with
  | none => rfl
  | some x =>
    unfold World.cell? at h
    split at h <;> simp at h
theorem addP_block (a : Addr) (m : Nat) : (a.add m).block = a.block := by unfold Addr.add; split <;> rfl
section
variable {H : Type} {enc : TypeId × Value → H} {W : World} {fuel : Nat} {cs : List Value} {x : DataW H × List MemPlace}
theorem named_of (h : DataW.trod enc Try.prog W 0 (fun _ => true) true fuel 36 cs = some x) : ∃ (s : ByteArray) (n : Int), cs = [.string s, .int .i64 n] := by
  obtain ⟨xs, n, _, rfl, hl, hlen, hf⟩ := DataW.trod_struct Try.underlying36 h
  rw [cellsPn] at hl
  match cs, hl, xs, hlen with
  | [c0, c1], _, [y0, y1], _ =>
    have f0 : DataW.trod enc Try.prog W 0 (fun _ => true) true n 9 (([c0, c1].drop 0).take (Try.prog.cellsOf 9)) = some y0 := hf 0 _ rfl
    have f1 : DataW.trod enc Try.prog W 0 (fun _ => true) true n 2 (([c0, c1].drop 1).take (Try.prog.cellsOf 2)) = some y1 := hf 1 _ rfl
    rw [cellsP9] at f0
    rw [cellsP2] at f1
    obtain ⟨s, e0, _, _⟩ := DataW.trod_string Try.underlying9 f0
    obtain ⟨m, e1, _⟩ := DataW.trod_int Try.underlying2 f1
    cases e0; cases e1
    exact ⟨s, m, rfl⟩
theorem nameds_of (h : DataW.trod enc Try.prog W 0 (fun _ => true) true fuel 22 cs = some x) :
    ∃ p l c, cs = [.slice p l.length c] ∧ RdN (· < W.heap.size) W p c l := by
  rcases Go.Deep.open_slice Try.underlying22 h with ⟨rfl, hx⟩ | ⟨a, len, cap, m, n, D, Pl, rfl, _, hl, hm, hmm, hx, hcell⟩
  · exact ⟨none, [], 0, rfl, RdN.nil _ _ _ _ fun _ => rfl⟩
  · simp only [if_true] at hmm
    subst hmm
    rw [cellsPn] at hcell
    have key : ∀ i, i < m → ∃ d : ByteArray × Int, ∃ b o, a = ⟨b, o, none⟩ ∧ b < W.heap.size ∧ W.cell? ⟨b, o + i * 2, none⟩ = some (.string d.1) ∧ W.cell? ⟨b, o + i * 2 + 1, none⟩ = some (.int .i64 d.2) := by
      intro i hi
      obtain ⟨cs', hcs', htr⟩ := hcell i hi
      obtain ⟨s, q, rfl⟩ := named_of htr
      obtain ⟨_, _, hc⟩ := World.cells?_some hcs'
      have g0 := hc 0 (by omega)
      have g1 := hc 1 (by omega)
      simp only [List.getElem?_cons_zero, List.getElem?_cons_succ] at g0 g1
      have e0 : ((a.add (i * 2)).add 0) = a.add (i * 2) := by simp [Addr.add]
      rw [e0] at g0
      have hlt := cellP_lt g0
      rw [addP_block] at hlt
      obtain ⟨cs0, hcs0, htr0⟩ := hcell 0 (by omega)
      obtain ⟨_, _, rfl⟩ := named_of htr0
      obtain ⟨_, _, hc0⟩ := World.cells?_some hcs0
      have k0 := hc0 0 (by omega)
      simp only [List.getElem?_cons_zero] at k0
      have e00 : (a.add (0 * 2)).add 0 = a := by simp [Addr.add]
      rw [e00] at k0
      obtain ⟨b, o, sp⟩ := a
      obtain rfl := cellP_none k0
      rw [addP_flat] at g0 g1
      rw [addP_flat] at g1
      exact ⟨(s, q), b, o, rfl, hlt, g0, g1⟩
    obtain ⟨F, hF⟩ : ∃ F : Nat → ByteArray × Int, ∀ i, i < m → ∃ b o, a = ⟨b, o, none⟩ ∧ b < W.heap.size ∧ W.cell? ⟨b, o + i * 2, none⟩ = some (.string (F i).1) ∧ W.cell? ⟨b, o + i * 2 + 1, none⟩ = some (.int .i64 (F i).2) :=
      ⟨fun i => if h : i < m then Classical.choose (key i h) else zN, fun i hi => by simp only [dif_pos hi]; exact Classical.choose_spec (key i hi)⟩
    have hlen : ((List.range len).map F).length = len := by simp
    refine ⟨some a, (List.range len).map F, m, by rw [hlen], ⟨⟨by rw [hlen]; exact hl, fun h => by cases h⟩, fun hne => ?_⟩⟩
    have h0 : 0 < len := by
      rcases Nat.eq_zero_or_pos len with e | e
      · subst e; simp at hne
      · exact e
    obtain ⟨b, o, ha, hb, _⟩ := hF 0 (by omega)
    refine ⟨b, o, by rw [ha], hb, fun j y hj => ?_⟩
    have hjl : j < len := by have := (List.getElem?_eq_some_iff.1 hj).1; rw [hlen] at this; exact this
    rw [List.getElem?_map, List.getElem?_range hjl] at hj
    cases hj
    obtain ⟨b', o', ha', _, h1, h2⟩ := hF j (by omega)
    rw [ha] at ha'
    cases ha'
    exact ⟨h1, h2⟩
theorem levels_of (h : DataW.trod enc Try.prog W 0 (fun _ => true) true fuel 24 cs = some x) : ∃ l p, cs = cellsL l p ∧ IsL (· < W.heap.size) W l p := by
  obtain ⟨xs, n, _, rfl, hl, hlen, hf⟩ := DataW.trod_struct Try.underlying24 h
  rw [cellsPl] at hl
  match cs, hl, xs, hlen with
  | [c0, c1, c2, c3, c4, c5, c6, c7, c8], _, [y0, y1, y2, y3, y4, y5, y6, y7, y8], _ =>
    have f0 : DataW.trod enc Try.prog W 0 (fun _ => true) true n 2 (([c0, c1, c2, c3, c4, c5, c6, c7, c8].drop 0).take (Try.prog.cellsOf 2)) = some y0 := hf 0 _ rfl
    have f1 : DataW.trod enc Try.prog W 0 (fun _ => true) true n 2 (([c0, c1, c2, c3, c4, c5, c6, c7, c8].drop 1).take (Try.prog.cellsOf 2)) = some y1 := hf 1 _ rfl
    have f2 : DataW.trod enc Try.prog W 0 (fun _ => true) true n 2 (([c0, c1, c2, c3, c4, c5, c6, c7, c8].drop 2).take (Try.prog.cellsOf 2)) = some y2 := hf 2 _ rfl
    have f3 : DataW.trod enc Try.prog W 0 (fun _ => true) true n 2 (([c0, c1, c2, c3, c4, c5, c6, c7, c8].drop 3).take (Try.prog.cellsOf 2)) = some y3 := hf 3 _ rfl
    have f4 : DataW.trod enc Try.prog W 0 (fun _ => true) true n 2 (([c0, c1, c2, c3, c4, c5, c6, c7, c8].drop 4).take (Try.prog.cellsOf 2)) = some y4 := hf 4 _ rfl
    have f5 : DataW.trod enc Try.prog W 0 (fun _ => true) true n 2 (([c0, c1, c2, c3, c4, c5, c6, c7, c8].drop 5).take (Try.prog.cellsOf 2)) = some y5 := hf 5 _ rfl
    have f6 : DataW.trod enc Try.prog W 0 (fun _ => true) true n 2 (([c0, c1, c2, c3, c4, c5, c6, c7, c8].drop 6).take (Try.prog.cellsOf 2)) = some y6 := hf 6 _ rfl
    have f7 : DataW.trod enc Try.prog W 0 (fun _ => true) true n 22 (([c0, c1, c2, c3, c4, c5, c6, c7, c8].drop 7).take (Try.prog.cellsOf 22)) = some y7 := hf 7 _ rfl
    have f8 : DataW.trod enc Try.prog W 0 (fun _ => true) true n 22 (([c0, c1, c2, c3, c4, c5, c6, c7, c8].drop 8).take (Try.prog.cellsOf 22)) = some y8 := hf 8 _ rfl
    rw [cellsP2] at f0 f1 f2 f3 f4 f5 f6
    rw [cellsPs] at f7 f8
    obtain ⟨m0, e0, _⟩ := DataW.trod_int Try.underlying2 f0
    obtain ⟨m1, e1, _⟩ := DataW.trod_int Try.underlying2 f1
    obtain ⟨m2, e2, _⟩ := DataW.trod_int Try.underlying2 f2
    obtain ⟨m3, e3, _⟩ := DataW.trod_int Try.underlying2 f3
    obtain ⟨m4, e4, _⟩ := DataW.trod_int Try.underlying2 f4
    obtain ⟨m5, e5, _⟩ := DataW.trod_int Try.underlying2 f5
    obtain ⟨m6, e6, _⟩ := DataW.trod_int Try.underlying2 f6
    obtain ⟨p7, l7, k7, e7, r7⟩ := nameds_of f7
    obtain ⟨p8, l8, k8, e8, r8⟩ := nameds_of f8
    cases e0; cases e1; cases e2; cases e3; cases e4; cases e5; cases e6; cases e7; cases e8
    exact ⟨⟨m0, m1, m2, m3, m4, m5, m6, l7, l8⟩, ⟨p7, k7, p8, k8⟩, rfl, r7, r8⟩
end
theorem view_levels {H : Type} {enc : TypeId × Value → H} {W : World} {base : Nat} {v : Value} {d : DataW H} {p0 : List MemPlace} (hval : Value.okWide Try.prog W .any base 24 v)
    (h0 : DataW.Trod enc Try.prog W 0 (fun _ => true) true 24 v d p0) : ∃ l p, v = valL l p ∧ IsL (· < W.heap.size) W l p := by
  obtain ⟨cs, rfl, _⟩ := okWide_struct Try.underlying24 hval
  obtain ⟨fuel, hf⟩ := h0
  have hf' : DataW.trod enc Try.prog W 0 (fun _ => true) true fuel 24 cs.toList = some (d, p0) := by simpa [Value.cells] using hf
  obtain ⟨l, p, hcs, hI⟩ := levels_of hf'
  refine ⟨l, p, ?_, hI⟩
  unfold valL
  rw [← hcs]
end Go.Proofs.Ytalmghbkdelaoaa

/-
  The document's Type, Start, and levels that are the same: by contracts.
  Which level anybody has, and anything needs: the walk of the law.
-/
import Derived.Test.YtalmghbkdelaoaaPBaseM
namespace Go.Proofs.Ytalmghbkdelaoaa
open Go.RowKit Go.Maps

set_option maxRecDepth 100000 in
set_option maxHeartbeats 4000000 in
theorem rtype_lv {O : Nat → Prop} {w : World} {l : Lv} {p : Pl} (h : IsL O w l p) (hO : ∀ k, O k → k < w.heap.size) (hz : SzL l) (s : ByteArray) (st : Bool) :
    Calls Try.prog 12 #[valL l p, .string s, .bool st] w fun e w' => e = .returned (.int .i64 (kindL l s st)) ∧ Below w.heap.size w w' := by
  have hb : Below w.heap.size w (w.alloc (.cells (cellsL l p).toArray 24)) := (Below.refl _ _).alloc (Nat.le_refl _) _
  have hf := find_any (h.ty.below hO hb) hz.ty s
  have HB : Hid (Below w.heap.size w (w.alloc (.cells (cellsL l p).toArray 24))) := hb
  unfold kindL
  generalize fnd l.byType s = o at hf
  obtain ⟨ban, kick, invite, redact, state, events, users, us, ty⟩ := l
  obtain ⟨pu, cu, pt, ct⟩ := p
  simp only [valL, cellsL] at hf hb ⊢
  clear h hz hb
  cases o with
  | none =>
    cases st
    all_goals
      go_enter Try.func12, Try.ntmps12
      go_wp2_with (go_at_call 20; refine hf.mono ?_; rintro e w1 ⟨rfl, rfl⟩)
      go_ret
      exact ⟨rfl, HB.out⟩
  | some y =>
    cases st
    all_goals
      go_enter Try.func12, Try.ntmps12
      go_wp2_with (go_at_call 20; refine hf.mono ?_; rintro e w1 ⟨rfl, rfl⟩)
      go_ret
      exact ⟨rfl, HB.out⟩
set_option maxRecDepth 100000 in
set_option maxHeartbeats 4000000 in
theorem rstart_lv {w : World} (s : ByteArray) :
    Calls Try.prog 14 #[.string s] w fun e w' => (∃ p, e = .returned (valL (startL s) p) ∧ IsL (fun b => w.heap.size ≤ b ∧ b < w'.heap.size) w' (startL s) p) ∧ Below w.heap.size w w' := by
  go_enter Try.func14, Try.ntmps14
  go_wp2
  obtain ⟨W, hW⟩ : ∃ W, W = ((w.alloc (.cells #[.int .i64 50, .int .i64 50, .int .i64 0, .int .i64 50, .int .i64 0, .int .i64 0, .int .i64 0, .slice (some ⟨w.heap.size + 1, 0, none⟩) 1 1, .slice none 0 0] 24)).alloc (.cells #[.string s, .int .i64 100] 36)) := ⟨_, rfl⟩
  have hB : Below w.heap.size w W := by rw [hW]; exact ((Below.refl _ _).alloc (Nat.le_refl _) _).alloc (by simp) _
  have k01 := allocP2 (w := w) (.cells #[.int .i64 50, .int .i64 50, .int .i64 0, .int .i64 50, .int .i64 0, .int .i64 0, .int .i64 0, .slice (some ⟨w.heap.size + 1, 0, none⟩) 1 1, .slice none 0 0] 24) (.cells #[.string s, .int .i64 100] 36)
  rw [← hW] at k01 ⊢
  refine bodyPost_ret (resultsP_cell rfl _ _ _ rfl (loadL9 k01.1)) rfl ?_
  have hlt := objP_lt k01.2
  exact ⟨⟨⟨some ⟨w.heap.size + 1, 0, none⟩, 1, none, 0⟩, rfl, rdN_flat (l := [(s, 100)]) ⟨by simp, hlt⟩ k01.2, RdN.nil _ _ _ _ fun _ => rfl⟩, hB⟩
theorem fieldsNamed : Try.prog.underlying 36 = some (.struct (Try.prog.fieldsOf 36)) := by kernel_rfl
theorem stoodNamed : Try.prog.stoodInHeld 36 = false := by kernel_rfl
theorem fieldsN : (Try.prog.fieldsOf 36).toList = [{ name := "Name", type := 9, offset := 0, embedded := false, tag := "", pkgPath := "", byteOffset := 0 }, { name := "Level", type := 2, offset := 1, embedded := false, tag := "", pkgPath := "", byteOffset := 16 }] := by kernel_rfl
theorem named_neq (w : World) (u : ByteArray) (x : Int) : (binOp .neq 36 (.agg #[.string u, .int .i64 x]) (.agg #[.string u, .int .i64 x])).run Try.prog w = .ok (.bool false) w := by
  have h9 : Try.prog.underlying 9 = some .string := by kernel_rfl
  have h2 : Try.prog.underlying 2 = some (.int .i64) := by kernel_rfl
  rw [run_neq_struct, run_equalIn_agg w 9999 36 _ _ fieldsNamed stoodNamed, fieldsN]
  have p0 : ∀ W, (part 9 #[.string u, .int .i64 x] 0).run Try.prog W = .ok (.string u) W := fun W => by simp [go_sem, part]
  have p1 : ∀ W, (part 2 #[.string u, .int .i64 x] 1).run Try.prog W = .ok (.int .i64 x) W := fun W => by simp [go_sem, part]
  have e0 : ∀ (W : World), (Op.equalIn 9999 9 (.string u) (.string u)).run Try.prog W = .ok true W := fun W => by rw [run_equalIn_string W 9998 9 u u h9]; simp
  have e1 : ∀ (W : World), (Op.equalIn 9999 2 (.int .i64 x) (.int .i64 x)).run Try.prog W = .ok true W := fun W => by rw [run_equalIn_int W 9998 2 .i64 .i64 x x h2]; simp
  simp [Op.eqFields, p0, p1, e0, e1, Result.andThen]
set_option maxRecDepth 100000 in
set_option maxHeartbeats 8000000 in
theorem rsame_eq {O : Nat → Prop} {w : World} {p q : Option Addr} {c d : Nat} {l : Nms} (h1 : RdN O w p c l) (h2 : RdN O w q d l) (hO : ∀ k, O k → k < w.heap.size) (hz : SzN l) :
    Calls Try.prog 22 #[.slice p l.length c, .slice q l.length d] w fun e w' => e = .returned (.bool true) ∧ Below w.heap.size w w' := by
  obtain ⟨n, hn⟩ : ∃ n, l.length = n := ⟨_, rfl⟩
  have HN : Hid (l.length = n) := hn
  have hz1 := hz.1
  have hc1 := h1.1.1
  have hc2 := h2.1.1
  rw [hn] at hz1 hc1 hc2 ⊢
  clear hn
  go_enter Try.func22, Try.ntmps22
  go_wp2
  go_loopw [5] (fun i wr => ∃ k : Nat, i = .int .i64 k ∧ k ≤ n ∧ Below w.heap.size w wr) (fun i _ => n - (intOf i).toNat)
  case atStart => exact ⟨0, rfl, Nat.zero_le _, Below.refl _ _⟩
  case round =>
    obtain ⟨k, rfl, hk, hbr⟩ := hrel
    have hk1 : ∀ (wx : World) (m : Nat), Below w.heap.size w wx → Below w.heap.size w (wx.drewN m) := fun wx m h => ⟨h.os, h.tape, h.output, h.size, h.block⟩
    by_cases hkn : k < n
    · have hkl : k < l.length := by rw [HN.out]; exact hkn
      obtain ⟨b, o, rfl, hb, g1, g2⟩ := h1.at hkl
      obtain ⟨b', o', rfl, hb', g1', g2'⟩ := h2.at hkl
      have x1 := (hbr.cell (p := ⟨b, o + k * 2, none⟩) (hO b hb)).trans g1
      have x2 := (hbr.cell (p := ⟨b, o + k * 2 + 1, none⟩) (hO b hb)).trans g2
      have y1 := (hbr.cell (p := ⟨b', o' + k * 2, none⟩) (hO b' hb')).trans g1'
      have y2 := (hbr.cell (p := ⟨b', o' + k * 2 + 1, none⟩) (hO b' hb')).trans g2'
      generalize l.getD k zN = x at x1 x2 y1 y2
      obtain ⟨xn, xl⟩ := x
      simp only at x1 x2 y1 y2
      have hbl : b < wr.heap.size := Nat.lt_of_lt_of_le (hO b hb) hbr.size
      have hbl' : b' < wr.heap.size := Nat.lt_of_lt_of_le (hO b' hb') hbr.size
      have hne := fun W => named_neq W xn xl
      clear g1 g2 g1' g2'
      go_wp2_with fail
      go_quiet (fail)
      go_wp2_with fail
      go_roundw
      case rel => exact ⟨k + 1, by simp, by omega, hk1 _ _ hbr⟩
      case measure => simp [intOf]; omega
    · obtain rfl : k = n := by omega
      go_wp2
      go_ret
      exact ⟨rfl, hbr⟩
set_option maxRecDepth 100000 in
set_option maxHeartbeats 16000000 in
theorem rSame_eq {O : Nat → Prop} {w : World} {a : Lv} {pa pb : Pl} (ha : IsL O w a pa) (hb : IsL O w a pb) (hO : ∀ k, O k → k < w.heap.size) (hz : SzL a) :
    Calls Try.prog 13 #[valL a pa, valL a pb] w fun e w' => e = .returned (.bool true) ∧ Below w.heap.size w w' := by
  obtain ⟨W2, hW0⟩ : ∃ W0, W0 = (w.alloc (.cells (cellsL a pa).toArray 24)).alloc (.cells (cellsL a pb).toArray 24) := ⟨_, rfl⟩
  have hb0 : Below w.heap.size w W2 := by rw [hW0]; exact ((Below.refl _ _).alloc (Nat.le_refl _) _).alloc (by simp) _
  have hs0 : w.heap.size + 2 ≤ W2.heap.size := by rw [hW0]; simp
  have k01 := allocP2 (w := w) (.cells (cellsL a pa).toArray 24) (.cells (cellsL a pb).toArray 24)
  rw [← hW0] at k01
  have HU : Hid (∀ X, Below w.heap.size w X → Calls Try.prog 22 #[.slice pa.pu a.byUser.length pa.cu, .slice pb.pu a.byUser.length pb.cu] X fun e w' => e = .returned (.bool true) ∧ Below X.heap.size X w') := fun X hX => rsame_eq (ha.us.below hO hX) (hb.us.below hO hX) (fun k hk => Nat.lt_of_lt_of_le (hO k hk) hX.size) hz.us
  have HT : Hid (∀ X, Below w.heap.size w X → Calls Try.prog 22 #[.slice pa.pt a.byType.length pa.ct, .slice pb.pt a.byType.length pb.ct] X fun e w' => e = .returned (.bool true) ∧ Below X.heap.size X w') := fun X hX => rsame_eq (ha.ty.below hO hX) (hb.ty.below hO hX) (fun k hk => Nat.lt_of_lt_of_le (hO k hk) hX.size) hz.ty
  have HN1 : Hid (∀ X : World, Calls Try.prog 21 #[valL a pa] X fun e w' => (∃ b, e = .returned (.slice (some ⟨b, 0, none⟩) 7 7) ∧ w'.heap[b]? = some (.cells ((n7 a).map (Value.int .i64)).toArray 2 (0, 0))) ∧ Below X.heap.size X w') := fun X => rnumbers_any
  have HN2 : Hid (∀ X : World, Calls Try.prog 21 #[valL a pb] X fun e w' => (∃ b', e = .returned (.slice (some ⟨b', 0, none⟩) 7 7) ∧ w'.heap[b']? = some (.cells ((n7 a).map (Value.int .i64)).toArray 2 (0, 0))) ∧ Below X.heap.size X w') := fun X => rnumbers_any
  have HL7 : Hid ((n7 a).length = 7) := rfl
  have HK : Hid (∀ X, Below W2.heap.size W2 X → X.heap[w.heap.size]? = some (.cells (cellsL a pa).toArray 24 (0, 0)) ∧ X.heap[w.heap.size + 1]? = some (.cells (cellsL a pb).toArray 24 (0, 0))) := fun X hX => ⟨(hX.block _ (by omega)).trans k01.1, (hX.block _ (by omega)).trans k01.2⟩
  generalize n7 a = NA at HN1 HN2 HL7
  obtain ⟨ban, kick, invite, redact, state, events, users, us, ty⟩ := a
  obtain ⟨pu, cu, pt, ct⟩ := pa
  obtain ⟨pu', cu', pt', ct'⟩ := pb
  clear ha hb hz k01 hO
  simp only [valL, cellsL] at hW0 HK HN1 HN2 HT HU ⊢
  go_enter Try.func13, Try.ntmps13
  go_upto_region 1 with fail
  rw [← hW0]
  clear hW0
  have HC0 : Hid (∀ X, Below W2.heap.size W2 X → X.heap[w.heap.size]? = some (.cells #[.int .i64 ban, .int .i64 kick, .int .i64 invite, .int .i64 redact, .int .i64 state, .int .i64 events, .int .i64 users, .slice pu us.length cu, .slice pt ty.length ct] 24 (0, 0))) := fun X hX => (HK.out X hX).1
  have HC1 : Hid (∀ X, Below W2.heap.size W2 X → X.heap[w.heap.size + 1]? = some (.cells #[.int .i64 ban, .int .i64 kick, .int .i64 invite, .int .i64 redact, .int .i64 state, .int .i64 events, .int .i64 users, .slice pu' us.length cu', .slice pt' ty.length ct'] 24 (0, 0))) := fun X hX => (HK.out X hX).2
  refine wp_narrow ?_
  refine wp_region_in (by kernel_rfl) (fun w' => Below W2.heap.size W2 w') ?_
  change wpIn _ _ _ _ _ _ _ _ (World.drew _)
  have hD : Below W2.heap.size W2 W2.drew := (Below.refl _ _).drew
  refine wpIn_take (i := 0) (d := (some 8)) (v := ?vqs0) (a' := ?aqs0) rfl rfl (by kernel_rfl) (by kernel_rfl) (by kernel_rfl) (fun _ _ _ h => h) (Or.inl ⟨by rfl, ?yqs0⟩) ?fqs0 ?_
  case yqs0 => (intro wq hq; have zz := HC0.out wq hq; have z0 := cellP zz 0 _ rfl; have z1 := cellP zz 1 _ rfl; have z2 := cellP zz 2 _ rfl; have z3 := cellP zz 3 _ rfl; have z4 := cellP zz 4 _ rfl; have z5 := cellP zz 5 _ rfl; have z6 := cellP zz 6 _ rfl; have z7 := cellP zz 7 _ rfl; have z8 := cellP zz 8 _ rfl; go_simp; first | done | with_reducible rfl)
  case fqs0 => (go_frame; rfl)
  refine wpIn_take (i := 2) (d := (some 10)) (v := ?vqs2) (a' := ?aqs2) rfl rfl (by kernel_rfl) (by kernel_rfl) (by kernel_rfl) (fun _ _ _ h => h) (Or.inl ⟨by rfl, ?yqs2⟩) ?fqs2 ?_
  case yqs2 => (intro wq hq; have zz := HC1.out wq hq; have z0 := cellP zz 0 _ rfl; have z1 := cellP zz 1 _ rfl; have z2 := cellP zz 2 _ rfl; have z3 := cellP zz 3 _ rfl; have z4 := cellP zz 4 _ rfl; have z5 := cellP zz 5 _ rfl; have z6 := cellP zz 6 _ rfl; have z7 := cellP zz 7 _ rfl; have z8 := cellP zz 8 _ rfl; go_simp; first | done | with_reducible rfl)
  case fqs2 => (go_frame; rfl)
  refine wpIn_do (i := 1) hD (by kernel_rfl) rfl (by rfl) ?_
  intro K hK
  go_simp
  go_wp2_with (go_at_call 21; refine (HN1.out _).mono ?_; rintro e w3 ⟨⟨b3, rfl, hr3⟩, hb3⟩)
  have hD3 : Below W2.heap.size W2 w3 := belowP hD hb3
  refine wpIn_do (i := 3) hD3 (by kernel_rfl) rfl (by rfl) ?_
  intro K hK
  go_simp
  go_wp2_with (go_at_call 21; refine (HN2.out _).mono ?_; rintro e w4 ⟨⟨b4, rfl, hr4⟩, hb4⟩)
  have hD4 : Below W2.heap.size W2 w4 := belowP hD3 hb4
  refine wpIn_take (i := 4) (d := (some 5)) (v := ?vqs4) (a' := ?aqs4) rfl rfl (by kernel_rfl) (by kernel_rfl) (by kernel_rfl) (fun _ _ _ h => h) (Or.inl ⟨by rfl, ?yqs4⟩) ?fqs4 ?_
  case yqs4 => (intro wq hq; go_simp; first | done | with_reducible rfl)
  case fqs4 => (go_frame; rfl)
  refine wpIn_take (i := 5) (d := (some 6)) (v := ?vqs5) (a' := ?aqs5) rfl rfl (by kernel_rfl) (by kernel_rfl) (by kernel_rfl) (fun _ _ _ h => h) (Or.inl ⟨by rfl, ?yqs5⟩) ?fqs5 ?_
  case yqs5 => (intro wq hq; go_simp; first | done | with_reducible rfl)
  case fqs5 => (go_frame; rfl)
  refine wpIn_done hD4 (by kernel_rfl) ?_ _
  have hlt3 := objP_lt hr3
  have hr34 := (hb4.block b3 hlt3).trans hr3
  have HR3 := (show Hid _ from hr34)
  have HR4 := (show Hid _ from hr4)
  have hlt4 := objP_lt hr4
  have hlt34 := objP_lt hr34
  have HBW : Hid (Below w.heap.size w w4) := belowP hb0 hD4
  have HB0 : Hid (Below W2.heap.size W2 w4) := hD4
  clear hr3 hr34 hr4 hD hD3 hb3 hb4 hlt3 HN1 HN2 HC0 HC1
  go_wp2
  go_loopw [7] (fun i wr => ∃ k : Nat, i = .int .i64 k ∧ k ≤ 7 ∧ Below w4.heap.size w4 wr) (fun i _ => 7 - (intOf i).toNat)
  case atStart => exact ⟨0, rfl, by omega, Below.refl _ _⟩
  case round =>
    obtain ⟨k, rfl, hk, hbr⟩ := hrel
    have hk1 : ∀ (wx : World) (m : Nat), Below w4.heap.size w4 wx → Below w4.heap.size w4 (wx.drewN m) := fun wx m h => ⟨h.os, h.tape, h.output, h.size, h.block⟩
    by_cases hkn : k < 7
    · have x3 := cells7 ((hbr.block b3 hlt34).trans HR3.out) (k := k) (by rw [HL7.out]; exact hkn)
      have x4 := cells7 ((hbr.block b4 hlt4).trans HR4.out) (k := k) (by rw [HL7.out]; exact hkn)
      generalize NA.getD k 0 = x at x3 x4
      have hl3 : b3 < wr.heap.size := Nat.lt_of_lt_of_le hlt34 hbr.size
      have hl4 : b4 < wr.heap.size := Nat.lt_of_lt_of_le hlt4 hbr.size
      have hbq : (x == x) = true := by simp
      go_wp2_with fail
      go_quiet (fail)
      go_wp2_with fail
      go_roundw
      case rel => exact ⟨k + 1, by simp, by omega, hk1 _ _ hbr⟩
      case measure => simp [intOf]; omega
    · obtain rfl : k = 7 := by omega
      obtain ⟨e0, e1⟩ := HK.out wr (belowP HB0.out hbr)
      have c7 := cellP e0 7 _ rfl; have d7 := cellP e1 7 _ rfl
      have hU := HU.out wr (belowP HBW.out hbr)
      clear e0 e1
      go_wp2_with (first
        | (have _h := hdone; go_at_call 22; refine hT.mono ?_; rintro e w7 ⟨rfl, hb7⟩)
        | (go_at_call 22; refine hU.mono ?_; rintro e w6 ⟨rfl, hb6⟩
           have hdone : True := trivial
           obtain ⟨e0, e1⟩ := HK.out w6 (belowP HB0.out (belowP hbr hb6))
           clear c7 d7
           have c8 := cellP e0 8 _ rfl; have d8 := cellP e1 8 _ rfl
           have hT := HT.out w6 (belowP HBW.out (belowP hbr hb6))
           clear e0 e1))
      go_ret
      exact ⟨rfl, belowP HBW.out (belowP hbr (belowP hb6 hb7))⟩
end Go.Proofs.Ytalmghbkdelaoaa
namespace Go.Proofs.Ytalmghbkdelaoaa
open Go.RowKit

theorem szL_start {s : ByteArray} (h : s.size ≤ 200) : SzL (startL s) := ⟨⟨by simp, fun p hp => by simp at hp; subst hp; simp; omega⟩, ⟨by simp, fun p hp => by simp at hp⟩⟩
theorem usr_start (s : ByteArray) : usr (startL s) s = 100 := by simp [usr, fnd]
set_option maxRecDepth 100000 in
set_option maxHeartbeats 16000000 in
theorem powerLevels_any {w : World} {l : Lv} {p : Pl} (h : IsL (· < w.heap.size) w l p) (s : ByteArray) (st : Bool) :
    Calls Try.prog 3 #[valL l p, .string s, .bool st] w fun e w' => e = .returned (.bool true) ∧ Below w.heap.size w w' := by
  obtain ⟨wA, hwA⟩ : ∃ wA, wA = w.alloc (.cells (cellsL l p).toArray 24) := ⟨_, rfl⟩
  have hbA : Below w.heap.size w wA := by rw [hwA]; exact (Below.refl _ _).alloc (Nat.le_refl _) _
  have hA : wA.heap[w.heap.size]? = some (.cells (cellsL l p).toArray 24 (0, 0)) := by rw [hwA]; exact newP _
  have HX : Hid (∀ X, Below wA.heap.size wA X → X.heap[w.heap.size]? = some (.cells (cellsL l p).toArray 24 (0, 0))) := fun X hX => (hX.block _ (objP_lt hA)).trans hA
  have HI : Hid (∀ X, Below wA.heap.size wA X → IsL (· < w.heap.size) X l p) := fun X hX => h.below (fun _ h => h) (belowP hbA hX)
  have HO : Hid (∀ X, Below wA.heap.size wA X → ∀ k, k < w.heap.size → k < X.heap.size) := fun X hX k hk => Nat.lt_of_lt_of_le hk (belowP hbA hX).size
  have hF := few_lv (HI.out wA (Below.refl _ _)) (HO.out wA (Below.refl _ _))
  have HU0 : Hid (∀ X, fewL l = true → Below wA.heap.size wA X → (Calls Try.prog 9 #[valL l p, .string s] X fun e w' => e = .returned (.int .i64 (usr l s)) ∧ Below X.heap.size X w') ∧ (Calls Try.prog 10 #[valL l p, .string s] X fun e w' => e = .returned (.int .i64 (usr l s)) ∧ Below X.heap.size X w') ∧ (Calls Try.prog 11 #[valL l p, .string s, .bool st] X fun e w' => e = .returned (.int .i64 (kindL l s st)) ∧ Below X.heap.size X w') ∧ (Calls Try.prog 12 #[valL l p, .string s, .bool st] X fun e w' => e = .returned (.int .i64 (kindL l s st)) ∧ Below X.heap.size X w')) := fun X hf hX =>
    ⟨user_lv (HI.out X hX) (HO.out X hX) (fewL_sz hf) s, ruser_lv (HI.out X hX) (HO.out X hX) (fewL_sz hf) s, type_lv (HI.out X hX) (HO.out X hX) (fewL_sz hf) s st, rtype_lv (HI.out X hX) (HO.out X hX) (fewL_sz hf) s st⟩
  generalize fewL l = F at hF HU0
  generalize usr l s = US at HU0
  generalize kindL l s st = KD at HU0
  obtain ⟨ban, kick, invite, redact, state, events, users, us, ty⟩ := l
  obtain ⟨pu, cu, pt, ct⟩ := p
  simp only [valL, cellsL] at hwA hF HU0 HX hA ⊢
  have c0 := cellP hA 0 _ rfl; have c1 := cellP hA 1 _ rfl; have c2 := cellP hA 2 _ rfl; have c3 := cellP hA 3 _ rfl; have c4 := cellP hA 4 _ rfl; have c5 := cellP hA 5 _ rfl; have c6 := cellP hA 6 _ rfl; have c7 := cellP hA 7 _ rfl; have c8 := cellP hA 8 _ rfl
  clear hA h
  go_enter Try.func3, Try.ntmps3
  go_upto_region 1 with fail
  rw [← hwA]
  clear hwA
  cases F with
  | false =>
    go_wp2_with (go_at_call 7; refine hF.mono ?_; rintro e w1 ⟨rfl, hb1⟩)
    go_ret
    exact ⟨rfl, belowP hbA hb1⟩
  | true =>
    by_cases hs : s.size ≤ 200
    · have hst := start_lv (w := wA) s
      go_upto_region 4 with (first
        | (go_at_call 7; refine hF.mono ?_; rintro e w1 ⟨rfl, hb1⟩; have hst := start_lv (w := w1) s; clear hF)
        | (go_at_call 8; refine hst.mono ?_; rintro e w2 ⟨⟨⟨qu, qcu, qt, qct⟩, rfl, hqI⟩, hb2⟩; simp only [valL, cellsL, List.length_cons, List.length_nil, Nat.zero_add]))
      clear c0 c1 c2 c3 c4 c5 c6 c7 c8 hst
      obtain ⟨w3, hw3⟩ : ∃ w3, w3 = w2.alloc (.cells #[.int .i64 50, .int .i64 50, .int .i64 0, .int .i64 50, .int .i64 0, .int .i64 0, .int .i64 0, .slice qu 1 qcu, .slice qt 0 qct] 24) := ⟨_, rfl⟩
      have hb3 : Below w2.heap.size w2 w3 := by rw [hw3]; exact (Below.refl _ _).alloc (Nat.le_refl _) _
      have h3 : w3.heap[w2.heap.size]? = some (.cells #[.int .i64 50, .int .i64 50, .int .i64 0, .int .i64 50, .int .i64 0, .int .i64 0, .int .i64 0, .slice qu 1 qcu, .slice qt 0 qct] 24 (0, 0)) := by rw [hw3]; exact newP _
      have hW3 : Below wA.heap.size wA w3 := belowP hb1 (belowP hb2 hb3)
      have HL : Hid (∀ X, Below w3.heap.size w3 X → X.heap[w.heap.size]? = some (.cells #[.int .i64 ban, .int .i64 kick, .int .i64 invite, .int .i64 redact, .int .i64 state, .int .i64 events, .int .i64 users, .slice pu us.length cu, .slice pt ty.length ct] 24 (0, 0))) := fun X hX => HX.out X (belowP hW3 hX)
      have HS : Hid (∀ X, Below w3.heap.size w3 X → X.heap[w2.heap.size]? = some (.cells #[.int .i64 50, .int .i64 50, .int .i64 0, .int .i64 50, .int .i64 0, .int .i64 0, .int .i64 0, .slice qu 1 qcu, .slice qt 0 qct] 24 (0, 0))) := fun X hX => (hX.block _ (objP_lt h3)).trans h3
      have HQ : Hid (∀ X, Below w3.heap.size w3 X → IsL (· < w3.heap.size) X (startL s) ⟨qu, qcu, qt, qct⟩) := fun X hX => (hqI.carry (O' := (· < w3.heap.size)) (w' := w3) fun k hk => ⟨Nat.lt_of_lt_of_le hk.2 hb3.size, hb3.block k hk.2⟩).below (fun _ h => h) hX
      have HU : Hid (∀ X, Below w3.heap.size w3 X → Calls Try.prog 9 #[.agg #[.int .i64 ban, .int .i64 kick, .int .i64 invite, .int .i64 redact, .int .i64 state, .int .i64 events, .int .i64 users, .slice pu us.length cu, .slice pt ty.length ct], .string s] X fun e w' => e = .returned (.int .i64 US) ∧ Below X.heap.size X w') := fun X hX => (HU0.out X (by first | rfl | trivial) (belowP hW3 hX)).1
      have HRU : Hid (∀ X, Below w3.heap.size w3 X → Calls Try.prog 10 #[.agg #[.int .i64 ban, .int .i64 kick, .int .i64 invite, .int .i64 redact, .int .i64 state, .int .i64 events, .int .i64 users, .slice pu us.length cu, .slice pt ty.length ct], .string s] X fun e w' => e = .returned (.int .i64 US) ∧ Below X.heap.size X w') := fun X hX => (HU0.out X (by first | rfl | trivial) (belowP hW3 hX)).2.1
      have HT : Hid (∀ X, Below w3.heap.size w3 X → Calls Try.prog 11 #[.agg #[.int .i64 ban, .int .i64 kick, .int .i64 invite, .int .i64 redact, .int .i64 state, .int .i64 events, .int .i64 users, .slice pu us.length cu, .slice pt ty.length ct], .string s, .bool st] X fun e w' => e = .returned (.int .i64 KD) ∧ Below X.heap.size X w') := fun X hX => (HU0.out X (by first | rfl | trivial) (belowP hW3 hX)).2.2.1
      have HRT : Hid (∀ X, Below w3.heap.size w3 X → Calls Try.prog 12 #[.agg #[.int .i64 ban, .int .i64 kick, .int .i64 invite, .int .i64 redact, .int .i64 state, .int .i64 events, .int .i64 users, .slice pu us.length cu, .slice pt ty.length ct], .string s, .bool st] X fun e w' => e = .returned (.int .i64 KD) ∧ Below X.heap.size X w') := fun X hX => (HU0.out X (by first | rfl | trivial) (belowP hW3 hX)).2.2.2
      have HSm : Hid (∀ X, Below w3.heap.size w3 X → ∀ rp, IsL (· < X.heap.size) X (startL s) rp → Calls Try.prog 13 #[valL (startL s) ⟨qu, qcu, qt, qct⟩, valL (startL s) rp] X fun e w' => e = .returned (.bool true) ∧ Below X.heap.size X w') := fun X hX rp hr => rSame_eq ((HQ.out X hX).carry fun k hk => ⟨Nat.lt_of_lt_of_le hk hX.size, rfl⟩) hr (fun _ h => h) (szL_start hs)
      have HUS : Hid (∀ X, Below w3.heap.size w3 X → Calls Try.prog 9 #[.agg #[.int .i64 50, .int .i64 50, .int .i64 0, .int .i64 50, .int .i64 0, .int .i64 0, .int .i64 0, .slice qu 1 qcu, .slice qt 0 qct], .string s] X fun e w' => e = .returned (.int .i64 100) ∧ Below X.heap.size X w') := fun X hX => by
        have h := user_lv (HQ.out X hX) (fun k hk => Nat.lt_of_lt_of_le hk hX.size) (szL_start hs) s
        rw [usr_start] at h
        exact h
      rw [← hw3]
      clear hw3 hqI h3
      refine wp_narrow ?_
      refine wp_region_in (by kernel_rfl) (fun w' => Below w3.heap.size w3 w') ?_
      change wpIn _ _ _ _ _ _ _ _ (World.drew _)
      have hD0 : Below w3.heap.size w3 w3.drew := (Below.refl _ _).drew
      refine wpIn_take (i := 0) (d := (some 18)) (v := ?vql0) (a' := ?aql0) rfl rfl (by kernel_rfl) (by kernel_rfl) (by kernel_rfl) (fun _ _ _ h => h) (Or.inl ⟨by rfl, ?yql0⟩) ?fql0 ?_
      case yql0 => (intro wq hq; have zz := HL.out wq hq; have z0 := cellP zz 0 _ rfl; have z1 := cellP zz 1 _ rfl; have z2 := cellP zz 2 _ rfl; have z3 := cellP zz 3 _ rfl; have z4 := cellP zz 4 _ rfl; have z5 := cellP zz 5 _ rfl; have z6 := cellP zz 6 _ rfl; have z7 := cellP zz 7 _ rfl; have z8 := cellP zz 8 _ rfl; go_simp; first | done | with_reducible rfl)
      case fql0 => (go_frame; rfl)
      refine wpIn_take (i := 1) (d := (some 19)) (v := ?vql1) (a' := ?aql1) rfl rfl (by kernel_rfl) (by kernel_rfl) (by kernel_rfl) (fun _ _ _ h => h) (Or.inl ⟨by rfl, ?yql1⟩) ?fql1 ?_
      case yql1 => (intro wq hq; go_simp; first | done | with_reducible rfl)
      case fql1 => (go_frame; rfl)
      refine wpIn_take (i := 3) (d := (some 21)) (v := ?vql3) (a' := ?aql3) rfl rfl (by kernel_rfl) (by kernel_rfl) (by kernel_rfl) (fun _ _ _ h => h) (Or.inl ⟨by rfl, ?yql3⟩) ?fql3 ?_
      case yql3 => (intro wq hq; have zz := HL.out wq hq; have z0 := cellP zz 0 _ rfl; have z1 := cellP zz 1 _ rfl; have z2 := cellP zz 2 _ rfl; have z3 := cellP zz 3 _ rfl; have z4 := cellP zz 4 _ rfl; have z5 := cellP zz 5 _ rfl; have z6 := cellP zz 6 _ rfl; have z7 := cellP zz 7 _ rfl; have z8 := cellP zz 8 _ rfl; go_simp; first | done | with_reducible rfl)
      case fql3 => (go_frame; rfl)
      refine wpIn_take (i := 4) (d := (some 22)) (v := ?vql4) (a' := ?aql4) rfl rfl (by kernel_rfl) (by kernel_rfl) (by kernel_rfl) (fun _ _ _ h => h) (Or.inl ⟨by rfl, ?yql4⟩) ?fql4 ?_
      case yql4 => (intro wq hq; go_simp; first | done | with_reducible rfl)
      case fql4 => (go_frame; rfl)
      refine wpIn_do (i := 2) hD0 (by kernel_rfl) rfl (by rfl) ?_
      intro K hK
      go_simp
      go_wp2_with (go_at_call 9; refine (HU.out _ hD0).mono ?_; rintro e x1 ⟨rfl, hb1⟩)
      have hD1 : Below w3.heap.size w3 x1 := belowP hD0 hb1
      refine wpIn_do (i := 5) hD1 (by kernel_rfl) rfl (by rfl) ?_
      intro K hK
      go_simp
      go_wp2_with (go_at_call 10; refine (HRU.out _ hD1).mono ?_; rintro e x2 ⟨rfl, hb2⟩)
      have hD2 : Below w3.heap.size w3 x2 := belowP hD1 hb2
      refine wpIn_take (i := 6) (d := (some 24)) (v := ?vql6) (a' := ?aql6) rfl rfl (by kernel_rfl) (by kernel_rfl) (by kernel_rfl) (fun _ _ _ h => h) (Or.inl ⟨by rfl, ?yql6⟩) ?fql6 ?_
      case yql6 => (intro wq hq; go_simp; first | done | with_reducible rfl)
      case fql6 => (go_frame; rfl)
      refine wpIn_take (i := 7) (d := (some 25)) (v := ?vql7) (a' := ?aql7) rfl rfl (by kernel_rfl) (by kernel_rfl) (by kernel_rfl) (fun _ _ _ h => h) (Or.inl ⟨by rfl, ?yql7⟩) ?fql7 ?_
      case yql7 => (intro wq hq; go_simp; first | done | with_reducible rfl)
      case fql7 => (go_frame; rfl)
      refine wpIn_take (i := 8) (d := (some 26)) (v := ?vql8) (a' := ?aql8) rfl rfl (by kernel_rfl) (by kernel_rfl) (by kernel_rfl) (fun _ _ _ h => h) (Or.inl ⟨by rfl, ?yql8⟩) ?fql8 ?_
      case yql8 => (intro wq hq; have zz := HL.out wq hq; have z0 := cellP zz 0 _ rfl; have z1 := cellP zz 1 _ rfl; have z2 := cellP zz 2 _ rfl; have z3 := cellP zz 3 _ rfl; have z4 := cellP zz 4 _ rfl; have z5 := cellP zz 5 _ rfl; have z6 := cellP zz 6 _ rfl; have z7 := cellP zz 7 _ rfl; have z8 := cellP zz 8 _ rfl; go_simp; first | done | with_reducible rfl)
      case fql8 => (go_frame; rfl)
      refine wpIn_take (i := 9) (d := (some 27)) (v := ?vql9) (a' := ?aql9) rfl rfl (by kernel_rfl) (by kernel_rfl) (by kernel_rfl) (fun _ _ _ h => h) (Or.inl ⟨by rfl, ?yql9⟩) ?fql9 ?_
      case yql9 => (intro wq hq; go_simp; first | done | with_reducible rfl)
      case fql9 => (go_frame; rfl)
      refine wpIn_take (i := 10) (d := (some 28)) (v := ?vql10) (a' := ?aql10) rfl rfl (by kernel_rfl) (by kernel_rfl) (by kernel_rfl) (fun _ _ _ h => h) (Or.inl ⟨by rfl, ?yql10⟩) ?fql10 ?_
      case yql10 => (intro wq hq; go_simp; first | done | with_reducible rfl)
      case fql10 => (go_frame; rfl)
      refine wpIn_take (i := 12) (d := (some 30)) (v := ?vql12) (a' := ?aql12) rfl rfl (by kernel_rfl) (by kernel_rfl) (by kernel_rfl) (fun _ _ _ h => h) (Or.inl ⟨by rfl, ?yql12⟩) ?fql12 ?_
      case yql12 => (intro wq hq; have zz := HL.out wq hq; have z0 := cellP zz 0 _ rfl; have z1 := cellP zz 1 _ rfl; have z2 := cellP zz 2 _ rfl; have z3 := cellP zz 3 _ rfl; have z4 := cellP zz 4 _ rfl; have z5 := cellP zz 5 _ rfl; have z6 := cellP zz 6 _ rfl; have z7 := cellP zz 7 _ rfl; have z8 := cellP zz 8 _ rfl; go_simp; first | done | with_reducible rfl)
      case fql12 => (go_frame; rfl)
      refine wpIn_take (i := 13) (d := (some 31)) (v := ?vql13) (a' := ?aql13) rfl rfl (by kernel_rfl) (by kernel_rfl) (by kernel_rfl) (fun _ _ _ h => h) (Or.inl ⟨by rfl, ?yql13⟩) ?fql13 ?_
      case yql13 => (intro wq hq; go_simp; first | done | with_reducible rfl)
      case fql13 => (go_frame; rfl)
      refine wpIn_take (i := 14) (d := (some 32)) (v := ?vql14) (a' := ?aql14) rfl rfl (by kernel_rfl) (by kernel_rfl) (by kernel_rfl) (fun _ _ _ h => h) (Or.inl ⟨by rfl, ?yql14⟩) ?fql14 ?_
      case yql14 => (intro wq hq; go_simp; first | done | with_reducible rfl)
      case fql14 => (go_frame; rfl)
      refine wpIn_do (i := 11) hD2 (by kernel_rfl) rfl (by rfl) ?_
      intro K hK
      go_simp
      go_wp2_with (go_at_call 11; refine (HT.out _ hD2).mono ?_; rintro e x3 ⟨rfl, hb3⟩)
      have hD3 : Below w3.heap.size w3 x3 := belowP hD2 hb3
      refine wpIn_do (i := 15) hD3 (by kernel_rfl) rfl (by rfl) ?_
      intro K hK
      go_simp
      go_wp2_with (go_at_call 12; refine (HRT.out _ hD3).mono ?_; rintro e x4 ⟨rfl, hb4⟩)
      have hD4 : Below w3.heap.size w3 x4 := belowP hD3 hb4
      refine wpIn_take (i := 16) (d := (some 34)) (v := ?vql16) (a' := ?aql16) rfl rfl (by kernel_rfl) (by kernel_rfl) (by kernel_rfl) (fun _ _ _ h => h) (Or.inl ⟨by rfl, ?yql16⟩) ?fql16 ?_
      case yql16 => (intro wq hq; go_simp; first | done | with_reducible rfl)
      case fql16 => (go_frame; rfl)
      refine wpIn_take (i := 17) (d := (some 35)) (v := ?vql17) (a' := ?aql17) rfl rfl (by kernel_rfl) (by kernel_rfl) (by kernel_rfl) (fun _ _ _ h => h) (Or.inl ⟨by rfl, ?yql17⟩) ?fql17 ?_
      case yql17 => (intro wq hq; go_simp; first | done | with_reducible rfl)
      case fql17 => (go_frame; rfl)
      refine wpIn_take (i := 18) (d := (some 36)) (v := ?vql18) (a' := ?aql18) rfl rfl (by kernel_rfl) (by kernel_rfl) (by kernel_rfl) (fun _ _ _ h => h) (Or.inl ⟨by rfl, ?yql18⟩) ?fql18 ?_
      case yql18 => (intro wq hq; go_simp; first | done | with_reducible rfl)
      case fql18 => (go_frame; rfl)
      refine wpIn_take (i := 19) (d := (some 37)) (v := ?vql19) (a' := ?aql19) rfl rfl (by kernel_rfl) (by kernel_rfl) (by kernel_rfl) (fun _ _ _ h => h) (Or.inl ⟨by rfl, ?yql19⟩) ?fql19 ?_
      case yql19 => (intro wq hq; have zz := HS.out wq hq; have z0 := cellP zz 0 _ rfl; have z1 := cellP zz 1 _ rfl; have z2 := cellP zz 2 _ rfl; have z3 := cellP zz 3 _ rfl; have z4 := cellP zz 4 _ rfl; have z5 := cellP zz 5 _ rfl; have z6 := cellP zz 6 _ rfl; have z7 := cellP zz 7 _ rfl; have z8 := cellP zz 8 _ rfl; go_simp; first | done | with_reducible rfl)
      case fql19 => (go_frame; rfl)
      refine wpIn_take (i := 20) (d := (some 38)) (v := ?vql20) (a' := ?aql20) rfl rfl (by kernel_rfl) (by kernel_rfl) (by kernel_rfl) (fun _ _ _ h => h) (Or.inl ⟨by rfl, ?yql20⟩) ?fql20 ?_
      case yql20 => (intro wq hq; go_simp; first | done | with_reducible rfl)
      case fql20 => (go_frame; rfl)
      refine wpIn_do (i := 21) hD4 (by kernel_rfl) rfl (by rfl) ?_
      intro K hK
      go_simp
      go_wp2_with (go_at_call 14; refine (rstart_lv _).mono ?_; rintro e x5 ⟨⟨⟨ru, rcu, rt, rct⟩, rfl, hrI⟩, hb5⟩; simp only [valL, cellsL, List.length_cons, List.length_nil, Nat.zero_add])
      have hD5 : Below w3.heap.size w3 x5 := belowP hD4 hb5
      have hSm := HSm.out x5 hD5 _ (hrI.carry fun k hk => ⟨hk.2, rfl⟩)
      simp only [valL, cellsL, List.length_cons, List.length_nil, Nat.zero_add] at hSm
      refine wpIn_do (i := 22) hD5 (by kernel_rfl) rfl (by rfl) ?_
      intro K hK
      go_simp
      go_wp2_with (go_at_call 13; refine hSm.mono ?_; rintro e x6 ⟨rfl, hb6⟩)
      have hD6 : Below w3.heap.size w3 x6 := belowP hD5 hb6
      refine wpIn_take (i := 23) (d := (some 41)) (v := ?vql23) (a' := ?aql23) rfl rfl (by kernel_rfl) (by kernel_rfl) (by kernel_rfl) (fun _ _ _ h => h) (Or.inl ⟨by rfl, ?yql23⟩) ?fql23 ?_
      case yql23 => (intro wq hq; go_simp; first | done | with_reducible rfl)
      case fql23 => (go_frame; rfl)
      refine wpIn_take (i := 24) (d := (some 42)) (v := ?vql24) (a' := ?aql24) rfl rfl (by kernel_rfl) (by kernel_rfl) (by kernel_rfl) (fun _ _ _ h => h) (Or.inl ⟨by rfl, ?yql24⟩) ?fql24 ?_
      case yql24 => (intro wq hq; go_simp; first | done | with_reducible rfl)
      case fql24 => (go_frame; rfl)
      refine wpIn_take (i := 25) (d := (some 43)) (v := ?vql25) (a' := ?aql25) rfl rfl (by kernel_rfl) (by kernel_rfl) (by kernel_rfl) (fun _ _ _ h => h) (Or.inl ⟨by rfl, ?yql25⟩) ?fql25 ?_
      case yql25 => (intro wq hq; have zz := HS.out wq hq; have z0 := cellP zz 0 _ rfl; have z1 := cellP zz 1 _ rfl; have z2 := cellP zz 2 _ rfl; have z3 := cellP zz 3 _ rfl; have z4 := cellP zz 4 _ rfl; have z5 := cellP zz 5 _ rfl; have z6 := cellP zz 6 _ rfl; have z7 := cellP zz 7 _ rfl; have z8 := cellP zz 8 _ rfl; go_simp; first | done | with_reducible rfl)
      case fql25 => (go_frame; rfl)
      refine wpIn_take (i := 26) (d := (some 44)) (v := ?vql26) (a' := ?aql26) rfl rfl (by kernel_rfl) (by kernel_rfl) (by kernel_rfl) (fun _ _ _ h => h) (Or.inl ⟨by rfl, ?yql26⟩) ?fql26 ?_
      case yql26 => (intro wq hq; go_simp; first | done | with_reducible rfl)
      case fql26 => (go_frame; rfl)
      refine wpIn_do (i := 27) hD6 (by kernel_rfl) rfl (by rfl) ?_
      intro K hK
      go_simp
      go_wp2_with (go_at_call 9; refine (HUS.out _ hD6).mono ?_; rintro e x7 ⟨rfl, hb7⟩)
      have hD7 : Below w3.heap.size w3 x7 := belowP hD6 hb7
      refine wpIn_take (i := 28) (d := (some 46)) (v := ?vql28) (a' := ?aql28) rfl rfl (by kernel_rfl) (by kernel_rfl) (by kernel_rfl) (fun _ _ _ h => h) (Or.inl ⟨by rfl, ?yql28⟩) ?fql28 ?_
      case yql28 => (intro wq hq; go_simp; first | done | with_reducible rfl)
      case fql28 => (go_frame; rfl)
      refine wpIn_take (i := 29) (d := (some 47)) (v := ?vql29) (a' := ?aql29) rfl rfl (by kernel_rfl) (by kernel_rfl) (by kernel_rfl) (fun _ _ _ h => h) (Or.inl ⟨by rfl, ?yql29⟩) ?fql29 ?_
      case yql29 => (intro wq hq; go_simp; first | done | with_reducible rfl)
      case fql29 => (go_frame; rfl)
      refine wpIn_take (i := 30) (d := (some 48)) (v := ?vql30) (a' := ?aql30) rfl rfl (by kernel_rfl) (by kernel_rfl) (by kernel_rfl) (fun _ _ _ h => h) (Or.inl ⟨by rfl, ?yql30⟩) ?fql30 ?_
      case yql30 => (intro wq hq; go_simp; first | done | with_reducible rfl)
      case fql30 => (go_frame; rfl)
      refine wpIn_do (i := 31) hD7 (by kernel_rfl) rfl (by rfl) ?_
      intro K hK
      go_simp
      go_wp2_with (go_at_call 15; refine awake_any.mono ?_; rintro e x8 ⟨rfl, hb8⟩)
      have hD8 : Below w3.heap.size w3 x8 := belowP hD7 hb8
      refine wpIn_take (i := 32) (d := (some 50)) (v := ?vql32) (a' := ?aql32) rfl rfl (by kernel_rfl) (by kernel_rfl) (by kernel_rfl) (fun _ _ _ h => h) (Or.inl ⟨by rfl, ?yql32⟩) ?fql32 ?_
      case yql32 => (intro wq hq; go_simp; first | done | with_reducible rfl)
      case fql32 => (go_frame; rfl)
      refine wpIn_take (i := 33) (d := (some 6)) (v := ?vql33) (a' := ?aql33) rfl rfl (by kernel_rfl) (by kernel_rfl) (by kernel_rfl) (fun _ _ _ h => h) (Or.inl ⟨by rfl, ?yql33⟩) ?fql33 ?_
      case yql33 => (intro wq hq; go_simp; first | done | with_reducible rfl)
      case fql33 => (go_frame; rfl)
      refine wpIn_done hD8 (by kernel_rfl) ?_ _
      go_wp2
      go_ret
      exact ⟨rfl, belowP hbA (belowP hW3 hD8)⟩
    · go_wp2_with (go_at_call 7; refine hF.mono ?_; rintro e w1 ⟨rfl, hb1⟩)
      go_ret
      exact ⟨rfl, belowP hbA hb1⟩
end Go.Proofs.Ytalmghbkdelaoaa

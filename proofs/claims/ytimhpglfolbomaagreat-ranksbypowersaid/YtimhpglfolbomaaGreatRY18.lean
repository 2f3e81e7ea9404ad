/-
  Is a past small: by contracts.
  The document's Right, and what it calls: by contracts.
  The document's leans: by a contract.
  The document's levels of a content: a number, what is told under a key, who is a user: by contracts.
  Bits of a letter's bytes, as sums and rests.
-/
import Derived.Test.YtimhpglfolbomaaGreatRY17
import Derived.Laws.BitsAllLaws
set_option maxRecDepth 100000
set_option maxHeartbeats 16000000
namespace Go.Proofs.YtimhpglfolbomaaGreat.Od
open Go.RowKit Go.Maps
structure BigPa (p : Pa) : Prop where
 names : p.names.length ≤ 9223372036854775807
 nms : ∀ s ∈ p.names, s.size ≤ 9223372036854775807
 evs : p.evs.length ≤ 9223372036854775807
 ev : ∀ e ∈ p.evs, BigE e
 prev : p.prev.length ≤ 9223372036854775807
 prevs : ∀ r ∈ p.prev, r.length ≤ 9223372036854775807
 auth : p.auth.length ≤ 9223372036854775807
 auths : ∀ r ∈ p.auth, r.length ≤ 9223372036854775807
 den : p.den.length ≤ 9223372036854775807
structure FewPa (p : Pa) : Prop where
 evs : p.evs.length ≤ 25
 names : p.names.length ≤ 30
 prev : p.prev.length ≤ 30
 auth : p.auth.length ≤ 30
 den : p.den.length ≤ 30
 ev : ∀ e ∈ p.evs, FewE e
 nms : ∀ s ∈ p.names, s.size ≤ 100
 prevs : ∀ r ∈ p.prev, r.length ≤ 30
 auths : ∀ r ∈ p.auth, r.length ≤ 30
theorem FewPa.sz {p : Pa} (h : FewPa p) : SzPa p := ⟨h.names, Nat.le_trans h.evs (by decide), h.prev, h.auth, h.den, h.prevs, h.auths⟩
theorem FewPa.szs {p : Pa} (h : FewPa p) : SzEs p := ⟨fun e he => (h.ev e he).sz⟩
def shortT (P : List (List Int)) : Bool := P.all fun r => decide (r.length ≤ 30)
theorem short_all {P : List (List Int)} (h : ∀ j, j < P.length → (P.getD j []).length ≤ 30) : shortT P = true := by
 unfold shortT
 rw [List.all_eq_true]
 intro r hr
 obtain ⟨j, hj, rfl⟩ := List.getElem_of_mem hr
 have := h j hj
 rw [getD_in hj] at this
 exact decide_eq_true this
theorem short_not {P : List (List Int)} {j : Nat} (hj : j < P.length) (h : ¬ (P.getD j []).length ≤ 30) : shortT P = false := by
 unfold shortT
 rw [List.all_eq_false]
 refine ⟨_, List.getElem_mem hj, ?_⟩
 rw [getD_in hj] at h
 simpa using h
theorem rows12_any (P : List (List Int)) (p : Option Addr) (c : Nat) (w : World) (r : RdR (· < w.heap.size) w p c P) (_hP : P.length ≤ 30) :
    Calls Tryz.prog 28 #[.slice p P.length c] w fun e w' => e = .returned (.bool (shortT P)) ∧ Below w.heap.size w w' := by
 have HR : Hid (∀ X, Below w.heap.size w X → RdR (· < w.heap.size) X p c P) := fun X hX => r.below hX
 have HA : Hid ((∀ j, j < P.length → (P.getD j []).length ≤ 30) → shortT P = true) := short_all
 have HF : Hid (∀ j, j < P.length → ¬ (P.getD j []).length ≤ 30 → shortT P = false) := fun _ => short_not
 have hrc := r.1
 obtain ⟨n, hn⟩ : ∃ n, P.length = n := ⟨_, rfl⟩
 have HN : Hid (P.length = n) := hn
 rw [hn] at HA HF hrc _hP ⊢
 clear hn r
 generalize shortT P = S at *
 go_enter Tryz.func28, Tryz.ntmps28
 go_wp2_with fail
 go_loopw [3] (fun i wr => ∃ k : Nat, k ≤ n ∧ i = .int .i64 k ∧ Below w.heap.size w wr ∧ Hid (∀ j, j < k → (P.getD j []).length ≤ 30)) (fun i _ => n - (intOf i).toNat)
 case atStart => exact ⟨0, Nat.zero_le _, rfl, Below.refl _ _, fun j hj => absurd hj (by omega)⟩
 case round =>
  obtain ⟨k, hk, rfl, hb, HS⟩ := hrel
  by_cases hlt : k < n
  · obtain ⟨b, o, p1, c1, rfl, _, hc, _⟩ := (HR.out wr hb).2 k (by rw [HN.out]; exact hlt)
    have HFk : Hid (¬ (P.getD k []).length ≤ 30 → S = false) := HF.out k hlt
    have HSk : Hid ((P.getD k []).length ≤ 30 → ∀ j, j < k + 1 → (P.getD j []).length ≤ 30) := fun h j hj => by
     rcases Nat.lt_or_ge j k with h' | h'
     · exact HS.out j h'
     · rw [show j = k by omega]; exact h
    generalize (P.getD k []).length = m at hc HFk HSk
    clear HS HF HA
    by_cases hm : m ≤ 30
    · have HX := (show Hid _ from HSk.out hm)
      have hm1 : decide ((30 : Int) < (m : Int)) = false := decide_eq_false (by omega)
      have hm2 : decide (30 < m) = false := decide_eq_false (by omega)
      clear HSk HFk
      go_wp2_with fail
      go_roundw
      case rel => exact ⟨k + 1, by omega, by go_num, hb, HX⟩
      case measure => simp [intOf]; omega
    · have HX : Hid (S = false) := HFk.out hm
      have hm' : 30 < m := by omega
      have hm1 : decide ((30 : Int) < (m : Int)) = true := decide_eq_true (by omega)
      have hm2 : decide (30 < m) = true := decide_eq_true hm'
      clear HSk HFk
      go_wp2_with fail
      go_ret
      exact ⟨ret_bool HX.out.symm, hb⟩
  · obtain rfl : k = n := by omega
    have HX : Hid (S = true) := HA.out HS.out
    clear HA HS HF
    go_wp2_with fail
    go_ret
    exact ⟨ret_bool HX.out.symm, hb⟩
def FewPaP (p : Pa) (w : World) (e : Ending) (w' : World) : Prop := (∃ b : Bool, e = .returned (.bool b) ∧ (b = true → FewPa p)) ∧ Below w.heap.size w w'
theorem FewPaP.no {p : Pa} {w w' : World} (hb : Below w.heap.size w w') : FewPaP p w (.returned (.bool false)) w' := ⟨⟨false, rfl, fun h => by cases h⟩, hb⟩
theorem FewPaP.yes {p : Pa} {w w' : World} {b : Bool} (h : b = true → FewPa p) (hb : Below w.heap.size w w') : FewPaP p w (.returned (.bool b)) w' := ⟨⟨b, rfl, h⟩, hb⟩
theorem few12_any {w : World} {p : Pa} {q : Pq} (h : IsPa (· < w.heap.size) w p q) (hB : BigPa p) : Calls Tryz.prog 9 #[valPa p q] w (FewPaP p w) := by
 obtain ⟨W0, hW0⟩ : ∃ W0, W0 = w.alloc (.cells (cellsPa p q).toArray 27) := ⟨_, rfl⟩
 have hb0 : Below w.heap.size w W0 := by rw [hW0]; exact (Below.refl _ _).alloc (Nat.le_refl _) _
 have V : IsVP W0 w.heap.size p q := by rw [hW0]; exact isVP_new h
 have HV : Hid (∀ X, Below W0.heap.size W0 X → IsVP X w.heap.size p q) := fun X hX => V.below hX
 have HB : Hid (BigPa p) := hB
 have HEV : Hid (∀ X, Below W0.heap.size W0 X → ∀ j, j < p.evs.length → ∃ b o, q.e = some ⟨b, o, none⟩ ∧ ∃ C : List Value, Hid (X.rangeAt b (o + j * 16) C ∧ C.length = 16 ∧ Calls Tryz.prog 16 #[.agg C.toArray] X fun x w' => FewP X w' (evT p j) x)) := fun X hX j hj => by
  obtain ⟨b, o, q', h1, _, h3, h4⟩ := (HV.out X hX).pa.evs.2 j hj
  exact ⟨b, o, h1, cellsE (evT p j) q', h3, rfl, eFew_any _ q' X h4 (fun _ h => h) (HB.out.ev _ (by unfold evT; exact getD_inm hj))⟩
 have c0 := V.c0; have c1 := V.c1; have c2 := V.c2; have c3 := V.c3; have c4 := V.c4
 have HFP : Hid (p.evs.length ≤ 25 → p.names.length ≤ 30 → p.prev.length ≤ 30 → p.auth.length ≤ 30 → p.den.length ≤ 30 → (∀ j, j < p.evs.length → FewE (evT p j)) → (∀ j, j < p.names.length → (nmT p j).size ≤ 100) → shortT p.prev = true → shortT p.auth = true → FewPa p) := fun h1 h2 h3 h4 h5 h6 h7 h8 h9 => ⟨h1, h2, h3, h4, h5, fun e he => by
     obtain ⟨j, hj, rfl⟩ := List.getElem_of_mem he
     have := h6 j hj
     unfold evT at this
     rwa [getD_in hj] at this, fun s hs => by
     obtain ⟨j, hj, rfl⟩ := List.getElem_of_mem hs
     have := h7 j hj
     unfold nmT at this
     rwa [getD_in hj] at this, fun r hr => by
     have := List.all_eq_true.1 h8 r hr
     simpa using this, fun r hr => by
     have := List.all_eq_true.1 h9 r hr
     simpa using this⟩
 have HL : Hid (p.prev.length ≤ 30 → ∀ X, Below W0.heap.size W0 X → Calls Tryz.prog 28 #[.slice q.v p.prev.length q.cv] X fun e w' => e = .returned (.bool (shortT p.prev)) ∧ Below X.heap.size X w') := fun h X hX => rows12_any p.prev q.v q.cv X (HV.out X hX).pa.prev h
 have HM : Hid (p.auth.length ≤ 30 → ∀ X, Below W0.heap.size W0 X → Calls Tryz.prog 28 #[.slice q.a p.auth.length q.ca] X fun e w' => e = .returned (.bool (shortT p.auth)) ∧ Below X.heap.size X w') := fun h X hX => rows12_any p.auth q.a q.ca X (HV.out X hX).pa.auth h
 have HC : Hid (∀ X, Below W0.heap.size W0 X → X.cell? ⟨w.heap.size, 0, none⟩ = some (.slice q.n p.names.length q.cn) ∧ X.cell? ⟨w.heap.size, 1, none⟩ = some (.slice q.e p.evs.length q.ce) ∧ X.cell? ⟨w.heap.size, 2, none⟩ = some (.slice q.v p.prev.length q.cv) ∧ X.cell? ⟨w.heap.size, 3, none⟩ = some (.slice q.a p.auth.length q.ca)) := fun X hX => ⟨(HV.out X hX).c0, (HV.out X hX).c1, (HV.out X hX).c2, (HV.out X hX).c3⟩
 have HNM : Hid (∀ X, Below W0.heap.size W0 X → ∀ j, j < p.names.length → ∃ b o, q.n = some ⟨b, o, none⟩ ∧ X.cell? ⟨b, o + j, none⟩ = some (.string (nmT p j))) := fun X hX j hj => by
  obtain ⟨b, o, h1, _, h3⟩ := (HV.out X hX).pa.names.2 (by rintro h; rw [h] at hj; simp at hj)
  refine ⟨b, o, h1, h3 j (nmT p j) ?_⟩
  unfold nmT
  rw [getD_in hj, List.getElem?_eq_getElem hj]
 have hen := V.pa.evs.1; have hnn := V.pa.names.1
 have hbe := hB.evs; have hbn := hB.names; have hbp := hB.prev; have hba := hB.auth; have hbd := hB.den
 unfold valPa
 generalize cellsPa p q = CP at hW0 ⊢
 generalize p.den.length = nd at *
 generalize p.prev.length = np at *
 generalize p.auth.length = na at *
 generalize p.names.length = nn at *
 generalize p.evs.length = ne at *
 by_cases h1 : ne ≤ 25
 case neg =>
  have h1' : 25 < ne := by omega
  clear HV HEV HB V hB h
  go_enter Tryz.func9, Tryz.ntmps9
  go_upto_region 1 with fail
  rw [← hW0]
  clear hW0
  go_wp2_with fail
  go_ret
  exact FewPaP.no hb0
 by_cases h2 : nn ≤ 30
 case neg =>
  have h2' : 30 < nn := by omega
  clear HV HEV HB V hB h
  go_enter Tryz.func9, Tryz.ntmps9
  go_upto_region 1 with fail
  rw [← hW0]
  clear hW0
  go_wp2_with fail
  go_ret
  exact FewPaP.no hb0
 by_cases h3 : np ≤ 30
 case neg =>
  have h3' : 30 < np := by omega
  clear HV HEV HB V hB h
  go_enter Tryz.func9, Tryz.ntmps9
  go_upto_region 1 with fail
  rw [← hW0]
  clear hW0
  go_wp2_with fail
  go_ret
  exact FewPaP.no hb0
 by_cases h4 : na ≤ 30
 case neg =>
  have h4' : 30 < na := by omega
  clear HV HEV HB V hB h
  go_enter Tryz.func9, Tryz.ntmps9
  go_upto_region 1 with fail
  rw [← hW0]
  clear hW0
  go_wp2_with fail
  go_ret
  exact FewPaP.no hb0
 by_cases h5 : nd ≤ 30
 case neg =>
  have h5' : 30 < nd := by omega
  clear HV HEV HB V hB h
  go_enter Tryz.func9, Tryz.ntmps9
  go_upto_region 1 with fail
  rw [← hW0]
  clear hW0
  go_wp2_with fail
  go_ret
  exact FewPaP.no hb0
 have HL2 := (show Hid _ from HL.out h3)
 have HM2 := (show Hid _ from HM.out h4)
 have HF2 := (show Hid _ from HFP.out h1 h2 h3 h4 h5)
 clear HL HM HFP HV HB V hB h
 go_enter Tryz.func9, Tryz.ntmps9
 go_upto_region 1 with fail
 rw [← hW0]
 clear hW0
 go_upto_region 4 with fail
 go_loopw [3] (fun i wr => ∃ k : Nat, k ≤ ne ∧ i = .int .i64 k ∧ Below W0.heap.size W0 wr ∧ Hid (∀ j, j < k → FewE (evT p j))) (fun i _ => ne - (intOf i).toNat)
 case atStart => exact ⟨0, Nat.zero_le _, rfl, Below.refl _ _, fun j hj => absurd hj (by omega)⟩
 case round =>
  obtain ⟨k, hk, rfl, hb, HS⟩ := hrel
  clear c0 c1 c2 c3 c4
  have c1 := (HC.out wr hb).2.1
  by_cases hlt : k < ne
  · obtain ⟨eb, eo, hqe, C, HCC⟩ := HEV.out wr hb k hlt
    rw [hqe] at c1
    clear hqe
    have HSk : Hid (FewE (evT p k) → ∀ j, j < k + 1 → FewE (evT p j)) := fun h j hj => by
     rcases Nat.lt_or_ge j k with h' | h'
     · exact HS.out j h'
     · rw [show j = k by omega]; exact h
    generalize evT p k = ev at HCC HSk
    have HCA : Hid (Calls Tryz.prog 16 #[.agg C.toArray] wr fun x w' => FewP wr w' ev x) := HCC.out.2.2
    have HLR : Hid ((Instr.loadAt 39 (.pointer (some ⟨eb, eo + k * 16, none⟩))).run Tryz.prog wr = .ok (.agg C.toArray) wr) := run_loadAt_mid wr eb (eo + k * 16) 39 C _ HCC.out.1 Tryz.underlying39 rfl (by rw [HCC.out.2.1]; exact infoE)
    clear HS HCC HF2
    go_wp2_with (first
     | (refine wpList_loadK rfl 39 _ rfl eb (eo + k * 16) rfl C HLR.out ?_)
     | (go_at_call 16; refine HCA.out.mono ?_; rintro x w1 ⟨⟨b1, rfl, hf1⟩, hb1⟩; cases b1; have hN1 := hb1; clear hb1))
    · go_ret
      exact FewPaP.no (belowP hb0 (belowP hb hN1))
    · have HX := (show Hid _ from HSk.out (hf1 trivial))
      clear hf1 HSk
      go_roundw
      case rel => exact ⟨k + 1, by omega, by go_num, belowP hb hb1, HX⟩
      case measure => simp [intOf]; omega
  · obtain rfl : k = ne := by omega
    have HS2 := (show Hid _ from HF2.out HS.out)
    clear HS HF2
    have c0 := (HC.out wr hb).1
    go_upto_region 9 with fail
    go_loopw [4] (fun i wx => ∃ m : Nat, m ≤ nn ∧ i = .int .i64 m ∧ Below wr.heap.size wr wx ∧ Hid (∀ j, j < m → (nmT p j).size ≤ 100)) (fun i _ => nn - (intOf i).toNat)
    case atStart => exact ⟨0, Nat.zero_le _, rfl, Below.refl _ _, fun j hj => absurd hj (by omega)⟩
    case round =>
     obtain ⟨m, hm, rfl, hbx, HS⟩ := hrel
     have hbW := belowP hb hbx
     clear c0
     obtain ⟨c0, _, c2, c3⟩ := HC.out _ hbW
     by_cases hlt : m < nn
     · obtain ⟨nb, no, hqn, hcn⟩ := HNM.out _ hbW m hlt
       rw [hqn] at c0
       clear hqn c2 c3
       have HSk : Hid ((nmT p m).size ≤ 100 → ∀ j, j < m + 1 → (nmT p j).size ≤ 100) := fun h j hj => by
        rcases Nat.lt_or_ge j m with h' | h'
        · exact HS.out j h'
        · rw [show j = m by omega]; exact h
       generalize nmT p m = s at hcn HSk
       clear HS HS2
       by_cases hs : s.size ≤ 100
       · have HX := (show Hid _ from HSk.out hs)
         have hs1 : decide ((100 : Int) < (s.size : Int)) = false := decide_eq_false (by omega)
         have hs2 : decide (100 < s.size) = false := decide_eq_false (by omega)
         clear HSk
         go_wp2_with fail
         go_roundw
         case rel => exact ⟨m + 1, by omega, by go_num, hbx, HX⟩
         case measure => simp [intOf]; omega
       · have hs' : 100 < s.size := by omega
         have hs1 : decide ((100 : Int) < (s.size : Int)) = true := decide_eq_true (by omega)
         have hs2 : decide (100 < s.size) = true := decide_eq_true hs'
         clear HSk
         go_wp2_with fail
         go_ret
         exact FewPaP.no (belowP hb0 hbW)
     · obtain rfl : m = nn := by omega
       have HS3 := (show Hid _ from HS2.out HS.out)
       have hP := HL2.out _ hbW
       clear HS HS2
       generalize shortT p.prev = sp at hP HS3
       generalize shortT p.auth = sa at HM2 HS3
       cases sp with
       | false =>
        clear HS3
        go_wp2_with (go_at_call 28; refine hP.mono ?_; rintro x w3 ⟨rfl, hb3⟩)
        go_ret
        exact FewPaP.no (belowP hb0 (belowP hbW hb3))
       | true =>
        go_wp2_with (first
         | (go_at_call 28; refine hP.mono ?_; rintro x w3 ⟨rfl, hb3⟩; have c3 := (HC.out _ (belowP hbW hb3)).2.2.2; have hA := HM2.out _ (belowP hbW hb3); clear hP)
         | (go_at_call 28; refine hA.mono ?_; rintro x w4 ⟨rfl, hb4⟩))
        go_ret
        refine FewPaP.yes (fun h => HS3.out trivial h) (belowP hb0 (belowP hbW (belowP hb3 hb4)))
theorem rbelow_any {O : Nat → Prop} (l : List Int) (n : Nat) (p : Option Addr) (c : Nat) (w : World) (r : RdI O w p c l) (_hl : l.length ≤ 1000) :
    Calls Tryz.prog 30 #[.slice p l.length c, .int .i64 (n : Int)] w fun e w' => e = .returned (.bool (belowT l n)) ∧ w = w' := by
 obtain ⟨m, hm⟩ : ∃ m, l.length = m := ⟨_, rfl⟩
 have HM : Hid (l.length = m) := hm
 have HB : Hid (belowT l n = l.all fun j => decide (0 ≤ j ∧ j < (n : Int))) := rfl
 rw [hm] at _hl ⊢
 clear hm
 go_enter Tryz.func30, Tryz.ntmps30
 go_wp2
 go_loopw [5] (fun i wx => ∃ j : Nat, j ≤ m ∧ i = .int .i64 j ∧ wx = w ∧ Hid ((l.take j).all (fun p => decide (0 ≤ p ∧ p < (n : Int))) = true)) (fun i _ => m - (intOf i).toNat)
 case atStart => exact ⟨0, Nat.zero_le _, rfl, rfl, by show _ = _; simp⟩
 case round =>
  obtain ⟨j, hj, rfl, rfl, HA⟩ := hrel
  by_cases hjt : j < m
  · have hjt' : j < l.length := by rw [HM.out]; exact hjt
    obtain ⟨ad, rfl, _, hc1⟩ := r.at j 0 hjt'
    have HT2 : Hid _ := all_next (fun p => decide (0 ≤ p ∧ p < (n : Int))) l j 0 hjt'
    have HB2 : Hid ((decide (0 ≤ l.getD j 0 ∧ l.getD j 0 < (n : Int))) = false → belowT l n = false) := fun h => all_bad (d := 0) hjt' h
    generalize l.getD j 0 = x at *
    by_cases h0 : x < 0
    · have d0 : decide (x < 0) = true := decide_eq_true h0
      have HF : Hid (belowT l n = false) := HB2.out (by simp; omega)
      go_wp2
      go_ret
      exact ⟨ret_bool HF.out.symm, rfl⟩
    · have d0 : decide (x < 0) = false := decide_eq_false h0
      by_cases h1 : (n : Int) ≤ x
      · have HF : Hid (belowT l n = false) := HB2.out (by simp; omega)
        have d1 : decide ((n : Int) ≤ x) = true := decide_eq_true h1
        go_wp2
        go_ret
        exact ⟨ret_bool HF.out.symm, rfl⟩
      · have d1 : decide ((n : Int) ≤ x) = false := decide_eq_false h1
        go_wp2
        go_roundw
        case rel => exact ⟨j + 1, by omega, by go_num, by first | rfl | trivial, by show _ = _; rw [HT2.out, HA.out]; simp; omega⟩
        case measure => simp [intOf]; omega
  · obtain rfl : j = m := by omega
    have HF : Hid (belowT l n = true) := by
     show _ = _
     have := HA.out
     rw [← HM.out, List.take_length] at this
     rw [HB.out, this]
    go_wp2
    go_ret
    exact ⟨ret_bool HF.out.symm, rfl⟩
theorem rin_any {O : Nat → Prop} (l : List Int) (n : Int) (p : Option Addr) (c : Nat) (w : World) (r : RdI O w p c l) (_hl : l.length ≤ 1000) :
    Calls Tryz.prog 23 #[.int .i64 n, .slice p l.length c] w fun e w' => e = .returned (.bool (decide (n ∈ l))) ∧ w = w' := by
 obtain ⟨m, hm⟩ : ∃ m, l.length = m := ⟨_, rfl⟩
 have HM : Hid (l.length = m) := hm
 have HX : Hid ((∀ j, j < l.length → l.getD j 0 ≠ n) → n ∉ l) := fun h hn => by
  obtain ⟨j, hj, e⟩ := List.getElem_of_mem hn
  exact h j hj (by rw [getD_in hj]; exact e)
 have HY : Hid (∀ j, j < l.length → l.getD j 0 = n → n ∈ l) := fun j hj e => by rw [← e, getD_in hj]; exact List.getElem_mem hj
 rw [hm] at _hl ⊢
 clear hm
 go_enter Tryz.func23, Tryz.ntmps23
 go_wp2
 go_loopw [5] (fun i wx => ∃ j : Nat, j ≤ m ∧ i = .int .i64 j ∧ wx = w ∧ Hid (∀ i, i < j → l.getD i 0 ≠ n)) (fun i _ => m - (intOf i).toNat)
 case atStart => exact ⟨0, Nat.zero_le _, rfl, rfl, fun j hj => absurd hj (by omega)⟩
 case round =>
  obtain ⟨j, hj, rfl, rfl, HA⟩ := hrel
  by_cases hjt : j < m
  · have hjt' : j < l.length := by rw [HM.out]; exact hjt
    obtain ⟨ad, rfl, _, hc1⟩ := r.at j 0 hjt'
    have HYj : Hid (l.getD j 0 = n → n ∈ l) := HY.out j hjt'
    have HAj : Hid (l.getD j 0 ≠ n → ∀ i, i < j + 1 → l.getD i 0 ≠ n) := fun h i hi => by
     rcases Nat.lt_or_ge i j with h' | h'
     · exact HA.out i h'
     · rw [show i = j by omega]; exact h
    generalize l.getD j 0 = x at *
    by_cases h0 : x = n
    · subst h0
      have HF : Hid (x ∈ l) := HYj.out rfl
      clear HA HAj HYj HX HY
      go_wp2
      go_ret
      exact ⟨ret_bool (decide_eq_true HF.out).symm, rfl⟩
    · have d0 : (x == n) = false := by simpa using h0
      have HF := (show Hid _ from HAj.out h0)
      clear HA HAj HYj HX HY
      go_wp2
      go_roundw
      case rel => exact ⟨j + 1, by omega, by go_num, by first | rfl | trivial, HF⟩
      case measure => simp [intOf]; omega
  · obtain rfl : j = m := by omega
    have HF : Hid (n ∉ l) := HX.out (by rw [HM.out]; exact HA.out)
    clear HX HY HA
    go_wp2
    go_ret
    exact ⟨ret_bool (decide_eq_false HF.out).symm, rfl⟩
theorem back_all {P : List (List Int)} {n : Nat} (hl : P.length = n) (h : ∀ j, j < n → belowT (P.getD j []) j = true) : backT P n = true := by
 unfold backT
 rw [Bool.and_eq_true, List.all_eq_true]
 exact ⟨fun j hj => h j (by rw [← hl]; exact List.mem_range.1 hj), decide_eq_true hl⟩
theorem back_bad {P : List (List Int)} {n j : Nat} (hj : j < P.length) (h : belowT (P.getD j []) j = false) : backT P n = false := by
 unfold backT
 rw [range_bad (f := fun i => belowT (P.getD i []) i) hj h]
 rfl
theorem back_len {P : List (List Int)} {n : Nat} (h : P.length ≠ n) : backT P n = false := by
 unfold backT
 rw [decide_eq_false h, Bool.and_false]
theorem rright_any {w : World} {p : Pa} {q : Pq} (h : IsPa (· < w.heap.size) w p q) (hz : SzPa p) :
    Calls Tryz.prog 11 #[valPa p q] w fun e w' => e = .returned (.bool (rightT p)) ∧ Below w.heap.size w w' := by
 obtain ⟨W0, hW0⟩ : ∃ W0, W0 = w.alloc (.cells (cellsPa p q).toArray 27) := ⟨_, rfl⟩
 have hb0 : Below w.heap.size w W0 := by rw [hW0]; exact (Below.refl _ _).alloc (Nat.le_refl _) _
 have V : IsVP W0 w.heap.size p q := by rw [hW0]; exact isVP_new h
 have c0 := V.c0; have c1 := V.c1; have c2 := V.c2; have c3 := V.c3; have c4 := V.c4
 have HR : Hid (rightT p = (decide (p.names.length = p.evs.length) && decide (p.den.length = p.evs.length) && backT p.prev p.evs.length && backT p.auth p.evs.length)) := rfl
 have HRP : Hid (∀ j, j < p.prev.length → ∃ b o p1 c1, q.v = some ⟨b, o, none⟩ ∧ W0.cell? ⟨b, o + j, none⟩ = some (.slice p1 (p.prev.getD j []).length c1) ∧ Hid (Calls Tryz.prog 30 #[.slice p1 (p.prev.getD j []).length c1, .int .i64 (j : Int)] W0 fun e w' => e = .returned (.bool (belowT (p.prev.getD j []) j)) ∧ W0 = w')) := fun j hj => by
  obtain ⟨b, o, p1, c1, h1, _, h3, h4⟩ := V.pa.prev.2 j hj
  exact ⟨b, o, p1, c1, h1, h3, rbelow_any _ j p1 c1 W0 h4 (by have := hz.prevs _ (getD_inm (d := []) hj); omega)⟩
 have HRA : Hid (∀ j, j < p.auth.length → ∃ b o p1 c1, q.a = some ⟨b, o, none⟩ ∧ W0.cell? ⟨b, o + j, none⟩ = some (.slice p1 (p.auth.getD j []).length c1) ∧ Hid (Calls Tryz.prog 30 #[.slice p1 (p.auth.getD j []).length c1, .int .i64 (j : Int)] W0 fun e w' => e = .returned (.bool (belowT (p.auth.getD j []) j)) ∧ W0 = w')) := fun j hj => by
  obtain ⟨b, o, p1, c1, h1, _, h3, h4⟩ := V.pa.auth.2 j hj
  exact ⟨b, o, p1, c1, h1, h3, rbelow_any _ j p1 c1 W0 h4 (by have := hz.auths _ (getD_inm (d := []) hj); omega)⟩
 have HL2 : Hid (p.prev.length ≠ p.evs.length → rightT p = false) := fun h => by rw [HR.out, back_len h]; simp
 have HL3 : Hid (p.auth.length ≠ p.evs.length → rightT p = false) := fun h => by rw [HR.out, back_len h]; simp
 have HL0 : Hid (p.names.length ≠ p.evs.length → rightT p = false) := fun h => by rw [HR.out, decide_eq_false h]; simp
 have HL4 : Hid (p.den.length ≠ p.evs.length → rightT p = false) := fun h => by rw [HR.out, decide_eq_false h]; simp
 have HB2 : Hid (∀ j, j < p.prev.length → belowT (p.prev.getD j []) j = false → rightT p = false) := fun j hj h => by rw [HR.out, back_bad hj h]; simp
 have HB3 : Hid (∀ j, j < p.auth.length → belowT (p.auth.getD j []) j = false → rightT p = false) := fun j hj h => by rw [HR.out, back_bad hj h]; simp
 have HTT : Hid (p.names.length = p.evs.length → p.prev.length = p.evs.length → p.auth.length = p.evs.length → p.den.length = p.evs.length → (∀ j, j < p.evs.length → belowT (p.prev.getD j []) j = true ∧ belowT (p.auth.getD j []) j = true) → rightT p = true) := fun a b c d e => by
  rw [HR.out, decide_eq_true a, decide_eq_true d, back_all b fun j hj => (e j hj).1, back_all c fun j hj => (e j hj).2]; rfl
 have z1 := hz.evs
 have v2 := V.pa.prev.1; have v3 := V.pa.auth.1
 clear HR V h hz
 unfold valPa
 generalize cellsPa p q = CP at hW0 ⊢
 generalize rightT p = R at *
 generalize p.names.length = n0 at *
 generalize p.evs.length = n1 at *
 generalize p.prev.length = n2 at *
 generalize p.auth.length = n3 at *
 generalize p.den.length = n4 at *
 by_cases h0 : n0 = n1
 case neg =>
  have HF : Hid (R = false) := HL0.out h0
  have e0 : ((n0 : Int) == (n1 : Int)) = false := by rw [beq_eq_false_iff_ne]; omega
  have e0' : ((n0 : Int) != (n1 : Int)) = true := by rw [bne_iff_ne]; omega
  clear HRP HRA HL0 HL2 HL3 HL4 HB2 HB3 HTT
  go_enter Tryz.func11, Tryz.ntmps11
  go_upto_region 1 with fail
  rw [← hW0]
  clear hW0
  go_wp2_with fail
  go_ret
  exact ⟨ret_bool HF.out.symm, hb0⟩
 subst h0
 by_cases h2 : n2 = n0
 case neg =>
  have HF : Hid (R = false) := HL2.out h2
  have e0 : ((n2 : Int) == (n0 : Int)) = false := by rw [beq_eq_false_iff_ne]; omega
  have e0' : ((n2 : Int) != (n0 : Int)) = true := by rw [bne_iff_ne]; omega
  clear HRP HRA HL0 HL2 HL3 HL4 HB2 HB3 HTT
  go_enter Tryz.func11, Tryz.ntmps11
  go_upto_region 1 with fail
  rw [← hW0]
  clear hW0
  go_wp2_with fail
  go_ret
  exact ⟨ret_bool HF.out.symm, hb0⟩
 subst h2
 by_cases h3 : n3 = n2
 case neg =>
  have HF : Hid (R = false) := HL3.out h3
  have e0 : ((n3 : Int) == (n2 : Int)) = false := by rw [beq_eq_false_iff_ne]; omega
  have e0' : ((n3 : Int) != (n2 : Int)) = true := by rw [bne_iff_ne]; omega
  clear HRP HRA HL0 HL2 HL3 HL4 HB2 HB3 HTT
  go_enter Tryz.func11, Tryz.ntmps11
  go_upto_region 1 with fail
  rw [← hW0]
  clear hW0
  go_wp2_with fail
  go_ret
  exact ⟨ret_bool HF.out.symm, hb0⟩
 subst h3
 by_cases h4 : n4 = n3
 case neg =>
  have HF : Hid (R = false) := HL4.out h4
  have e0 : ((n4 : Int) == (n3 : Int)) = false := by rw [beq_eq_false_iff_ne]; omega
  have e0' : ((n4 : Int) != (n3 : Int)) = true := by rw [bne_iff_ne]; omega
  clear HRP HRA HL0 HL2 HL3 HL4 HB2 HB3 HTT
  go_enter Tryz.func11, Tryz.ntmps11
  go_upto_region 1 with fail
  rw [← hW0]
  clear hW0
  go_wp2_with fail
  go_ret
  exact ⟨ret_bool HF.out.symm, hb0⟩
 subst h4
 have HT2 := (show Hid _ from HTT.out rfl rfl rfl rfl)
 clear HTT HL0 HL2 HL3 HL4
 go_enter Tryz.func11, Tryz.ntmps11
 go_upto_region 1 with fail
 rw [← hW0]
 clear hW0
 go_upto_region 5 with fail
 go_loopw [4] (fun i wr => ∃ k : Nat, k ≤ n4 ∧ i = .int .i64 k ∧ wr = W0 ∧ Hid (∀ j, j < k → belowT (p.prev.getD j []) j = true ∧ belowT (p.auth.getD j []) j = true)) (fun i _ => n4 - (intOf i).toNat)
 case atStart => exact ⟨0, Nat.zero_le _, rfl, rfl, fun j hj => absurd hj (by omega)⟩
 case round =>
  obtain ⟨k, hk, rfl, rfl, HS⟩ := hrel
  by_cases hlt : k < n4
  · obtain ⟨vb, vo, p1, d1, hqv, hcv, HCV⟩ := HRP.out k hlt
    obtain ⟨ab, ao, p2, d2, hqa, hca, HCA⟩ := HRA.out k hlt
    rw [hqv] at c2
    rw [hqa] at c3
    have HB2k := (show Hid _ from HB2.out k hlt)
    have HB3k := (show Hid _ from HB3.out k hlt)
    have HSk : Hid (belowT (p.prev.getD k []) k = true → belowT (p.auth.getD k []) k = true → ∀ j, j < k + 1 → belowT (p.prev.getD j []) j = true ∧ belowT (p.auth.getD j []) j = true) := fun h h' j hj => by
     rcases Nat.lt_or_ge j k with h'' | h''
     · exact HS.out j h''
     · rw [show j = k by omega]; exact ⟨h, h'⟩
    clear hqv hqa HS HRP HRA HB2 HB3 HT2
    generalize belowT (p.prev.getD k []) k = b1 at HCV HB2k HSk
    generalize belowT (p.auth.getD k []) k = b2 at HCA HB3k HSk
    generalize (p.prev.getD k []).length = m1 at hcv HCV
    generalize (p.auth.getD k []).length = m2 at hca HCA
    cases b1 with
    | false =>
     have HF : Hid (R = false) := HB2k.out rfl
     clear HB2k HB3k HSk HCA
     go_wp2_with (go_at_call 30; refine HCV.out.mono ?_; rintro e w' ⟨rfl, rfl⟩)
     go_ret
     exact ⟨ret_bool HF.out.symm, hb0⟩
    | true =>
     cases b2 with
     | false =>
      have HF : Hid (R = false) := HB3k.out rfl
      clear HB2k HB3k HSk
      go_wp2_with (first
       | (go_at_call 30; have _hh := HCV; refine HCV.out.mono ?_; rintro e w' ⟨rfl, rfl⟩; clear HCV _hh)
       | (go_at_call 30; refine HCA.out.mono ?_; rintro e w' ⟨rfl, rfl⟩))
      go_ret
      exact ⟨ret_bool HF.out.symm, hb0⟩
     | true =>
      have HX := (show Hid _ from HSk.out rfl rfl)
      clear HB2k HB3k HSk
      go_wp2_with (first
       | (go_at_call 30; have _hh := HCV; refine HCV.out.mono ?_; rintro e w' ⟨rfl, rfl⟩; clear HCV _hh)
       | (go_at_call 30; refine HCA.out.mono ?_; rintro e w' ⟨rfl, rfl⟩))
      go_roundw
      case rel => exact ⟨k + 1, by omega, by go_num, by first | rfl | trivial, HX⟩
      case measure => simp [intOf]; omega
  · obtain rfl : k = n4 := by omega
    have HF : Hid (R = true) := HT2.out HS.out
    clear HS HT2 HRP HRA HB2 HB3
    go_wp2_with fail
    go_ret
    exact ⟨ret_bool HF.out.symm, hb0⟩
def rleanV : Option Nat → Int
 | some j => (j : Int)
 | none => -1
theorem cell_ltS {w : World} {a : Addr} {v : Value} (h : w.cell? a = some v) : a.block < w.heap.size := by
 rcases Nat.lt_or_ge a.block w.heap.size with h' | h'
 · exact h'
 · simp [World.cell?, Array.getElem?_eq_none h'] at h
theorem setRow_newS (w : World) (z cs : Array Value) (t : Nat) : ((w.alloc (.cells z t)).setRow w.heap.size cs).heap[w.heap.size]? = some (.cells cs t (0, 0)) := setRow_heap _ _ _ _ _ _ (heap_alloc_new _ _)
theorem below_setRowS (w : World) (z cs : Array Value) (t : Nat) : Below w.heap.size w ((w.alloc (.cells z t)).setRow w.heap.size cs) := by
 have hk := keep_setRow (w.alloc (.cells z t)) w.heap.size cs
 exact (below_al w _).trans (hk.below (by simp) fun k hk e => by unfold OneP at e; omega)
theorem rleans_any {w : World} {p : Pa} {q : Pq} (h : IsPa (· < w.heap.size) w p q) (hz : SzPa p) (hr : backT p.auth p.evs.length = true) (i : Nat) (hi : i < p.evs.length) (kind : ByteArray) :
    Calls Tryz.prog 40 #[valPa p q, .int .i64 (i : Int), .string kind] w fun e w' => e = .returned (.int .i64 (rleanV (leansT p i kind))) ∧ Below w.heap.size w w' := by
 obtain ⟨W0, hW0⟩ : ∃ W0, W0 = w.alloc (.cells (cellsPa p q).toArray 27) := ⟨_, rfl⟩
 have hb0 : Below w.heap.size w W0 := by rw [hW0]; exact (Below.refl _ _).alloc (Nat.le_refl _) _
 have V : IsVP W0 w.heap.size p q := by rw [hW0]; exact isVP_new h
 have HV : Hid (∀ X, Below W0.heap.size W0 X → IsVP X w.heap.size p q) := fun X hX => V.below hX
 obtain ⟨ab, ao, p1, k1, hqa, _, hcr0, hrr0⟩ := V.pa.auth.2 i (by rw [(back_of hr).2.2]; exact hi)
 obtain ⟨hI, hQ, hA⟩ := back_of hr
 have hpq := par_toQ hI i
 rw [← hpq, zs_len] at hcr0
 rw [← hpq] at hrr0
 have hrl := row_len hz hr hi
 have HLT : Hid (∀ x ∈ par (toQ p.auth) i, x < i) := hQ i
 have HEV : Hid (∀ X, Below W0.heap.size W0 X → ∀ j, j < p.evs.length → ∃ b o, q.e = some ⟨b, o, none⟩ ∧ ∃ C : List Value, Hid (X.rangeAt b (o + j * 16) C ∧ C.length = 16 ∧ C.toArray.all (·.oneCell') = true ∧ C[1]? = some (.string (evT p j).typ) ∧ C[3]? = some (.bool (evT p j).st) ∧ C[4]? = some (.string (evT p j).key))) := fun X hX j hj => by
  obtain ⟨b, o, q', h1, _, h3, h4⟩ := (HV.out X hX).pa.evs.2 j hj
  exact ⟨b, o, h1, cellsE (evT p j) q', h3, rfl, one_E _ _, rfl, rfl, rfl⟩
 have HF : Hid (leansT p i kind = (par (toQ p.auth) i).find? fun j => isT (evT p j) kind) := rfl
 have HCA : Hid (∀ X, Below W0.heap.size W0 X → X.cell? ⟨w.heap.size, 3, none⟩ = some (.slice (some ⟨ab, ao, none⟩) p.evs.length q.ca) ∧ X.cell? ⟨ab, ao + i, none⟩ = some (.slice p1 (par (toQ p.auth) i).length k1)) := fun X hX => by
  have h3 := (HV.out X hX).c3
  rw [hqa, hA] at h3
  refine ⟨h3, (hX.cell (p := ⟨ab, ao + i, none⟩) (cell_ltS hcr0)).trans hcr0⟩
 have HCE : Hid (∀ X, Below W0.heap.size W0 X → X.cell? ⟨w.heap.size, 1, none⟩ = some (.slice q.e p.evs.length q.ce)) := fun X hX => (HV.out X hX).c1
 have HRR : Hid (∀ X, Below W0.heap.size W0 X → RdI (· < W0.heap.size) X p1 k1 (zs (par (toQ p.auth) i))) := fun X hX => hrr0.below hX
 have hel := V.pa.evs.1
 have hen := hz.evs
 have hal := V.pa.auth.1
 rw [hA] at hal
 have hzl := zs_len (par (toQ p.auth) i)
 have hcm := hrr0.1
 generalize toQ p.auth = Q at *
 generalize hLT : leansT p i kind = LT at *
 clear hLT
 generalize p.evs.length = n1 at *
 obtain ⟨m, hm⟩ : ∃ m, (par Q i).length = m := ⟨_, rfl⟩
 have HM : Hid ((par Q i).length = m) := hm
 rw [hm] at hrl hzl HCA
 rw [hzl] at hcm
 clear hm V h hz hr hI hQ hA hpq hcr0 hrr0 hqa HV
 unfold valPa
 generalize hCP : cellsPa p q = CP at *
 clear hCP
 go_enter Tryz.func40, Tryz.ntmps40
 go_upto_region 1 with fail
 rw [← hW0]
 clear hW0
 go_upto_region 2 with fail
 go_loopw [7] (fun v wr => ∃ k : Nat, k ≤ m ∧ v = .int .i64 k ∧ Below W0.heap.size W0 wr ∧ Hid (((par Q i).take k).find? (fun j => isT (evT p j) kind) = none)) (fun v _ => m - (intOf v).toNat)
 case atStart => exact ⟨0, Nat.zero_le _, rfl, Below.refl _ _, by show _ = _; simp⟩
 case round =>
  obtain ⟨k, hk, rfl, hb, HN⟩ := hrel
  obtain ⟨a3, ar⟩ := HCA.out wr hb
  by_cases hlt : k < m
  · have hkl : k < (par Q i).length := by rw [HM.out]; exact hlt
    obtain ⟨ad2, hp1, _, _⟩ := (HRR.out wr hb).at k 0 (by rw [hzl]; exact hlt)
    obtain ⟨rb, ro, hpr, _, _⟩ := (HRR.out wr hb).2 (by intro h0; have := congrArg List.length h0; rw [hzl] at this; simp at this; omega)
    have HRX : Hid (∀ X, Below W0.heap.size W0 X → X.cell? ⟨rb, ro + k, none⟩ = some (.int .i64 ((par Q i).getD k 0 : Nat))) := fun X hX => by
     obtain ⟨ad3, h1, _, h3⟩ := (HRR.out X hX).at k 0 (by rw [hzl]; exact hlt)
     rw [zs_getD] at h3
     rw [hpr] at h1
     cases h1
     rw [add_flat] at h3
     exact h3
    have hx := HLT.out _ (getD_inm (d := 0) hkl)
    have HN1 : Hid (isT (evT p ((par Q i).getD k 0)) kind = false → ((par Q i).take (k + 1)).find? (fun j => isT (evT p j) kind) = none) := fun h => find_none HN.out hkl h
    have HN2 : Hid (isT (evT p ((par Q i).getD k 0)) kind = true → LT = some ((par Q i).getD k 0)) := fun h => by rw [HF.out]; exact find_some HN.out hkl h
    generalize (par Q i).getD k 0 = x at *
    have hxn : x < n1 := by omega
    obtain ⟨eb, eo, hqe, C, HC⟩ := HEV.out wr hb x hxn
    have HEX : Hid (∀ X, Below wr.heap.size wr X → (Instr.loadAt 39 (.pointer (some ⟨eb, eo + x * 16, none⟩))).run Tryz.prog X = .ok (.agg C.toArray) X) := fun X hX => run_loadAt_mid X eb (eo + x * 16) 39 C _ (fun j v hv => by
     have h1 := HC.out.1 j v hv
     exact (hX.cell (p := ⟨eb, _, none⟩) (cell_ltS h1)).trans h1) Tryz.underlying39 rfl (by rw [HC.out.2.1]; exact infoE)
    have HXX : Hid (∀ X, Below wr.heap.size wr X → X.cell? ⟨w.heap.size, 1, none⟩ = some (.slice (some ⟨eb, eo, none⟩) n1 q.ce) ∧ X.cell? ⟨w.heap.size, 3, none⟩ = some (.slice (some ⟨ab, ao, none⟩) n1 q.ca) ∧ X.cell? ⟨ab, ao + i, none⟩ = some (.slice (some ⟨rb, ro, none⟩) m k1) ∧ X.cell? ⟨rb, ro + k, none⟩ = some (.int .i64 (x : Int))) := fun X hX => by
     have h1 := HCE.out X (belowP hb hX)
     rw [hqe] at h1
     obtain ⟨h2, h3⟩ := HCA.out X (belowP hb hX)
     rw [hpr] at h3
     exact ⟨h1, h2, h3, HRX.out X (belowP hb hX)⟩
    have HIT : Hid (isT (evT p x) kind = ((evT p x).st && (((evT p x).typ.toList == kind.toList) && ((evT p x).key.toList == [])))) := by show _ = _; unfold isT eqT; rw [show (⟨#[]⟩ : ByteArray).toList = [] from lit_nix]
    have HC2 : Hid (C.length = 16 ∧ C.toArray.all (·.oneCell') = true) := ⟨HC.out.2.1, HC.out.2.2.1⟩
    have HC3 : Hid (∀ X : World, X.heap[wr.heap.size]? = some (.cells C.toArray 39 (0, 0)) → X.cell? ⟨wr.heap.size, 1, none⟩ = some (.string (evT p x).typ) ∧ X.cell? ⟨wr.heap.size, 3, none⟩ = some (.bool (evT p x).st) ∧ X.cell? ⟨wr.heap.size, 4, none⟩ = some (.string (evT p x).key)) := fun X hX => ⟨cell_row hX 1 _ HC.out.2.2.2.1, cell_row hX 3 _ HC.out.2.2.2.2.1, cell_row hX 4 _ HC.out.2.2.2.2.2⟩
    clear hp1 HRR HRX HEV HCE HC hqe HF HN HLT HM hx hkl
    subst hpr
    generalize (evT p x).typ = typ at *
    generalize (evT p x).st = st at *
    generalize (evT p x).key = key at *
    generalize isT (evT p x) kind = IT at *
    go_upto_region 4 with fail
    clear a3 ar
    refine wp_region_in (by kernel_rfl) (fun w' => Below wr.heap.size wr w') ?_
    change wpIn _ _ _ _ _ _ _ _ (World.drew _)
    have hD : Below wr.heap.size wr wr.drew := (Below.refl _ _).drew
    refine wpIn_take (i := 0) (d := (some 19)) (v := .pointer (some ⟨w.heap.size, 1, none⟩)) (a' := ?aw0) rfl rfl (by kernel_rfl) (by kernel_rfl) (by kernel_rfl) (fun _ _ _ h => h) (Or.inl ⟨by rfl, ?yw0⟩) ?fw0 ?_
    case yw0 => (intro wq hq; obtain ⟨g1, g2, g3, g4⟩ := HXX.out wq hq; go_simp; first | done | with_reducible rfl)
    case fw0 => (go_frame; rfl)
    refine wpIn_take (i := 1) (d := (some 20)) (v := .slice (some ⟨eb, eo, none⟩) n1 q.ce) (a' := ?aw1) rfl rfl (by kernel_rfl) (by kernel_rfl) (by kernel_rfl) (fun _ _ _ h => h) (Or.inl ⟨by rfl, ?yw1⟩) ?fw1 ?_
    case yw1 => (intro wq hq; obtain ⟨g1, g2, g3, g4⟩ := HXX.out wq hq; go_simp; first | done | with_reducible rfl)
    case fw1 => (go_frame; rfl)
    refine wpIn_take (i := 2) (d := (some 21)) (v := .pointer (some ⟨w.heap.size, 3, none⟩)) (a' := ?aw2) rfl rfl (by kernel_rfl) (by kernel_rfl) (by kernel_rfl) (fun _ _ _ h => h) (Or.inl ⟨by rfl, ?yw2⟩) ?fw2 ?_
    case yw2 => (intro wq hq; obtain ⟨g1, g2, g3, g4⟩ := HXX.out wq hq; go_simp; first | done | with_reducible rfl)
    case fw2 => (go_frame; rfl)
    refine wpIn_take (i := 3) (d := (some 22)) (v := .slice (some ⟨ab, ao, none⟩) n1 q.ca) (a' := ?aw3) rfl rfl (by kernel_rfl) (by kernel_rfl) (by kernel_rfl) (fun _ _ _ h => h) (Or.inl ⟨by rfl, ?yw3⟩) ?fw3 ?_
    case yw3 => (intro wq hq; obtain ⟨g1, g2, g3, g4⟩ := HXX.out wq hq; go_simp; first | done | with_reducible rfl)
    case fw3 => (go_frame; rfl)
    refine wpIn_take (i := 4) (d := (some 23)) (v := .int .i64 (i : Int)) (a' := ?aw4) rfl rfl (by kernel_rfl) (by kernel_rfl) (by kernel_rfl) (fun _ _ _ h => h) (Or.inl ⟨by rfl, ?yw4⟩) ?fw4 ?_
    case yw4 => (intro wq hq; obtain ⟨g1, g2, g3, g4⟩ := HXX.out wq hq; go_simp; first | done | with_reducible rfl)
    case fw4 => (go_frame; rfl)
    refine wpIn_take (i := 5) (d := (some 24)) (v := .pointer (some ⟨ab, ao + i, none⟩)) (a' := ?aw5) rfl rfl (by kernel_rfl) (by kernel_rfl) (by kernel_rfl) (fun _ _ _ h => h) (Or.inl ⟨by rfl, ?yw5⟩) ?fw5 ?_
    case yw5 => (intro wq hq; obtain ⟨g1, g2, g3, g4⟩ := HXX.out wq hq; go_simp; first | done | with_reducible rfl)
    case fw5 => (go_frame; rfl)
    refine wpIn_take (i := 6) (d := (some 25)) (v := .slice (some ⟨rb, ro, none⟩) m k1) (a' := ?aw6) rfl rfl (by kernel_rfl) (by kernel_rfl) (by kernel_rfl) (fun _ _ _ h => h) (Or.inl ⟨by rfl, ?yw6⟩) ?fw6 ?_
    case yw6 => (intro wq hq; obtain ⟨g1, g2, g3, g4⟩ := HXX.out wq hq; go_simp; first | done | with_reducible rfl)
    case fw6 => (go_frame; rfl)
    refine wpIn_take (i := 7) (d := (some 26)) (v := .int .i64 (k : Int)) (a' := ?aw7) rfl rfl (by kernel_rfl) (by kernel_rfl) (by kernel_rfl) (fun _ _ _ h => h) (Or.inl ⟨by rfl, ?yw7⟩) ?fw7 ?_
    case yw7 => (intro wq hq; obtain ⟨g1, g2, g3, g4⟩ := HXX.out wq hq; go_simp; first | done | with_reducible rfl)
    case fw7 => (go_frame; rfl)
    refine wpIn_take (i := 8) (d := (some 27)) (v := .pointer (some ⟨rb, ro + k, none⟩)) (a' := ?aw8) rfl rfl (by kernel_rfl) (by kernel_rfl) (by kernel_rfl) (fun _ _ _ h => h) (Or.inl ⟨by rfl, ?yw8⟩) ?fw8 ?_
    case yw8 => (intro wq hq; obtain ⟨g1, g2, g3, g4⟩ := HXX.out wq hq; go_simp; first | done | with_reducible rfl)
    case fw8 => (go_frame; rfl)
    refine wpIn_take (i := 9) (d := (some 28)) (v := .int .i64 (x : Int)) (a' := ?aw9) rfl rfl (by kernel_rfl) (by kernel_rfl) (by kernel_rfl) (fun _ _ _ h => h) (Or.inl ⟨by rfl, ?yw9⟩) ?fw9 ?_
    case yw9 => (intro wq hq; obtain ⟨g1, g2, g3, g4⟩ := HXX.out wq hq; go_simp; first | done | with_reducible rfl)
    case fw9 => (go_frame; rfl)
    refine wpIn_take (i := 10) (d := (some 29)) (v := .pointer (some ⟨eb, eo + x * 16, none⟩)) (a' := ?aw10) rfl rfl (by kernel_rfl) (by kernel_rfl) (by kernel_rfl) (fun _ _ _ h => h) (Or.inl ⟨by rfl, ?yw10⟩) ?fw10 ?_
    case yw10 => (intro wq hq; obtain ⟨g1, g2, g3, g4⟩ := HXX.out wq hq; go_simp; first | done | with_reducible rfl)
    case fw10 => (go_frame; rfl)
    refine wpIn_take (i := 11) (d := (some 30)) (v := .agg C.toArray) (a' := ?aw11) rfl rfl (by kernel_rfl) (by kernel_rfl) (by kernel_rfl) (fun _ _ _ h => h) (Or.inl ⟨by rfl, ?yw11⟩) ?fw11 ?_
    case yw11 => exact fun wq hq => exec_loadS rfl rfl (HEX.out wq hq)
    case fw11 => (go_frame; rfl)
    refine wpIn_do (i := 12) hD (by kernel_rfl) rfl (by rfl) ?_
    intro K hK
    go_simp
    refine hK _ _ ?_
    have hD1 : Below wr.heap.size wr (wr.drew.alloc (.cells (cellsE Ev.zero Pt.zero).toArray 39)) := hD.alloc (Nat.le_refl _) _
    refine wpIn_do (i := 13) hD1 (by kernel_rfl) rfl (by rfl) ?_
    intro K2 hK2
    refine wp_store_row 39 _ _ rfl wr.heap.size C.toArray rfl rfl 39 (cellsE Ev.zero Pt.zero).toArray (heap_alloc_new wr.drew _) (by rw [show C.toArray.size = C.length from rfl, HC2.out.1]; exact infoE) (by rw [show C.toArray.size = C.length from rfl, HC2.out.1]; rfl) HC2.out.2 ?_
    refine hK2 _ _ ?_
    have hBN : Below wr.heap.size wr ((wr.drew.alloc (.cells (cellsE Ev.zero Pt.zero).toArray 39)).setRow wr.heap.size C.toArray) := hD.trans (below_setRowS wr.drew _ _ _)
    have hN : ((wr.drew.alloc (.cells (cellsE Ev.zero Pt.zero).toArray 39)).setRow wr.heap.size C.toArray).heap[wr.heap.size]? = some (.cells C.toArray 39 (0, 0)) := setRow_newS wr.drew (cellsE Ev.zero Pt.zero).toArray C.toArray 39
    obtain ⟨e1, e3, e4⟩ := HC3.out _ hN
    obtain ⟨g1, g2, g3, g4⟩ := HXX.out _ hBN
    refine wpIn_done hBN (by kernel_rfl) ?_ _
    change Exit.then _ _ _ _ ((wr.drew.alloc (.cells (cellsE Ev.zero Pt.zero).toArray 39)).setRow wr.heap.size C.toArray)
    generalize (wr.drew.alloc (.cells (cellsE Ev.zero Pt.zero).toArray 39)).setRow wr.heap.size C.toArray = WN at *
    clear hN hD hD1 HXX HEX HC3 HC2
    cases hIT : IT with
    | false =>
     have HX := (show Hid _ from HN1.out hIT)
     rw [hIT] at HIT
     clear HN1 HN2 hIT
     cases st with
     | false =>
      go_wp2
      go_roundw
      case rel => exact ⟨k + 1, by omega, by go_num, belowP hb hBN, HX⟩
      case measure => simp [intOf]; try omega
     | true =>
      cases h1 : (typ.toList == kind.toList) with
      | false =>
       clear HIT
       go_wp2
       go_roundw
       case rel => exact ⟨k + 1, by omega, by go_num, belowP hb hBN, HX⟩
       case measure => simp [intOf]; try omega
      | true =>
       have h2 : (key.toList == ([] : List UInt8)) = false := by have := HIT.out; rw [h1] at this; simpa using this.symm
       clear HIT
       go_wp2
       go_roundw
       case rel => exact ⟨k + 1, by omega, by go_num, belowP hb hBN, HX⟩
       case measure => simp [intOf]; try omega
    | true =>
     have HR : Hid (LT = some x) := HN2.out hIT
     rw [hIT] at HIT
     clear HN1 HN2 hIT
     have hst : st = true := by
      cases st with
      | false => cases HIT.out
      | true => rfl
     subst hst
     have h1 : (typ.toList == kind.toList) = true := by
      have := HIT.out
      cases h : (typ.toList == kind.toList) with
      | false => rw [h] at this; cases this
      | true => rfl
     have h2 : (key.toList == ([] : List UInt8)) = true := by have := HIT.out; rw [h1] at this; simpa using this.symm
     clear HIT
     go_wp2
     go_ret
     exact ⟨ret_int (by rw [HR.out]; rfl), belowP hb0 (belowP hb hBN)⟩
  · obtain rfl : k = m := by omega
    have HR : Hid (LT = none) := by
     have := HN.out
     rw [← HM.out, List.take_length] at this
     show _ = _
     rw [HF.out, this]
    clear HN HF
    go_wp2
    go_ret
    exact ⟨ret_int (by rw [HR.out]; rfl), belowP hb0 hb⟩
end Go.Proofs.YtimhpglfolbomaaGreat.Od
namespace Go.Proofs.YtimhpglfolbomaaGreat
open Go.RowKit
theorem rNumber_any {w : World} (k i : Int) (t : ByteArray) (p q : Option Addr) (n c m d : Nat) :
    Calls Tryz.prog 97 #[.agg #[.int .i64 k, .int .i64 i, .string t, .slice p n c, .slice q m d]] w fun e w' => e = .returned (.tuple #[.int .i64 i, .bool (lvOk k i)]) ∧ Below w.heap.size w w' := by
 obtain ⟨wA, hwA⟩ : ∃ wA, wA = w.alloc (.cells #[.int .i64 k, .int .i64 i, .string t, .slice p n c, .slice q m d] 36) := ⟨_, rfl⟩
 have hbA : Below w.heap.size w wA := by rw [hwA]; exact (Below.refl _ _).alloc (Nat.le_refl _) _
 have hA : wA.heap[w.heap.size]? = some (.cells #[.int .i64 k, .int .i64 i, .string t, .slice p n c, .slice q m d] 36 (0, 0)) := by rw [hwA]; exact newP _
 have i0 := cellP hA 0 _ rfl; have i1 := cellP hA 1 _ rfl
 have HE : Hid (∀ n, Below w.heap.size w (wA.drewN n)) := fun n => belowP hbA (belowN wA n)
 clear hA hbA
 have HL : Hid (lvOk k i = (decide (k = 2) && (decide (-1073741824 ≤ i) && decide (i ≤ 1073741824)))) := rfl
 by_cases h2 : k = 2
 · subst h2
   by_cases ha : -1073741824 ≤ i
   · by_cases hb : i ≤ 1073741824
     · have hd1 : decide (-1073741824 ≤ i) = true := decide_eq_true ha
       have hd2 : decide (i ≤ 1073741824) = true := decide_eq_true hb
       rw [HL.out]
       simp only [ha, hb, decide_true, Bool.and_self]
       go_enter Tryz.func97, Tryz.ntmps97
       go_wp2
       rw [← hwA]
       clear hwA
       go_quiet (fail)
       go_wp2
       go_ret2
       exact ⟨rfl, HE.out _⟩
     · have hd1 : decide (-1073741824 ≤ i) = true := decide_eq_true ha
       have hd2 : decide (i ≤ 1073741824) = false := decide_eq_false hb
       rw [HL.out]
       simp only [ha, hb, decide_true, decide_false, Bool.and_false]
       go_enter Tryz.func97, Tryz.ntmps97
       go_wp2
       rw [← hwA]
       clear hwA
       go_quiet (fail)
       go_wp2
       go_ret2
       exact ⟨rfl, HE.out _⟩
   · have hd : decide (-1073741824 ≤ i) = false := decide_eq_false ha
     rw [HL.out]
     simp only [ha, decide_true, decide_false, Bool.false_and, Bool.and_false]
     go_enter Tryz.func97, Tryz.ntmps97
     go_wp2
     rw [← hwA]
     clear hwA
     go_quiet (fail)
     go_wp2
     go_ret2
     exact ⟨rfl, HE.out _⟩
 · have hd : (k == 2) = false := by simp [h2]
   have hd' : decide (k = 2) = false := decide_eq_false h2
   rw [HL.out]
   simp only [h2, decide_false, Bool.false_and]
   go_enter Tryz.func97, Tryz.ntmps97
   go_wp2
   rw [← hwA]
   clear hwA
   go_quiet (fail)
   go_wp2
   go_ret2
   exact ⟨rfl, HE.out _⟩
theorem rTold_any {O : Nat → Prop} {w : World} {j : J} {k i : Int} {t : ByteArray} {pk pl : Option Addr} {nk ck nl cl : Nat} (hj : isJ O w j [.int .i64 k, .int .i64 i, .string t, .slice pk nk ck, .slice pl nl cl]) (hO : ∀ b, O b → b < w.heap.size) (hz : j.ks.length ≤ 100000) (s : ByteArray) (z : Int) :
    Calls Tryz.prog 67 #[.agg #[.int .i64 k, .int .i64 i, .string t, .slice pk nk ck, .slice pl nl cl], .string s, .int .i64 z] w fun e w' => e = .returned (.tuple #[.int .i64 (numT z (getT j s)).1, .bool (!(numT z (getT j s)).2)]) ∧ Below w.heap.size w w' := by
 obtain ⟨wA, hwA⟩ : ∃ wA, wA = w.alloc (.cells #[.int .i64 k, .int .i64 i, .string t, .slice pk nk ck, .slice pl nl cl] 36) := ⟨_, rfl⟩
 have hbA : Below w.heap.size w wA := by rw [hwA]; exact (Below.refl _ _).alloc (Nat.le_refl _) _
 have hA : wA.heap[w.heap.size]? = some (.cells #[.int .i64 k, .int .i64 i, .string t, .slice pk nk ck, .slice pl nl cl] 36 (0, 0)) := by rw [hwA]; exact newP _
 have hG := get_any (hj.carry (O' := O) (w' := wA) fun x hx => ⟨hx, hbA.block x (hO x hx)⟩) (fun b hb => Nat.lt_of_lt_of_le (hO b hb) hbA.size) hz s
 have i0 := cellP hA 0 _ rfl; have i1 := cellP hA 1 _ rfl; have i2 := cellP hA 2 _ rfl; have i3 := cellP hA 3 _ rfl; have i4 := cellP hA 4 _ rfl
 clear hj hO hA
 generalize getT j s = o at hG
 cases o with
 | none =>
  go_enter Tryz.func67, Tryz.ntmps67
  go_upto_region 1 with fail
  rw [← hwA]
  clear hwA
  go_wp2_with (go_at_call 61; refine hG.mono ?_; rintro e w1 ⟨he, hb1⟩; replace he : e = _ := he; subst he)
  go_ret2
  exact ⟨rfl, belowP hbA (belowP hb1 ((Below.refl _ _).alloc (Nat.le_refl _) _))⟩
 | some v =>
  have HV : Hid (∀ O w' (k i : Int) (t : ByteArray) (p q : Option Addr) (n c m d : Nat), isJ O w' v [.int .i64 k, .int .i64 i, .string t, .slice p n c, .slice q m d] → v.kd = k ∧ v.nm = i) := fun O w' k i t p q n c m d h => by
   obtain ⟨_, _, _, _, _⟩ := v
   obtain ⟨rfl, rfl, _⟩ := isJP_parts h
   exact ⟨rfl, rfl⟩
  go_enter Tryz.func67, Tryz.ntmps67
  go_upto_region 1 with fail
  rw [← hwA]
  clear hwA
  go_wp2_with (first
   | (go_at_call 61; refine hG.mono ?_; rintro e w1 ⟨⟨kv, iv, tv, pv, nv, cv, qv, mv, dv, rfl, hv⟩, hb1⟩; have HVV := (show Hid _ from HV.out _ _ _ _ _ _ _ _ _ _ _ hv); clear hv)
   | (go_at_call 97; refine (rNumber_any _ _ _ _ _ _ _ _ _).mono ?_; rintro e w2 ⟨rfl, hb2⟩))
  go_ret2
  have HNT : Hid (numT z (some v) = (iv, !lvOk kv iv)) := by show _ = _; simp only [numT, HVV.out.1, HVV.out.2]
  refine ⟨?_, belowP hbA (belowP hb1 (belowP ((Below.refl _ _).alloc (Nat.le_refl _) _) hb2))⟩
  rw [HNT.out]
  simp only [Bool.not_not]
  rfl
theorem ofInt_64 (a : Nat) (ha : a < 18446744073709551616) : (BitVec.ofInt 64 (a : Int)).toNat = a := by
 rw [BitVec.ofInt_natCast, BitVec.toNat_ofNat]; exact Nat.mod_eq_of_lt (by omega)
theorem wrap_i64_small (n : Int) (h0 : 0 ≤ n) (h1 : n < 9223372036854775808) : IntKind.i64.wrap n = n := by
 simp [IntKind.wrap, IntKind.bits, IntKind.signed]
 omega
theorem i64_and_nat (a b : Nat) (ha : a < 9223372036854775808) (hb : b < 9223372036854775808) : bits .and .i64 (a : Int) (b : Int) = ((a &&& b : Nat) : Int) := by
 have h1 : a &&& b ≤ a := Nat.and_le_left
 show IntKind.i64.wrap ((BitVec.ofInt 64 (a : Int) &&& BitVec.ofInt 64 (b : Int)).toNat : Int) = _
 rw [BitVec.toNat_and, ofInt_64 a (by omega), ofInt_64 b (by omega)]
 exact wrap_i64_small _ (by omega) (by omega)
theorem i64_or_nat (a b : Nat) (ha : a < 4611686018427387904) (hb : b < 4611686018427387904) : bits .or .i64 (a : Int) (b : Int) = ((a ||| b : Nat) : Int) := by
 have h1 : a ||| b < 2 ^ 62 := Nat.or_lt_two_pow (by omega) (by omega)
 show IntKind.i64.wrap ((BitVec.ofInt 64 (a : Int) ||| BitVec.ofInt 64 (b : Int)).toNat : Int) = _
 rw [BitVec.toNat_or, ofInt_64 a (by omega), ofInt_64 b (by omega)]
 exact wrap_i64_small _ (by omega) (by omega)
theorem and_31 (c : Int) (h0 : 0 ≤ c) (h1 : c ≤ 255) : bits .and .i64 c 31 = c % 32 := by
 obtain ⟨n, rfl⟩ := Int.eq_ofNat_of_zero_le h0
 have := i64_and_nat n 31 (by omega) (by omega)
 rw [show ((31 : Nat) : Int) = 31 from rfl] at this
 rw [this, show (31 : Nat) = 2 ^ 5 - 1 from rfl, Nat.and_two_pow_sub_one_eq_mod]
 omega
theorem and_15 (c : Int) (h0 : 0 ≤ c) (h1 : c ≤ 255) : bits .and .i64 c 15 = c % 16 := by
 obtain ⟨n, rfl⟩ := Int.eq_ofNat_of_zero_le h0
 have := i64_and_nat n 15 (by omega) (by omega)
 rw [show ((15 : Nat) : Int) = 15 from rfl] at this
 rw [this, show (15 : Nat) = 2 ^ 4 - 1 from rfl, Nat.and_two_pow_sub_one_eq_mod]
 omega
theorem and_7 (c : Int) (h0 : 0 ≤ c) (h1 : c ≤ 255) : bits .and .i64 c 7 = c % 8 := by
 obtain ⟨n, rfl⟩ := Int.eq_ofNat_of_zero_le h0
 have := i64_and_nat n 7 (by omega) (by omega)
 rw [show ((7 : Nat) : Int) = 7 from rfl] at this
 rw [this, show (7 : Nat) = 2 ^ 3 - 1 from rfl, Nat.and_two_pow_sub_one_eq_mod]
 omega
theorem and_63 (c : Int) (h0 : 0 ≤ c) (h1 : c ≤ 255) : bits .and .u8 c 63 = c % 64 := by
 obtain ⟨n, rfl⟩ := Int.eq_ofNat_of_zero_le h0
 have := u8_and_nat n 63 (by omega) (by omega)
 rw [show ((63 : Nat) : Int) = 63 from rfl] at this
 rw [this, show (63 : Nat) = 2 ^ 6 - 1 from rfl, Nat.and_two_pow_sub_one_eq_mod]
 omega
theorem and_192_all : ∀ n : Fin 256, (n : Nat) &&& 192 = (n : Nat) / 64 * 64 := by decide +kernel
theorem and_192 (c : Int) (h0 : 0 ≤ c) (h1 : c ≤ 255) : bits .and .u8 c 192 = c / 64 * 64 := by
 obtain ⟨n, rfl⟩ := Int.eq_ofNat_of_zero_le h0
 have := u8_and_nat n 192 (by omega) (by omega)
 rw [show ((192 : Nat) : Int) = 192 from rfl] at this
 rw [this]
 have h := and_192_all ⟨n, by omega⟩
 simp only at h
 rw [h]
 omega
theorem or_64 (c x : Int) (h0 : 0 ≤ c) (h1 : c ≤ 1000000) (h2 : 0 ≤ x) (h3 : x < 64) : bits .or .i64 (c * 64) x = c * 64 + x := by
 obtain ⟨n, rfl⟩ := Int.eq_ofNat_of_zero_le h0
 obtain ⟨m, rfl⟩ := Int.eq_ofNat_of_zero_le h2
 have := i64_or_nat (n * 64) m (by omega) (by omega)
 rw [show ((n * 64 : Nat) : Int) = (n : Int) * 64 by omega] at this
 rw [this]
 have h := Nat.two_pow_add_eq_or_of_lt (i := 6) (b := m) (by omega) n
 rw [show n * 64 = 2 ^ 6 * n by omega, ← h]
 omega
end Go.Proofs.YtimhpglfolbomaaGreat

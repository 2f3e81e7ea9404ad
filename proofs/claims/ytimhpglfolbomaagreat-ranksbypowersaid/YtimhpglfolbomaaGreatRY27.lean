/-
  By power: the law, walked.
  A value of JSON that came in, as the walks read it.
  Whether no two of a row are the same, by a set: a contract.
  A map or list that is being made, a key and a value after another: what lies in memory.
  A key and a value more, by a contract: what told's own function does.
  The small parts of an event's shape and JSON, by contracts: within, digest, text, number.
  Lists of texts, and maps of signatures, as JSON: by contracts.
  A map of names to values of JSON, as the reader of events has it.
  The reader of events: what it has left, and how it takes a value: by contracts.
-/
import Derived.Test.YtimhpglfolbomaaGreatRY26
import Derived.Test.YtimhpglfolbomaaGreatChecked
import Derived.ProofKit
import Derived.SizedLaws
import Derived.SliceStrings
import Derived.Laws.OwnMore
set_option maxRecDepth 100000
set_option maxHeartbeats 16000000
namespace Go.Proofs.YtimhpglfolbomaaGreat.Od
open Go.RowKit Go.Maps
theorem byPowerLaw_any {O : Nat → Prop} {w : World} {p : Pa} {q : Pq} {l : List Int} {pl : Option Addr} {cl : Nat} (h : IsPa (· < w.heap.size) w p q) (hB : BigPa p) (hl : RdI O w pl cl l) (hO : ∀ k, O k → k < w.heap.size) (hln : l.length ≤ 9223372036854775807) (_hw : ∀ y ∈ l, wf64 y) :
    Calls Tryz.prog 6 #[valPa p q, .slice pl l.length cl] w fun x w' => x = .returned (.bool true) ∧ Below w.heap.size w w' := by
 obtain ⟨W0, hW0⟩ : ∃ W0, W0 = w.alloc (.cells (cellsPa p q).toArray 27) := ⟨_, rfl⟩
 have hb0 : Below w.heap.size w W0 := by rw [hW0]; exact (Below.refl _ _).alloc (Nat.le_refl _) _
 have V : IsVP W0 w.heap.size p q := by rw [hW0]; exact isVP_new h
 have HLD : Hid (∀ X, Below W0.heap.size W0 X → (Instr.loadAt 27 (.pointer (some ⟨w.heap.size, 0, none⟩))).run Tryz.prog X = .ok (.agg (cellsPa p q).toArray) X) := fun X hX => (V.below hX).load
 have hFew := few12_any V.pa hB
 have HCA : Hid (FewPa p → l.length ≤ 50 → ∀ X, Below W0.heap.size W0 X → Calls Tryz.prog 21 #[.agg (cellsPa p q).toArray, .slice pl l.length cl] X fun e w' => ∃ v c, e = .returned (.slice v (byV p l).length c) ∧ RdI (fun k => X.heap.size ≤ k ∧ k < w'.heap.size) w' v c (byV p l) ∧ Below X.heap.size X w') := fun h1 h2 X hX => (byPower_any (O := O) (V.below hX).pa h1.sz h1.szs (hl.same (Same.of_below (belowP hb0 hX) hO)) (fun k hk => Nat.lt_of_lt_of_le (hO k hk) (belowP hb0 hX).size) (by omega)).mono fun _ _ h => h.rd
 have HCB : Hid (FewPa p → l.length ≤ 50 → ∀ X, Below W0.heap.size W0 X → Calls Tryz.prog 22 #[.agg (cellsPa p q).toArray, .slice pl l.length cl] X fun e w' => ∃ v c, e = .returned (.slice v (byV p l).length c) ∧ RdI (fun k => X.heap.size ≤ k ∧ k < w'.heap.size) w' v c (byV p l) ∧ Below X.heap.size X w') := fun h1 h2 X hX => (rbyPower_any (O := O) (V.below hX).pa h1.sz h1.szs h1.s13 (hl.same (Same.of_below (belowP hb0 hX) hO)) (fun k hk => Nat.lt_of_lt_of_le (hO k hk) (belowP hb0 hX).size) (by omega)).mono fun _ _ h => h.rd
 have HCL : Hid (FewPa p → (byV p l).length ≤ 30) := fun h1 => Nat.le_trans (byV_len p l) h1.sz.evs
 have hB0 : Below W0.heap.size W0 W0 := Below.refl _ _
 clear h V hB hl
 unfold valPa at hFew ⊢
 generalize cellsPa p q = C at *
 generalize byV p l = CV at *
 generalize l.length = nl at *
 by_cases h50 : nl ≤ 50
 case neg =>
  have h50' : 50 < nl := by omega
  have d1 : decide ((50 : Int) < (nl : Int)) = true := decide_eq_true (by omega)
  have d2 : decide (50 < nl) = true := decide_eq_true h50'
  go_enter Tryz.func6, Tryz.ntmps6
  go_upto_region 1 with fail
  rw [← hW0]
  clear hW0
  go_wp2_with (first
   | (refine wpList_loadK rfl 27 _ rfl w.heap.size 0 rfl C (HLD.out _ hB0) ?_)
   | (go_at_call 9; refine hFew.mono ?_; rintro x W ⟨⟨b1, rfl, hf1⟩, hB1⟩; cases b1))
  all_goals (go_ret; exact ⟨rfl, belowP hb0 hB1⟩)
 have d1 : decide ((50 : Int) < (nl : Int)) = false := decide_eq_false (by omega)
 have d2 : decide (50 < nl) = false := decide_eq_false (by omega)
 go_enter Tryz.func6, Tryz.ntmps6
 go_upto_region 1 with fail
 rw [← hW0]
 clear hW0
 go_upto_region 3 with (first
  | (refine wpList_loadK rfl 27 _ rfl w.heap.size 0 rfl C (HLD.out _ hB0) ?_)
  | (go_at_call 9; refine hFew.mono ?_; rintro x W ⟨⟨b1, rfl, hf1⟩, hB1⟩; cases b1; have hN1 := hB1; clear hB1))
 · go_wp2
   go_ret
   exact ⟨rfl, belowP hb0 hN1⟩
 · have hfe := hf1 trivial
   have hcl := HCL.out hfe
   have HP3 : Hid (∀ X, Below W.heap.size W X → Calls Tryz.prog 21 #[.agg C.toArray, .slice pl nl cl] X fun e w' => ∃ v c, e = .returned (.slice v CV.length c) ∧ RdI (fun k => X.heap.size ≤ k ∧ k < w'.heap.size) w' v c CV ∧ Below X.heap.size X w') := fun X hX => HCA.out hfe h50 X (belowP hB1 hX)
   have HP4 : Hid (∀ X, Below W.heap.size W X → Calls Tryz.prog 22 #[.agg C.toArray, .slice pl nl cl] X fun e w' => ∃ v c, e = .returned (.slice v CV.length c) ∧ RdI (fun k => X.heap.size ≤ k ∧ k < w'.heap.size) w' v c CV ∧ Below X.heap.size X w') := fun X hX => HCB.out hfe h50 X (belowP hB1 hX)
   have HL1 : Hid (∀ X, Below W.heap.size W X → (Instr.loadAt 27 (.pointer (some ⟨w.heap.size, 0, none⟩))).run Tryz.prog X = .ok (.agg C.toArray) X) := fun X hX => HLD.out X (belowP hB1 hX)
   clear HCA HCB HLD hFew hf1 hfe HCL
   refine wp_region_in (by kernel_rfl) (fun w' => Below W.heap.size W w') ?_
   change wpIn _ _ _ _ _ _ _ _ (World.drew _)
   have hD : Below W.heap.size W W.drew := (Below.refl _ _).drew
   refine wpIn_take (i := 0) (d := (some 13)) (v := .agg C.toArray) (a' := ?aw0) rfl rfl (by kernel_rfl) (by kernel_rfl) (by kernel_rfl) (fun _ _ _ h => h) (Or.inl ⟨by rfl, ?yw0⟩) ?fw0 ?_
   case yw0 => exact fun wq hq => exec_loadR rfl rfl (HL1.out wq hq)
   case fw0 => (go_frame; rfl)
   refine wpIn_take (i := 1) (d := (some 14)) (v := .slice pl nl cl) (a' := ?aw1) rfl rfl (by kernel_rfl) (by kernel_rfl) (by kernel_rfl) (fun _ _ _ h => h) (Or.inl ⟨by rfl, ?yw1⟩) ?fw1 ?_
   case yw1 => (intro wq hq; go_simp; first | done | with_reducible rfl)
   case fw1 => (go_frame; rfl)
   refine wpIn_take (i := 3) (d := (some 16)) (v := .agg C.toArray) (a' := ?aw3) rfl rfl (by kernel_rfl) (by kernel_rfl) (by kernel_rfl) (fun _ _ _ h => h) (Or.inl ⟨by rfl, ?yw3⟩) ?fw3 ?_
   case yw3 => exact fun wq hq => exec_loadR rfl rfl (HL1.out wq hq)
   case fw3 => (go_frame; rfl)
   refine wpIn_take (i := 4) (d := (some 17)) (v := .slice pl nl cl) (a' := ?aw4) rfl rfl (by kernel_rfl) (by kernel_rfl) (by kernel_rfl) (fun _ _ _ h => h) (Or.inl ⟨by rfl, ?yw4⟩) ?fw4 ?_
   case yw4 => (intro wq hq; go_simp; first | done | with_reducible rfl)
   case fw4 => (go_frame; rfl)
   refine wpIn_do (i := 2) hD (by kernel_rfl) rfl (by rfl) ?_
   intro K2 hK2
   go_simp
   go_wp2_with (go_at_call 21; refine (HP3.out _ hD).mono ?_; rintro x w4 ⟨v4, c4, rfl, hr4, hbw4⟩)
   have hD4 : Below W.heap.size W w4 := belowP hD hbw4
   have HR4 : Hid (∀ X, Below w4.heap.size w4 X → RdI (· < X.heap.size) X v4 c4 CV) := fun X hX => hr4.carry (fun k hk => hX.block k hk.2) fun k hk => Nat.lt_of_lt_of_le hk.2 hX.size
   clear hr4
   refine wpIn_do (i := 5) hD4 (by kernel_rfl) rfl (by rfl) ?_
   intro K5 hK5
   go_simp
   go_wp2_with (go_at_call 22; refine (HP4.out _ hD4).mono ?_; rintro x w5 ⟨v5, c5, rfl, hr5, hbw5⟩)
   have hD5 : Below W.heap.size W w5 := belowP hD4 hbw5
   have HSM : Hid (Calls Tryz.prog 12 #[.slice v4 CV.length c4, .slice v5 CV.length c5] w5 fun e w' => e = .returned (.bool true) ∧ Below w5.heap.size w5 w') := (same12_any CV CV v4 v5 c4 c5 w5 (HR4.out w5 hbw5) hr5 (by omega) (by omega)).mono fun e w' hh => ⟨by rw [hh.1, decide_eq_true rfl], hh.2.below (Nat.le_refl _) fun _ _ h => h⟩
   clear hr5 HR4
   refine wpIn_do (i := 6) hD5 (by kernel_rfl) rfl (by rfl) ?_
   intro K6 hK6
   go_simp
   go_wp2_with (go_at_call 12; refine (HSM.out).mono ?_; rintro x w6 ⟨rfl, hbw6⟩)
   have hD6 : Below W.heap.size W w6 := belowP hD5 hbw6
   refine wpIn_take (i := 7) (d := (some 20)) (v := .bool true) (a' := ?aw7) rfl rfl (by kernel_rfl) (by kernel_rfl) (by kernel_rfl) (fun _ _ _ h => h) (Or.inl ⟨by rfl, ?yw7⟩) ?fw7 ?_
   case yw7 => (intro wq hq; go_simp; first | done | with_reducible rfl)
   case fw7 => (go_frame; rfl)
   refine wpIn_do (i := 8) hD6 (by kernel_rfl) rfl (by rfl) ?_
   intro K8 hK8
   go_simp
   go_wp2_with (go_at_call 15; refine (awake12_any _).mono ?_; rintro x w7 ⟨rfl, hbw7⟩)
   have hD7 : Below W.heap.size W w7 := belowP hD6 hbw7
   refine wpIn_take (i := 9) (d := (some 22)) (v := .bool true) (a' := ?aw9) rfl rfl (by kernel_rfl) (by kernel_rfl) (by kernel_rfl) (fun _ _ _ h => h) (Or.inl ⟨by rfl, ?yw9⟩) ?fw9 ?_
   case yw9 => (intro wq hq; go_simp; first | done | with_reducible rfl)
   case fw9 => (go_frame; rfl)
   refine wpIn_take (i := 10) (d := (some 4)) (v := .bool true) (a' := ?aw10) rfl rfl (by kernel_rfl) (by kernel_rfl) (by kernel_rfl) (fun _ _ _ h => h) (Or.inl ⟨by rfl, ?yw10⟩) ?fw10 ?_
   case yw10 => (intro wq hq; go_simp; first | done | with_reducible rfl)
   case fw10 => (go_frame; rfl)
   refine wpIn_done hD7 (by kernel_rfl) ?_ _
   go_wp2
   go_ret
   exact ⟨rfl, belowP hb0 (belowP hB1 hD7)⟩
end Go.Proofs.YtimhpglfolbomaaGreat.Od
namespace Go.Proofs.YtimhpglfolbomaaGreat
open Go.ChangeShapes Go.WideShapes Go.ChangeAt Go.RowKit
theorem cellsJ : Tryz.prog.cellsOf 36 = 5 := by kernel_rfl
theorem cellsS : Tryz.prog.cellsOf 9 = 1 := by kernel_rfl
theorem cellsI3 : Tryz.prog.cellsOf 3 = 1 := by kernel_rfl
theorem cellsI2 : Tryz.prog.cellsOf 2 = 1 := by kernel_rfl
theorem cellsKs : Tryz.prog.cellsOf 22 = 1 := by kernel_rfl
theorem cellsLs : Tryz.prog.cellsOf 34 = 1 := by kernel_rfl
theorem cell_lt {w : World} {a : Addr} {v : Value} (h : w.cell? a = some v) : a.block < w.heap.size := by
 rcases Nat.lt_or_ge a.block w.heap.size with h' | h'
 · exact h'
 · simp [World.cell?, Array.getElem?_eq_none h'] at h
theorem cell_none {w : World} {b o : Nat} {sp : Option Nat} {v : Value} (h : w.cell? ⟨b, o, sp⟩ = some v) : sp = none := by
 cases sp with
 | none => rfl
 | some x =>
  unfold World.cell? at h
  split at h <;> simp at h
theorem isJs_of {O : Nat → Prop} {w : World} {b o : Nat} (hO : O b) : ∀ (l : List J) (n : Nat), (∀ i, i < l.length → ∃ cs, (∀ m v, cs[m]? = some v → w.cell? ⟨b, o + (n + i) * 5 + m, none⟩ = some v) ∧ isJ O w (l.getD i J.zero) cs) → isJs O w (some ⟨b, o, none⟩) n l
 | [], _, _ => by unfold isJs; trivial
 | j :: r, n, h => by
  unfold isJs
  obtain ⟨cs, h1, h2⟩ := h 0 (by simp)
  refine ⟨⟨b, o, cs, rfl, hO, fun m v hv => ?_, h2⟩, isJs_of hO r (n + 1) fun i hi => ?_⟩
  · have := h1 m v hv
    simpa using this
  · obtain ⟨cs, h1, h2⟩ := h (i + 1) (by simp; omega)
    refine ⟨cs, fun m v hv => ?_, h2⟩
    have := h1 m v hv
    rwa [show n + (i + 1) = n + 1 + i by omega] at this
theorem pick_list {α : Type} {z : α} {P : Nat → α → Prop} : ∀ n, (∀ i, i < n → ∃ x, P i x) → ∃ l : List α, l.length = n ∧ ∀ i, i < n → P i (l.getD i z)
 | 0, _ => ⟨[], rfl, fun i hi => absurd hi (by omega)⟩
 | n + 1, h => by
  obtain ⟨l, hl, hp⟩ := pick_list (z := z) n fun i hi => h i (by omega)
  obtain ⟨x, hx⟩ := h n (by omega)
  refine ⟨l ++ [x], by simp [hl], fun i hi => ?_⟩
  by_cases hin : i < n
  · have : (l ++ [x]).getD i z = l.getD i z := by
      rw [List.getD_eq_getElem?_getD, List.getD_eq_getElem?_getD, List.getElem?_append_left (by omega)]
    rw [this]
    exact hp i hin
  · obtain rfl : i = n := by omega
    have : (l ++ [x]).getD i z = x := by
     rw [List.getD_eq_getElem?_getD, List.getElem?_append_right (by omega), hl]
     simp
    rw [this]
    exact hx
theorem viewJ {H : Type} {enc : TypeId × Value → H} {W : World} : ∀ (fuel : Nat) (cs : List Value) (x : DataW H × List MemPlace), DataW.trod enc Tryz.prog W 0 (fun _ => true) true fuel 36 cs = some x → ∃ j, isJ (fun b => b < W.heap.size) W j cs
 | 0, cs, x, h => by
  obtain ⟨_, n, hf, _⟩ := DataW.trod_struct Tryz.underlying36 h
  omega
 | fuel + 1, cs, x, h => by
  obtain ⟨xs, n, hf, _, hl, hlen, hfs⟩ := DataW.trod_struct Tryz.underlying36 h
  obtain rfl : fuel = n := by omega
  rw [cellsJ] at hl
  match cs, hl with
  | [c0, c1, c2, c3, c4], _ =>
   match xs, hlen with
   | [y0, y1, y2, y3, y4], _ =>
    have g0 : DataW.trod enc Tryz.prog W 0 (fun _ => true) true fuel 3 (([c0, c1, c2, c3, c4].drop 0).take (Tryz.prog.cellsOf 3)) = some y0 := hfs 0 _ rfl
    rw [cellsI3] at g0
    have f0 : DataW.trod enc Tryz.prog W 0 (fun _ => true) true fuel 3 [c0] = some y0 := g0
    have g1 : DataW.trod enc Tryz.prog W 0 (fun _ => true) true fuel 2 (([c0, c1, c2, c3, c4].drop 1).take (Tryz.prog.cellsOf 2)) = some y1 := hfs 1 _ rfl
    rw [cellsI2] at g1
    have f1 : DataW.trod enc Tryz.prog W 0 (fun _ => true) true fuel 2 [c1] = some y1 := g1
    have g2 : DataW.trod enc Tryz.prog W 0 (fun _ => true) true fuel 9 (([c0, c1, c2, c3, c4].drop 2).take (Tryz.prog.cellsOf 9)) = some y2 := hfs 2 _ rfl
    rw [cellsS] at g2
    have f2 : DataW.trod enc Tryz.prog W 0 (fun _ => true) true fuel 9 [c2] = some y2 := g2
    have g3 : DataW.trod enc Tryz.prog W 0 (fun _ => true) true fuel 22 (([c0, c1, c2, c3, c4].drop 3).take (Tryz.prog.cellsOf 22)) = some y3 := hfs 3 _ rfl
    rw [cellsKs] at g3
    have f3 : DataW.trod enc Tryz.prog W 0 (fun _ => true) true fuel 22 [c3] = some y3 := g3
    have g4 : DataW.trod enc Tryz.prog W 0 (fun _ => true) true fuel 34 (([c0, c1, c2, c3, c4].drop 4).take (Tryz.prog.cellsOf 34)) = some y4 := hfs 4 _ rfl
    rw [cellsLs] at g4
    have f4 : DataW.trod enc Tryz.prog W 0 (fun _ => true) true fuel 34 [c4] = some y4 := g4
    obtain ⟨k, e0, _, _⟩ := DataW.trod_int Tryz.underlying3 f0
    obtain ⟨i, e1, _, _⟩ := DataW.trod_int Tryz.underlying2 f1
    obtain ⟨t, e2, _, _⟩ := DataW.trod_string Tryz.underlying9 f2
    simp only [List.cons.injEq, and_true] at e0 e1 e2
    subst e0 e1 e2
    have hkeys : ∃ pk nk ck ks, c3 = .slice pk nk ck ∧ nk = ks.length ∧ RdK (fun b => b < W.heap.size) W pk ck ks := by
     rcases open_strings Tryz.underlying22 Tryz.underlying9 cellsS f3 with ⟨e3, _⟩ | ⟨a, len, cap, ss, e3, _, hlc, _, hss, _, hcell, _⟩
     · simp only [List.cons.injEq, and_true] at e3
       exact ⟨none, 0, 0, [], e3, rfl, RdK.nil _ _⟩
     · simp only [List.cons.injEq, and_true] at e3
       simp only [if_true] at hss
       refine ⟨some a, len, cap, ss.take len, e3, by simp; omega, by simp; omega, fun j hj => ⟨a, rfl, ?_, ?_⟩⟩
       · have hj' : j < len := by simp at hj; omega
         have := cell_lt (hcell j (by omega))
         rwa [add_block] at this
       · have hj' : j < len := by simp at hj; omega
         rw [hcell j (by omega)]
         congr 2
         rw [List.getD_eq_getElem?_getD, List.getD_eq_getElem?_getD, List.getElem?_take, if_pos hj', List.getElem?_eq_getElem (by omega)]
         rfl
    have hlist : ∃ pl nl cl l, c4 = .slice pl nl cl ∧ nl = l.length ∧ l.length ≤ cl ∧ isJs (fun b => b < W.heap.size) W pl 0 l := by
     rcases DataW.trod_slice Tryz.underlying34 f4 with ⟨e4, _⟩ | ⟨a, len, cap, elems, rest, n', hn', e4, _, _, hlc, _, hel, hget, _, _⟩
     · simp only [List.cons.injEq, and_true] at e4
       exact ⟨none, 0, 0, [], e4, rfl, Nat.le_refl _, by unfold isJs; trivial⟩
     · simp only [List.cons.injEq, and_true] at e4
       rw [cellsJ] at hget
       cases len with
       | zero => exact ⟨some a, 0, cap, [], e4, rfl, Nat.zero_le _, by unfold isJs; trivial⟩
       | succ len =>
        obtain ⟨b, o, sp⟩ := a
        have hone : ∀ i, i < len + 1 → ∃ cs, W.cells? 0 ((⟨b, o, sp⟩ : Addr).add (i * 5)) 5 = some cs ∧ ∃ y, DataW.trod enc Tryz.prog W 0 (fun _ => true) true n' 36 cs = some y := fun i hi => by
         have h1 := hget i hi
         rw [List.getElem?_eq_getElem (by omega), Option.bind_eq_some_iff] at h1
         obtain ⟨cs, h2, h3⟩ := h1
         exact ⟨cs, h2, _, h3⟩
        have hsp : sp = none := by
         obtain ⟨cs, h2, _⟩ := hone 0 (by omega)
         have h3 := (World.cells?_some h2).2.2 0 (by omega)
         have h4 : (((⟨b, o, sp⟩ : Addr).add (0 * 5)).add 0) = ⟨b, o, sp⟩ := by
          unfold Addr.add
          simp
         rw [h4] at h3
         have hlen5 := (World.cells?_some h2).2.1
         rw [List.getElem?_eq_getElem (by omega)] at h3
         exact cell_none h3
        subst hsp
        have hadd : ∀ m, (⟨b, o, none⟩ : Addr).add m = ⟨b, o + m, none⟩ := fun m => by unfold Addr.add; split <;> simp_all
        have hadd2 : ∀ m m', ((⟨b, o + m, none⟩ : Addr)).add m' = ⟨b, o + m + m', none⟩ := fun m m' => by unfold Addr.add; split <;> simp_all
        have hb : b < W.heap.size := by
         obtain ⟨cs, h2, _⟩ := hone 0 (by omega)
         have := World.cells?_block h2 (by decide)
         rwa [hadd] at this
        obtain ⟨l, hl1, hl2⟩ := pick_list (z := J.zero) (P := fun i j => ∃ cs, (∀ m v, cs[m]? = some v → W.cell? ⟨b, o + (0 + i) * 5 + m, none⟩ = some v) ∧ isJ (fun b => b < W.heap.size) W j cs) (len + 1) fun i hi => by
         obtain ⟨cs, h2, y, h3⟩ := hone i hi
         obtain ⟨j, hj⟩ := viewJ n' cs y h3
         refine ⟨j, cs, fun m v hv => ?_, hj⟩
         have h5 := (World.cells?_some h2).2.2
         have hlen5 := (World.cells?_some h2).2.1
         have hm : m < 5 := by
          have := (List.getElem?_eq_some_iff.1 hv).1
          omega
         have h6 := h5 m hm
         rw [hadd, hadd2, hv] at h6
         rw [show o + (0 + i) * 5 + m = o + i * 5 + m by omega]
         exact h6
        exact ⟨some ⟨b, o, none⟩, len + 1, cap, l, e4, hl1.symm, by omega, isJs_of (O := fun b => b < W.heap.size) hb l 0 fun i hi => hl2 i (by omega)⟩
    obtain ⟨pk, nk, ck, ks, rfl, rfl, hk⟩ := hkeys
    obtain ⟨pl, nl, cl, l, rfl, rfl, hlc, hll⟩ := hlist
    exact ⟨.mk k i t ks l, by unfold isJ; exact ⟨pk, ck, pl, cl, rfl, hk, hlc, hll⟩⟩
end Go.Proofs.YtimhpglfolbomaaGreat

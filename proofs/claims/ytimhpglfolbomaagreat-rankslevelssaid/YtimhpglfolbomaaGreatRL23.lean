/-
  Which level each event's sender has: the law, walked.
  A value of JSON that came in, as the walks read it.
  Whether no two of a row are the same, by a set: a contract.
  A map or list that is being made, a key and a value after another: what lies in memory.
  A key and a value more, by a contract: what told's own function does.
  The small parts of an event's shape and JSON, by contracts: within, digest, text, number.
  Lists of texts, and maps of signatures, as JSON: by contracts.
  A map of names to values of JSON, as the reader of events has it.
  The reader of events: what it has left, and how it takes a value: by contracts.
-/
import Derived.Test.YtimhpglfolbomaaGreatRL22
import Derived.Test.YtimhpglfolbomaaGreatChecked
import Derived.ProofKit
import Derived.SizedLaws
import Derived.SliceStrings
import Derived.Laws.OwnMore
set_option maxRecDepth 100000
set_option maxHeartbeats 16000000
namespace Go.Proofs.YtimhpglfolbomaaGreat.Od
open Go.RowKit Go.Maps
theorem FewPa.s13 {p : Pa} (h : FewPa p) : ∀ e ∈ p.evs, szJ 13 e.content = true := fun e he => sz_less 13 20 _ (by decide) (h.ev e he).cont
theorem levelsLaw_any {w : World} {p : Pa} {q : Pq} (h : IsPa (· < w.heap.size) w p q) (hB : BigPa p) :
    Calls Tryz.prog 5 #[valPa p q] w fun x w' => x = .returned (.bool true) ∧ Below w.heap.size w w' := by
 obtain ⟨W0, hW0⟩ : ∃ W0, W0 = w.alloc (.cells (cellsPa p q).toArray 27) := ⟨_, rfl⟩
 have hb0 : Below w.heap.size w W0 := by rw [hW0]; exact (Below.refl _ _).alloc (Nat.le_refl _) _
 have V : IsVP W0 w.heap.size p q := by rw [hW0]; exact isVP_new h
 have HLD : Hid (∀ X, Below W0.heap.size W0 X → (Instr.loadAt 27 (.pointer (some ⟨w.heap.size, 0, none⟩))).run Tryz.prog X = .ok (.agg (cellsPa p q).toArray) X) := fun X hX => (V.below hX).load
 have hFew := few12_any V.pa hB
 have HPA : Hid (FewPa p → ∀ X i, Below W0.heap.size W0 X → Calls Tryz.prog 19 #[.agg (cellsPa p q).toArray, .int .i64 i] X fun x w' => x = .returned (.int .i64 (levelV p i)) ∧ Below X.heap.size X w') := fun h1 X i hX => level_top (V.below hX).pa h1.sz h1.szs i
 have HPB : Hid (FewPa p → ∀ X i, Below W0.heap.size W0 X → Calls Tryz.prog 20 #[.agg (cellsPa p q).toArray, .int .i64 i] X fun x w' => x = .returned (.int .i64 (levelV p i)) ∧ Below X.heap.size X w') := fun h1 X i hX => rlevel_any (V.below hX).pa h1.sz h1.szs h1.s13 i
 have HC1 : Hid (∀ X, Below W0.heap.size W0 X → X.cell? ⟨w.heap.size, 1, none⟩ = some (.slice q.e p.evs.length q.ce)) := fun X hX => (V.below hX).c1
 have HEN : Hid (FewPa p → p.evs.length ≤ 25) := fun h1 => h1.evs
 have hB0 : Below W0.heap.size W0 W0 := Below.refl _ _
 clear h V hB
 unfold valPa at hFew ⊢
 generalize cellsPa p q = C at HLD hFew HPA HPB hW0 ⊢
 generalize p.evs.length = n at *
 go_enter Tryz.func5, Tryz.ntmps5
 go_upto_region 1 with fail
 rw [← hW0]
 clear hW0
 go_upto_region 4 with (first
  | (refine wpList_loadK rfl 27 _ rfl w.heap.size 0 rfl C (HLD.out _ hB0) ?_)
  | (go_at_call 9; refine hFew.mono ?_; rintro x W ⟨⟨b1, rfl, hf1⟩, hB1⟩; cases b1; have hN1 := hB1; clear hB1))
 · go_wp2
   go_ret
   exact ⟨rfl, belowP hb0 hN1⟩
 · have hfe := hf1 trivial
   have hn := HEN.out hfe
   have HP1 : Hid (∀ X i, Below W.heap.size W X → Calls Tryz.prog 19 #[.agg C.toArray, .int .i64 i] X fun x w' => x = .returned (.int .i64 (levelV p i)) ∧ Below X.heap.size X w') := fun X i hX => HPA.out hfe X i (belowP hB1 hX)
   have HP2 : Hid (∀ X i, Below W.heap.size W X → Calls Tryz.prog 20 #[.agg C.toArray, .int .i64 i] X fun x w' => x = .returned (.int .i64 (levelV p i)) ∧ Below X.heap.size X w') := fun X i hX => HPB.out hfe X i (belowP hB1 hX)
   have HL1 : Hid (∀ X, Below W.heap.size W X → (Instr.loadAt 27 (.pointer (some ⟨w.heap.size, 0, none⟩))).run Tryz.prog X = .ok (.agg C.toArray) X) := fun X hX => HLD.out X (belowP hB1 hX)
   have HC : Hid (∀ X, Below W.heap.size W X → X.cell? ⟨w.heap.size, 1, none⟩ = some (.slice q.e n q.ce)) := fun X hX => HC1.out X (belowP hB1 hX)
   clear HPA HPB HLD hFew hf1 hfe HEN HC1
   go_loopw [3] (fun i wr => ∃ z : Int, -1 ≤ z ∧ z ≤ (n : Int) + 1 ∧ i = .int .i64 z ∧ Below W.heap.size W wr) (fun i _ => ((n : Int) + 1 - intOf i).toNat)
   case atStart => exact ⟨-1, by omega, by omega, rfl, Below.refl _ _⟩
   case round =>
    obtain ⟨z, hz1, hz2, rfl, hb⟩ := hrel
    have c1 := HC.out wr hb
    by_cases hlt : z ≤ (n : Int)
    · have d1 : decide (z ≤ (n : Int)) = true := decide_eq_true hlt
      go_upto_region 6 with fail
      clear c1
      have HQ1 : Hid (∀ X, Below wr.heap.size wr X → Calls Tryz.prog 19 #[.agg C.toArray, .int .i64 z] X fun x w' => x = .returned (.int .i64 (levelV p z)) ∧ Below X.heap.size X w') := fun X hX => HP1.out X z (belowP hb hX)
      have HQ2 : Hid (∀ X, Below wr.heap.size wr X → Calls Tryz.prog 20 #[.agg C.toArray, .int .i64 z] X fun x w' => x = .returned (.int .i64 (levelV p z)) ∧ Below X.heap.size X w') := fun X hX => HP2.out X z (belowP hb hX)
      have HQL : Hid (∀ X, Below wr.heap.size wr X → (Instr.loadAt 27 (.pointer (some ⟨w.heap.size, 0, none⟩))).run Tryz.prog X = .ok (.agg C.toArray) X) := fun X hX => HL1.out X (belowP hb hX)
      generalize levelV p z = lv at HQ1 HQ2
      refine wp_region_in (by kernel_rfl) (fun w' => Below wr.heap.size wr w') ?_
      change wpIn _ _ _ _ _ _ _ _ (World.drew _)
      have hD : Below wr.heap.size wr wr.drew := (Below.refl _ _).drew
      refine wpIn_take (i := 0) (d := (some 14)) (v := (.agg C.toArray)) (a' := ?aqw0) rfl rfl (by kernel_rfl) (by kernel_rfl) (by kernel_rfl) (fun _ _ _ h => h) (Or.inl ⟨by rfl, ?yqw0⟩) ?fqw0 ?_
      case yqw0 => exact fun wq hq => exec_loadR rfl rfl (HQL.out wq hq)
      case fqw0 => (go_frame; rfl)
      refine wpIn_take (i := 1) (d := (some 15)) (v := (.int .i64 z)) (a' := ?aqw1) rfl rfl (by kernel_rfl) (by kernel_rfl) (by kernel_rfl) (fun _ _ _ h => h) (Or.inl ⟨by rfl, ?yqw1⟩) ?fqw1 ?_
      case yqw1 => (intro wq hq; go_simp; first | done | with_reducible rfl)
      case fqw1 => (go_frame; rfl)
      refine wpIn_take (i := 3) (d := (some 17)) (v := (.agg C.toArray)) (a' := ?aqw3) rfl rfl (by kernel_rfl) (by kernel_rfl) (by kernel_rfl) (fun _ _ _ h => h) (Or.inl ⟨by rfl, ?yqw3⟩) ?fqw3 ?_
      case yqw3 => exact fun wq hq => exec_loadR rfl rfl (HQL.out wq hq)
      case fqw3 => (go_frame; rfl)
      refine wpIn_take (i := 4) (d := (some 18)) (v := (.int .i64 z)) (a' := ?aqw4) rfl rfl (by kernel_rfl) (by kernel_rfl) (by kernel_rfl) (fun _ _ _ h => h) (Or.inl ⟨by rfl, ?yqw4⟩) ?fqw4 ?_
      case yqw4 => (intro wq hq; go_simp; first | done | with_reducible rfl)
      case fqw4 => (go_frame; rfl)
      refine wpIn_do (i := 2) hD (by kernel_rfl) rfl (by rfl) ?_
      intro K hK
      go_simp
      go_wp2_with (go_at_call 19; refine (HQ1.out _ hD).mono ?_; rintro x w2 ⟨rfl, hbw2⟩)
      have hD1 : Below wr.heap.size wr w2 := belowP hD hbw2
      refine wpIn_do (i := 5) hD1 (by kernel_rfl) rfl (by rfl) ?_
      intro K2 hK2
      go_simp
      go_wp2_with (go_at_call 20; refine (HQ2.out _ hD1).mono ?_; rintro x w3 ⟨rfl, hbw3⟩)
      have hD3 : Below wr.heap.size wr w3 := belowP hD1 hbw3
      refine wpIn_take (i := 6) (d := (some 20)) (v := .bool false) (a' := ?aqw6) rfl rfl (by kernel_rfl) (by kernel_rfl) (by kernel_rfl) (fun _ _ _ h => h) (Or.inl ⟨by rfl, ?yqw6⟩) ?fqw6 ?_
      case yqw6 => (intro wq hq; go_simp)
      case fqw6 => (go_frame; rfl)
      refine wpIn_done hD3 (by kernel_rfl) ?_ _
      go_wp2
      go_roundw
      case rel => exact ⟨z + 1, by omega, by omega, by go_num, belowP hb hD3⟩
      case measure => simp [intOf]; omega
    · have d1 : decide (z ≤ (n : Int)) = false := decide_eq_false hlt
      clear HP1 HP2 HL1 HC
      go_wp2_with (go_at_call 15; refine (awake12_any _).mono ?_; rintro x w4 ⟨rfl, hbw4⟩)
      go_ret
      exact ⟨rfl, belowP hb0 (belowP hB1 (belowP hb hbw4))⟩
end Go.Proofs.YtimhpglfolbomaaGreat.Od
namespace Go.Proofs.YtimhpglfolbomaaGreat
open Go.ChangeShapes Go.WideShapes Go.ChangeAt Go.RowKit
theorem cellsJ : Tryz.prog.cellsOf 36 = 5 := by kernel_rfl
theorem cellsS : Tryz.prog.cellsOf 9 = 1 := by kernel_rfl
theorem cellsI3 : Tryz.prog.cellsOf 3 = 1 := by kernel_rfl
theorem cellsI2 : Tryz.prog.cellsOf 2 = 1 := by kernel_rfl
theorem cellsKs : Tryz.prog.cellsOf 22 = 1 := by kernel_rfl
theorem cellsLs : Tryz.prog.cellsOf 34 = 1 := by kernel_rfl
theorem cell_lt {w : World} {a : Addr} {v : Value} (h : w.cell? a = some v) : a.block < w.heap.size := by
 rcases Nat.lt_or_ge a.block w.heap.size with h' | h'
 · exact h'
 · simp [World.cell?, Array.getElem?_eq_none h'] at h
theorem cell_none {w : World} {b o : Nat} {sp : Option Nat} {v : Value} (h : w.cell? ⟨b, o, sp⟩ = some v) : sp = none := by
 cases sp with
 | none => rfl
 | some x =>
  unfold World.cell? at h
  split at h <;> simp at h
theorem isJs_of {O : Nat → Prop} {w : World} {b o : Nat} (hO : O b) : ∀ (l : List J) (n : Nat), (∀ i, i < l.length → ∃ cs, (∀ m v, cs[m]? = some v → w.cell? ⟨b, o + (n + i) * 5 + m, none⟩ = some v) ∧ isJ O w (l.getD i J.zero) cs) → isJs O w (some ⟨b, o, none⟩) n l
 | [], _, _ => by unfold isJs; trivial
 | j :: r, n, h => by
  unfold isJs
  obtain ⟨cs, h1, h2⟩ := h 0 (by simp)
  refine ⟨⟨b, o, cs, rfl, hO, fun m v hv => ?_, h2⟩, isJs_of hO r (n + 1) fun i hi => ?_⟩
  · have := h1 m v hv
    simpa using this
  · obtain ⟨cs, h1, h2⟩ := h (i + 1) (by simp; omega)
    refine ⟨cs, fun m v hv => ?_, h2⟩
    have := h1 m v hv
    rwa [show n + (i + 1) = n + 1 + i by omega] at this
theorem pick_list {α : Type} {z : α} {P : Nat → α → Prop} : ∀ n, (∀ i, i < n → ∃ x, P i x) → ∃ l : List α, l.length = n ∧ ∀ i, i < n → P i (l.getD i z)
 | 0, _ => ⟨[], rfl, fun i hi => absurd hi (by omega)⟩
 | n + 1, h => by
  obtain ⟨l, hl, hp⟩ := pick_list (z := z) n fun i hi => h i (by omega)
  obtain ⟨x, hx⟩ := h n (by omega)
  refine ⟨l ++ [x], by simp [hl], fun i hi => ?_⟩
  by_cases hin : i < n
  · have : (l ++ [x]).getD i z = l.getD i z := by
      rw [List.getD_eq_getElem?_getD, List.getD_eq_getElem?_getD, List.getElem?_append_left (by omega)]
    rw [this]
    exact hp i hin
  · obtain rfl : i = n := by omega
    have : (l ++ [x]).getD i z = x := by
     rw [List.getD_eq_getElem?_getD, List.getElem?_append_right (by omega), hl]
     simp
    rw [this]
    exact hx
theorem viewJ {H : Type} {enc : TypeId × Value → H} {W : World} : ∀ (fuel : Nat) (cs : List Value) (x : DataW H × List MemPlace), DataW.trod enc Tryz.prog W 0 (fun _ => true) true fuel 36 cs = some x → ∃ j, isJ (fun b => b < W.heap.size) W j cs
 | 0, cs, x, h => by
  obtain ⟨_, n, hf, _⟩ := DataW.trod_struct Tryz.underlying36 h
  omega
 | fuel + 1, cs, x, h => by
  obtain ⟨xs, n, hf, _, hl, hlen, hfs⟩ := DataW.trod_struct Tryz.underlying36 h
  obtain rfl : fuel = n := by omega
  rw [cellsJ] at hl
  match cs, hl with
  | [c0, c1, c2, c3, c4], _ =>
   match xs, hlen with
   | [y0, y1, y2, y3, y4], _ =>
    have g0 : DataW.trod enc Tryz.prog W 0 (fun _ => true) true fuel 3 (([c0, c1, c2, c3, c4].drop 0).take (Tryz.prog.cellsOf 3)) = some y0 := hfs 0 _ rfl
    rw [cellsI3] at g0
    have f0 : DataW.trod enc Tryz.prog W 0 (fun _ => true) true fuel 3 [c0] = some y0 := g0
    have g1 : DataW.trod enc Tryz.prog W 0 (fun _ => true) true fuel 2 (([c0, c1, c2, c3, c4].drop 1).take (Tryz.prog.cellsOf 2)) = some y1 := hfs 1 _ rfl
    rw [cellsI2] at g1
    have f1 : DataW.trod enc Tryz.prog W 0 (fun _ => true) true fuel 2 [c1] = some y1 := g1
    have g2 : DataW.trod enc Tryz.prog W 0 (fun _ => true) true fuel 9 (([c0, c1, c2, c3, c4].drop 2).take (Tryz.prog.cellsOf 9)) = some y2 := hfs 2 _ rfl
    rw [cellsS] at g2
    have f2 : DataW.trod enc Tryz.prog W 0 (fun _ => true) true fuel 9 [c2] = some y2 := g2
    have g3 : DataW.trod enc Tryz.prog W 0 (fun _ => true) true fuel 22 (([c0, c1, c2, c3, c4].drop 3).take (Tryz.prog.cellsOf 22)) = some y3 := hfs 3 _ rfl
    rw [cellsKs] at g3
    have f3 : DataW.trod enc Tryz.prog W 0 (fun _ => true) true fuel 22 [c3] = some y3 := g3
    have g4 : DataW.trod enc Tryz.prog W 0 (fun _ => true) true fuel 34 (([c0, c1, c2, c3, c4].drop 4).take (Tryz.prog.cellsOf 34)) = some y4 := hfs 4 _ rfl
    rw [cellsLs] at g4
    have f4 : DataW.trod enc Tryz.prog W 0 (fun _ => true) true fuel 34 [c4] = some y4 := g4
    obtain ⟨k, e0, _, _⟩ := DataW.trod_int Tryz.underlying3 f0
    obtain ⟨i, e1, _, _⟩ := DataW.trod_int Tryz.underlying2 f1
    obtain ⟨t, e2, _, _⟩ := DataW.trod_string Tryz.underlying9 f2
    simp only [List.cons.injEq, and_true] at e0 e1 e2
    subst e0 e1 e2
    have hkeys : ∃ pk nk ck ks, c3 = .slice pk nk ck ∧ nk = ks.length ∧ RdK (fun b => b < W.heap.size) W pk ck ks := by
     rcases open_strings Tryz.underlying22 Tryz.underlying9 cellsS f3 with ⟨e3, _⟩ | ⟨a, len, cap, ss, e3, _, hlc, _, hss, _, hcell, _⟩
     · simp only [List.cons.injEq, and_true] at e3
       exact ⟨none, 0, 0, [], e3, rfl, RdK.nil _ _⟩
     · simp only [List.cons.injEq, and_true] at e3
       simp only [if_true] at hss
       refine ⟨some a, len, cap, ss.take len, e3, by simp; omega, by simp; omega, fun j hj => ⟨a, rfl, ?_, ?_⟩⟩
       · have hj' : j < len := by simp at hj; omega
         have := cell_lt (hcell j (by omega))
         rwa [add_block] at this
       · have hj' : j < len := by simp at hj; omega
         rw [hcell j (by omega)]
         congr 2
         rw [List.getD_eq_getElem?_getD, List.getD_eq_getElem?_getD, List.getElem?_take, if_pos hj', List.getElem?_eq_getElem (by omega)]
         rfl
    have hlist : ∃ pl nl cl l, c4 = .slice pl nl cl ∧ nl = l.length ∧ l.length ≤ cl ∧ isJs (fun b => b < W.heap.size) W pl 0 l := by
     rcases DataW.trod_slice Tryz.underlying34 f4 with ⟨e4, _⟩ | ⟨a, len, cap, elems, rest, n', hn', e4, _, _, hlc, _, hel, hget, _, _⟩
     · simp only [List.cons.injEq, and_true] at e4
       exact ⟨none, 0, 0, [], e4, rfl, Nat.le_refl _, by unfold isJs; trivial⟩
     · simp only [List.cons.injEq, and_true] at e4
       rw [cellsJ] at hget
       cases len with
       | zero => exact ⟨some a, 0, cap, [], e4, rfl, Nat.zero_le _, by unfold isJs; trivial⟩
       | succ len =>
        obtain ⟨b, o, sp⟩ := a
        have hone : ∀ i, i < len + 1 → ∃ cs, W.cells? 0 ((⟨b, o, sp⟩ : Addr).add (i * 5)) 5 = some cs ∧ ∃ y, DataW.trod enc Tryz.prog W 0 (fun _ => true) true n' 36 cs = some y := fun i hi => by
         have h1 := hget i hi
         rw [List.getElem?_eq_getElem (by omega), Option.bind_eq_some_iff] at h1
         obtain ⟨cs, h2, h3⟩ := h1
         exact ⟨cs, h2, _, h3⟩
        have hsp : sp = none := by
         obtain ⟨cs, h2, _⟩ := hone 0 (by omega)
         have h3 := (World.cells?_some h2).2.2 0 (by omega)
         have h4 : (((⟨b, o, sp⟩ : Addr).add (0 * 5)).add 0) = ⟨b, o, sp⟩ := by
          unfold Addr.add
          simp
         rw [h4] at h3
         have hlen5 := (World.cells?_some h2).2.1
         rw [List.getElem?_eq_getElem (by omega)] at h3
         exact cell_none h3
        subst hsp
        have hadd : ∀ m, (⟨b, o, none⟩ : Addr).add m = ⟨b, o + m, none⟩ := fun m => by unfold Addr.add; split <;> simp_all
        have hadd2 : ∀ m m', ((⟨b, o + m, none⟩ : Addr)).add m' = ⟨b, o + m + m', none⟩ := fun m m' => by unfold Addr.add; split <;> simp_all
        have hb : b < W.heap.size := by
         obtain ⟨cs, h2, _⟩ := hone 0 (by omega)
         have := World.cells?_block h2 (by decide)
         rwa [hadd] at this
        obtain ⟨l, hl1, hl2⟩ := pick_list (z := J.zero) (P := fun i j => ∃ cs, (∀ m v, cs[m]? = some v → W.cell? ⟨b, o + (0 + i) * 5 + m, none⟩ = some v) ∧ isJ (fun b => b < W.heap.size) W j cs) (len + 1) fun i hi => by
         obtain ⟨cs, h2, y, h3⟩ := hone i hi
         obtain ⟨j, hj⟩ := viewJ n' cs y h3
         refine ⟨j, cs, fun m v hv => ?_, hj⟩
         have h5 := (World.cells?_some h2).2.2
         have hlen5 := (World.cells?_some h2).2.1
         have hm : m < 5 := by
          have := (List.getElem?_eq_some_iff.1 hv).1
          omega
         have h6 := h5 m hm
         rw [hadd, hadd2, hv] at h6
         rw [show o + (0 + i) * 5 + m = o + i * 5 + m by omega]
         exact h6
        exact ⟨some ⟨b, o, none⟩, len + 1, cap, l, e4, hl1.symm, by omega, isJs_of (O := fun b => b < W.heap.size) hb l 0 fun i hi => hl2 i (by omega)⟩
    obtain ⟨pk, nk, ck, ks, rfl, rfl, hk⟩ := hkeys
    obtain ⟨pl, nl, cl, l, rfl, rfl, hlc, hll⟩ := hlist
    exact ⟨.mk k i t ks l, by unfold isJ; exact ⟨pk, ck, pl, cl, rfl, hk, hlc, hll⟩⟩
end Go.Proofs.YtimhpglfolbomaaGreat

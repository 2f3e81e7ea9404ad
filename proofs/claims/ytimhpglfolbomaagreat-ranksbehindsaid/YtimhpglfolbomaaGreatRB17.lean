/-
  By power each place is heard once, behind all that it leans on: the law, walked.
  A value of JSON that came in, as the walks read it.
  Whether no two of a row are the same, by a set: a contract.
  A map or list that is being made, a key and a value after another: what lies in memory.
  A key and a value more, by a contract: what told's own function does.
  The small parts of an event's shape and JSON, by contracts: within, digest, text, number.
  Lists of texts, and maps of signatures, as JSON: by contracts.
  A map of names to values of JSON, as the reader of events has it.
  The reader of events: what it has left, and how it takes a value: by contracts.
-/
import Derived.Test.YtimhpglfolbomaaGreatRB16
import Derived.Test.YtimhpglfolbomaaGreatChecked
import Derived.ProofKit
import Derived.SizedLaws
import Derived.SliceStrings
import Derived.Laws.OwnMore
set_option maxRecDepth 100000
set_option maxHeartbeats 16000000
namespace Go.Proofs.YtimhpglfolbomaaGreat.Od
open Go.RowKit Go.Maps
theorem lead_less {Q : List (List Nat)} {x y : Nat} (hQ : BackQ Q) (h : Lead Q [x] y) : y < x := by
 induction h with
 | one h1 h2 => rw [List.mem_singleton.1 h1] at h2; exact hQ _ _ h2
 | more _ h2 ih => exact Nat.lt_trans (hQ _ _ h2) ih
theorem there_one {n x : Nat} (h : x < n) : thereT n [(x : Int)] = [x] := by
 refine riseN_ext (there_rises _ _) (by simp) fun y => ?_
 rw [there_mem]
 simp
 omega
structure BehF (p : Pa) (l : List Int) (O : List Nat) : Prop where
 len : O.length ≤ 30
 f1 : ∀ i, i < l.length → 0 ≤ l.getD i 0 → l.getD i 0 < (p.evs.length : Int) → decide (l.getD i 0 ∈ zs O) = true
 f2 : ∀ j, j < O.length → decide (((O.getD j 0 : Nat) : Int) ∈ l) = true
 f3 : ∀ j, j < O.length → decide (((O.getD j 0 : Nat) : Int) ∈ (zs O).take j) = false
 f4 : ∀ j k, j ≤ k → k < O.length → decide (((O.getD k 0 : Nat) : Int) ∈ zs (chainV p [((O.getD j 0 : Nat) : Int)])) = false
theorem Beh.facts {p : Pa} {l : List Int} {O : List Nat} (h : Beh p l O) (hr : rightT p = true) (hn : p.evs.length ≤ 30) : BehF p l O := by
 have hQ : BackQ (toQ p.auth) := (back_of (right_parts hr).2.1).2.1
 have hlt : ∀ x ∈ O, x < p.evs.length := fun x hx => (there_mem.1 ((h.mem x).1 hx)).1
 refine ⟨?_, fun i hi h0 h1 => ?_, fun j hj => ?_, fun j hj => ?_, fun j k hjk hk => ?_⟩
 · have := sub_len (l := O) (T := List.range p.evs.length) h.nodup (fun x hx => List.mem_range.2 (hlt x hx))
   simp at this
   omega
 · obtain ⟨x, hx⟩ := Int.eq_ofNat_of_zero_le h0
   refine decide_eq_true ?_
   have hm : l.getD i 0 ∈ l := getD_inm hi
   rw [hx] at hm h1 ⊢
   exact (zs_mem _ _).2 ((h.mem x).2 (there_mem.2 ⟨by omega, hm⟩))
 · exact decide_eq_true (there_mem.1 ((h.mem _).1 (getD_inm hj))).2
 · refine decide_eq_false fun hm => ?_
   have e : (zs O).take j = zs (O.take j) := by unfold zs; rw [List.map_take]
   rw [e] at hm
   have hm2 := (zs_mem _ _).1 hm
   obtain ⟨t, ht, e2⟩ := List.getElem_of_mem hm2
   rw [List.length_take] at ht
   rw [List.getElem_take, getD_in hj] at e2
   have := (List.getElem_inj h.nodup).1 e2
   omega
 · refine decide_eq_false fun hm => ?_
   have hm2 := (zs_mem _ _).1 hm
   have hj : j < O.length := by omega
   have hx := hlt _ (getD_inm (l := O) (d := 0) hj)
   unfold chainV at hm2
   rw [hr] at hm2
   simp only [if_true] at hm2
   rw [there_one hx, cht_mem hQ] at hm2
   rcases Nat.lt_or_eq_of_le hjk with h' | h'
   · have := List.pairwise_iff_getElem.1 h.pw j k hj hk h'
     rw [getD_in hj, getD_in hk] at hm2
     exact this hm2
   · subst h'
     have := lead_less hQ hm2
     omega
theorem behindLaw_any {O : Nat → Prop} {w : World} {p : Pa} {q : Pq} {l : List Int} {pl : Option Addr} {cl : Nat} (h : IsPa (· < w.heap.size) w p q) (hB : BigPa p) (hl : RdI O w pl cl l) (hO : ∀ k, O k → k < w.heap.size) (hln : l.length ≤ 9223372036854775807) (_hw : ∀ y ∈ l, wf64 y) :
    Calls Tryz.prog 7 #[valPa p q, .slice pl l.length cl] w fun x w' => x = .returned (.bool true) ∧ Below w.heap.size w w' := by
 obtain ⟨W0, hW0⟩ : ∃ W0, W0 = w.alloc (.cells (cellsPa p q).toArray 27) := ⟨_, rfl⟩
 have hb0 : Below w.heap.size w W0 := by rw [hW0]; exact (Below.refl _ _).alloc (Nat.le_refl _) _
 have V : IsVP W0 w.heap.size p q := by rw [hW0]; exact isVP_new h
 have HLD : Hid (∀ X, Below W0.heap.size W0 X → (Instr.loadAt 27 (.pointer (some ⟨w.heap.size, 0, none⟩))).run Tryz.prog X = .ok (.agg (cellsPa p q).toArray) X) := fun X hX => (V.below hX).load
 have hFew := few12_any V.pa hB
 have HRA : Hid (FewPa p → ∀ X, Below W0.heap.size W0 X → Calls Tryz.prog 10 #[.agg (cellsPa p q).toArray] X fun x w' => x = .returned (.bool (rightT p)) ∧ Below X.heap.size X w') := fun h1 X hX => right_any (V.below hX).pa h1.sz
 have HLR : Hid (∀ X, Below W0.heap.size W0 X → RdI (· < X.heap.size) X pl cl l) := fun X hX => hl.carry (Same.of_below (belowP hb0 hX) hO) fun k hk => Nat.lt_of_lt_of_le (hO k hk) (belowP hb0 hX).size
 have HBN : Hid (FewPa p → rightT p = false → ∀ X, Below W0.heap.size W0 X → Calls Tryz.prog 21 #[.agg (cellsPa p q).toArray, .slice pl l.length cl] X fun e w' => ∃ v c, e = .returned (.slice v 0 c) ∧ Below X.heap.size X w') := fun h1 h2 X hX => (byPower_not (V.below hX).pa h1.sz h2).mono fun _ _ h => by
  obtain ⟨a, b, h1, _, h3⟩ := h.rd
  exact ⟨a, b, h1, h3⟩
 have HBY : Hid (FewPa p → l.length ≤ 50 → rightT p = true → ∀ X, Below W0.heap.size W0 X → Calls Tryz.prog 21 #[.agg (cellsPa p q).toArray, .slice pl l.length cl] X fun e w' => ∃ (OO : List Nat) (v : Option Addr) (c : Nat), Hid (BehF p l OO) ∧ e = .returned (.slice v OO.length c) ∧ RdI (fun k => X.heap.size ≤ k ∧ k < w'.heap.size) w' v c (zs OO) ∧ Below X.heap.size X w') := fun h1 h50 h2 X hX => (byPower_ok (O := (· < X.heap.size)) (V.below hX).pa h1.sz h1.szs h2 (HLR.out X hX) (fun _ h => h) (by omega)).mono fun _ _ h => by
  obtain ⟨OO, hb, hrow⟩ := byp_beh h2 h
  obtain ⟨a, b, h3, h4, h5⟩ := hrow.rd
  rw [zs_len] at h3
  exact ⟨OO, a, b, hb.facts h2 (Nat.le_trans h1.evs (by decide)), h3, h4, h5⟩
 have HCH : Hid (FewPa p → ∀ X (x : Nat), Below W0.heap.size W0 X → Calls Tryz.prog 13 #[.agg (cellsPa p q).toArray, .slice (some ⟨X.heap.size, 0, none⟩) 1 1] (X.alloc (.cells #[.int .i64 (x : Int)] 3)) fun e w' => ∃ v c, e = .returned (.slice v (zs (chainV p [(x : Int)])).length c) ∧ RdI (· < w'.heap.size) w' v c (zs (chainV p [(x : Int)])) ∧ Below X.heap.size X w') := fun h1 X x hX => by
  have hbX : Below X.heap.size X (X.alloc (.cells #[.int .i64 (x : Int)] 3)) := (Below.refl _ _).alloc (Nat.le_refl _) _
  have := chain_top (O := fun k => k = X.heap.size) (l := [(x : Int)]) (pl := some ⟨X.heap.size, 0, none⟩) (cl := 1) (V.below (belowP hX hbX)).pa h1.sz ⟨Nat.le_refl _, fun _ => ⟨_, _, rfl, rfl, fun j y hj => by
   rw [Nat.zero_add]
   exact cell_row (cur := [Value.int .i64 (x : Int)]) (heap_alloc_new _ _) j _ (by rw [show [Value.int .i64 (x : Int)] = ([(x : Int)] : List Int).map (Value.int .i64) from rfl, List.getElem?_map, hj]; rfl)⟩⟩ (fun k hk => by subst hk; simp) (by simp)
  refine this.mono fun e w' h => ?_
  obtain ⟨a, b, h1, h2, h3⟩ := h.rd
  exact ⟨a, b, h1, h2.carry (fun _ _ => rfl) fun k hk => hk.2, belowP hbX h3⟩
 have HCL : Hid (FewPa p → ∀ x : Nat, (zs (chainV p [(x : Int)])).length ≤ 30) := fun h1 x => by
  have := h1.sz.evs; have := h1.sz.auth
  rw [zs_len]
  unfold chainV
  split
  · unfold chT
    refine Nat.le_trans (List.length_filter_le _ _) ?_
    rw [List.length_range]
    unfold toQ
    rw [List.length_map]
    omega
  · simp
 have HC1 : Hid (∀ X, Below W0.heap.size W0 X → X.cell? ⟨w.heap.size, 1, none⟩ = some (.slice q.e p.evs.length q.ce)) := fun X hX => (V.below hX).c1
 have HINL : Hid (l.length ≤ 50 → ∀ X (y : Int), Below W0.heap.size W0 X → Calls Tryz.prog 23 #[.int .i64 y, .slice pl l.length cl] X fun e w' => e = .returned (.bool (decide (y ∈ l))) ∧ X = w') := fun h50 X y hX => rin_any l y pl cl X (HLR.out X hX) (by omega)
 have HLE : Hid (∀ X, Below W0.heap.size W0 X → ∀ i, i < l.length → ∃ b o, pl = some ⟨b, o, none⟩ ∧ X.cell? ⟨b, o + i, none⟩ = some (.int .i64 (l.getD i 0))) := fun X hX i hi => by
  obtain ⟨b, o, h1, _, h3⟩ := (HLR.out X hX).2 (by rintro rfl; simp at hi)
  exact ⟨b, o, h1, h3 i _ (by rw [getD_in hi, List.getElem?_eq_getElem hi])⟩
 have hB0 : Below W0.heap.size W0 W0 := Below.refl _ _
 have hcl := hl.1
 clear h V hB hl HLR
 unfold valPa at hFew ⊢
 generalize cellsPa p q = C at *
 generalize hRT : rightT p = rt at *
 clear hRT
 obtain ⟨nl, hnl⟩ : ∃ nl, l.length = nl := ⟨_, rfl⟩
 have HNL : Hid (l.length = nl) := hnl
 rw [hnl] at HBN HBY HINL HLE hln hcl ⊢
 clear hnl
 by_cases h50 : nl ≤ 50
 case neg =>
  have h50' : 50 < nl := by omega
  have d1 : decide ((50 : Int) < (nl : Int)) = true := decide_eq_true (by omega)
  have d2 : decide (50 < nl) = true := decide_eq_true h50'
  go_enter Tryz.func7, Tryz.ntmps7
  go_upto_region 1 with fail
  rw [← hW0]
  clear hW0
  go_wp2_with (first
   | (refine wpList_loadK rfl 27 _ rfl w.heap.size 0 rfl C (HLD.out _ hB0) ?_)
   | (go_at_call 9; refine hFew.mono ?_; rintro x W ⟨⟨b1, rfl, hf1⟩, hB1⟩; cases b1))
  all_goals (go_ret; exact ⟨rfl, belowP hb0 hB1⟩)
 have d1 : decide ((50 : Int) < (nl : Int)) = false := decide_eq_false (by omega)
 have d2 : decide (50 < nl) = false := decide_eq_false (by omega)
 cases rt with
 | false =>
  go_enter Tryz.func7, Tryz.ntmps7
  go_upto_region 1 with fail
  rw [← hW0]
  clear hW0
  go_upto_region 3 with (first
   | (refine wpList_loadK rfl 27 _ rfl w.heap.size 0 rfl C (HLD.out _ hB0) ?_)
   | (go_at_call 9; refine hFew.mono ?_; rintro x W ⟨⟨b1, rfl, hf1⟩, hB1⟩; cases b1; have hN1 := hB1; clear hB1))
  · go_wp2
    go_ret
    exact ⟨rfl, belowP hb0 hN1⟩
  · have hfe := hf1 trivial
    have HB2 := (show Hid _ from HBN.out hfe trivial)
    have HR2 := (show Hid _ from HRA.out hfe)
    clear HBN HBY HCH HCL HINL HLE hf1 hFew
    go_wp2_with (first
     | (refine wpList_loadK rfl 27 _ rfl w.heap.size 0 rfl C (HLD.out _ hB3) ?_)
     | (refine wpList_loadK rfl 27 _ rfl w.heap.size 0 rfl C (HLD.out _ hB1) ?_)
     | (go_at_call 21; refine (HB2.out _ hB1).mono ?_; rintro x w3 ⟨v3, k3, rfl, hb3⟩; have hB3 := belowP hB1 hb3)
     | (go_at_call 10; refine (HR2.out _ hB3).mono ?_; rintro x w4 ⟨rfl, hb4⟩; have hB4 := belowP hB3 hb4)
     | (go_at_call 15; refine (awake12_any _).mono ?_; rintro x w5 ⟨rfl, hb5⟩))
    go_ret
    exact ⟨rfl, belowP hb0 (belowP hB4 hb5)⟩
 | true =>
  go_enter Tryz.func7, Tryz.ntmps7
  go_upto_region 1 with fail
  rw [← hW0]
  clear hW0
  go_upto_region 3 with (first
   | (refine wpList_loadK rfl 27 _ rfl w.heap.size 0 rfl C (HLD.out _ hB0) ?_)
   | (go_at_call 9; refine hFew.mono ?_; rintro x W ⟨⟨b1, rfl, hf1⟩, hB1⟩; cases b1; have hN1 := hB1; clear hB1))
  · go_wp2
    go_ret
    exact ⟨rfl, belowP hb0 hN1⟩
  · have hfe := hf1 trivial
    have HB2 := (show Hid _ from HBY.out hfe h50 trivial)
    have HR2 := (show Hid _ from HRA.out hfe)
    have HCH2 := (show Hid _ from HCH.out hfe)
    have HCL2 := (show Hid _ from HCL.out hfe)
    have HIL := (show Hid _ from HINL.out h50)
    clear HBN HBY HCH HCL HINL hf1 hFew HRA
    go_upto_region 7 with (first
     | (refine wpList_loadK rfl 27 _ rfl w.heap.size 0 rfl C (HLD.out _ hB3) ?_)
     | (refine wpList_loadK rfl 27 _ rfl w.heap.size 0 rfl C (HLD.out _ hB1) ?_)
     | (go_at_call 21; refine (HB2.out _ hB1).mono ?_; rintro x w3 ⟨OO, v3, k3, HBF, rfl, hr3, hb3⟩; have hB3 := belowP hB1 hb3)
     | (go_at_call 10; refine (HR2.out _ hB3).mono ?_; rintro x w4 ⟨rfl, hb4⟩; have hB4 := belowP hB3 hb4))
    obtain ⟨m, hm⟩ : ∃ m, OO.length = m := ⟨_, rfl⟩
    have HM : Hid (OO.length = m) := hm
    have hml : m ≤ 30 := by rw [← hm]; exact HBF.out.len
    have hk3 := hr3.1
    have HOO : Hid (∀ X, Below w4.heap.size w4 X → RdI (· < X.heap.size) X v3 k3 (zs OO)) := fun X hX => hr3.carry (fun k hk => (belowP hb4 hX).block k hk.2) fun k hk => Nat.lt_of_lt_of_le hk.2 (belowP hb4 hX).size
    rw [zs_len, hm] at hk3
    have HIO : Hid (∀ X (y : Int), Below w4.heap.size w4 X → Calls Tryz.prog 23 #[.int .i64 y, .slice v3 m k3] X fun e w' => e = .returned (.bool (decide (y ∈ zs OO))) ∧ X = w') := fun X y hX => by
     have := rin_any (zs OO) y v3 k3 X (HOO.out X hX) (by rw [zs_len, HM.out]; omega)
     rw [zs_len, HM.out] at this
     exact this
    have HIT : Hid (∀ X (y : Int) (j : Nat), Below w4.heap.size w4 X → j ≤ m → Calls Tryz.prog 23 #[.int .i64 y, .slice v3 j k3] X fun e w' => e = .returned (.bool (decide (y ∈ (zs OO).take j))) ∧ X = w') := fun X y j hX hj => by
     have hlj : ((zs OO).take j).length = j := by rw [List.length_take, zs_len, HM.out]; omega
     have := rin_any ((zs OO).take j) y v3 k3 X ((HOO.out X hX).take j) (by rw [hlj]; omega)
     rw [hlj] at this
     exact this
    have HOE : Hid (∀ X, Below w4.heap.size w4 X → ∀ j, j < m → ∃ b o, v3 = some ⟨b, o, none⟩ ∧ X.cell? ⟨b, o + j, none⟩ = some (.int .i64 ((OO.getD j 0 : Nat) : Int))) := fun X hX j hj => by
     have hjO : j < OO.length := by rw [HM.out]; exact hj
     obtain ⟨b, o, h1, _, h3⟩ := (HOO.out X hX).2 (by intro h0; have h9 := zs_len OO; rw [h0] at h9; simp at h9; omega)
     refine ⟨b, o, h1, h3 j _ ?_⟩
     rw [show (zs OO)[j]? = (OO[j]?).map (fun k : Nat => (k : Int)) from by simp [zs], List.getElem?_eq_getElem hjO, getD_in hjO]
     rfl
    have HEV : Hid (∀ X, Below w4.heap.size w4 X → X.cell? ⟨w.heap.size, 1, none⟩ = some (.slice q.e p.evs.length q.ce)) := fun X hX => HC1.out X (belowP hB4 hX)
    have HLW : Hid (∀ X, Below w4.heap.size w4 X → ∀ i, i < nl → ∃ b o, pl = some ⟨b, o, none⟩ ∧ X.cell? ⟨b, o + i, none⟩ = some (.int .i64 (l.getD i 0))) := fun X hX => HLE.out X (belowP hB4 hX)
    have HILW : Hid (∀ X (y : Int), Below w4.heap.size w4 X → Calls Tryz.prog 23 #[.int .i64 y, .slice pl nl cl] X fun e w' => e = .returned (.bool (decide (y ∈ l))) ∧ X = w') := fun X y hX => HIL.out X y (belowP hB4 hX)
    have HLDW : Hid (∀ X, Below w4.heap.size w4 X → (Instr.loadAt 27 (.pointer (some ⟨w.heap.size, 0, none⟩))).run Tryz.prog X = .ok (.agg C.toArray) X) := fun X hX => HLD.out X (belowP hB4 hX)
    have HCHW : Hid (∀ X (x : Nat), Below w4.heap.size w4 X → Calls Tryz.prog 13 #[.agg C.toArray, .slice (some ⟨X.heap.size, 0, none⟩) 1 1] (X.alloc (.cells #[.int .i64 (x : Int)] 3)) fun e w' => ∃ v c, e = .returned (.slice v (zs (chainV p [(x : Int)])).length c) ∧ RdI (· < w'.heap.size) w' v c (zs (chainV p [(x : Int)])) ∧ Below X.heap.size X w') := fun X x hX => HCH2.out X x (belowP hB4 hX)
    have hne := hfe.evs
    clear HC1 HLE HIL HLD HCH2 HB2 HR2 hr3 HOO
    generalize hpn : p.evs.length = n at *
    have HPN : Hid (p.evs.length = n) := hpn
    rw [hm]
    clear hm hpn
    go_loopw [6] (fun v wr => ∃ i : Nat, i ≤ nl ∧ v = .int .i64 i ∧ Below w4.heap.size w4 wr) (fun v _ => nl - (intOf v).toNat)
    case atStart => exact ⟨0, Nat.zero_le _, rfl, Below.refl _ _⟩
    case round =>
     obtain ⟨i, hi, rfl, hb⟩ := hrel
     by_cases hil : i < nl
     · obtain ⟨lb, lo, hpl, hcy⟩ := HLW.out wr hb i hil
       have HF1 : Hid (0 ≤ l.getD i 0 → l.getD i 0 < (n : Int) → decide (l.getD i 0 ∈ zs OO) = true) := fun a b => HBF.out.f1 i (by rw [HNL.out]; exact hil) a (by rw [HPN.out]; exact b)
       have hcE := HEV.out wr hb
       have HXX : Hid (∀ X, Below wr.heap.size wr X → X.cell? ⟨lb, lo + i, none⟩ = some (.int .i64 (l.getD i 0)) ∧ X.cell? ⟨w.heap.size, 1, none⟩ = some (.slice q.e n q.ce)) := fun X hX => ⟨(hX.cell (p := ⟨lb, lo + i, none⟩) (cell_ltS hcy)).trans hcy, HEV.out X (belowP hb hX)⟩
       have HIO2 : Hid (∀ X, Below wr.heap.size wr X → Calls Tryz.prog 23 #[.int .i64 (l.getD i 0), .slice v3 m k3] X fun e w' => e = .returned (.bool (decide (l.getD i 0 ∈ zs OO))) ∧ X = w') := fun X hX => HIO.out X _ (belowP hb hX)
       subst hpl
       clear hcy hcE
       generalize l.getD i 0 = y at *
       go_upto_region 9 with fail
       refine wp_region_in (by kernel_rfl) (fun w' => Below wr.heap.size wr w') ?_
       change wpIn _ _ _ _ _ _ _ _ (World.drew _)
       have hE : Below wr.heap.size wr wr.drew := (Below.refl _ _).drew
       by_cases hy0 : 0 ≤ y
       · have e1 : decide (0 ≤ y) = true := decide_eq_true hy0
         by_cases hyn : y < (n : Int)
         · have e2 : decide (y < (n : Int)) = true := decide_eq_true hyn
           have e3 := HF1.out hy0 hyn
           rw [e3] at HIO2
           refine wpIn_take (i := 0) (d := (some 36)) (v := .slice (some ⟨lb, lo, none⟩) nl cl) (a' := ?awq49x0) rfl rfl (by kernel_rfl) (by kernel_rfl) (by kernel_rfl) (fun _ _ _ h => h) (Or.inl ⟨by rfl, ?ywq49x0⟩) ?fwq49x0 ?_
           case ywq49x0 => (intro wq hq; obtain ⟨g1, g2⟩ := HXX.out wq hq; go_simp; first | done | with_reducible rfl)
           case fwq49x0 => (go_frame; rfl)
           refine wpIn_take (i := 1) (d := (some 37)) (v := .int .i64 (i : Int)) (a' := ?awq50x1) rfl rfl (by kernel_rfl) (by kernel_rfl) (by kernel_rfl) (fun _ _ _ h => h) (Or.inl ⟨by rfl, ?ywq50x1⟩) ?fwq50x1 ?_
           case ywq50x1 => (intro wq hq; obtain ⟨g1, g2⟩ := HXX.out wq hq; go_simp; first | done | with_reducible rfl)
           case fwq50x1 => (go_frame; rfl)
           refine wpIn_take (i := 2) (d := (some 38)) (v := .pointer (some ⟨lb, lo + i, none⟩)) (a' := ?awq51x2) rfl rfl (by kernel_rfl) (by kernel_rfl) (by kernel_rfl) (fun _ _ _ h => h) (Or.inl ⟨by rfl, ?ywq51x2⟩) ?fwq51x2 ?_
           case ywq51x2 => (intro wq hq; obtain ⟨g1, g2⟩ := HXX.out wq hq; go_simp; first | done | with_reducible rfl)
           case fwq51x2 => (go_frame; rfl)
           refine wpIn_take (i := 3) (d := (some 39)) (v := .int .i64 y) (a' := ?awq52x3) rfl rfl (by kernel_rfl) (by kernel_rfl) (by kernel_rfl) (fun _ _ _ h => h) (Or.inl ⟨by rfl, ?ywq52x3⟩) ?fwq52x3 ?_
           case ywq52x3 => (intro wq hq; obtain ⟨g1, g2⟩ := HXX.out wq hq; go_simp; first | done | with_reducible rfl)
           case fwq52x3 => (go_frame; rfl)
           refine wpIn_take (i := 4) (d := (some 40)) (v := .bool true) (a' := ?awq53x4) rfl rfl (by kernel_rfl) (by kernel_rfl) (by kernel_rfl) (fun _ _ _ h => h) (Or.inl ⟨by rfl, ?ywq53x4⟩) ?fwq53x4 ?_
           case ywq53x4 => (intro wq hq; obtain ⟨g1, g2⟩ := HXX.out wq hq; go_simp; first | done | with_reducible rfl)
           case fwq53x4 => (go_frame; rfl)
           refine wpIn_take (i := 5) (d := (some 41)) (v := .bool true) (a' := ?awq54x5) rfl rfl (by kernel_rfl) (by kernel_rfl) (by kernel_rfl) (fun _ _ _ h => h) (Or.inl ⟨by rfl, ?ywq54x5⟩) ?fwq54x5 ?_
           case ywq54x5 => (intro wq hq; obtain ⟨g1, g2⟩ := HXX.out wq hq; go_simp; first | done | with_reducible rfl)
           case fwq54x5 => (go_frame; rfl)
           refine wpIn_take (i := 6) (d := (some 42)) (v := .slice (some ⟨lb, lo, none⟩) nl cl) (a' := ?awq55x6) rfl rfl (by kernel_rfl) (by kernel_rfl) (by kernel_rfl) (fun _ _ _ h => h) (Or.inl ⟨by rfl, ?ywq55x6⟩) ?fwq55x6 ?_
           case ywq55x6 => (intro wq hq; obtain ⟨g1, g2⟩ := HXX.out wq hq; go_simp; first | done | with_reducible rfl)
           case fwq55x6 => (go_frame; rfl)
           refine wpIn_take (i := 7) (d := (some 43)) (v := .int .i64 (i : Int)) (a' := ?awq56x7) rfl rfl (by kernel_rfl) (by kernel_rfl) (by kernel_rfl) (fun _ _ _ h => h) (Or.inl ⟨by rfl, ?ywq56x7⟩) ?fwq56x7 ?_
           case ywq56x7 => (intro wq hq; obtain ⟨g1, g2⟩ := HXX.out wq hq; go_simp; first | done | with_reducible rfl)
           case fwq56x7 => (go_frame; rfl)
           refine wpIn_take (i := 8) (d := (some 44)) (v := .pointer (some ⟨lb, lo + i, none⟩)) (a' := ?awq57x8) rfl rfl (by kernel_rfl) (by kernel_rfl) (by kernel_rfl) (fun _ _ _ h => h) (Or.inl ⟨by rfl, ?ywq57x8⟩) ?fwq57x8 ?_
           case ywq57x8 => (intro wq hq; obtain ⟨g1, g2⟩ := HXX.out wq hq; go_simp; first | done | with_reducible rfl)
           case fwq57x8 => (go_frame; rfl)
           refine wpIn_take (i := 9) (d := (some 45)) (v := .int .i64 y) (a' := ?awq58x9) rfl rfl (by kernel_rfl) (by kernel_rfl) (by kernel_rfl) (fun _ _ _ h => h) (Or.inl ⟨by rfl, ?ywq58x9⟩) ?fwq58x9 ?_
           case ywq58x9 => (intro wq hq; obtain ⟨g1, g2⟩ := HXX.out wq hq; go_simp; first | done | with_reducible rfl)
           case fwq58x9 => (go_frame; rfl)
           refine wpIn_take (i := 10) (d := (some 46)) (v := .pointer (some ⟨w.heap.size, 1, none⟩)) (a' := ?awq59x10) rfl rfl (by kernel_rfl) (by kernel_rfl) (by kernel_rfl) (fun _ _ _ h => h) (Or.inl ⟨by rfl, ?ywq59x10⟩) ?fwq59x10 ?_
           case ywq59x10 => (intro wq hq; obtain ⟨g1, g2⟩ := HXX.out wq hq; go_simp; first | done | with_reducible rfl)
           case fwq59x10 => (go_frame; rfl)
           refine wpIn_take (i := 11) (d := (some 47)) (v := .slice q.e n q.ce) (a' := ?awq60x11) rfl rfl (by kernel_rfl) (by kernel_rfl) (by kernel_rfl) (fun _ _ _ h => h) (Or.inl ⟨by rfl, ?ywq60x11⟩) ?fwq60x11 ?_
           case ywq60x11 => (intro wq hq; obtain ⟨g1, g2⟩ := HXX.out wq hq; go_simp; first | done | with_reducible rfl)
           case fwq60x11 => (go_frame; rfl)
           refine wpIn_take (i := 12) (d := (some 48)) (v := .int .i64 (n : Int)) (a' := ?awq61x12) rfl rfl (by kernel_rfl) (by kernel_rfl) (by kernel_rfl) (fun _ _ _ h => h) (Or.inl ⟨by rfl, ?ywq61x12⟩) ?fwq61x12 ?_
           case ywq61x12 => (intro wq hq; obtain ⟨g1, g2⟩ := HXX.out wq hq; go_simp; first | done | with_reducible rfl)
           case fwq61x12 => (go_frame; rfl)
           refine wpIn_take (i := 13) (d := (some 49)) (v := .bool true) (a' := ?awq62x13) rfl rfl (by kernel_rfl) (by kernel_rfl) (by kernel_rfl) (fun _ _ _ h => h) (Or.inl ⟨by rfl, ?ywq62x13⟩) ?fwq62x13 ?_
           case ywq62x13 => (intro wq hq; obtain ⟨g1, g2⟩ := HXX.out wq hq; go_simp; first | done | with_reducible rfl)
           case fwq62x13 => (go_frame; rfl)
           refine wpIn_take (i := 14) (d := (some 50)) (v := .bool true) (a' := ?awq63x14) rfl rfl (by kernel_rfl) (by kernel_rfl) (by kernel_rfl) (fun _ _ _ h => h) (Or.inl ⟨by rfl, ?ywq63x14⟩) ?fwq63x14 ?_
           case ywq63x14 => (intro wq hq; obtain ⟨g1, g2⟩ := HXX.out wq hq; go_simp; first | done | with_reducible rfl)
           case fwq63x14 => (go_frame; rfl)
           refine wpIn_take (i := 15) (d := (some 51)) (v := .bool true) (a' := ?awq64x15) rfl rfl (by kernel_rfl) (by kernel_rfl) (by kernel_rfl) (fun _ _ _ h => h) (Or.inl ⟨by rfl, ?ywq64x15⟩) ?fwq64x15 ?_
           case ywq64x15 => (intro wq hq; obtain ⟨g1, g2⟩ := HXX.out wq hq; go_simp; first | done | with_reducible rfl)
           case fwq64x15 => (go_frame; rfl)
           refine wpIn_take (i := 16) (d := (some 52)) (v := .slice (some ⟨lb, lo, none⟩) nl cl) (a' := ?awq65x16) rfl rfl (by kernel_rfl) (by kernel_rfl) (by kernel_rfl) (fun _ _ _ h => h) (Or.inl ⟨by rfl, ?ywq65x16⟩) ?fwq65x16 ?_
           case ywq65x16 => (intro wq hq; obtain ⟨g1, g2⟩ := HXX.out wq hq; go_simp; first | done | with_reducible rfl)
           case fwq65x16 => (go_frame; rfl)
           refine wpIn_take (i := 17) (d := (some 53)) (v := .int .i64 (i : Int)) (a' := ?awq66x17) rfl rfl (by kernel_rfl) (by kernel_rfl) (by kernel_rfl) (fun _ _ _ h => h) (Or.inl ⟨by rfl, ?ywq66x17⟩) ?fwq66x17 ?_
           case ywq66x17 => (intro wq hq; obtain ⟨g1, g2⟩ := HXX.out wq hq; go_simp; first | done | with_reducible rfl)
           case fwq66x17 => (go_frame; rfl)
           refine wpIn_take (i := 18) (d := (some 54)) (v := .pointer (some ⟨lb, lo + i, none⟩)) (a' := ?awq67x18) rfl rfl (by kernel_rfl) (by kernel_rfl) (by kernel_rfl) (fun _ _ _ h => h) (Or.inl ⟨by rfl, ?ywq67x18⟩) ?fwq67x18 ?_
           case ywq67x18 => (intro wq hq; obtain ⟨g1, g2⟩ := HXX.out wq hq; go_simp; first | done | with_reducible rfl)
           case fwq67x18 => (go_frame; rfl)
           refine wpIn_take (i := 19) (d := (some 55)) (v := .int .i64 y) (a' := ?awq68x19) rfl rfl (by kernel_rfl) (by kernel_rfl) (by kernel_rfl) (fun _ _ _ h => h) (Or.inl ⟨by rfl, ?ywq68x19⟩) ?fwq68x19 ?_
           case ywq68x19 => (intro wq hq; obtain ⟨g1, g2⟩ := HXX.out wq hq; go_simp; first | done | with_reducible rfl)
           case fwq68x19 => (go_frame; rfl)
           refine wpIn_take (i := 20) (d := (some 56)) (v := .slice v3 m k3) (a' := ?awq69x20) rfl rfl (by kernel_rfl) (by kernel_rfl) (by kernel_rfl) (fun _ _ _ h => h) (Or.inl ⟨by rfl, ?ywq69x20⟩) ?fwq69x20 ?_
           case ywq69x20 => (intro wq hq; obtain ⟨g1, g2⟩ := HXX.out wq hq; go_simp; first | done | with_reducible rfl)
           case fwq69x20 => (go_frame; rfl)
           refine wpIn_do (i := 21) hE (by kernel_rfl) rfl (by rfl) ?_
           intro K21 hK21
           go_simp
           go_wp2_with (go_at_call 23; refine (HIO2.out _ hE).mono ?_; rintro e w6 ⟨rfl, rfl⟩)
           refine wpIn_take (i := 22) (d := (some 58)) (v := .bool false) (a' := ?awq70x22) rfl rfl (by kernel_rfl) (by kernel_rfl) (by kernel_rfl) (fun _ _ _ h => h) (Or.inl ⟨by rfl, ?ywq70x22⟩) ?fwq70x22 ?_
           case ywq70x22 => (intro wq hq; obtain ⟨g1, g2⟩ := HXX.out wq hq; go_simp; first | done | with_reducible rfl)
           case fwq70x22 => (go_frame; rfl)
           refine wpIn_take (i := 23) (d := (some 59)) (v := .bool false) (a' := ?awq71x23) rfl rfl (by kernel_rfl) (by kernel_rfl) (by kernel_rfl) (fun _ _ _ h => h) (Or.inl ⟨by rfl, ?ywq71x23⟩) ?fwq71x23 ?_
           case ywq71x23 => (intro wq hq; obtain ⟨g1, g2⟩ := HXX.out wq hq; go_simp; first | done | with_reducible rfl)
           case fwq71x23 => (go_frame; rfl)
           refine wpIn_done hE (by kernel_rfl) ?_ _
           go_wp2
           go_roundw
           case rel => exact ⟨i + 1, by omega, by go_num, belowP hb hE⟩
           case measure => simp [intOf]; try omega
         · have e2 : decide (y < (n : Int)) = false := decide_eq_false hyn
           refine wpIn_take (i := 0) (d := (some 36)) (v := .slice (some ⟨lb, lo, none⟩) nl cl) (a' := ?awq25x0) rfl rfl (by kernel_rfl) (by kernel_rfl) (by kernel_rfl) (fun _ _ _ h => h) (Or.inl ⟨by rfl, ?ywq25x0⟩) ?fwq25x0 ?_
           case ywq25x0 => (intro wq hq; obtain ⟨g1, g2⟩ := HXX.out wq hq; go_simp; first | done | with_reducible rfl)
           case fwq25x0 => (go_frame; rfl)
           refine wpIn_take (i := 1) (d := (some 37)) (v := .int .i64 (i : Int)) (a' := ?awq26x1) rfl rfl (by kernel_rfl) (by kernel_rfl) (by kernel_rfl) (fun _ _ _ h => h) (Or.inl ⟨by rfl, ?ywq26x1⟩) ?fwq26x1 ?_
           case ywq26x1 => (intro wq hq; obtain ⟨g1, g2⟩ := HXX.out wq hq; go_simp; first | done | with_reducible rfl)
           case fwq26x1 => (go_frame; rfl)
           refine wpIn_take (i := 2) (d := (some 38)) (v := .pointer (some ⟨lb, lo + i, none⟩)) (a' := ?awq27x2) rfl rfl (by kernel_rfl) (by kernel_rfl) (by kernel_rfl) (fun _ _ _ h => h) (Or.inl ⟨by rfl, ?ywq27x2⟩) ?fwq27x2 ?_
           case ywq27x2 => (intro wq hq; obtain ⟨g1, g2⟩ := HXX.out wq hq; go_simp; first | done | with_reducible rfl)
           case fwq27x2 => (go_frame; rfl)
           refine wpIn_take (i := 3) (d := (some 39)) (v := .int .i64 y) (a' := ?awq28x3) rfl rfl (by kernel_rfl) (by kernel_rfl) (by kernel_rfl) (fun _ _ _ h => h) (Or.inl ⟨by rfl, ?ywq28x3⟩) ?fwq28x3 ?_
           case ywq28x3 => (intro wq hq; obtain ⟨g1, g2⟩ := HXX.out wq hq; go_simp; first | done | with_reducible rfl)
           case fwq28x3 => (go_frame; rfl)
           refine wpIn_take (i := 4) (d := (some 40)) (v := .bool true) (a' := ?awq29x4) rfl rfl (by kernel_rfl) (by kernel_rfl) (by kernel_rfl) (fun _ _ _ h => h) (Or.inl ⟨by rfl, ?ywq29x4⟩) ?fwq29x4 ?_
           case ywq29x4 => (intro wq hq; obtain ⟨g1, g2⟩ := HXX.out wq hq; go_simp; first | done | with_reducible rfl)
           case fwq29x4 => (go_frame; rfl)
           refine wpIn_take (i := 5) (d := (some 41)) (v := .bool true) (a' := ?awq30x5) rfl rfl (by kernel_rfl) (by kernel_rfl) (by kernel_rfl) (fun _ _ _ h => h) (Or.inl ⟨by rfl, ?ywq30x5⟩) ?fwq30x5 ?_
           case ywq30x5 => (intro wq hq; obtain ⟨g1, g2⟩ := HXX.out wq hq; go_simp; first | done | with_reducible rfl)
           case fwq30x5 => (go_frame; rfl)
           refine wpIn_take (i := 6) (d := (some 42)) (v := .slice (some ⟨lb, lo, none⟩) nl cl) (a' := ?awq31x6) rfl rfl (by kernel_rfl) (by kernel_rfl) (by kernel_rfl) (fun _ _ _ h => h) (Or.inl ⟨by rfl, ?ywq31x6⟩) ?fwq31x6 ?_
           case ywq31x6 => (intro wq hq; obtain ⟨g1, g2⟩ := HXX.out wq hq; go_simp; first | done | with_reducible rfl)
           case fwq31x6 => (go_frame; rfl)
           refine wpIn_take (i := 7) (d := (some 43)) (v := .int .i64 (i : Int)) (a' := ?awq32x7) rfl rfl (by kernel_rfl) (by kernel_rfl) (by kernel_rfl) (fun _ _ _ h => h) (Or.inl ⟨by rfl, ?ywq32x7⟩) ?fwq32x7 ?_
           case ywq32x7 => (intro wq hq; obtain ⟨g1, g2⟩ := HXX.out wq hq; go_simp; first | done | with_reducible rfl)
           case fwq32x7 => (go_frame; rfl)
           refine wpIn_take (i := 8) (d := (some 44)) (v := .pointer (some ⟨lb, lo + i, none⟩)) (a' := ?awq33x8) rfl rfl (by kernel_rfl) (by kernel_rfl) (by kernel_rfl) (fun _ _ _ h => h) (Or.inl ⟨by rfl, ?ywq33x8⟩) ?fwq33x8 ?_
           case ywq33x8 => (intro wq hq; obtain ⟨g1, g2⟩ := HXX.out wq hq; go_simp; first | done | with_reducible rfl)
           case fwq33x8 => (go_frame; rfl)
           refine wpIn_take (i := 9) (d := (some 45)) (v := .int .i64 y) (a' := ?awq34x9) rfl rfl (by kernel_rfl) (by kernel_rfl) (by kernel_rfl) (fun _ _ _ h => h) (Or.inl ⟨by rfl, ?ywq34x9⟩) ?fwq34x9 ?_
           case ywq34x9 => (intro wq hq; obtain ⟨g1, g2⟩ := HXX.out wq hq; go_simp; first | done | with_reducible rfl)
           case fwq34x9 => (go_frame; rfl)
           refine wpIn_take (i := 10) (d := (some 46)) (v := .pointer (some ⟨w.heap.size, 1, none⟩)) (a' := ?awq35x10) rfl rfl (by kernel_rfl) (by kernel_rfl) (by kernel_rfl) (fun _ _ _ h => h) (Or.inl ⟨by rfl, ?ywq35x10⟩) ?fwq35x10 ?_
           case ywq35x10 => (intro wq hq; obtain ⟨g1, g2⟩ := HXX.out wq hq; go_simp; first | done | with_reducible rfl)
           case fwq35x10 => (go_frame; rfl)
           refine wpIn_take (i := 11) (d := (some 47)) (v := .slice q.e n q.ce) (a' := ?awq36x11) rfl rfl (by kernel_rfl) (by kernel_rfl) (by kernel_rfl) (fun _ _ _ h => h) (Or.inl ⟨by rfl, ?ywq36x11⟩) ?fwq36x11 ?_
           case ywq36x11 => (intro wq hq; obtain ⟨g1, g2⟩ := HXX.out wq hq; go_simp; first | done | with_reducible rfl)
           case fwq36x11 => (go_frame; rfl)
           refine wpIn_take (i := 12) (d := (some 48)) (v := .int .i64 (n : Int)) (a' := ?awq37x12) rfl rfl (by kernel_rfl) (by kernel_rfl) (by kernel_rfl) (fun _ _ _ h => h) (Or.inl ⟨by rfl, ?ywq37x12⟩) ?fwq37x12 ?_
           case ywq37x12 => (intro wq hq; obtain ⟨g1, g2⟩ := HXX.out wq hq; go_simp; first | done | with_reducible rfl)
           case fwq37x12 => (go_frame; rfl)
           refine wpIn_take (i := 13) (d := (some 49)) (v := .bool false) (a' := ?awq38x13) rfl rfl (by kernel_rfl) (by kernel_rfl) (by kernel_rfl) (fun _ _ _ h => h) (Or.inl ⟨by rfl, ?ywq38x13⟩) ?fwq38x13 ?_
           case ywq38x13 => (intro wq hq; obtain ⟨g1, g2⟩ := HXX.out wq hq; go_simp; first | done | with_reducible rfl)
           case fwq38x13 => (go_frame; rfl)
           refine wpIn_take (i := 14) (d := (some 50)) (v := .bool false) (a' := ?awq39x14) rfl rfl (by kernel_rfl) (by kernel_rfl) (by kernel_rfl) (fun _ _ _ h => h) (Or.inl ⟨by rfl, ?ywq39x14⟩) ?fwq39x14 ?_
           case ywq39x14 => (intro wq hq; obtain ⟨g1, g2⟩ := HXX.out wq hq; go_simp; first | done | with_reducible rfl)
           case fwq39x14 => (go_frame; rfl)
           refine wpIn_take (i := 15) (d := (some 51)) (v := .bool false) (a' := ?awq40x15) rfl rfl (by kernel_rfl) (by kernel_rfl) (by kernel_rfl) (fun _ _ _ h => h) (Or.inl ⟨by rfl, ?ywq40x15⟩) ?fwq40x15 ?_
           case ywq40x15 => (intro wq hq; obtain ⟨g1, g2⟩ := HXX.out wq hq; go_simp; first | done | with_reducible rfl)
           case fwq40x15 => (go_frame; rfl)
           refine wpIn_take (i := 16) (d := (some 52)) (v := undef) (a' := ?awq41x16) rfl rfl (by kernel_rfl) (by kernel_rfl) (by kernel_rfl) (fun _ _ _ h => h) (Or.inr ⟨by rfl, rfl⟩) ?fwq41x16 ?_
           case fwq41x16 => (go_frame; rfl)
           refine wpIn_take (i := 17) (d := (some 53)) (v := undef) (a' := ?awq42x17) rfl rfl (by kernel_rfl) (by kernel_rfl) (by kernel_rfl) (fun _ _ _ h => h) (Or.inr ⟨by rfl, rfl⟩) ?fwq42x17 ?_
           case fwq42x17 => (go_frame; rfl)
           refine wpIn_take (i := 18) (d := (some 54)) (v := undef) (a' := ?awq43x18) rfl rfl (by kernel_rfl) (by kernel_rfl) (by kernel_rfl) (fun _ _ _ h => h) (Or.inr ⟨by rfl, rfl⟩) ?fwq43x18 ?_
           case fwq43x18 => (go_frame; rfl)
           refine wpIn_take (i := 19) (d := (some 55)) (v := undef) (a' := ?awq44x19) rfl rfl (by kernel_rfl) (by kernel_rfl) (by kernel_rfl) (fun _ _ _ h => h) (Or.inr ⟨by rfl, rfl⟩) ?fwq44x19 ?_
           case fwq44x19 => (go_frame; rfl)
           refine wpIn_take (i := 20) (d := (some 56)) (v := undef) (a' := ?awq45x20) rfl rfl (by kernel_rfl) (by kernel_rfl) (by kernel_rfl) (fun _ _ _ h => h) (Or.inr ⟨by rfl, rfl⟩) ?fwq45x20 ?_
           case fwq45x20 => (go_frame; rfl)
           refine wpIn_take (i := 21) (d := (some 57)) (v := undef) (a' := ?awq46x21) rfl rfl (by kernel_rfl) (by kernel_rfl) (by kernel_rfl) (fun _ _ _ h => h) (Or.inr ⟨by rfl, rfl⟩) ?fwq46x21 ?_
           case fwq46x21 => (go_frame; rfl)
           refine wpIn_take (i := 22) (d := (some 58)) (v := undef) (a' := ?awq47x22) rfl rfl (by kernel_rfl) (by kernel_rfl) (by kernel_rfl) (fun _ _ _ h => h) (Or.inr ⟨by rfl, rfl⟩) ?fwq47x22 ?_
           case fwq47x22 => (go_frame; rfl)
           refine wpIn_take (i := 23) (d := (some 59)) (v := .bool false) (a' := ?awq48x23) rfl rfl (by kernel_rfl) (by kernel_rfl) (by kernel_rfl) (fun _ _ _ h => h) (Or.inl ⟨by rfl, ?ywq48x23⟩) ?fwq48x23 ?_
           case ywq48x23 => (intro wq hq; obtain ⟨g1, g2⟩ := HXX.out wq hq; go_simp; first | done | with_reducible rfl)
           case fwq48x23 => (go_frame; rfl)
           refine wpIn_done hE (by kernel_rfl) ?_ _
           go_wp2
           go_roundw
           case rel => exact ⟨i + 1, by omega, by go_num, belowP hb hE⟩
           case measure => simp [intOf]; try omega
       · have e1 : decide (0 ≤ y) = false := decide_eq_false hy0
         refine wpIn_take (i := 0) (d := (some 36)) (v := .slice (some ⟨lb, lo, none⟩) nl cl) (a' := ?awq1x0) rfl rfl (by kernel_rfl) (by kernel_rfl) (by kernel_rfl) (fun _ _ _ h => h) (Or.inl ⟨by rfl, ?ywq1x0⟩) ?fwq1x0 ?_
         case ywq1x0 => (intro wq hq; obtain ⟨g1, g2⟩ := HXX.out wq hq; go_simp; first | done | with_reducible rfl)
         case fwq1x0 => (go_frame; rfl)
         refine wpIn_take (i := 1) (d := (some 37)) (v := .int .i64 (i : Int)) (a' := ?awq2x1) rfl rfl (by kernel_rfl) (by kernel_rfl) (by kernel_rfl) (fun _ _ _ h => h) (Or.inl ⟨by rfl, ?ywq2x1⟩) ?fwq2x1 ?_
         case ywq2x1 => (intro wq hq; obtain ⟨g1, g2⟩ := HXX.out wq hq; go_simp; first | done | with_reducible rfl)
         case fwq2x1 => (go_frame; rfl)
         refine wpIn_take (i := 2) (d := (some 38)) (v := .pointer (some ⟨lb, lo + i, none⟩)) (a' := ?awq3x2) rfl rfl (by kernel_rfl) (by kernel_rfl) (by kernel_rfl) (fun _ _ _ h => h) (Or.inl ⟨by rfl, ?ywq3x2⟩) ?fwq3x2 ?_
         case ywq3x2 => (intro wq hq; obtain ⟨g1, g2⟩ := HXX.out wq hq; go_simp; first | done | with_reducible rfl)
         case fwq3x2 => (go_frame; rfl)
         refine wpIn_take (i := 3) (d := (some 39)) (v := .int .i64 y) (a' := ?awq4x3) rfl rfl (by kernel_rfl) (by kernel_rfl) (by kernel_rfl) (fun _ _ _ h => h) (Or.inl ⟨by rfl, ?ywq4x3⟩) ?fwq4x3 ?_
         case ywq4x3 => (intro wq hq; obtain ⟨g1, g2⟩ := HXX.out wq hq; go_simp; first | done | with_reducible rfl)
         case fwq4x3 => (go_frame; rfl)
         refine wpIn_take (i := 4) (d := (some 40)) (v := .bool false) (a' := ?awq5x4) rfl rfl (by kernel_rfl) (by kernel_rfl) (by kernel_rfl) (fun _ _ _ h => h) (Or.inl ⟨by rfl, ?ywq5x4⟩) ?fwq5x4 ?_
         case ywq5x4 => (intro wq hq; obtain ⟨g1, g2⟩ := HXX.out wq hq; go_simp; first | done | with_reducible rfl)
         case fwq5x4 => (go_frame; rfl)
         refine wpIn_take (i := 5) (d := (some 41)) (v := .bool false) (a' := ?awq6x5) rfl rfl (by kernel_rfl) (by kernel_rfl) (by kernel_rfl) (fun _ _ _ h => h) (Or.inl ⟨by rfl, ?ywq6x5⟩) ?fwq6x5 ?_
         case ywq6x5 => (intro wq hq; obtain ⟨g1, g2⟩ := HXX.out wq hq; go_simp; first | done | with_reducible rfl)
         case fwq6x5 => (go_frame; rfl)
         refine wpIn_take (i := 6) (d := (some 42)) (v := undef) (a' := ?awq7x6) rfl rfl (by kernel_rfl) (by kernel_rfl) (by kernel_rfl) (fun _ _ _ h => h) (Or.inr ⟨by rfl, rfl⟩) ?fwq7x6 ?_
         case fwq7x6 => (go_frame; rfl)
         refine wpIn_take (i := 7) (d := (some 43)) (v := undef) (a' := ?awq8x7) rfl rfl (by kernel_rfl) (by kernel_rfl) (by kernel_rfl) (fun _ _ _ h => h) (Or.inr ⟨by rfl, rfl⟩) ?fwq8x7 ?_
         case fwq8x7 => (go_frame; rfl)
         refine wpIn_take (i := 8) (d := (some 44)) (v := undef) (a' := ?awq9x8) rfl rfl (by kernel_rfl) (by kernel_rfl) (by kernel_rfl) (fun _ _ _ h => h) (Or.inr ⟨by rfl, rfl⟩) ?fwq9x8 ?_
         case fwq9x8 => (go_frame; rfl)
         refine wpIn_take (i := 9) (d := (some 45)) (v := undef) (a' := ?awq10x9) rfl rfl (by kernel_rfl) (by kernel_rfl) (by kernel_rfl) (fun _ _ _ h => h) (Or.inr ⟨by rfl, rfl⟩) ?fwq10x9 ?_
         case fwq10x9 => (go_frame; rfl)
         refine wpIn_take (i := 10) (d := (some 46)) (v := undef) (a' := ?awq11x10) rfl rfl (by kernel_rfl) (by kernel_rfl) (by kernel_rfl) (fun _ _ _ h => h) (Or.inr ⟨by rfl, rfl⟩) ?fwq11x10 ?_
         case fwq11x10 => (go_frame; rfl)
         refine wpIn_take (i := 11) (d := (some 47)) (v := undef) (a' := ?awq12x11) rfl rfl (by kernel_rfl) (by kernel_rfl) (by kernel_rfl) (fun _ _ _ h => h) (Or.inr ⟨by rfl, rfl⟩) ?fwq12x11 ?_
         case fwq12x11 => (go_frame; rfl)
         refine wpIn_take (i := 12) (d := (some 48)) (v := undef) (a' := ?awq13x12) rfl rfl (by kernel_rfl) (by kernel_rfl) (by kernel_rfl) (fun _ _ _ h => h) (Or.inr ⟨by rfl, rfl⟩) ?fwq13x12 ?_
         case fwq13x12 => (go_frame; rfl)
         refine wpIn_take (i := 13) (d := (some 49)) (v := undef) (a' := ?awq14x13) rfl rfl (by kernel_rfl) (by kernel_rfl) (by kernel_rfl) (fun _ _ _ h => h) (Or.inr ⟨by rfl, rfl⟩) ?fwq14x13 ?_
         case fwq14x13 => (go_frame; rfl)
         refine wpIn_take (i := 14) (d := (some 50)) (v := .bool false) (a' := ?awq15x14) rfl rfl (by kernel_rfl) (by kernel_rfl) (by kernel_rfl) (fun _ _ _ h => h) (Or.inl ⟨by rfl, ?ywq15x14⟩) ?fwq15x14 ?_
         case ywq15x14 => (intro wq hq; obtain ⟨g1, g2⟩ := HXX.out wq hq; go_simp; first | done | with_reducible rfl)
         case fwq15x14 => (go_frame; rfl)
         refine wpIn_take (i := 15) (d := (some 51)) (v := .bool false) (a' := ?awq16x15) rfl rfl (by kernel_rfl) (by kernel_rfl) (by kernel_rfl) (fun _ _ _ h => h) (Or.inl ⟨by rfl, ?ywq16x15⟩) ?fwq16x15 ?_
         case ywq16x15 => (intro wq hq; obtain ⟨g1, g2⟩ := HXX.out wq hq; go_simp; first | done | with_reducible rfl)
         case fwq16x15 => (go_frame; rfl)
         refine wpIn_take (i := 16) (d := (some 52)) (v := undef) (a' := ?awq17x16) rfl rfl (by kernel_rfl) (by kernel_rfl) (by kernel_rfl) (fun _ _ _ h => h) (Or.inr ⟨by rfl, rfl⟩) ?fwq17x16 ?_
         case fwq17x16 => (go_frame; rfl)
         refine wpIn_take (i := 17) (d := (some 53)) (v := undef) (a' := ?awq18x17) rfl rfl (by kernel_rfl) (by kernel_rfl) (by kernel_rfl) (fun _ _ _ h => h) (Or.inr ⟨by rfl, rfl⟩) ?fwq18x17 ?_
         case fwq18x17 => (go_frame; rfl)
         refine wpIn_take (i := 18) (d := (some 54)) (v := undef) (a' := ?awq19x18) rfl rfl (by kernel_rfl) (by kernel_rfl) (by kernel_rfl) (fun _ _ _ h => h) (Or.inr ⟨by rfl, rfl⟩) ?fwq19x18 ?_
         case fwq19x18 => (go_frame; rfl)
         refine wpIn_take (i := 19) (d := (some 55)) (v := undef) (a' := ?awq20x19) rfl rfl (by kernel_rfl) (by kernel_rfl) (by kernel_rfl) (fun _ _ _ h => h) (Or.inr ⟨by rfl, rfl⟩) ?fwq20x19 ?_
         case fwq20x19 => (go_frame; rfl)
         refine wpIn_take (i := 20) (d := (some 56)) (v := undef) (a' := ?awq21x20) rfl rfl (by kernel_rfl) (by kernel_rfl) (by kernel_rfl) (fun _ _ _ h => h) (Or.inr ⟨by rfl, rfl⟩) ?fwq21x20 ?_
         case fwq21x20 => (go_frame; rfl)
         refine wpIn_take (i := 21) (d := (some 57)) (v := undef) (a' := ?awq22x21) rfl rfl (by kernel_rfl) (by kernel_rfl) (by kernel_rfl) (fun _ _ _ h => h) (Or.inr ⟨by rfl, rfl⟩) ?fwq22x21 ?_
         case fwq22x21 => (go_frame; rfl)
         refine wpIn_take (i := 22) (d := (some 58)) (v := undef) (a' := ?awq23x22) rfl rfl (by kernel_rfl) (by kernel_rfl) (by kernel_rfl) (fun _ _ _ h => h) (Or.inr ⟨by rfl, rfl⟩) ?fwq23x22 ?_
         case fwq23x22 => (go_frame; rfl)
         refine wpIn_take (i := 23) (d := (some 59)) (v := .bool false) (a' := ?awq24x23) rfl rfl (by kernel_rfl) (by kernel_rfl) (by kernel_rfl) (fun _ _ _ h => h) (Or.inl ⟨by rfl, ?ywq24x23⟩) ?fwq24x23 ?_
         case ywq24x23 => (intro wq hq; obtain ⟨g1, g2⟩ := HXX.out wq hq; go_simp; first | done | with_reducible rfl)
         case fwq24x23 => (go_frame; rfl)
         refine wpIn_done hE (by kernel_rfl) ?_ _
         go_wp2
         go_roundw
         case rel => exact ⟨i + 1, by omega, by go_num, belowP hb hE⟩
         case measure => simp [intOf]; try omega
     · obtain rfl : i = nl := by omega
       clear HLW HEV
       have hbi := hb
       go_upto_region 12 with fail
       obtain ⟨wA, hwA⟩ : ∃ wA, wA = wr := ⟨_, rfl⟩
       rw [← hwA] at hb hbi ⊢
       clear hwA
       go_loopw [7] (fun v wx => ∃ j : Nat, j ≤ m ∧ v = .int .i64 j ∧ Below w4.heap.size w4 wx) (fun v _ => m - (intOf v).toNat)
       case atStart => exact ⟨0, Nat.zero_le _, rfl, hb⟩
       case round =>
        clear hb hbi
        obtain ⟨j, hj, rfl, hb⟩ := hrel
        by_cases hjm : j < m
        · obtain ⟨ob, oo, hv3, hcx⟩ := HOE.out wr hb j hjm
          have hf2 := HBF.out.f2 j (by rw [HM.out]; exact hjm)
          have hf3 := HBF.out.f3 j (by rw [HM.out]; exact hjm)
          have HF4 : Hid (∀ k, j ≤ k → k < m → decide (((OO.getD k 0 : Nat) : Int) ∈ zs (chainV p [((OO.getD j 0 : Nat) : Int)])) = false) := fun k a b => HBF.out.f4 j k a (by rw [HM.out]; exact b)
          have HIA : Hid (∀ X, Below wr.heap.size wr X → Calls Tryz.prog 23 #[.int .i64 ((OO.getD j 0 : Nat) : Int), .slice pl i cl] X fun e w' => e = .returned (.bool true) ∧ X = w') := fun X hX => by have := HILW.out X ((OO.getD j 0 : Nat) : Int) (belowP hb hX); rw [hf2] at this; exact this
          have HIB : Hid (∀ X, Below wr.heap.size wr X → Calls Tryz.prog 23 #[.int .i64 ((OO.getD j 0 : Nat) : Int), .slice v3 j k3] X fun e w' => e = .returned (.bool false) ∧ X = w') := fun X hX => by have := HIT.out X ((OO.getD j 0 : Nat) : Int) j (belowP hb hX) hj; rw [hf3] at this; exact this
          have HXX : Hid (∀ X, Below wr.heap.size wr X → X.cell? ⟨ob, oo + j, none⟩ = some (.int .i64 ((OO.getD j 0 : Nat) : Int))) := fun X hX => (hX.cell (p := ⟨ob, oo + j, none⟩) (cell_ltS hcx)).trans hcx
          have HL1 : Hid (∀ X, Below wr.heap.size wr X → (Instr.loadAt 27 (.pointer (some ⟨w.heap.size, 0, none⟩))).run Tryz.prog X = .ok (.agg C.toArray) X) := fun X hX => HLDW.out X (belowP hb hX)
          have HCC : Hid (∀ X, Below wr.heap.size wr X → Calls Tryz.prog 13 #[.agg C.toArray, .slice (some ⟨X.heap.size, 0, none⟩) 1 1] (X.alloc (.cells #[.int .i64 ((OO.getD j 0 : Nat) : Int)] 3)) fun e w' => ∃ v c, e = .returned (.slice v (zs (chainV p [((OO.getD j 0 : Nat) : Int)])).length c) ∧ RdI (· < w'.heap.size) w' v c (zs (chainV p [((OO.getD j 0 : Nat) : Int)])) ∧ Below X.heap.size X w') := fun X hX => HCHW.out X (OO.getD j 0) (belowP hb hX)
          have hcl2 := HCL2.out (OO.getD j 0)
          clear hcx hf2 hf3
          generalize hxj : OO.getD j 0 = x at *
          clear hxj
          generalize zs (chainV p [(x : Int)]) = CV at *
          subst hv3
          go_upto_region 14 with fail
          refine wp_region_in (by kernel_rfl) (fun w' => Below wr.heap.size wr w') ?_
          change wpIn _ _ _ _ _ _ _ _ (World.drew _)
          have hE : Below wr.heap.size wr wr.drew := (Below.refl _ _).drew
          refine wpIn_take (i := 0) (d := (some 66)) (v := .slice (some ⟨ob, oo, none⟩) m k3) (a' := ?awq72x0) rfl rfl (by kernel_rfl) (by kernel_rfl) (by kernel_rfl) (fun _ _ _ h => h) (Or.inl ⟨by rfl, ?ywq72x0⟩) ?fwq72x0 ?_
          case ywq72x0 => (intro wq hq; have g1 := HXX.out wq hq; go_simp; first | done | with_reducible rfl)
          case fwq72x0 => (go_frame; rfl)
          refine wpIn_take (i := 1) (d := (some 67)) (v := .int .i64 (j : Int)) (a' := ?awq73x1) rfl rfl (by kernel_rfl) (by kernel_rfl) (by kernel_rfl) (fun _ _ _ h => h) (Or.inl ⟨by rfl, ?ywq73x1⟩) ?fwq73x1 ?_
          case ywq73x1 => (intro wq hq; have g1 := HXX.out wq hq; go_simp; first | done | with_reducible rfl)
          case fwq73x1 => (go_frame; rfl)
          refine wpIn_take (i := 2) (d := (some 68)) (v := .pointer (some ⟨ob, oo + j, none⟩)) (a' := ?awq74x2) rfl rfl (by kernel_rfl) (by kernel_rfl) (by kernel_rfl) (fun _ _ _ h => h) (Or.inl ⟨by rfl, ?ywq74x2⟩) ?fwq74x2 ?_
          case ywq74x2 => (intro wq hq; have g1 := HXX.out wq hq; go_simp; first | done | with_reducible rfl)
          case fwq74x2 => (go_frame; rfl)
          refine wpIn_take (i := 3) (d := (some 69)) (v := .int .i64 (x : Int)) (a' := ?awq75x3) rfl rfl (by kernel_rfl) (by kernel_rfl) (by kernel_rfl) (fun _ _ _ h => h) (Or.inl ⟨by rfl, ?ywq75x3⟩) ?fwq75x3 ?_
          case ywq75x3 => (intro wq hq; have g1 := HXX.out wq hq; go_simp; first | done | with_reducible rfl)
          case fwq75x3 => (go_frame; rfl)
          refine wpIn_take (i := 4) (d := (some 70)) (v := .slice pl i cl) (a' := ?awq76x4) rfl rfl (by kernel_rfl) (by kernel_rfl) (by kernel_rfl) (fun _ _ _ h => h) (Or.inl ⟨by rfl, ?ywq76x4⟩) ?fwq76x4 ?_
          case ywq76x4 => (intro wq hq; have g1 := HXX.out wq hq; go_simp; first | done | with_reducible rfl)
          case fwq76x4 => (go_frame; rfl)
          refine wpIn_do (i := 5) hE (by kernel_rfl) rfl (by rfl) ?_
          intro K5 hK5
          go_simp
          go_wp2_with (go_at_call 23; refine (HIA.out _ hE).mono ?_; rintro e w6 ⟨rfl, rfl⟩)
          refine wpIn_take (i := 6) (d := (some 72)) (v := .bool false) (a' := ?awq77x6) rfl rfl (by kernel_rfl) (by kernel_rfl) (by kernel_rfl) (fun _ _ _ h => h) (Or.inl ⟨by rfl, ?ywq77x6⟩) ?fwq77x6 ?_
          case ywq77x6 => (intro wq hq; have g1 := HXX.out wq hq; go_simp; first | done | with_reducible rfl)
          case fwq77x6 => (go_frame; rfl)
          refine wpIn_take (i := 7) (d := (some 73)) (v := .bool false) (a' := ?awq78x7) rfl rfl (by kernel_rfl) (by kernel_rfl) (by kernel_rfl) (fun _ _ _ h => h) (Or.inl ⟨by rfl, ?ywq78x7⟩) ?fwq78x7 ?_
          case ywq78x7 => (intro wq hq; have g1 := HXX.out wq hq; go_simp; first | done | with_reducible rfl)
          case fwq78x7 => (go_frame; rfl)
          refine wpIn_take (i := 8) (d := (some 74)) (v := .slice (some ⟨ob, oo, none⟩) m k3) (a' := ?awq79x8) rfl rfl (by kernel_rfl) (by kernel_rfl) (by kernel_rfl) (fun _ _ _ h => h) (Or.inl ⟨by rfl, ?ywq79x8⟩) ?fwq79x8 ?_
          case ywq79x8 => (intro wq hq; have g1 := HXX.out wq hq; go_simp; first | done | with_reducible rfl)
          case fwq79x8 => (go_frame; rfl)
          refine wpIn_take (i := 9) (d := (some 75)) (v := .int .i64 (j : Int)) (a' := ?awq80x9) rfl rfl (by kernel_rfl) (by kernel_rfl) (by kernel_rfl) (fun _ _ _ h => h) (Or.inl ⟨by rfl, ?ywq80x9⟩) ?fwq80x9 ?_
          case ywq80x9 => (intro wq hq; have g1 := HXX.out wq hq; go_simp; first | done | with_reducible rfl)
          case fwq80x9 => (go_frame; rfl)
          refine wpIn_take (i := 10) (d := (some 76)) (v := .pointer (some ⟨ob, oo + j, none⟩)) (a' := ?awq81x10) rfl rfl (by kernel_rfl) (by kernel_rfl) (by kernel_rfl) (fun _ _ _ h => h) (Or.inl ⟨by rfl, ?ywq81x10⟩) ?fwq81x10 ?_
          case ywq81x10 => (intro wq hq; have g1 := HXX.out wq hq; go_simp; first | done | with_reducible rfl)
          case fwq81x10 => (go_frame; rfl)
          refine wpIn_take (i := 11) (d := (some 77)) (v := .int .i64 (x : Int)) (a' := ?awq82x11) rfl rfl (by kernel_rfl) (by kernel_rfl) (by kernel_rfl) (fun _ _ _ h => h) (Or.inl ⟨by rfl, ?ywq82x11⟩) ?fwq82x11 ?_
          case ywq82x11 => (intro wq hq; have g1 := HXX.out wq hq; go_simp; first | done | with_reducible rfl)
          case fwq82x11 => (go_frame; rfl)
          refine wpIn_take (i := 12) (d := (some 78)) (v := .slice (some ⟨ob, oo, none⟩) m k3) (a' := ?awq83x12) rfl rfl (by kernel_rfl) (by kernel_rfl) (by kernel_rfl) (fun _ _ _ h => h) (Or.inl ⟨by rfl, ?ywq83x12⟩) ?fwq83x12 ?_
          case ywq83x12 => (intro wq hq; have g1 := HXX.out wq hq; go_simp; first | done | with_reducible rfl)
          case fwq83x12 => (go_frame; rfl)
          refine wpIn_take (i := 13) (d := (some 79)) (v := .int .i64 (j : Int)) (a' := ?awq84x13) rfl rfl (by kernel_rfl) (by kernel_rfl) (by kernel_rfl) (fun _ _ _ h => h) (Or.inl ⟨by rfl, ?ywq84x13⟩) ?fwq84x13 ?_
          case ywq84x13 => (intro wq hq; have g1 := HXX.out wq hq; go_simp; first | done | with_reducible rfl)
          case fwq84x13 => (go_frame; rfl)
          refine wpIn_take (i := 14) (d := (some 80)) (v := .slice (some ⟨ob, oo, none⟩) j k3) (a' := ?awq85x14) rfl rfl (by kernel_rfl) (by kernel_rfl) (by kernel_rfl) (fun _ _ _ h => h) (Or.inl ⟨by rfl, ?ywq85x14⟩) ?fwq85x14 ?_
          case ywq85x14 => (intro wq hq; go_simp; intro hbad; exfalso; omega)
          case fwq85x14 => (go_frame; rfl)
          refine wpIn_do (i := 15) hE (by kernel_rfl) rfl (by rfl) ?_
          intro K15 hK15
          go_simp
          go_wp2_with (go_at_call 23; refine (HIB.out _ hE).mono ?_; rintro e w6 ⟨rfl, rfl⟩)
          refine wpIn_take (i := 16) (d := (some 82)) (v := .bool false) (a' := ?awq86x16) rfl rfl (by kernel_rfl) (by kernel_rfl) (by kernel_rfl) (fun _ _ _ h => h) (Or.inl ⟨by rfl, ?ywq86x16⟩) ?fwq86x16 ?_
          case ywq86x16 => (intro wq hq; have g1 := HXX.out wq hq; go_simp; first | done | with_reducible rfl)
          case fwq86x16 => (go_frame; rfl)
          refine wpIn_done hE (by kernel_rfl) ?_ _
          go_upto_region 16 with fail
          refine wp_region_in (by kernel_rfl) (fun w' => Below wr.heap.size wr w') ?_
          change wpIn _ _ _ _ _ _ _ _ (World.drew _)
          have hE2 : Below wr.heap.size wr wr.drew.drew := hE.drew
          refine wpIn_take (i := 0) (d := (some 83)) (v := .agg C.toArray) (a' := ?awq87x0) rfl rfl (by kernel_rfl) (by kernel_rfl) (by kernel_rfl) (fun _ _ _ h => h) (Or.inl ⟨by rfl, ?ywq87x0⟩) ?fwq87x0 ?_
          case ywq87x0 => exact fun wq hq => exec_loadR rfl rfl (HL1.out wq hq)
          case fwq87x0 => (go_frame; rfl)
          refine wpIn_take (i := 1) (d := (some 84)) (v := .slice (some ⟨ob, oo, none⟩) m k3) (a' := ?awq88x1) rfl rfl (by kernel_rfl) (by kernel_rfl) (by kernel_rfl) (fun _ _ _ h => h) (Or.inl ⟨by rfl, ?ywq88x1⟩) ?fwq88x1 ?_
          case ywq88x1 => (intro wq hq; have g1 := HXX.out wq hq; go_simp; first | done | with_reducible rfl)
          case fwq88x1 => (go_frame; rfl)
          refine wpIn_take (i := 2) (d := (some 85)) (v := .int .i64 (j : Int)) (a' := ?awq89x2) rfl rfl (by kernel_rfl) (by kernel_rfl) (by kernel_rfl) (fun _ _ _ h => h) (Or.inl ⟨by rfl, ?ywq89x2⟩) ?fwq89x2 ?_
          case ywq89x2 => (intro wq hq; have g1 := HXX.out wq hq; go_simp; first | done | with_reducible rfl)
          case fwq89x2 => (go_frame; rfl)
          refine wpIn_take (i := 3) (d := (some 86)) (v := .pointer (some ⟨ob, oo + j, none⟩)) (a' := ?awq90x3) rfl rfl (by kernel_rfl) (by kernel_rfl) (by kernel_rfl) (fun _ _ _ h => h) (Or.inl ⟨by rfl, ?ywq90x3⟩) ?fwq90x3 ?_
          case ywq90x3 => (intro wq hq; have g1 := HXX.out wq hq; go_simp; first | done | with_reducible rfl)
          case fwq90x3 => (go_frame; rfl)
          refine wpIn_take (i := 4) (d := (some 87)) (v := .int .i64 (x : Int)) (a' := ?awq91x4) rfl rfl (by kernel_rfl) (by kernel_rfl) (by kernel_rfl) (fun _ _ _ h => h) (Or.inl ⟨by rfl, ?ywq91x4⟩) ?fwq91x4 ?_
          case ywq91x4 => (intro wq hq; have g1 := HXX.out wq hq; go_simp; first | done | with_reducible rfl)
          case fwq91x4 => (go_frame; rfl)
          refine wpIn_do (i := 5) hE2 (by kernel_rfl) rfl (by rfl) ?_
          intro K5 hK5
          refine wp_rowS 28 3 1 _ rfl _ _ _ Tryz.underlying28 info3S (by decide) (by decide) (by decide) (by decide) [(0, .int .i64 (x : Int))] (by simp only [List.map_toArray, List.map_cons, List.map_nil]; rfl) #[.int .i64 (x : Int)] (by kernel_rfl) ?_
          refine hK5 _ _ ?_
          have hE3 : Below wr.heap.size wr (wr.drew.drew.alloc (.cells #[.int .i64 (x : Int)] 3)) := hE2.alloc (Nat.le_refl _) _
          refine wpIn_do (i := 6) hE3 (by kernel_rfl) rfl (by rfl) ?_
          intro K6 hK6
          go_simp
          go_wp2_with (go_at_call 13; refine (HCC.out _ hE2).mono ?_; rintro e w7 ⟨v7, k7, rfl, hr7, hb7⟩)
          have hE4 : Below wr.heap.size wr w7 := belowP hE2 hb7
          refine wpIn_take (i := 7) (d := (some 8)) (v := .slice v7 CV.length k7) (a' := ?awq92x7) rfl rfl (by kernel_rfl) (by kernel_rfl) (by kernel_rfl) (fun _ _ _ h => h) (Or.inl ⟨by rfl, ?ywq92x7⟩) ?fwq92x7 ?_
          case ywq92x7 => (intro wq hq; go_simp; first | done | with_reducible rfl)
          case fwq92x7 => (go_frame; rfl)
          refine wpIn_done hE4 (by kernel_rfl) ?_ _
          go_upto_region 18 with fail
          have HIC : Hid (∀ X (z : Int), Below w7.heap.size w7 X → Calls Tryz.prog 23 #[.int .i64 z, .slice v7 CV.length k7] X fun e w' => e = .returned (.bool (decide (z ∈ CV))) ∧ X = w') := fun X z hX => rin_any CV z v7 k7 X (hr7.same (Same.of_below hX fun _ h => h)) (by omega)
          have hB7 : Below w4.heap.size w4 w7 := belowP hb hE4
          clear hr7 HCC HL1 HXX HIA HIB
          go_loopw [9] (fun v wy => ∃ k : Nat, j ≤ k ∧ k ≤ m ∧ v = .int .i64 k ∧ Below w7.heap.size w7 wy) (fun v _ => m - (intOf v).toNat)
          case atStart => exact ⟨j, Nat.le_refl _, hj, rfl, Below.refl _ _⟩
          case round =>
           obtain ⟨k, hjk, hkm, rfl, hbk⟩ := hrel
           by_cases hkl : k < m
           · obtain ⟨ob2, oo2, hv4, hcz⟩ := HOE.out _ (belowP hB7 hbk) k hkl
             cases hv4
             have hf4 := HF4.out k hjk hkl
             have hin := HIC.out _ ((OO.getD k 0 : Nat) : Int) hbk
             rw [hf4] at hin
             clear hf4
             generalize OO.getD k 0 = z at *
             go_wp2_with (go_at_call 23; refine hin.mono ?_; rintro e w' ⟨rfl, rfl⟩)
             go_roundw
             case rel => exact ⟨k + 1, by omega, by omega, by go_num, hbk⟩
             case measure => simp [intOf]; try omega
           · obtain rfl : k = m := by omega
             clear HF4 HIC
             go_wp2_with fail
             go_roundw
             case rel => exact ⟨j + 1, by omega, by go_num, belowP hB7 hbk⟩
             case measure => simp [intOf]; try omega
        · obtain rfl : j = m := by omega
          clear HOE HIO HIT HCHW HLDW HILW HBF
          go_wp2_with (go_at_call 15; refine (awake12_any _).mono ?_; rintro x w9 ⟨rfl, hb9⟩)
          go_ret
          exact ⟨rfl, belowP hb0 (belowP hB4 (belowP hb hb9))⟩
end Go.Proofs.YtimhpglfolbomaaGreat.Od
namespace Go.Proofs.YtimhpglfolbomaaGreat
open Go.ChangeShapes Go.WideShapes Go.ChangeAt Go.RowKit
theorem cellsJ : Tryz.prog.cellsOf 36 = 5 := by kernel_rfl
theorem cellsS : Tryz.prog.cellsOf 9 = 1 := by kernel_rfl
theorem cellsI3 : Tryz.prog.cellsOf 3 = 1 := by kernel_rfl
theorem cellsI2 : Tryz.prog.cellsOf 2 = 1 := by kernel_rfl
theorem cellsKs : Tryz.prog.cellsOf 22 = 1 := by kernel_rfl
theorem cellsLs : Tryz.prog.cellsOf 34 = 1 := by kernel_rfl
theorem cell_lt {w : World} {a : Addr} {v : Value} (h : w.cell? a = some v) : a.block < w.heap.size := by
 rcases Nat.lt_or_ge a.block w.heap.size with h' | h'
 · exact h'
 · simp [World.cell?, Array.getElem?_eq_none h'] at h
theorem cell_none {w : World} {b o : Nat} {sp : Option Nat} {v : Value} (h : w.cell? ⟨b, o, sp⟩ = some v) : sp = none := by
 cases sp with
 | none => rfl
 | some x =>
  unfold World.cell? at h
  split at h <;> simp at h
theorem isJs_of {O : Nat → Prop} {w : World} {b o : Nat} (hO : O b) : ∀ (l : List J) (n : Nat), (∀ i, i < l.length → ∃ cs, (∀ m v, cs[m]? = some v → w.cell? ⟨b, o + (n + i) * 5 + m, none⟩ = some v) ∧ isJ O w (l.getD i J.zero) cs) → isJs O w (some ⟨b, o, none⟩) n l
 | [], _, _ => by unfold isJs; trivial
 | j :: r, n, h => by
  unfold isJs
  obtain ⟨cs, h1, h2⟩ := h 0 (by simp)
  refine ⟨⟨b, o, cs, rfl, hO, fun m v hv => ?_, h2⟩, isJs_of hO r (n + 1) fun i hi => ?_⟩
  · have := h1 m v hv
    simpa using this
  · obtain ⟨cs, h1, h2⟩ := h (i + 1) (by simp; omega)
    refine ⟨cs, fun m v hv => ?_, h2⟩
    have := h1 m v hv
    rwa [show n + (i + 1) = n + 1 + i by omega] at this
theorem pick_list {α : Type} {z : α} {P : Nat → α → Prop} : ∀ n, (∀ i, i < n → ∃ x, P i x) → ∃ l : List α, l.length = n ∧ ∀ i, i < n → P i (l.getD i z)
 | 0, _ => ⟨[], rfl, fun i hi => absurd hi (by omega)⟩
 | n + 1, h => by
  obtain ⟨l, hl, hp⟩ := pick_list (z := z) n fun i hi => h i (by omega)
  obtain ⟨x, hx⟩ := h n (by omega)
  refine ⟨l ++ [x], by simp [hl], fun i hi => ?_⟩
  by_cases hin : i < n
  · have : (l ++ [x]).getD i z = l.getD i z := by
      rw [List.getD_eq_getElem?_getD, List.getD_eq_getElem?_getD, List.getElem?_append_left (by omega)]
    rw [this]
    exact hp i hin
  · obtain rfl : i = n := by omega
    have : (l ++ [x]).getD i z = x := by
     rw [List.getD_eq_getElem?_getD, List.getElem?_append_right (by omega), hl]
     simp
    rw [this]
    exact hx
theorem viewJ {H : Type} {enc : TypeId × Value → H} {W : World} : ∀ (fuel : Nat) (cs : List Value) (x : DataW H × List MemPlace), DataW.trod enc Tryz.prog W 0 (fun _ => true) true fuel 36 cs = some x → ∃ j, isJ (fun b => b < W.heap.size) W j cs
 | 0, cs, x, h => by
  obtain ⟨_, n, hf, _⟩ := DataW.trod_struct Tryz.underlying36 h
  omega
 | fuel + 1, cs, x, h => by
  obtain ⟨xs, n, hf, _, hl, hlen, hfs⟩ := DataW.trod_struct Tryz.underlying36 h
  obtain rfl : fuel = n := by omega
  rw [cellsJ] at hl
  match cs, hl with
  | [c0, c1, c2, c3, c4], _ =>
   match xs, hlen with
   | [y0, y1, y2, y3, y4], _ =>
    have g0 : DataW.trod enc Tryz.prog W 0 (fun _ => true) true fuel 3 (([c0, c1, c2, c3, c4].drop 0).take (Tryz.prog.cellsOf 3)) = some y0 := hfs 0 _ rfl
    rw [cellsI3] at g0
    have f0 : DataW.trod enc Tryz.prog W 0 (fun _ => true) true fuel 3 [c0] = some y0 := g0
    have g1 : DataW.trod enc Tryz.prog W 0 (fun _ => true) true fuel 2 (([c0, c1, c2, c3, c4].drop 1).take (Tryz.prog.cellsOf 2)) = some y1 := hfs 1 _ rfl
    rw [cellsI2] at g1
    have f1 : DataW.trod enc Tryz.prog W 0 (fun _ => true) true fuel 2 [c1] = some y1 := g1
    have g2 : DataW.trod enc Tryz.prog W 0 (fun _ => true) true fuel 9 (([c0, c1, c2, c3, c4].drop 2).take (Tryz.prog.cellsOf 9)) = some y2 := hfs 2 _ rfl
    rw [cellsS] at g2
    have f2 : DataW.trod enc Tryz.prog W 0 (fun _ => true) true fuel 9 [c2] = some y2 := g2
    have g3 : DataW.trod enc Tryz.prog W 0 (fun _ => true) true fuel 22 (([c0, c1, c2, c3, c4].drop 3).take (Tryz.prog.cellsOf 22)) = some y3 := hfs 3 _ rfl
    rw [cellsKs] at g3
    have f3 : DataW.trod enc Tryz.prog W 0 (fun _ => true) true fuel 22 [c3] = some y3 := g3
    have g4 : DataW.trod enc Tryz.prog W 0 (fun _ => true) true fuel 34 (([c0, c1, c2, c3, c4].drop 4).take (Tryz.prog.cellsOf 34)) = some y4 := hfs 4 _ rfl
    rw [cellsLs] at g4
    have f4 : DataW.trod enc Tryz.prog W 0 (fun _ => true) true fuel 34 [c4] = some y4 := g4
    obtain ⟨k, e0, _, _⟩ := DataW.trod_int Tryz.underlying3 f0
    obtain ⟨i, e1, _, _⟩ := DataW.trod_int Tryz.underlying2 f1
    obtain ⟨t, e2, _, _⟩ := DataW.trod_string Tryz.underlying9 f2
    simp only [List.cons.injEq, and_true] at e0 e1 e2
    subst e0 e1 e2
    have hkeys : ∃ pk nk ck ks, c3 = .slice pk nk ck ∧ nk = ks.length ∧ RdK (fun b => b < W.heap.size) W pk ck ks := by
     rcases open_strings Tryz.underlying22 Tryz.underlying9 cellsS f3 with ⟨e3, _⟩ | ⟨a, len, cap, ss, e3, _, hlc, _, hss, _, hcell, _⟩
     · simp only [List.cons.injEq, and_true] at e3
       exact ⟨none, 0, 0, [], e3, rfl, RdK.nil _ _⟩
     · simp only [List.cons.injEq, and_true] at e3
       simp only [if_true] at hss
       refine ⟨some a, len, cap, ss.take len, e3, by simp; omega, by simp; omega, fun j hj => ⟨a, rfl, ?_, ?_⟩⟩
       · have hj' : j < len := by simp at hj; omega
         have := cell_lt (hcell j (by omega))
         rwa [add_block] at this
       · have hj' : j < len := by simp at hj; omega
         rw [hcell j (by omega)]
         congr 2
         rw [List.getD_eq_getElem?_getD, List.getD_eq_getElem?_getD, List.getElem?_take, if_pos hj', List.getElem?_eq_getElem (by omega)]
         rfl
    have hlist : ∃ pl nl cl l, c4 = .slice pl nl cl ∧ nl = l.length ∧ l.length ≤ cl ∧ isJs (fun b => b < W.heap.size) W pl 0 l := by
     rcases DataW.trod_slice Tryz.underlying34 f4 with ⟨e4, _⟩ | ⟨a, len, cap, elems, rest, n', hn', e4, _, _, hlc, _, hel, hget, _, _⟩
     · simp only [List.cons.injEq, and_true] at e4
       exact ⟨none, 0, 0, [], e4, rfl, Nat.le_refl _, by unfold isJs; trivial⟩
     · simp only [List.cons.injEq, and_true] at e4
       rw [cellsJ] at hget
       cases len with
       | zero => exact ⟨some a, 0, cap, [], e4, rfl, Nat.zero_le _, by unfold isJs; trivial⟩
       | succ len =>
        obtain ⟨b, o, sp⟩ := a
        have hone : ∀ i, i < len + 1 → ∃ cs, W.cells? 0 ((⟨b, o, sp⟩ : Addr).add (i * 5)) 5 = some cs ∧ ∃ y, DataW.trod enc Tryz.prog W 0 (fun _ => true) true n' 36 cs = some y := fun i hi => by
         have h1 := hget i hi
         rw [List.getElem?_eq_getElem (by omega), Option.bind_eq_some_iff] at h1
         obtain ⟨cs, h2, h3⟩ := h1
         exact ⟨cs, h2, _, h3⟩
        have hsp : sp = none := by
         obtain ⟨cs, h2, _⟩ := hone 0 (by omega)
         have h3 := (World.cells?_some h2).2.2 0 (by omega)
         have h4 : (((⟨b, o, sp⟩ : Addr).add (0 * 5)).add 0) = ⟨b, o, sp⟩ := by
          unfold Addr.add
          simp
         rw [h4] at h3
         have hlen5 := (World.cells?_some h2).2.1
         rw [List.getElem?_eq_getElem (by omega)] at h3
         exact cell_none h3
        subst hsp
        have hadd : ∀ m, (⟨b, o, none⟩ : Addr).add m = ⟨b, o + m, none⟩ := fun m => by unfold Addr.add; split <;> simp_all
        have hadd2 : ∀ m m', ((⟨b, o + m, none⟩ : Addr)).add m' = ⟨b, o + m + m', none⟩ := fun m m' => by unfold Addr.add; split <;> simp_all
        have hb : b < W.heap.size := by
         obtain ⟨cs, h2, _⟩ := hone 0 (by omega)
         have := World.cells?_block h2 (by decide)
         rwa [hadd] at this
        obtain ⟨l, hl1, hl2⟩ := pick_list (z := J.zero) (P := fun i j => ∃ cs, (∀ m v, cs[m]? = some v → W.cell? ⟨b, o + (0 + i) * 5 + m, none⟩ = some v) ∧ isJ (fun b => b < W.heap.size) W j cs) (len + 1) fun i hi => by
         obtain ⟨cs, h2, y, h3⟩ := hone i hi
         obtain ⟨j, hj⟩ := viewJ n' cs y h3
         refine ⟨j, cs, fun m v hv => ?_, hj⟩
         have h5 := (World.cells?_some h2).2.2
         have hlen5 := (World.cells?_some h2).2.1
         have hm : m < 5 := by
          have := (List.getElem?_eq_some_iff.1 hv).1
          omega
         have h6 := h5 m hm
         rw [hadd, hadd2, hv] at h6
         rw [show o + (0 + i) * 5 + m = o + i * 5 + m by omega]
         exact h6
        exact ⟨some ⟨b, o, none⟩, len + 1, cap, l, e4, hl1.symm, by omega, isJs_of (O := fun b => b < W.heap.size) hb l 0 fun i hi => hl2 i (by omega)⟩
    obtain ⟨pk, nk, ck, ks, rfl, rfl, hk⟩ := hkeys
    obtain ⟨pl, nl, cl, l, rfl, rfl, hlc, hll⟩ := hlist
    exact ⟨.mk k i t ks l, by unfold isJ; exact ⟨pk, ck, pl, cl, rfl, hk, hlc, hll⟩⟩
end Go.Proofs.YtimhpglfolbomaaGreat

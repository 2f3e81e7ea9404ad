/-
  The document's ByPower: by a contract.
  ByPower, both, tell the same.
  Which level each event's sender has: the law, walked.
-/
import Derived.Test.YtimhpglfolbomaaGreatRY25
set_option maxRecDepth 100000
set_option maxHeartbeats 16000000
namespace Go.Proofs.YtimhpglfolbomaaGreat.Od
open Go.RowKit Go.Maps
theorem lead_lessB {Q : List (List Nat)} {x y : Nat} (hQ : BackQ Q) (h : Lead Q [x] y) : y < x := by
 induction h with
 | one h1 h2 => rw [List.mem_singleton.1 h1] at h2; exact hQ _ _ h2
 | more _ h2 ih => exact Nat.lt_trans (hQ _ _ h2) ih
theorem there_oneB {n x : Nat} (h : x < n) : thereT n [(x : Int)] = [x] := by
 refine riseN_ext (there_rises _ _) (by simp) fun y => ?_
 rw [there_mem]
 simp
 omega
theorem parM_back {p : Pa} {S : List Nat} (hQ : BackQ (toQ p.auth)) (hS : S.Pairwise (· < ·)) : BackQ (parM p S) := by
 intro a b hb
 by_cases ha : a < S.length
 · have e : par (parM p S) a = upM (toQ p.auth) S a := by
     unfold par parM
     rw [List.getD_eq_getElem?_getD, List.getElem?_map, List.getElem?_range ha]
     rfl
   rw [e] at hb
   unfold upM at hb
   obtain ⟨h1, h2⟩ := List.mem_filter.1 hb
   rw [decide_eq_true_eq, cht_mem hQ] at h2
   exact rise_get hS (List.mem_range.1 h1) ha (lead_lessB hQ h2)
 · unfold par at hb
   rw [List.getD_eq_getElem?_getD, List.getElem?_eq_none (by simp [parM]; omega)] at hb
   cases hb
theorem linM {p : Pa} {S : List Nat} (hQ : BackQ (toQ p.auth)) (hS : S.Pairwise (· < ·)) : ∃ T, lin (parM p S) (rnkM p S) = some T ∧ linP ((parM p S).map zs) (rnkM p S) = some T := by
 have hb := parM_back hQ hS
 obtain ⟨T, hT⟩ := lin_back (Q := parM p S) (R := rnkM p S) hb
 refine ⟨T, hT, ?_⟩
 rw [linP_ok (by simp [parM, rnkM]) ?_, toQ_of, hT]
 unfold insB
 rw [List.all_eq_true]
 intro r hr'
 obtain ⟨x, hx, rfl⟩ := List.mem_map.1 hr'
 unfold parM at hx
 obtain ⟨i, hi, rfl⟩ := List.mem_map.1 hx
 unfold rowB
 rw [List.all_eq_true]
 intro y hy
 obtain ⟨k, hk, rfl⟩ := List.mem_map.1 hy
 unfold upM at hk
 have := List.mem_range.1 (List.mem_filter.1 hk).1
 simp [parM]
 omega
noncomputable def upK (Q : List (List Nat)) (S : List Nat) (k t : Nat) : List Nat := (List.range t).filter fun t => decide (S.getD t 0 ∈ chT Q [S.getD k 0])
def cntK (p : Pa) (S : List Nat) (k t : Nat) : Nat := ((List.range t).filter fun t => aheadT p (S.getD t 0) (S.getD k 0)).length
theorem upK_next (Q : List (List Nat)) (S : List Nat) (k t : Nat) : upK Q S k (t + 1) = if decide (S.getD t 0 ∈ chT Q [S.getD k 0]) = true then upK Q S k t ++ [t] else upK Q S k t := by
 unfold upK
 rw [List.range_succ, List.filter_append]
 rw [show [t].filter (fun t => decide (S.getD t 0 ∈ chT Q [S.getD k 0])) = if decide (S.getD t 0 ∈ chT Q [S.getD k 0]) = true then [t] else [] from by simp only [List.filter_cons, List.filter_nil]]
 split
 · rfl
 · rw [List.append_nil]
theorem upK_len (Q : List (List Nat)) (S : List Nat) (k t : Nat) : (upK Q S k t).length ≤ t := by
 unfold upK
 exact Nat.le_trans (List.length_filter_le _ _) (by simp)
theorem cntK_next (p : Pa) (S : List Nat) (k t : Nat) : cntK p S k (t + 1) = if aheadT p (S.getD t 0) (S.getD k 0) = true then cntK p S k t + 1 else cntK p S k t := by
 unfold cntK
 rw [List.range_succ, List.filter_append, List.length_append]
 rw [show [t].filter (fun t => aheadT p (S.getD t 0) (S.getD k 0)) = if aheadT p (S.getD t 0) (S.getD k 0) = true then [t] else [] from by simp only [List.filter_cons, List.filter_nil]]
 split <;> rfl
theorem cntK_len (p : Pa) (S : List Nat) (k t : Nat) : cntK p S k t ≤ t := by
 unfold cntK
 exact Nat.le_trans (List.length_filter_le _ _) (by simp)
noncomputable def rowsK (Q : List (List Nat)) (S : List Nat) (k : Nat) : List (List Int) := (List.range k).map fun j => zs (upM Q S j)
def ranksK (p : Pa) (S : List Nat) (k : Nat) : List Int := (List.range k).map fun j => (cntM p S j : Int)
theorem rowsK_next (Q : List (List Nat)) (S : List Nat) (k : Nat) : rowsK Q S (k + 1) = rowsK Q S k ++ [zs (upM Q S k)] := by unfold rowsK; rw [List.range_succ, List.map_append]; rfl
theorem ranksK_next (p : Pa) (S : List Nat) (k : Nat) : ranksK p S (k + 1) = ranksK p S k ++ [(cntM p S k : Int)] := by unfold ranksK; rw [List.range_succ, List.map_append]; rfl
section
variable {P : Program} {ops : Array Oper} {Q : Exit → Act → World → Prop} {md : Region.Mode} {C : World → Prop}
theorem wpIn_tq {i : Nat} {o : Oper} {v : Value} {d : Option Tmp} {n : Nat} {listed : Array Bool} {a a' : Act} {w : World} (hi : ops[i]? = some o)
    (h : wpIn P md ops Q C n (listed.setIfInBounds i true) a' w) (hd : o.dst = d := by rfl) (hw : Region.wanted o (yielded ops a.tmps) = true := by rfl) (hy : ∀ w, C w → (execOp a.eval o).run P w = .ok (.value v) w := by (intro wq hq; go_simp; first | done | with_reducible rfl)) (ha : a.put d v = a' := by (go_frame; rfl))
    (hs : Region.noSelect ops = true := by kernel_rfl) (hf : Region.free md ops listed i = true := by kernel_rfl) (hr : (Region.ready md ops listed).contains i = true := by kernel_rfl)
    (hQ : ∀ c a w, Q (.panic c) (a.put d v) w → Q (.panic c) a w := by exact fun _ _ _ h => h) : wpIn P md ops Q C (n + 1) listed a w :=
 wpIn_take hi hd hs hf hr hQ (Or.inl ⟨hw, hy⟩) ha h
theorem wpIn_tr {i : Nat} {o : Oper} {v : Value} {d : Option Tmp} {n : Nat} {listed : Array Bool} {a a' : Act} {w : World} (hi : ops[i]? = some o)
    (hy : ∀ w, C w → (execOp a.eval o).run P w = .ok (.value v) w) (h : wpIn P md ops Q C n (listed.setIfInBounds i true) a' w)
    (ha : a.put d v = a' := by (go_frame; rfl)) (hd : o.dst = d := by rfl) (hw : Region.wanted o (yielded ops a.tmps) = true := by rfl)
    (hs : Region.noSelect ops = true := by kernel_rfl) (hf : Region.free md ops listed i = true := by kernel_rfl) (hr : (Region.ready md ops listed).contains i = true := by kernel_rfl)
    (hQ : ∀ c a w, Q (.panic c) (a.put d v) w → Q (.panic c) a w := by exact fun _ _ _ h => h) : wpIn P md ops Q C (n + 1) listed a w :=
 wpIn_take hi hd hs hf hr hQ (Or.inl ⟨hw, hy⟩) ha h
theorem wpIn_tn {i : Nat} {o : Oper} {d : Option Tmp} {n : Nat} {listed : Array Bool} {a a' : Act} {w : World} (hi : ops[i]? = some o)
    (h : wpIn P md ops Q C n (listed.setIfInBounds i true) a' w)
    (ha : a.put d undef = a' := by (go_frame; rfl)) (hd : o.dst = d := by rfl) (hw : Region.wanted o (yielded ops a.tmps) = false := by rfl)
    (hs : Region.noSelect ops = true := by kernel_rfl) (hf : Region.free md ops listed i = true := by kernel_rfl) (hr : (Region.ready md ops listed).contains i = true := by kernel_rfl)
    (hQ : ∀ c a w, Q (.panic c) (a.put d undef) w → Q (.panic c) a w := by exact fun _ _ _ h => h) : wpIn P md ops Q C (n + 1) listed a w :=
 wpIn_take hi hd hs hf hr hQ (Or.inr ⟨hw, rfl⟩) ha h
end
theorem keep_pushO {w w' : World} {v : Value} {o : Obj} (hg : (w.alloc o).grownBy w' v.ownBlock) : Keep (v.ownBlock = some ·) w w' :=
 ((Keep.refl _ w).alloc o).trans (Keep.of_grown (S := (v.ownBlock = some ·)) hg fun _ _ e => e) fun _ _ h => h
theorem loc_pushO {w : World} {v v' : Value} (hl : v'.ownBlock = v.ownBlock ∨ v'.ownBlock = some (w.heap.size + 1)) : v'.ownBlock = v.ownBlock ∨ ∀ k, v'.ownBlock = some k → w.heap.size ≤ k := by
 refine hl.imp id fun e k hk => ?_
 rw [e] at hk
 cases hk
 omega
theorem Bw.below {B : Nat} {w w1 : World} {bv rv : Value} {vs : List (Option Addr × Nat × Nat)} {rows : List (List Int)} {rs : List Int} (h : Bw B w bv rv vs rows rs) (hb : Below w.heap.size w w1) : Bw B w1 bv rv vs rows rs := by
 have hz := hb.size
 refine ⟨h.len, own_same h.brow fun k hk => hb.block k (h.brow.lt k hk).2, fun j hj => ?_, own_same h.rrow fun k hk => hb.block k (h.rrow.lt k hk).2, h.apart⟩
 obtain ⟨e1, r1⟩ := h.cells j hj
 exact ⟨e1, r1.carry (fun k hk => hb.block k hk.2.1) fun k hk => ⟨hk.1, by omega, hk.2.2.1, hk.2.2.2⟩⟩
theorem rbyPower_ok {O : Nat → Prop} {w : World} {p : Pa} {q : Pq} {l : List Int} {pl : Option Addr} {cl : Nat} (h : IsPa (· < w.heap.size) w p q) (hz : SzPa p) (hs : SzEs p) (hc13 : ∀ e ∈ p.evs, szJ 13 e.content = true) (hr : rightT p = true) (hl : RdI O w pl cl l) (hO : ∀ k, O k → k < w.heap.size) (hll : l.length ≤ 1000) :
    Calls Tryz.prog 22 #[valPa p q, .slice pl l.length cl] w fun e w' => ∃ T', lin (parM p (thereT p.evs.length l)) (rnkM p (thereT p.evs.length l)) = some T' ∧ RowP (zs (T'.map fun k => (thereT p.evs.length l).getD k 0)) w e w' := by
 obtain ⟨W0, hW0⟩ : ∃ W0, W0 = w.alloc (.cells (cellsPa p q).toArray 27) := ⟨_, rfl⟩
 have hb0 : Below w.heap.size w W0 := by rw [hW0]; exact (Below.refl _ _).alloc (Nat.le_refl _) _
 have V : IsVP W0 w.heap.size p q := by rw [hW0]; exact isVP_new h
 have HLD : Hid (∀ X, Below W0.heap.size W0 X → (Instr.loadAt 27 (.pointer (some ⟨w.heap.size, 0, none⟩))).run Tryz.prog X = .ok (.agg (cellsPa p q).toArray) X) := fun X hX => (V.below hX).load
 have hB0 : Below W0.heap.size W0 W0 := Below.refl _ _
 have hRi := rright_any V.pa hz
 rw [hr] at hRi
 have hba := (right_parts hr).2.1
 have hQ : BackQ (toQ p.auth) := (back_of hba).2.1
 have HSET : Hid (∀ X, Below W0.heap.size W0 X → Calls Tryz.prog 50 #[.agg (cellsPa p q).toArray, .slice pl l.length cl] X fun e w' => ∃ v c, e = .returned (.slice v (zs (thereT p.evs.length l)).length c) ∧ RdI (fun k => X.heap.size ≤ k ∧ k < w'.heap.size) w' v c (zs (thereT p.evs.length l)) ∧ Below X.heap.size X w') := fun X hX => (rset_any (O := O) (V.below hX).pa hz (hl.same (Same.of_below (belowP hb0 hX) hO)) (fun k hk => Nat.lt_of_lt_of_le (hO k hk) (belowP hb0 hX).size) hll).mono fun _ _ h => h.rd
 have HCH : Hid (∀ X (x : Nat), Below W0.heap.size W0 X → x < p.evs.length → Calls Tryz.prog 14 #[.agg (cellsPa p q).toArray, .slice (some ⟨X.heap.size, 0, none⟩) 1 1] (X.alloc (.cells #[.int .i64 (x : Int)] 3)) fun e w' => ∃ v c, e = .returned (.slice v (zs (chT (toQ p.auth) [x])).length c) ∧ RdI (· < w'.heap.size) w' v c (zs (chT (toQ p.auth) [x])) ∧ Below X.heap.size X w') := fun X x hX hx => by
  have hbX : Below X.heap.size X (X.alloc (.cells #[.int .i64 (x : Int)] 3)) := (Below.refl _ _).alloc (Nat.le_refl _) _
  have := rchain_any (O := fun k => k = X.heap.size) (l := [(x : Int)]) (pl := some ⟨X.heap.size, 0, none⟩) (cl := 1) (V.below (belowP hX hbX)).pa hz ⟨Nat.le_refl _, fun _ => ⟨_, _, rfl, rfl, fun j y hj => by
   rw [Nat.zero_add]
   exact cell_row (cur := [Value.int .i64 (x : Int)]) (heap_alloc_new _ _) j _ (by rw [show [Value.int .i64 (x : Int)] = ([(x : Int)] : List Int).map (Value.int .i64) from rfl, List.getElem?_map, hj]; rfl)⟩⟩ (fun k hk => by subst hk; simp) (by simp)
  rw [show chainV p [(x : Int)] = chT (toQ p.auth) [x] from by unfold chainV; rw [hr]; simp only [if_true]; rw [there_oneB hx]] at this
  refine this.mono fun e w' h => ?_
  obtain ⟨a, b, h1, h2, h3⟩ := h.rd
  exact ⟨a, b, h1, h2.carry (fun _ _ => rfl) fun k hk => hk.2, belowP hbX h3⟩
 have HCLN : Hid (∀ x, (zs (chT (toQ p.auth) [x])).length ≤ 30) := fun x => by
  have := hz.auth
  rw [zs_len]
  unfold chT
  refine Nat.le_trans (List.length_filter_le _ _) ?_
  rw [List.length_range]
  unfold toQ
  rw [List.length_map]
  omega
 have HLV : Hid (∀ X (x : Nat), Below W0.heap.size W0 X → x < p.evs.length → Calls Tryz.prog 20 #[.agg (cellsPa p q).toArray, .int .i64 (x : Int)] X fun e w' => e = .returned (.int .i64 (levelT p x)) ∧ Below X.heap.size X w') := fun X x hX hx => by
  have := rlevel_any (V.below hX).pa hz hs hc13 (x : Int)
  rw [show levelV p (x : Int) = levelT p x from by
   unfold levelV
   rw [hr, decide_eq_true (show 0 ≤ (x : Int) ∧ (x : Int) < (p.evs.length : Int) by omega)]
   simp] at this
  exact this
 have HYO : Hid (∀ X (a b : Nat), Below W0.heap.size W0 X → a < p.evs.length → b < p.evs.length → Calls Tryz.prog 51 #[.agg (cellsPa p q).toArray, .int .i64 (a : Int), .int .i64 (b : Int)] X fun e w' => e = .returned (.bool (youngT p a b)) ∧ Below X.heap.size X w') := fun X a b hX ha hb => ryounger_any (V.below hX).pa hz (right_parts hr).1 a b ha hb
 have HLIN := (show Hid _ from linM (p := p) hQ (there_rises p.evs.length l))
 have HSL : Hid (∀ x ∈ thereT p.evs.length l, x < p.evs.length) := fun x hx => (there_mem.1 hx).1
 have hsl : (thereT p.evs.length l).length ≤ 30 := Nat.le_trans (there_len _ _) hz.evs
 clear V h hz hs hr hl hba hQ hc13
 unfold valPa at hRi ⊢
 generalize cellsPa p q = CP at *
 generalize thereT p.evs.length l = S at *
 generalize p.evs.length = n at *
 generalize l.length = nl at *
 go_enter Tryz.func22, Tryz.ntmps22
 go_upto_region 1 with fail
 rw [← hW0]
 clear hW0
 go_upto_region 7 with (first
  | (refine wpList_loadK rfl 27 _ rfl w.heap.size 0 rfl CP (HLD.out _ hB1) ?_)
  | (refine wpList_loadK rfl 27 _ rfl w.heap.size 0 rfl CP (HLD.out _ hB0) ?_)
  | (go_at_call 11; refine hRi.mono ?_; rintro e w1 ⟨rfl, hb1⟩; have hB1 : Below W0.heap.size W0 w1 := hb1)
  | (go_at_call 50; refine (HSET.out _ hB1).mono ?_; rintro e w2 ⟨v1, k1, rfl, hr1, hb2⟩))
 have hB2 : Below W0.heap.size W0 w2 := belowP hB1 hb2
 obtain ⟨m, hm⟩ : ∃ m, S.length = m := ⟨_, rfl⟩
 have HM : Hid (S.length = m) := hm
 have HOE : Hid (∀ X, Below w2.heap.size w2 X → ∀ j, j < m → ∃ b o, v1 = some ⟨b, o, none⟩ ∧ X.cell? ⟨b, o + j, none⟩ = some (.int .i64 ((S.getD j 0 : Nat) : Int))) := fun X hX j hj => by
  have hjO : j < S.length := by rw [HM.out]; exact hj
  obtain ⟨b, o, h1, _, h3⟩ := (hr1.same (Same.of_below hX fun k hk => hk.2)).2 (by intro h0; have h9 := zs_len S; rw [h0] at h9; simp at h9; omega)
  refine ⟨b, o, h1, h3 j _ ?_⟩
  rw [show (zs S)[j]? = (S[j]?).map (fun k : Nat => (k : Int)) from by simp [zs], List.getElem?_eq_getElem hjO, getD_in hjO]
  rfl
 have hk1 := hr1.1
 rw [zs_len, hm] at hk1
 rw [zs_len, hm]
 rw [hm] at hsl
 clear hm hRi HSET hr1
 obtain ⟨B, hB⟩ : ∃ B, w2.heap.size = B := ⟨_, rfl⟩
 have HBB : Hid (w2.heap.size = B) := hB
 have HKB : Hid (∀ X, Keep (fun k => B ≤ k) w2 X → Below w2.heap.size w2 X) := fun X hX => hX.below (Nat.le_refl _) fun k hk e => by have := HBB.out; omega
 clear hB
 go_loopw [5, 6, 7] (fun bv rv iv wr => ∃ (k : Nat) (vs : List (Option Addr × Nat × Nat)), k ≤ m ∧ iv = .int .i64 k ∧ Hid (Bw B wr bv rv vs (rowsK (toQ p.auth) S k) (ranksK p S k)) ∧ Keep (fun k => B ≤ k) w2 wr) (fun _ _ iv _ => m - (intOf iv).toNat)
 case atStart => exact ⟨0, [], Nat.zero_le _, rfl, Bw.nil _ _, Keep.refl _ _⟩
 case round =>
  obtain ⟨k, vs, hk, rfl, HBW, hkp⟩ := hrel
  have hBr := HKB.out _ hkp
  have hBW := belowP hB2 hBr
  have hws := hkp.size
  by_cases hkm : k < m
  · obtain ⟨sb, so, hv1, hck⟩ := HOE.out wr hBr k hkm
    have HSK : Hid (∀ X, Below wr.heap.size wr X → ∀ j, j < m → X.cell? ⟨sb, so + j, none⟩ = some (.int .i64 ((S.getD j 0 : Nat) : Int))) := fun X hX j hj => by
     obtain ⟨b, o, h1, h3⟩ := HOE.out X (belowP hBr hX) j hj
     rw [hv1] at h1
     cases h1
     exact h3
    obtain ⟨Y, hy⟩ : ∃ Y, S.getD k 0 = Y := ⟨_, rfl⟩
    have HY : Hid (S.getD k 0 = Y) := hy
    have hSk : Y < n := by rw [← hy]; exact HSL.out _ (getD_inm (by rw [HM.out]; exact hkm))
    have HXX : Hid (∀ X, Below wr.heap.size wr X → X.cell? ⟨sb, so + k, none⟩ = some (.int .i64 (Y : Int))) := fun X hX => by have := HSK.out X hX k hkm; rw [hy] at this; exact this
    have HL1 : Hid (∀ X, Below wr.heap.size wr X → (Instr.loadAt 27 (.pointer (some ⟨w.heap.size, 0, none⟩))).run Tryz.prog X = .ok (.agg CP.toArray) X) := fun X hX => HLD.out X (belowP hBW hX)
    have HCC := (show Hid _ from fun X (hX : Below wr.heap.size wr X) => HCH.out X (Y) (belowP hBW hX) hSk)
    have hcl2 := HCLN.out (Y)
    have HUPM : Hid (upM (toQ p.auth) S k = upK (toQ p.auth) S k m) := by show _ = _; unfold upM upK; rw [HM.out]
    have HCNM : Hid (cntM p S k = cntK p S k m) := by show _ = _; unfold cntM cntK; rw [HM.out]
    have HUN : Hid (∀ t, upK (toQ p.auth) S k (t + 1) = if decide (S.getD t 0 ∈ chT (toQ p.auth) [Y]) = true then upK (toQ p.auth) S k t ++ [t] else upK (toQ p.auth) S k t) := fun t => by have := upK_next (toQ p.auth) S k t; rw [hy] at this; exact this
    have HCN : Hid (∀ t, cntK p S k (t + 1) = if aheadT p (S.getD t 0) (Y) = true then cntK p S k t + 1 else cntK p S k t) := fun t => by have := cntK_next p S k t; rw [hy] at this; exact this
    have HUL : Hid (∀ t, (upK (toQ p.auth) S k t).length ≤ t) := fun t => upK_len _ _ _ t
    have HCLK : Hid (∀ t, cntK p S k t ≤ t) := fun t => cntK_len _ _ _ t
    have HIC0 : Hid (∀ t, t < m → decide (((S.getD t 0 : Nat) : Int) ∈ zs (chT (toQ p.auth) [Y])) = decide (S.getD t 0 ∈ chT (toQ p.auth) [Y])) := fun t _ => by rw [Bool.eq_iff_iff, decide_eq_true_eq, decide_eq_true_eq, zs_mem]
    subst hv1
    clear hck
    go_upto_region 9 with fail
    refine wp_region_in (by kernel_rfl) (fun w' => Below wr.heap.size wr w') ?_
    change wpIn _ _ _ _ _ _ _ _ (World.drew _)
    have hE2 : Below wr.heap.size wr wr.drew := (Below.refl _ _).drew
    refine wpIn_tr (i := 0) (d := some 30) (v := .agg CP.toArray) rfl (by (exact fun wq hq => exec_loadR rfl rfl (HL1.out wq hq))) ?_
    refine wpIn_tr (i := 1) (d := some 31) (v := .slice (some ⟨sb, so, none⟩) m k1) rfl (by (intro wq hq; have g1 := HXX.out wq hq; go_simp; first | done | with_reducible rfl)) ?_
    refine wpIn_tr (i := 2) (d := some 32) (v := .int .i64 (k : Int)) rfl (by (intro wq hq; have g1 := HXX.out wq hq; go_simp; first | done | with_reducible rfl)) ?_
    refine wpIn_tr (i := 3) (d := some 33) (v := .pointer (some ⟨sb, so + k, none⟩)) rfl (by (intro wq hq; have g1 := HXX.out wq hq; go_simp; first | done | with_reducible rfl)) ?_
    refine wpIn_tr (i := 4) (d := some 34) (v := .int .i64 (Y : Int)) rfl (by (intro wq hq; have g1 := HXX.out wq hq; go_simp; first | done | with_reducible rfl)) ?_
    refine wpIn_do (i := 5) hE2 (by kernel_rfl) rfl (by rfl) ?_
    intro K5 hK5
    refine wp_rowS 28 3 1 _ rfl _ _ _ Tryz.underlying28 info3S (by decide) (by decide) (by decide) (by decide) [(0, .int .i64 (Y : Int))] (by simp only [List.map_toArray, List.map_cons, List.map_nil]; rfl) #[.int .i64 (Y : Int)] (by kernel_rfl) ?_
    refine hK5 _ _ ?_
    have hE3 : Below wr.heap.size wr (wr.drew.alloc (.cells #[.int .i64 (Y : Int)] 3)) := hE2.alloc (Nat.le_refl _) _
    refine wpIn_do (i := 6) hE3 (by kernel_rfl) rfl (by rfl) ?_
    intro K6 hK6
    go_simp
    go_wp2_with (go_at_call 14; refine (HCC.out _ hE2).mono ?_; rintro e w9 ⟨v9, k9, rfl, hr9, hb9⟩)
    have hE4 : Below wr.heap.size wr w9 := belowP hE2 hb9
    refine wpIn_tq (i := 7) (d := some 8) (v := .slice v9 (zs (chT (toQ p.auth) [Y])).length k9) rfl ?_
    refine wpIn_done hE4 (by kernel_rfl) ?_ _
    clear hK5
    have HIC : Hid (∀ X (z : Int), Below w9.heap.size w9 X → Calls Tryz.prog 23 #[.int .i64 z, .slice v9 (zs (chT (toQ p.auth) [Y])).length k9] X fun e w' => e = .returned (.bool (decide (z ∈ zs (chT (toQ p.auth) [Y])))) ∧ X = w') := fun X z hX => rin_any _ z v9 k9 X (hr9.same (Same.of_below hX fun _ h => h)) (by omega)
    go_upto_region 13 with fail
    have HW9 : Hid (Bw B w9 u5 u6 vs (rowsK (toQ p.auth) S k) (ranksK p S k)) := HBW.out.below hE4
    have HK9 : Hid (Keep (fun k => B ≤ k) w2 w9) := hkp.trans (Keep.of_below (S := fun k => B ≤ k) hE4) fun _ _ h => h
    have hB9 := belowP hBW hE4
    have hz9 := hE4.size
    have HYK : Hid (∀ X, Below w9.heap.size w9 X → X.cell? ⟨sb, so + k, none⟩ = some (.int .i64 (Y : Int))) := fun X hX => HXX.out X (belowP hE4 hX)
    have HLY : Hid (∀ X, Below w9.heap.size w9 X → Calls Tryz.prog 20 #[.agg CP.toArray, .int .i64 (Y : Int)] X fun e w' => e = .returned (.int .i64 (levelT p Y)) ∧ Below X.heap.size X w') := fun X hX => HLV.out X Y (belowP hB9 hX) hSk
    have HL9 : Hid (∀ X, Below w9.heap.size w9 X → (Instr.loadAt 27 (.pointer (some ⟨w.heap.size, 0, none⟩))).run Tryz.prog X = .ok (.agg CP.toArray) X) := fun X hX => HLD.out X (belowP hB9 hX)
    obtain ⟨B2, hB2'⟩ : ∃ B2, w9.heap.size = B2 := ⟨_, rfl⟩
    have HBB2 : Hid (w9.heap.size = B2) := hB2'
    have HKB2 : Hid (∀ X, Keep (fun k => B2 ≤ k) w9 X → Below w9.heap.size w9 X) := fun X hX => hX.below (Nat.le_refl _) fun k hk e => by have := HBB2.out; omega
    clear hB2' hr9
    go_loopw [9, 10, 11] (fun uv cv tv wx => ∃ (t : Nat) (M : List Nat) (n9 : Nat), t ≤ m ∧ tv = .int .i64 (t : Int) ∧ cv = .int .i64 (n9 : Int) ∧ wx.ownsRow B2 3 1 uv (zs M).length ((zs M).map (Value.int .i64)) ∧ Hid (M = upK (toQ p.auth) S k t) ∧ Hid (n9 = cntK p S k t) ∧ Keep (fun k => B2 ≤ k) w9 wx) (fun _ _ tv _ => m - (intOf tv).toNat)
    case atStart => exact ⟨0, [], 0, Nat.zero_le _, rfl, rfl, World.ownsRow_nil _ _ _ _, by show _ = _; rfl, by show _ = _; rfl, Keep.refl _ _⟩
    case round =>
     obtain ⟨t, M, n9, ht, rfl, rfl, hown, HMM, HNN, hkx⟩ := hrel
     obtain ⟨wx, rfl⟩ : ∃ z : World, z = wr := ⟨_, rfl⟩
     have hX9 := HKB2.out _ hkx
     have hzx := hkx.size
     by_cases htm : t < m
     · obtain ⟨x, hx⟩ : ∃ x, S.getD t 0 = x := ⟨_, rfl⟩
       have hSx : x < n := by rw [← hx]; exact HSL.out _ (getD_inm (by rw [HM.out]; exact htm))
       have HXT : Hid (∀ X, Below w9.heap.size w9 X → X.cell? ⟨sb, so + t, none⟩ = some (.int .i64 (x : Int))) := fun X hX => by have := HSK.out X (belowP hE4 hX) t htm; rw [hx] at this; exact this
       have HLX : Hid (∀ X, Below w9.heap.size w9 X → Calls Tryz.prog 20 #[.agg CP.toArray, .int .i64 (x : Int)] X fun e w' => e = .returned (.int .i64 (levelT p x)) ∧ Below X.heap.size X w') := fun X hX => HLV.out X x (belowP hB9 hX) hSx
       have HYX : Hid (∀ X, Below w9.heap.size w9 X → Calls Tryz.prog 51 #[.agg CP.toArray, .int .i64 (Y : Int), .int .i64 (x : Int)] X fun e w' => e = .returned (.bool (youngT p Y x)) ∧ Below X.heap.size X w') := fun X hX => HYO.out X Y x (belowP hB9 hX) hSk hSx
       have hin := HIC.out wx (x : Int) hX9
       have hic := HIC0.out t htm
       have hun := HUN.out t
       have hcn := HCN.out t
       rw [hx] at hic hun hcn
       rw [hic] at hin
       have HAH : Hid (aheadT p x Y = (decide (levelT p Y < levelT p x) || (decide (levelT p x = levelT p Y) && youngT p Y x))) := rfl
       rw [HAH.out, ← HNN.out] at hcn
       rw [← HMM.out] at hun
       obtain ⟨la, hla⟩ : ∃ la, levelT p x = la := ⟨_, rfl⟩
       obtain ⟨lb, hlb⟩ : ∃ lb, levelT p Y = lb := ⟨_, rfl⟩
       obtain ⟨yb, hyb⟩ : ∃ yb, youngT p Y x = yb := ⟨_, rfl⟩
       rw [hla, hlb, hyb] at hcn
       rw [hla] at HLX
       rw [hlb] at HLY
       rw [hyb] at HYX
       have HCN2 := (show Hid _ from hcn)
       have hMl : (zs M).length ≤ 30 := by rw [zs_len, HMM.out]; have := HUL.out t; omega
       have hnl : n9 ≤ 30 := by rw [HNN.out]; have := HCLK.out t; omega
       have hcx := HXT.out _ hX9
       clear hcn hic HAH
       cases hd : decide (x ∈ chT (toQ p.auth) [Y]) with
       | true =>
        rw [hd, if_pos rfl] at hun
        rw [hd] at hin
        have HMY : Hid (M ++ [t] = upK (toQ p.auth) S k (t + 1)) := hun.symm
        clear hun hd HMM
        go_wp2_with (first
         | (go_at_call 23; refine hin.mono ?_; rintro e w' ⟨rfl, rfl⟩)
         | (at_builtin; refine wpList_push rfl (.tmp 49) (.tmp 51) 28 3 (.int .i64 0) 8 rfl Tryz.underlying28 Tryz.info3 rfl (by decide) int_one B2 _ (zs M) rfl ?a0 _ (t : Int) rfl ?a1 ?a2 ?a3 ?_))
        case a0 => exact hown.alloc _
        case a1 => exact cell_row (cur := [_]) (heap_alloc_new _ _) 0 _ rfl
        case a2 => omega
        case a3 => have := HBB2.out; simp; omega
        intro v' w12 ho12 hg12 _
        have ho13 := own_snoc ho12
        rw [show zs M ++ [(t : Int)] = zs (M ++ [t]) from by simp [zs]] at ho13
        have hkY := (hkx.alloc (.cells #[.int .i64 (t : Int)] 3)).trans (Keep.of_grown (S := fun j => B2 ≤ j) hg12 fun j _ e => (hown.lt j e).1) fun _ _ h => h
        clear ho12 hg12 hown hkx hin hcx hX9 hzx
        generalize M ++ [t] = M at *
        go_upto_region 17 with fail
        have hbY := HKB2.out _ hkY
        have hzY := hkY.size
        refine wp_region_in (by kernel_rfl) (fun w' => Below w12.heap.size w12 w') ?_
        change wpIn _ _ _ _ _ _ _ _ (World.drew _)
        have hF : Below w12.heap.size w12 (World.drew w12) := (Below.refl _ _).drew
        refine wpIn_tr (i := 0) (d := some 53) (v := .agg CP.toArray) rfl (by (exact fun wq hq => exec_loadR rfl rfl (HL9.out wq (belowP hbY hq)))) ?_
        refine wpIn_tr (i := 1) (d := some 54) (v := .slice (some ⟨sb, so, none⟩) m k1) rfl (by (intro wq hq; have g1 := HXT.out wq (belowP hbY hq); have g2 := HYK.out wq (belowP hbY hq); go_simp; first | done | with_reducible rfl)) ?_
        refine wpIn_tr (i := 2) (d := some 55) (v := .int .i64 (t : Int)) rfl (by (intro wq hq; have g1 := HXT.out wq (belowP hbY hq); have g2 := HYK.out wq (belowP hbY hq); go_simp; first | done | with_reducible rfl)) ?_
        refine wpIn_tr (i := 3) (d := some 56) (v := .pointer (some ⟨sb, so + t, none⟩)) rfl (by (intro wq hq; have g1 := HXT.out wq (belowP hbY hq); have g2 := HYK.out wq (belowP hbY hq); go_simp; first | done | with_reducible rfl)) ?_
        refine wpIn_tr (i := 4) (d := some 57) (v := .int .i64 (x : Int)) rfl (by (intro wq hq; have g1 := HXT.out wq (belowP hbY hq); have g2 := HYK.out wq (belowP hbY hq); go_simp; first | done | with_reducible rfl)) ?_
        refine wpIn_tr (i := 6) (d := some 59) (v := .agg CP.toArray) rfl (by (exact fun wq hq => exec_loadR rfl rfl (HL9.out wq (belowP hbY hq)))) ?_
        refine wpIn_tr (i := 7) (d := some 60) (v := .slice (some ⟨sb, so, none⟩) m k1) rfl (by (intro wq hq; have g1 := HXT.out wq (belowP hbY hq); have g2 := HYK.out wq (belowP hbY hq); go_simp; first | done | with_reducible rfl)) ?_
        refine wpIn_tr (i := 8) (d := some 61) (v := .int .i64 (k : Int)) rfl (by (intro wq hq; have g1 := HXT.out wq (belowP hbY hq); have g2 := HYK.out wq (belowP hbY hq); go_simp; first | done | with_reducible rfl)) ?_
        refine wpIn_tr (i := 9) (d := some 62) (v := .pointer (some ⟨sb, so + k, none⟩)) rfl (by (intro wq hq; have g1 := HXT.out wq (belowP hbY hq); have g2 := HYK.out wq (belowP hbY hq); go_simp; first | done | with_reducible rfl)) ?_
        refine wpIn_tr (i := 10) (d := some 63) (v := .int .i64 (Y : Int)) rfl (by (intro wq hq; have g1 := HXT.out wq (belowP hbY hq); have g2 := HYK.out wq (belowP hbY hq); go_simp; first | done | with_reducible rfl)) ?_
        refine wpIn_do (i := 5) hF (by kernel_rfl) rfl (by rfl) ?_
        intro K5 hK5
        go_simp
        go_wp2_with (go_at_call 20; refine (HLX.out _ (belowP hbY hF)).mono ?_; rintro e wa ⟨rfl, hba⟩)
        have hG : Below w12.heap.size w12 wa := belowP hF hba
        refine wpIn_do (i := 11) hG (by kernel_rfl) rfl (by rfl) ?_
        intro K11 hK11
        go_simp
        go_wp2_with (go_at_call 20; refine (HLY.out _ (belowP hbY hG)).mono ?_; rintro e wb ⟨rfl, hbb⟩)
        have hH : Below w12.heap.size w12 wb := belowP hG hbb
        refine wpIn_tq (i := 12) (d := some 12) (v := .int .i64 la) rfl ?_
        refine wpIn_tq (i := 13) (d := some 13) (v := .int .i64 lb) rfl ?_
        refine wpIn_done hH (by kernel_rfl) ?_ _
        clear hba hbb hF hG
        have hb18 := belowP hbY hH
        have hz18 := hH.size
        go_upto_region 18 with fail
        by_cases hgt : lb < la
        · have d1 : decide (lb < la) = true := decide_eq_true hgt
          refine wp_region_in (by kernel_rfl) (fun w' => Below wb.heap.size wb w') ?_
          change wpIn _ _ _ _ _ _ _ _ (World.drew _)
          have hF : Below wb.heap.size wb (World.drew wb) := (Below.refl _ _).drew
          refine wpIn_tq (i := 0) (d := some 65) (v := .int .i64 la) rfl ?_
          refine wpIn_tq (i := 1) (d := some 66) (v := .int .i64 lb) rfl ?_
          refine wpIn_tq (i := 2) (d := some 67) (v := .bool true) rfl ?_
          refine wpIn_tq (i := 3) (d := some 68) (v := .bool true) rfl ?_
          refine wpIn_tn (i := 4) (d := some 69) rfl ?_
          refine wpIn_tn (i := 5) (d := some 70) rfl ?_
          refine wpIn_tn (i := 6) (d := some 71) rfl ?_
          refine wpIn_tn (i := 7) (d := some 72) rfl ?_
          refine wpIn_tn (i := 8) (d := some 73) rfl ?_
          refine wpIn_tn (i := 9) (d := some 74) rfl ?_
          refine wpIn_tn (i := 10) (d := some 75) rfl ?_
          refine wpIn_tn (i := 11) (d := some 76) rfl ?_
          refine wpIn_tn (i := 12) (d := some 77) rfl ?_
          refine wpIn_tn (i := 13) (d := some 78) rfl ?_
          refine wpIn_tn (i := 14) (d := some 79) rfl ?_
          refine wpIn_tn (i := 15) (d := some 80) rfl ?_
          refine wpIn_tn (i := 16) (d := some 81) rfl ?_
          refine wpIn_tn (i := 17) (d := some 82) rfl ?_
          refine wpIn_tn (i := 18) (d := some 83) rfl ?_
          refine wpIn_tq (i := 19) (d := some 84) (v := .bool true) rfl ?_
          refine wpIn_done hF (by kernel_rfl) ?_ _
          have hkZ := (hkY.trans (Keep.of_below (S := fun k => B2 ≤ k) (Below.refl _ _)) fun _ _ h => h).trans (Keep.of_below (S := fun k => B2 ≤ k) ((hH.trans (hF.mono hz18)))) fun _ _ h => h
          have ho14 := own_same ho13 (Same.of_below (hH.trans (hF.mono hz18)) fun k e => (ho13.lt k e).2)
          go_wp2
          go_roundw
          case rel => exact ⟨t + 1, M, n9 + 1, by omega, by go_num, by go_num, ho14, HMY, by show _ = _; rw [HCN2.out]; simp [d1], hkZ⟩
          case measure => simp [intOf]; try omega
        · have d1 : decide (lb < la) = false := decide_eq_false hgt
          by_cases heq : la = lb
          · subst heq
            cases yb with
            | true =>
             refine wp_region_in (by kernel_rfl) (fun w' => Below wb.heap.size wb w') ?_
             change wpIn _ _ _ _ _ _ _ _ (World.drew _)
             have hF : Below wb.heap.size wb (World.drew wb) := (Below.refl _ _).drew
             refine wpIn_tq (i := 0) (d := some 65) (v := .int .i64 la) rfl ?_
             refine wpIn_tq (i := 1) (d := some 66) (v := .int .i64 la) rfl ?_
             refine wpIn_tq (i := 2) (d := some 67) (v := .bool false) rfl ?_
             refine wpIn_tq (i := 3) (d := some 68) (v := .bool false) rfl ?_
             refine wpIn_tq (i := 4) (d := some 69) (v := .int .i64 la) rfl ?_
             refine wpIn_tq (i := 5) (d := some 70) (v := .int .i64 la) rfl ?_
             refine wpIn_tq (i := 6) (d := some 71) (v := .bool true) rfl ?_
             refine wpIn_tq (i := 7) (d := some 72) (v := .bool true) rfl ?_
             refine wpIn_tr (i := 8) (d := some 73) (v := .agg CP.toArray) rfl (by (exact fun wq hq => exec_loadR rfl rfl (HL9.out wq (belowP hb18 hq)))) ?_
             refine wpIn_tr (i := 9) (d := some 74) (v := .slice (some ⟨sb, so, none⟩) m k1) rfl (by (intro wq hq; have g1 := HXT.out wq (belowP hb18 hq); have g2 := HYK.out wq (belowP hb18 hq); go_simp; first | done | with_reducible rfl)) ?_
             refine wpIn_tr (i := 10) (d := some 75) (v := .int .i64 (k : Int)) rfl (by (intro wq hq; have g1 := HXT.out wq (belowP hb18 hq); have g2 := HYK.out wq (belowP hb18 hq); go_simp; first | done | with_reducible rfl)) ?_
             refine wpIn_tr (i := 11) (d := some 76) (v := .pointer (some ⟨sb, so + k, none⟩)) rfl (by (intro wq hq; have g1 := HXT.out wq (belowP hb18 hq); have g2 := HYK.out wq (belowP hb18 hq); go_simp; first | done | with_reducible rfl)) ?_
             refine wpIn_tr (i := 12) (d := some 77) (v := .int .i64 (Y : Int)) rfl (by (intro wq hq; have g1 := HXT.out wq (belowP hb18 hq); have g2 := HYK.out wq (belowP hb18 hq); go_simp; first | done | with_reducible rfl)) ?_
             refine wpIn_tr (i := 13) (d := some 78) (v := .slice (some ⟨sb, so, none⟩) m k1) rfl (by (intro wq hq; have g1 := HXT.out wq (belowP hb18 hq); have g2 := HYK.out wq (belowP hb18 hq); go_simp; first | done | with_reducible rfl)) ?_
             refine wpIn_tr (i := 14) (d := some 79) (v := .int .i64 (t : Int)) rfl (by (intro wq hq; have g1 := HXT.out wq (belowP hb18 hq); have g2 := HYK.out wq (belowP hb18 hq); go_simp; first | done | with_reducible rfl)) ?_
             refine wpIn_tr (i := 15) (d := some 80) (v := .pointer (some ⟨sb, so + t, none⟩)) rfl (by (intro wq hq; have g1 := HXT.out wq (belowP hb18 hq); have g2 := HYK.out wq (belowP hb18 hq); go_simp; first | done | with_reducible rfl)) ?_
             refine wpIn_tr (i := 16) (d := some 81) (v := .int .i64 (x : Int)) rfl (by (intro wq hq; have g1 := HXT.out wq (belowP hb18 hq); have g2 := HYK.out wq (belowP hb18 hq); go_simp; first | done | with_reducible rfl)) ?_
             refine wpIn_do (i := 17) hF (by kernel_rfl) rfl (by rfl) ?_
             intro K17 hK17
             go_simp
             go_wp2_with (go_at_call 51; refine (HYX.out _ (belowP hb18 hF)).mono ?_; rintro e wc ⟨rfl, hbc⟩)
             have hG : Below wb.heap.size wb wc := belowP hF hbc
             refine wpIn_tq (i := 18) (d := some 83) (v := .bool true) rfl ?_
             refine wpIn_tq (i := 19) (d := some 84) (v := .bool true) rfl ?_
             refine wpIn_done hG (by kernel_rfl) ?_ _
             have hkZ := (hkY.trans (Keep.of_below (S := fun k => B2 ≤ k) (Below.refl _ _)) fun _ _ h => h).trans (Keep.of_below (S := fun k => B2 ≤ k) ((hH.trans (hG.mono hz18)))) fun _ _ h => h
             have ho14 := own_same ho13 (Same.of_below (hH.trans (hG.mono hz18)) fun k e => (ho13.lt k e).2)
             go_wp2
             go_roundw
             case rel => exact ⟨t + 1, M, n9 + 1, by omega, by go_num, by go_num, ho14, HMY, by show _ = _; rw [HCN2.out]; simp, hkZ⟩
             case measure => simp [intOf]; try omega
            | false =>
             refine wp_region_in (by kernel_rfl) (fun w' => Below wb.heap.size wb w') ?_
             change wpIn _ _ _ _ _ _ _ _ (World.drew _)
             have hF : Below wb.heap.size wb (World.drew wb) := (Below.refl _ _).drew
             refine wpIn_tq (i := 0) (d := some 65) (v := .int .i64 la) rfl ?_
             refine wpIn_tq (i := 1) (d := some 66) (v := .int .i64 la) rfl ?_
             refine wpIn_tq (i := 2) (d := some 67) (v := .bool false) rfl ?_
             refine wpIn_tq (i := 3) (d := some 68) (v := .bool false) rfl ?_
             refine wpIn_tq (i := 4) (d := some 69) (v := .int .i64 la) rfl ?_
             refine wpIn_tq (i := 5) (d := some 70) (v := .int .i64 la) rfl ?_
             refine wpIn_tq (i := 6) (d := some 71) (v := .bool true) rfl ?_
             refine wpIn_tq (i := 7) (d := some 72) (v := .bool true) rfl ?_
             refine wpIn_tr (i := 8) (d := some 73) (v := .agg CP.toArray) rfl (by (exact fun wq hq => exec_loadR rfl rfl (HL9.out wq (belowP hb18 hq)))) ?_
             refine wpIn_tr (i := 9) (d := some 74) (v := .slice (some ⟨sb, so, none⟩) m k1) rfl (by (intro wq hq; have g1 := HXT.out wq (belowP hb18 hq); have g2 := HYK.out wq (belowP hb18 hq); go_simp; first | done | with_reducible rfl)) ?_
             refine wpIn_tr (i := 10) (d := some 75) (v := .int .i64 (k : Int)) rfl (by (intro wq hq; have g1 := HXT.out wq (belowP hb18 hq); have g2 := HYK.out wq (belowP hb18 hq); go_simp; first | done | with_reducible rfl)) ?_
             refine wpIn_tr (i := 11) (d := some 76) (v := .pointer (some ⟨sb, so + k, none⟩)) rfl (by (intro wq hq; have g1 := HXT.out wq (belowP hb18 hq); have g2 := HYK.out wq (belowP hb18 hq); go_simp; first | done | with_reducible rfl)) ?_
             refine wpIn_tr (i := 12) (d := some 77) (v := .int .i64 (Y : Int)) rfl (by (intro wq hq; have g1 := HXT.out wq (belowP hb18 hq); have g2 := HYK.out wq (belowP hb18 hq); go_simp; first | done | with_reducible rfl)) ?_
             refine wpIn_tr (i := 13) (d := some 78) (v := .slice (some ⟨sb, so, none⟩) m k1) rfl (by (intro wq hq; have g1 := HXT.out wq (belowP hb18 hq); have g2 := HYK.out wq (belowP hb18 hq); go_simp; first | done | with_reducible rfl)) ?_
             refine wpIn_tr (i := 14) (d := some 79) (v := .int .i64 (t : Int)) rfl (by (intro wq hq; have g1 := HXT.out wq (belowP hb18 hq); have g2 := HYK.out wq (belowP hb18 hq); go_simp; first | done | with_reducible rfl)) ?_
             refine wpIn_tr (i := 15) (d := some 80) (v := .pointer (some ⟨sb, so + t, none⟩)) rfl (by (intro wq hq; have g1 := HXT.out wq (belowP hb18 hq); have g2 := HYK.out wq (belowP hb18 hq); go_simp; first | done | with_reducible rfl)) ?_
             refine wpIn_tr (i := 16) (d := some 81) (v := .int .i64 (x : Int)) rfl (by (intro wq hq; have g1 := HXT.out wq (belowP hb18 hq); have g2 := HYK.out wq (belowP hb18 hq); go_simp; first | done | with_reducible rfl)) ?_
             refine wpIn_do (i := 17) hF (by kernel_rfl) rfl (by rfl) ?_
             intro K17 hK17
             go_simp
             go_wp2_with (go_at_call 51; refine (HYX.out _ (belowP hb18 hF)).mono ?_; rintro e wc ⟨rfl, hbc⟩)
             have hG : Below wb.heap.size wb wc := belowP hF hbc
             refine wpIn_tq (i := 18) (d := some 83) (v := .bool false) rfl ?_
             refine wpIn_tq (i := 19) (d := some 84) (v := .bool false) rfl ?_
             refine wpIn_done hG (by kernel_rfl) ?_ _
             have hkZ := (hkY.trans (Keep.of_below (S := fun k => B2 ≤ k) (Below.refl _ _)) fun _ _ h => h).trans (Keep.of_below (S := fun k => B2 ≤ k) ((hH.trans (hG.mono hz18)))) fun _ _ h => h
             have ho14 := own_same ho13 (Same.of_below (hH.trans (hG.mono hz18)) fun k e => (ho13.lt k e).2)
             go_wp2
             go_roundw
             case rel => exact ⟨t + 1, M, n9, by omega, by go_num, by go_num, ho14, HMY, by show _ = _; rw [HCN2.out]; simp, hkZ⟩
             case measure => simp [intOf]; try omega
          · have e1 : (la == lb) = false := by simpa using heq
            refine wp_region_in (by kernel_rfl) (fun w' => Below wb.heap.size wb w') ?_
            change wpIn _ _ _ _ _ _ _ _ (World.drew _)
            have hF : Below wb.heap.size wb (World.drew wb) := (Below.refl _ _).drew
            refine wpIn_tq (i := 0) (d := some 65) (v := .int .i64 la) rfl ?_
            refine wpIn_tq (i := 1) (d := some 66) (v := .int .i64 lb) rfl ?_
            refine wpIn_tq (i := 2) (d := some 67) (v := .bool false) rfl ?_
            refine wpIn_tq (i := 3) (d := some 68) (v := .bool false) rfl ?_
            refine wpIn_tq (i := 4) (d := some 69) (v := .int .i64 la) rfl ?_
            refine wpIn_tq (i := 5) (d := some 70) (v := .int .i64 lb) rfl ?_
            refine wpIn_tq (i := 6) (d := some 71) (v := .bool false) rfl ?_
            refine wpIn_tq (i := 7) (d := some 72) (v := .bool false) rfl ?_
            refine wpIn_tn (i := 8) (d := some 73) rfl ?_
            refine wpIn_tn (i := 9) (d := some 74) rfl ?_
            refine wpIn_tn (i := 10) (d := some 75) rfl ?_
            refine wpIn_tn (i := 11) (d := some 76) rfl ?_
            refine wpIn_tn (i := 12) (d := some 77) rfl ?_
            refine wpIn_tn (i := 13) (d := some 78) rfl ?_
            refine wpIn_tn (i := 14) (d := some 79) rfl ?_
            refine wpIn_tn (i := 15) (d := some 80) rfl ?_
            refine wpIn_tn (i := 16) (d := some 81) rfl ?_
            refine wpIn_tn (i := 17) (d := some 82) rfl ?_
            refine wpIn_tq (i := 18) (d := some 83) (v := .bool false) rfl ?_
            refine wpIn_tq (i := 19) (d := some 84) (v := .bool false) rfl ?_
            refine wpIn_done hF (by kernel_rfl) ?_ _
            have hkZ := (hkY.trans (Keep.of_below (S := fun k => B2 ≤ k) (Below.refl _ _)) fun _ _ h => h).trans (Keep.of_below (S := fun k => B2 ≤ k) ((hH.trans (hF.mono hz18)))) fun _ _ h => h
            have ho14 := own_same ho13 (Same.of_below (hH.trans (hF.mono hz18)) fun k e => (ho13.lt k e).2)
            go_wp2
            go_roundw
            case rel => exact ⟨t + 1, M, n9, by omega, by go_num, by go_num, ho14, HMY, by show _ = _; rw [HCN2.out]; simp [d1, heq], hkZ⟩
            case measure => simp [intOf]; try omega
       | false =>
        rw [hd, if_neg (by simp)] at hun
        rw [hd] at hin
        have HMY : Hid (M = upK (toQ p.auth) S k (t + 1)) := hun.symm
        have ho13 := hown
        have hkY := hkx
        clear hun hd HMM hown hkx
        go_upto_region 17 with (go_at_call 23; refine hin.mono ?_; rintro e w' ⟨rfl, rfl⟩)
        have hbY := HKB2.out _ hkY
        have hzY := hkY.size
        refine wp_region_in (by kernel_rfl) (fun w' => Below wx.heap.size wx w') ?_
        change wpIn _ _ _ _ _ _ _ _ (World.drew _)
        have hF : Below wx.heap.size wx (World.drew wx) := (Below.refl _ _).drew
        refine wpIn_tr (i := 0) (d := some 53) (v := .agg CP.toArray) rfl (by (exact fun wq hq => exec_loadR rfl rfl (HL9.out wq (belowP hbY hq)))) ?_
        refine wpIn_tr (i := 1) (d := some 54) (v := .slice (some ⟨sb, so, none⟩) m k1) rfl (by (intro wq hq; have g1 := HXT.out wq (belowP hbY hq); have g2 := HYK.out wq (belowP hbY hq); go_simp; first | done | with_reducible rfl)) ?_
        refine wpIn_tr (i := 2) (d := some 55) (v := .int .i64 (t : Int)) rfl (by (intro wq hq; have g1 := HXT.out wq (belowP hbY hq); have g2 := HYK.out wq (belowP hbY hq); go_simp; first | done | with_reducible rfl)) ?_
        refine wpIn_tr (i := 3) (d := some 56) (v := .pointer (some ⟨sb, so + t, none⟩)) rfl (by (intro wq hq; have g1 := HXT.out wq (belowP hbY hq); have g2 := HYK.out wq (belowP hbY hq); go_simp; first | done | with_reducible rfl)) ?_
        refine wpIn_tr (i := 4) (d := some 57) (v := .int .i64 (x : Int)) rfl (by (intro wq hq; have g1 := HXT.out wq (belowP hbY hq); have g2 := HYK.out wq (belowP hbY hq); go_simp; first | done | with_reducible rfl)) ?_
        refine wpIn_tr (i := 6) (d := some 59) (v := .agg CP.toArray) rfl (by (exact fun wq hq => exec_loadR rfl rfl (HL9.out wq (belowP hbY hq)))) ?_
        refine wpIn_tr (i := 7) (d := some 60) (v := .slice (some ⟨sb, so, none⟩) m k1) rfl (by (intro wq hq; have g1 := HXT.out wq (belowP hbY hq); have g2 := HYK.out wq (belowP hbY hq); go_simp; first | done | with_reducible rfl)) ?_
        refine wpIn_tr (i := 8) (d := some 61) (v := .int .i64 (k : Int)) rfl (by (intro wq hq; have g1 := HXT.out wq (belowP hbY hq); have g2 := HYK.out wq (belowP hbY hq); go_simp; first | done | with_reducible rfl)) ?_
        refine wpIn_tr (i := 9) (d := some 62) (v := .pointer (some ⟨sb, so + k, none⟩)) rfl (by (intro wq hq; have g1 := HXT.out wq (belowP hbY hq); have g2 := HYK.out wq (belowP hbY hq); go_simp; first | done | with_reducible rfl)) ?_
        refine wpIn_tr (i := 10) (d := some 63) (v := .int .i64 (Y : Int)) rfl (by (intro wq hq; have g1 := HXT.out wq (belowP hbY hq); have g2 := HYK.out wq (belowP hbY hq); go_simp; first | done | with_reducible rfl)) ?_
        refine wpIn_do (i := 5) hF (by kernel_rfl) rfl (by rfl) ?_
        intro K5 hK5
        go_simp
        go_wp2_with (go_at_call 20; refine (HLX.out _ (belowP hbY hF)).mono ?_; rintro e wa ⟨rfl, hba⟩)
        have hG : Below wx.heap.size wx wa := belowP hF hba
        refine wpIn_do (i := 11) hG (by kernel_rfl) rfl (by rfl) ?_
        intro K11 hK11
        go_simp
        go_wp2_with (go_at_call 20; refine (HLY.out _ (belowP hbY hG)).mono ?_; rintro e wb ⟨rfl, hbb⟩)
        have hH : Below wx.heap.size wx wb := belowP hG hbb
        refine wpIn_tq (i := 12) (d := some 12) (v := .int .i64 la) rfl ?_
        refine wpIn_tq (i := 13) (d := some 13) (v := .int .i64 lb) rfl ?_
        refine wpIn_done hH (by kernel_rfl) ?_ _
        clear hba hbb hF hG
        have hb18 := belowP hbY hH
        have hz18 := hH.size
        go_upto_region 18 with fail
        by_cases hgt : lb < la
        · have d1 : decide (lb < la) = true := decide_eq_true hgt
          refine wp_region_in (by kernel_rfl) (fun w' => Below wb.heap.size wb w') ?_
          change wpIn _ _ _ _ _ _ _ _ (World.drew _)
          have hF : Below wb.heap.size wb (World.drew wb) := (Below.refl _ _).drew
          refine wpIn_tq (i := 0) (d := some 65) (v := .int .i64 la) rfl ?_
          refine wpIn_tq (i := 1) (d := some 66) (v := .int .i64 lb) rfl ?_
          refine wpIn_tq (i := 2) (d := some 67) (v := .bool true) rfl ?_
          refine wpIn_tq (i := 3) (d := some 68) (v := .bool true) rfl ?_
          refine wpIn_tn (i := 4) (d := some 69) rfl ?_
          refine wpIn_tn (i := 5) (d := some 70) rfl ?_
          refine wpIn_tn (i := 6) (d := some 71) rfl ?_
          refine wpIn_tn (i := 7) (d := some 72) rfl ?_
          refine wpIn_tn (i := 8) (d := some 73) rfl ?_
          refine wpIn_tn (i := 9) (d := some 74) rfl ?_
          refine wpIn_tn (i := 10) (d := some 75) rfl ?_
          refine wpIn_tn (i := 11) (d := some 76) rfl ?_
          refine wpIn_tn (i := 12) (d := some 77) rfl ?_
          refine wpIn_tn (i := 13) (d := some 78) rfl ?_
          refine wpIn_tn (i := 14) (d := some 79) rfl ?_
          refine wpIn_tn (i := 15) (d := some 80) rfl ?_
          refine wpIn_tn (i := 16) (d := some 81) rfl ?_
          refine wpIn_tn (i := 17) (d := some 82) rfl ?_
          refine wpIn_tn (i := 18) (d := some 83) rfl ?_
          refine wpIn_tq (i := 19) (d := some 84) (v := .bool true) rfl ?_
          refine wpIn_done hF (by kernel_rfl) ?_ _
          have hkZ := (hkY.trans (Keep.of_below (S := fun k => B2 ≤ k) (Below.refl _ _)) fun _ _ h => h).trans (Keep.of_below (S := fun k => B2 ≤ k) ((hH.trans (hF.mono hz18)))) fun _ _ h => h
          have ho14 := own_same ho13 (Same.of_below (hH.trans (hF.mono hz18)) fun k e => (ho13.lt k e).2)
          go_wp2
          go_roundw
          case rel => exact ⟨t + 1, M, n9 + 1, by omega, by go_num, by go_num, ho14, HMY, by show _ = _; rw [HCN2.out]; simp [d1], hkZ⟩
          case measure => simp [intOf]; try omega
        · have d1 : decide (lb < la) = false := decide_eq_false hgt
          by_cases heq : la = lb
          · subst heq
            cases yb with
            | true =>
             refine wp_region_in (by kernel_rfl) (fun w' => Below wb.heap.size wb w') ?_
             change wpIn _ _ _ _ _ _ _ _ (World.drew _)
             have hF : Below wb.heap.size wb (World.drew wb) := (Below.refl _ _).drew
             refine wpIn_tq (i := 0) (d := some 65) (v := .int .i64 la) rfl ?_
             refine wpIn_tq (i := 1) (d := some 66) (v := .int .i64 la) rfl ?_
             refine wpIn_tq (i := 2) (d := some 67) (v := .bool false) rfl ?_
             refine wpIn_tq (i := 3) (d := some 68) (v := .bool false) rfl ?_
             refine wpIn_tq (i := 4) (d := some 69) (v := .int .i64 la) rfl ?_
             refine wpIn_tq (i := 5) (d := some 70) (v := .int .i64 la) rfl ?_
             refine wpIn_tq (i := 6) (d := some 71) (v := .bool true) rfl ?_
             refine wpIn_tq (i := 7) (d := some 72) (v := .bool true) rfl ?_
             refine wpIn_tr (i := 8) (d := some 73) (v := .agg CP.toArray) rfl (by (exact fun wq hq => exec_loadR rfl rfl (HL9.out wq (belowP hb18 hq)))) ?_
             refine wpIn_tr (i := 9) (d := some 74) (v := .slice (some ⟨sb, so, none⟩) m k1) rfl (by (intro wq hq; have g1 := HXT.out wq (belowP hb18 hq); have g2 := HYK.out wq (belowP hb18 hq); go_simp; first | done | with_reducible rfl)) ?_
             refine wpIn_tr (i := 10) (d := some 75) (v := .int .i64 (k : Int)) rfl (by (intro wq hq; have g1 := HXT.out wq (belowP hb18 hq); have g2 := HYK.out wq (belowP hb18 hq); go_simp; first | done | with_reducible rfl)) ?_
             refine wpIn_tr (i := 11) (d := some 76) (v := .pointer (some ⟨sb, so + k, none⟩)) rfl (by (intro wq hq; have g1 := HXT.out wq (belowP hb18 hq); have g2 := HYK.out wq (belowP hb18 hq); go_simp; first | done | with_reducible rfl)) ?_
             refine wpIn_tr (i := 12) (d := some 77) (v := .int .i64 (Y : Int)) rfl (by (intro wq hq; have g1 := HXT.out wq (belowP hb18 hq); have g2 := HYK.out wq (belowP hb18 hq); go_simp; first | done | with_reducible rfl)) ?_
             refine wpIn_tr (i := 13) (d := some 78) (v := .slice (some ⟨sb, so, none⟩) m k1) rfl (by (intro wq hq; have g1 := HXT.out wq (belowP hb18 hq); have g2 := HYK.out wq (belowP hb18 hq); go_simp; first | done | with_reducible rfl)) ?_
             refine wpIn_tr (i := 14) (d := some 79) (v := .int .i64 (t : Int)) rfl (by (intro wq hq; have g1 := HXT.out wq (belowP hb18 hq); have g2 := HYK.out wq (belowP hb18 hq); go_simp; first | done | with_reducible rfl)) ?_
             refine wpIn_tr (i := 15) (d := some 80) (v := .pointer (some ⟨sb, so + t, none⟩)) rfl (by (intro wq hq; have g1 := HXT.out wq (belowP hb18 hq); have g2 := HYK.out wq (belowP hb18 hq); go_simp; first | done | with_reducible rfl)) ?_
             refine wpIn_tr (i := 16) (d := some 81) (v := .int .i64 (x : Int)) rfl (by (intro wq hq; have g1 := HXT.out wq (belowP hb18 hq); have g2 := HYK.out wq (belowP hb18 hq); go_simp; first | done | with_reducible rfl)) ?_
             refine wpIn_do (i := 17) hF (by kernel_rfl) rfl (by rfl) ?_
             intro K17 hK17
             go_simp
             go_wp2_with (go_at_call 51; refine (HYX.out _ (belowP hb18 hF)).mono ?_; rintro e wc ⟨rfl, hbc⟩)
             have hG : Below wb.heap.size wb wc := belowP hF hbc
             refine wpIn_tq (i := 18) (d := some 83) (v := .bool true) rfl ?_
             refine wpIn_tq (i := 19) (d := some 84) (v := .bool true) rfl ?_
             refine wpIn_done hG (by kernel_rfl) ?_ _
             have hkZ := (hkY.trans (Keep.of_below (S := fun k => B2 ≤ k) (Below.refl _ _)) fun _ _ h => h).trans (Keep.of_below (S := fun k => B2 ≤ k) ((hH.trans (hG.mono hz18)))) fun _ _ h => h
             have ho14 := own_same ho13 (Same.of_below (hH.trans (hG.mono hz18)) fun k e => (ho13.lt k e).2)
             go_wp2
             go_roundw
             case rel => exact ⟨t + 1, M, n9 + 1, by omega, by go_num, by go_num, ho14, HMY, by show _ = _; rw [HCN2.out]; simp, hkZ⟩
             case measure => simp [intOf]; try omega
            | false =>
             refine wp_region_in (by kernel_rfl) (fun w' => Below wb.heap.size wb w') ?_
             change wpIn _ _ _ _ _ _ _ _ (World.drew _)
             have hF : Below wb.heap.size wb (World.drew wb) := (Below.refl _ _).drew
             refine wpIn_tq (i := 0) (d := some 65) (v := .int .i64 la) rfl ?_
             refine wpIn_tq (i := 1) (d := some 66) (v := .int .i64 la) rfl ?_
             refine wpIn_tq (i := 2) (d := some 67) (v := .bool false) rfl ?_
             refine wpIn_tq (i := 3) (d := some 68) (v := .bool false) rfl ?_
             refine wpIn_tq (i := 4) (d := some 69) (v := .int .i64 la) rfl ?_
             refine wpIn_tq (i := 5) (d := some 70) (v := .int .i64 la) rfl ?_
             refine wpIn_tq (i := 6) (d := some 71) (v := .bool true) rfl ?_
             refine wpIn_tq (i := 7) (d := some 72) (v := .bool true) rfl ?_
             refine wpIn_tr (i := 8) (d := some 73) (v := .agg CP.toArray) rfl (by (exact fun wq hq => exec_loadR rfl rfl (HL9.out wq (belowP hb18 hq)))) ?_
             refine wpIn_tr (i := 9) (d := some 74) (v := .slice (some ⟨sb, so, none⟩) m k1) rfl (by (intro wq hq; have g1 := HXT.out wq (belowP hb18 hq); have g2 := HYK.out wq (belowP hb18 hq); go_simp; first | done | with_reducible rfl)) ?_
             refine wpIn_tr (i := 10) (d := some 75) (v := .int .i64 (k : Int)) rfl (by (intro wq hq; have g1 := HXT.out wq (belowP hb18 hq); have g2 := HYK.out wq (belowP hb18 hq); go_simp; first | done | with_reducible rfl)) ?_
             refine wpIn_tr (i := 11) (d := some 76) (v := .pointer (some ⟨sb, so + k, none⟩)) rfl (by (intro wq hq; have g1 := HXT.out wq (belowP hb18 hq); have g2 := HYK.out wq (belowP hb18 hq); go_simp; first | done | with_reducible rfl)) ?_
             refine wpIn_tr (i := 12) (d := some 77) (v := .int .i64 (Y : Int)) rfl (by (intro wq hq; have g1 := HXT.out wq (belowP hb18 hq); have g2 := HYK.out wq (belowP hb18 hq); go_simp; first | done | with_reducible rfl)) ?_
             refine wpIn_tr (i := 13) (d := some 78) (v := .slice (some ⟨sb, so, none⟩) m k1) rfl (by (intro wq hq; have g1 := HXT.out wq (belowP hb18 hq); have g2 := HYK.out wq (belowP hb18 hq); go_simp; first | done | with_reducible rfl)) ?_
             refine wpIn_tr (i := 14) (d := some 79) (v := .int .i64 (t : Int)) rfl (by (intro wq hq; have g1 := HXT.out wq (belowP hb18 hq); have g2 := HYK.out wq (belowP hb18 hq); go_simp; first | done | with_reducible rfl)) ?_
             refine wpIn_tr (i := 15) (d := some 80) (v := .pointer (some ⟨sb, so + t, none⟩)) rfl (by (intro wq hq; have g1 := HXT.out wq (belowP hb18 hq); have g2 := HYK.out wq (belowP hb18 hq); go_simp; first | done | with_reducible rfl)) ?_
             refine wpIn_tr (i := 16) (d := some 81) (v := .int .i64 (x : Int)) rfl (by (intro wq hq; have g1 := HXT.out wq (belowP hb18 hq); have g2 := HYK.out wq (belowP hb18 hq); go_simp; first | done | with_reducible rfl)) ?_
             refine wpIn_do (i := 17) hF (by kernel_rfl) rfl (by rfl) ?_
             intro K17 hK17
             go_simp
             go_wp2_with (go_at_call 51; refine (HYX.out _ (belowP hb18 hF)).mono ?_; rintro e wc ⟨rfl, hbc⟩)
             have hG : Below wb.heap.size wb wc := belowP hF hbc
             refine wpIn_tq (i := 18) (d := some 83) (v := .bool false) rfl ?_
             refine wpIn_tq (i := 19) (d := some 84) (v := .bool false) rfl ?_
             refine wpIn_done hG (by kernel_rfl) ?_ _
             have hkZ := (hkY.trans (Keep.of_below (S := fun k => B2 ≤ k) (Below.refl _ _)) fun _ _ h => h).trans (Keep.of_below (S := fun k => B2 ≤ k) ((hH.trans (hG.mono hz18)))) fun _ _ h => h
             have ho14 := own_same ho13 (Same.of_below (hH.trans (hG.mono hz18)) fun k e => (ho13.lt k e).2)
             go_wp2
             go_roundw
             case rel => exact ⟨t + 1, M, n9, by omega, by go_num, by go_num, ho14, HMY, by show _ = _; rw [HCN2.out]; simp, hkZ⟩
             case measure => simp [intOf]; try omega
          · have e1 : (la == lb) = false := by simpa using heq
            refine wp_region_in (by kernel_rfl) (fun w' => Below wb.heap.size wb w') ?_
            change wpIn _ _ _ _ _ _ _ _ (World.drew _)
            have hF : Below wb.heap.size wb (World.drew wb) := (Below.refl _ _).drew
            refine wpIn_tq (i := 0) (d := some 65) (v := .int .i64 la) rfl ?_
            refine wpIn_tq (i := 1) (d := some 66) (v := .int .i64 lb) rfl ?_
            refine wpIn_tq (i := 2) (d := some 67) (v := .bool false) rfl ?_
            refine wpIn_tq (i := 3) (d := some 68) (v := .bool false) rfl ?_
            refine wpIn_tq (i := 4) (d := some 69) (v := .int .i64 la) rfl ?_
            refine wpIn_tq (i := 5) (d := some 70) (v := .int .i64 lb) rfl ?_
            refine wpIn_tq (i := 6) (d := some 71) (v := .bool false) rfl ?_
            refine wpIn_tq (i := 7) (d := some 72) (v := .bool false) rfl ?_
            refine wpIn_tn (i := 8) (d := some 73) rfl ?_
            refine wpIn_tn (i := 9) (d := some 74) rfl ?_
            refine wpIn_tn (i := 10) (d := some 75) rfl ?_
            refine wpIn_tn (i := 11) (d := some 76) rfl ?_
            refine wpIn_tn (i := 12) (d := some 77) rfl ?_
            refine wpIn_tn (i := 13) (d := some 78) rfl ?_
            refine wpIn_tn (i := 14) (d := some 79) rfl ?_
            refine wpIn_tn (i := 15) (d := some 80) rfl ?_
            refine wpIn_tn (i := 16) (d := some 81) rfl ?_
            refine wpIn_tn (i := 17) (d := some 82) rfl ?_
            refine wpIn_tq (i := 18) (d := some 83) (v := .bool false) rfl ?_
            refine wpIn_tq (i := 19) (d := some 84) (v := .bool false) rfl ?_
            refine wpIn_done hF (by kernel_rfl) ?_ _
            have hkZ := (hkY.trans (Keep.of_below (S := fun k => B2 ≤ k) (Below.refl _ _)) fun _ _ h => h).trans (Keep.of_below (S := fun k => B2 ≤ k) ((hH.trans (hF.mono hz18)))) fun _ _ h => h
            have ho14 := own_same ho13 (Same.of_below (hH.trans (hF.mono hz18)) fun k e => (ho13.lt k e).2)
            go_wp2
            go_roundw
            case rel => exact ⟨t + 1, M, n9, by omega, by go_num, by go_num, ho14, HMY, by show _ = _; rw [HCN2.out]; simp [d1, heq], hkZ⟩
            case measure => simp [intOf]; try omega
     · obtain rfl : m = t := by omega
       have HMF : Hid (M = upM (toQ p.auth) S k) := HMM.out.trans HUPM.out.symm
       have HNF : Hid (n9 = cntM p S k) := HNN.out.trans HCNM.out.symm
       have hkm30 : k ≤ 30 := by omega
       have hbr := own_same HW9.out.brow (Same.of_below hX9 fun k e => (HW9.out.brow.lt k e).2)
       have hvl : vs.length ≤ 1000 := by rw [HW9.out.len]; unfold rowsK; simp; omega
       obtain ⟨q5, c5, hlv, _⟩ := own_rd hown
       obtain ⟨m5, hm5⟩ : ∃ m5, (zs M).length = m5 := ⟨_, rfl⟩
       rw [hm5] at hlv
       subst hlv
       have hBx : B ≤ wx.heap.size := by have := HBB.out; omega
       have HO5 : Hid (wx.ownsRow w9.heap.size 3 1 (.slice q5 m5 c5) (zs M).length ((zs M).map (Value.int .i64))) := by show World.ownsRow _ _ _ _ _ _ _; rw [HBB2.out]; exact hown
       have HKX : Hid (Keep (fun k => B ≤ k) w2 wx) := HK9.out.trans (Keep.of_below (S := fun k => B ≤ k) hX9) fun _ _ h => h
       have hnn : n9 ≤ 30 := by rw [HNN.out]; have := HCLK.out m; omega
       clear hown hm5 HMM HNN HIC HUN HCN HUL HCLK HIC0 HXX HYK HLY HL9 HCC HL1
       have tok1 : True := trivial
       have tok2 : True := trivial
       go_wp2_with (first
        | (at_builtin; have _t := tok1; refine wpList_push (enc := slV) rfl (.tmp 87) (.tmp 89) 24 28 (.slice none 0 0) 24 rfl Tryz.underlying24 Tryz.infoI rfl (by decide) slV_one B _ vs rfl ?a0 _ (q5, m5, c5) rfl ?a1 ?a2 ?a3 ?_; clear tok1))
       case a0 => exact hbr.alloc _
       case a1 => exact cell_row (cur := [_]) (heap_alloc_new _ _) 0 _ rfl
       case a2 => omega
       case a3 => simp; omega
       intro bv' w6 ho6 hg6 hl6
       have ho6' : w6.ownsRow B 28 1 bv' (vs ++ [(q5, m5, c5)]).length ((vs ++ [(q5, m5, c5)]).map slV) := by rw [List.length_append, List.map_append]; exact ho6
       have HB6 : Hid (Bw B w6 bv' u6 (vs ++ [(q5, m5, c5)]) (rowsK (toQ p.auth) S (k + 1)) (ranksK p S k)) := by
        show Bw _ _ _ _ _ _ _
        rw [rowsK_next, ← HMF.out]
        exact HW9.out.row (by have := HBB.out; omega) hX9 HO5.out rfl ho6' (keep_pushO hg6) (loc_pushO hl6)
       have HK6 : Hid (Keep (fun k => B ≤ k) w2 w6) := HKX.out.trans ((keep_pushO hg6).mono fun k _ e => (hbr.lt k e).1) fun _ _ h => h
       have hz6 : B ≤ w6.heap.size := by have := hg6.size; simp at this; omega
       have hrr6 := HB6.out.rrow
       have hrl : (ranksK p S k).length ≤ 1000 := by unfold ranksK; simp; omega
       clear ho6 ho6' hg6 hl6 hbr HW9 HO5 HKX HK9 HBW
       go_wp2_with (first
        | (at_builtin; have _t := tok2; refine wpList_push rfl (.tmp 91) (.tmp 93) 71 2 (.int .i64 0) 8 rfl Tryz.underlying71 Tryz.info2 rfl (by decide) int_one B _ (ranksK p S k) rfl ?a0 _ (n9 : Int) rfl ?a1 ?a2 ?a3 ?_; clear tok2))
       case a0 => exact hrr6.alloc _
       case a1 => exact cell_row (cur := [_]) (heap_alloc_new _ _) 0 _ rfl
       case a2 => omega
       case a3 => simp; omega
       intro rv' w7 ho7 hg7 hl7
       have ho7' : w7.ownsRow B 2 1 rv' (ranksK p S k ++ [(n9 : Int)]).length ((ranksK p S k ++ [(n9 : Int)]).map (Value.int .i64)) := by rw [List.length_append, List.map_append]; exact ho7
       have HB7 : Hid (Bw B w7 bv' rv' (vs ++ [(q5, m5, c5)]) (rowsK (toQ p.auth) S (k + 1)) (ranksK p S (k + 1))) := by
        show Bw _ _ _ _ _ _ _
        rw [ranksK_next, ← HNF.out]
        exact HB6.out.rank ho7' (keep_pushO hg7) (loc_pushO hl7)
       have HK7 : Hid (Keep (fun k => B ≤ k) w2 w7) := HK6.out.trans ((keep_pushO hg7).mono fun k _ e => (hrr6.lt k e).1) fun _ _ h => h
       clear ho7 ho7' hg7 hl7 hrr6 HB6 HK6
       go_wp2
       go_roundw
       case rel => exact ⟨k + 1, vs ++ [(q5, m5, c5)], by omega, by go_num, HB7.out, HK7.out⟩
       case measure => simp [intOf]; omega
  · obtain rfl : m = k := by omega
    obtain ⟨T, hT1, hT2⟩ := HLIN.out
    have hPM : (parM p S).length = m := by unfold parM; rw [List.length_map, List.length_range, HM.out]
    obtain ⟨hf1, hf2⟩ := lin_fit hT1
    have hTm : ∀ x ∈ T, x < m := fun x hx => by have := hf1.lt x hx; omega
    have hTl : T.length ≤ 30 := by omega
    have eP : rowsK (toQ p.auth) S m = (parM p S).map zs := by unfold rowsK parM; rw [HM.out, List.map_map]; rfl
    have eR : ranksK p S m = rnkM p S := by unfold ranksK rnkM; rw [HM.out]
    obtain ⟨q1, c1, q2, c2, e1, e2, hrr, hri⟩ := HBW.out.read
    rw [eP] at e1 hrr
    rw [eR] at e2 hri
    have hlin := rlinear_any ((parM p S).map zs) (rnkM p S) q1 q2 c1 c2 _ hrr hri (by unfold parM; simp; rw [HM.out]; omega) (fun x hx => by
     obtain ⟨y, hy, rfl⟩ := List.mem_map.1 hx
     unfold parM at hy
     obtain ⟨i, _, rfl⟩ := List.mem_map.1 hy
     rw [zs_len]
     unfold upM
     refine Nat.le_trans (List.length_filter_le _ _) ?_
     rw [List.length_range, HM.out]
     omega) (by unfold rnkM; simp; rw [HM.out]; omega)
    rw [hT2] at hlin
    have HT1 : Hid (lin (parM p S) (rnkM p S) = some T) := hT1
    have HTM : Hid (∀ x ∈ T, x < m) := hTm
    generalize ((parM p S).map zs).length = nP at *
    generalize (rnkM p S).length = nR at *
    subst e1
    subst e2
    clear HBW hrr hri hT1 hT2 hTm HLIN eP eR hf1 hf2 hPM
    go_upto_region 25 with (go_at_call 52; refine hlin.mono ?_; rintro e w5 ⟨v5, rfl, hown5, hb5⟩)
    simp only [Option.getD_some] at hown5
    obtain ⟨q5, c5, rfl, hr5⟩ := own_rd hown5
    have HR5 : Hid (∀ X, Below w5.heap.size w5 X → RdI (· < X.heap.size) X q5 c5 (zs T)) := fun X hX => hr5.carry (Same.of_below hX fun j hj => (hown5.lt j hj).2) fun j hj => Nat.lt_of_lt_of_le (hown5.lt j hj).2 hX.size
    have hb25 := belowP hBr hb5
    have HB5 : Hid (Below w2.heap.size w2 w5) := hb25
    have hz5 := hb25.size
    clear hr5 hown5 hlin
    obtain ⟨B3, hB3⟩ : ∃ B3, w5.heap.size = B3 := ⟨_, rfl⟩
    have HB3 : Hid (w5.heap.size = B3) := hB3
    have HKB3 : Hid (∀ X, Keep (fun k => B3 ≤ k) w5 X → Below w5.heap.size w5 X) := fun X hX => hX.below (Nat.le_refl _) fun k hk e => by have := HB3.out; omega
    have HZT : Hid ((zs T).length = T.length) := zs_len T
    have hzt := HZT.out
    rw [hzt]
    obtain ⟨nt, hnt⟩ : ∃ nt, T.length = nt := ⟨_, rfl⟩
    have HNT : Hid (T.length = nt) := hnt
    rw [hnt] at hTl ⊢
    clear hzt hnt hB3
    go_loopw [16, 17] (fun ov iv wx => ∃ (j : Nat) (M : List Nat), j ≤ nt ∧ iv = .int .i64 (j : Int) ∧ wx.ownsRow B3 3 1 ov (zs M).length ((zs M).map (Value.int .i64)) ∧ Hid (M = (T.take j).map fun k => S.getD k 0) ∧ M.length ≤ j ∧ Keep (fun k => B3 ≤ k) w5 wx) (fun _ iv _ => nt - (intOf iv).toNat)
    case atStart => exact ⟨0, [], Nat.zero_le _, rfl, World.ownsRow_nil _ _ _ _, by show _ = _; rfl, Nat.le_refl _, Keep.refl _ _⟩
    case round =>
     obtain ⟨j, M, hj, rfl, hown, HMM, hMl, hkx⟩ := hrel
     have hX5 := HKB3.out _ hkx
     have hzx := hkx.size
     by_cases hjt : j < nt
     · have hjT : j < T.length := by rw [HNT.out]; exact hjt
       obtain ⟨ad9, rfl, _, hc9⟩ := (HR5.out _ hX5).at j 0 (by rw [HZT.out]; exact hjT)
       rw [zs_getD] at hc9
       have hxk := HTM.out _ (getD_inm (d := 0) hjT)
       have HN2 : Hid (M ++ [S.getD (T.getD j 0) 0] = (T.take (j + 1)).map fun k => S.getD k 0) := by
        show _ = _
        rw [take_snoc T j 0 hjT, List.map_append, ← HMM.out]
        rfl
       generalize T.getD j 0 = x at *
       obtain ⟨sb, so, hv1, hc4⟩ := HOE.out _ (belowP HB5.out hX5) x hxk
       subst hv1
       generalize S.getD x 0 = y at *
       have hzm : (zs M).length ≤ 30 := by rw [zs_len]; omega
       clear HMM
       go_wp2_with (first
        | (at_builtin; refine wpList_push rfl (.tmp 107) (.tmp 115) 28 3 (.int .i64 0) 8 rfl Tryz.underlying28 Tryz.info3 rfl (by decide) int_one B3 _ (zs M) rfl ?a0 _ (y : Int) rfl ?a1 ?a2 ?a3 ?_))
       case a0 => exact hown.alloc _
       case a1 => exact cell_row (cur := [_]) (heap_alloc_new _ _) 0 _ rfl
       case a2 => omega
       case a3 => have := HB3.out; simp; omega
       intro v' w12 ho12 hg12 _
       have ho13 := own_snoc ho12
       have hk12 := (hkx.alloc (.cells #[.int .i64 (y : Int)] 3)).trans (Keep.of_grown (S := fun j => B3 ≤ j) hg12 fun j _ e => (hown.lt j e).1) fun _ _ h => h
       clear ho12 hg12
       go_wp2
       go_roundw
       case rel => exact ⟨j + 1, M ++ [y], by omega, by go_num, by rw [show zs (M ++ [y]) = zs M ++ [(y : Int)] by simp [zs]]; exact ho13, HN2, by simp; omega, hk12⟩
       case measure => simp [intOf]; try omega
     · obtain rfl : nt = j := by omega
       have HMF : Hid (M = T.map fun k => S.getD k 0) := by
        have := HMM.out
        rw [← HNT.out, List.take_length] at this
        exact this
       have hbw := belowP (belowP hB2 HB5.out) hX5
       have hz0 := hb0.size
       have hz1 := hB2.size
       have hz3 := HB3.out
       go_wp2
       go_ret
       refine ⟨T, HT1.out, _, rfl, ?_, belowP hb0 hbw⟩
       rw [← HMF.out]
       exact own_le hown (by omega)
noncomputable def byV (p : Pa) (l : List Int) : List Int :=
 if rightT p = true then zs (((lin (parM p (thereT p.evs.length l)) (rnkM p (thereT p.evs.length l))).getD []).map fun k => (thereT p.evs.length l).getD k 0) else []
theorem byV_not {p : Pa} {l : List Int} (h : rightT p = false) : byV p l = [] := by unfold byV; rw [if_neg (by rw [h]; simp)]
theorem byV_ok {p : Pa} {l : List Int} {T' : List Nat} (h : rightT p = true) (hT : lin (parM p (thereT p.evs.length l)) (rnkM p (thereT p.evs.length l)) = some T') : byV p l = zs (T'.map fun k => (thereT p.evs.length l).getD k 0) := by unfold byV; rw [if_pos h, hT]; rfl
theorem byV_len (p : Pa) (l : List Int) : (byV p l).length ≤ p.evs.length := by
 cases hr : rightT p with
 | false => rw [byV_not hr]; simp
 | true =>
  have hQ : BackQ (toQ p.auth) := (back_of (right_parts hr).2.1).2.1
  obtain ⟨T, hT, _⟩ := linM (p := p) hQ (there_rises p.evs.length l)
  rw [byV_ok hr hT, zs_len, List.length_map, (lin_fit hT).2]
  unfold parM
  rw [List.length_map, List.length_range]
  exact there_len _ _
theorem byPower_any {O : Nat → Prop} {w : World} {p : Pa} {q : Pq} {l : List Int} {pl : Option Addr} {cl : Nat} (h : IsPa (· < w.heap.size) w p q) (hz : SzPa p) (hs : SzEs p) (hl : RdI O w pl cl l) (hO : ∀ k, O k → k < w.heap.size) (hll : l.length ≤ 1000) :
    Calls Tryz.prog 21 #[valPa p q, .slice pl l.length cl] w (RowP (byV p l) w) := by
 cases hr : rightT p with
 | false => rw [byV_not hr]; exact byPower_not h hz hr
 | true =>
  have hQ : BackQ (toQ p.auth) := (back_of (right_parts hr).2.1).2.1
  obtain ⟨T', hT', _⟩ := linM (p := p) hQ (there_rises p.evs.length l)
  rw [byV_ok hr hT']
  refine (byPower_ok h hz hs hr hl hO hll).mono fun e w' hh => ?_
  obtain ⟨L, T, hL, hT, hrow⟩ := hh
  rw [byp_same hr hL hT hT'] at hrow
  exact hrow
theorem rbyPower_not {w : World} {p : Pa} {q : Pq} {pl : Option Addr} {nl cl : Nat} (h : IsPa (· < w.heap.size) w p q) (hz : SzPa p) (hr : rightT p = false) :
    Calls Tryz.prog 22 #[valPa p q, .slice pl nl cl] w (RowP [] w) := by
 obtain ⟨W0, hW0⟩ : ∃ W0, W0 = w.alloc (.cells (cellsPa p q).toArray 27) := ⟨_, rfl⟩
 have hb0 : Below w.heap.size w W0 := by rw [hW0]; exact (Below.refl _ _).alloc (Nat.le_refl _) _
 have V : IsVP W0 w.heap.size p q := by rw [hW0]; exact isVP_new h
 have hR := rright_any V.pa hz
 have hl := V.load
 rw [hr] at hR
 clear V h hz hr
 unfold valPa at *
 generalize cellsPa p q = CP at *
 go_enter Tryz.func22, Tryz.ntmps22
 go_upto_region 1 with fail
 rw [← hW0]
 clear hW0
 go_wp2_with (first
  | (refine wpList_loadK rfl 27 _ rfl w.heap.size 0 rfl CP hl ?_)
  | (go_at_call 11; refine hR.mono ?_; rintro e w1 ⟨rfl, hb1⟩))
 go_ret
 exact ⟨_, rfl, World.ownsRow_nil _ _ _ _, belowP hb0 hb1⟩
theorem rbyPower_any {O : Nat → Prop} {w : World} {p : Pa} {q : Pq} {l : List Int} {pl : Option Addr} {cl : Nat} (h : IsPa (· < w.heap.size) w p q) (hz : SzPa p) (hs : SzEs p) (hc13 : ∀ e ∈ p.evs, szJ 13 e.content = true) (hl : RdI O w pl cl l) (hO : ∀ k, O k → k < w.heap.size) (hll : l.length ≤ 1000) :
    Calls Tryz.prog 22 #[valPa p q, .slice pl l.length cl] w (RowP (byV p l) w) := by
 cases hr : rightT p with
 | false => rw [byV_not hr]; exact rbyPower_not h hz hr
 | true =>
  refine (rbyPower_ok h hz hs hc13 hr hl hO hll).mono fun e w' hh => ?_
  obtain ⟨T', hT', hrow⟩ := hh
  rw [byV_ok hr hT']
  exact hrow
theorem FewPa.s13 {p : Pa} (h : FewPa p) : ∀ e ∈ p.evs, szJ 13 e.content = true := fun e he => sz_less 13 20 _ (by decide) (h.ev e he).cont
end Go.Proofs.YtimhpglfolbomaaGreat.Od

/-
  The line of an event, as the program tells it: by a contract.
  Chain and Level, as the program tells them: by contracts.
  The example of ranks.
  The example of ranks: what is told of it.
  A region that draws its order: what holds of what was done so far, whatever was done first.
  The example of ranks, as the statements make it: by a contract. The rows are made in whatever order.
  The statements' own same, of ranks: by a contract.
  The examples of ranks hold: by a contract.
-/
import Derived.Test.YtimhpglfolbomabGreatRL14
import Derived.Great.BuildSlice
import Derived.Great.Frames
import Derived.Laws.MakeOwn
set_option maxRecDepth 100000
set_option maxHeartbeats 16000000
namespace Go.Proofs.YtimhpglfolbomabGreat.Od
open Go.RowKit Go.Maps Go.Shelf
section
attribute [local go_sem] Oper.semAt_some
def lineV (p : Pa) (i : Int) : List Nat := if rightT p then wayT p i else []
structure LineI (WR : World) (t : Nat) (pre : List Nat) (W : World) : Prop where
 keep : Keep (fun k => k = t ∨ t + 3 ≤ k) WR W
 gone : ∃ v, W.heap[t]? = some (.cells #[v] 28 (0, 0)) ∧ W.ownsRow (t + 3) 3 1 v (zs (pre.map (· % 64))).length ((zs (pre.map (· % 64))).map (Value.int .i64))
theorem lineI_own (WR : World) (t : Nat) : OwnFrom (t + 3) (LineI WR t) := fun pre A B row hs hg hr => by
 obtain ⟨v, hv, ho⟩ := hs.gone
 exact ⟨keep_own (β := Unit) (fun k hk => .inr hk) () A B row hs.keep hg hr, v, obj_own hv (by omega) hg hr, row_own ho hg hr⟩
theorem three_at {w : World} {t : Nat} (hs : w.heap.size = t) (o0 o1 o2 : Obj) {W : World} (hW : W = ((w.alloc o0).alloc o1).alloc o2) :
    Below t w W ∧ W.heap.size = t + 3 ∧ W.heap[t]? = some o0 ∧ W.heap[t + 1]? = some o1 ∧ W.heap[t + 2]? = some o2 := by
 have s1 : (w.alloc o0).heap.size = t + 1 := by rw [World.size_alloc, hs]
 have s2 : ((w.alloc o0).alloc o1).heap.size = t + 2 := by rw [World.size_alloc, s1]
 subst hW
 refine ⟨?_, by rw [World.size_alloc, s2], at_alloc (at_alloc (new_at _ _ hs)), at_alloc (new_at _ _ s1), new_at _ _ s2⟩
 rw [← hs]
 exact (((Below.refl _ w).alloc (Nat.le_refl _) _).alloc (by omega) _).alloc (by omega) _
theorem leaves_none {fn : Func} {tmps : Array Value} {r : Tmp} {R : Ending → World → Prop} (hf : fn.results = #[.tmp r]) {W : World} {v : Value} (ht : tmps.getD r undef = v) (hR : R (.returned v) W) : LeavesInM Fence.wide 3 Tryz.prog fn tmps R [] .returning W := by
 refine ⟨v, ?_, hR⟩
 rw [Array.getD_eq_getD_getElem?] at ht
 simp [results, hf, ht]
theorem line_any {w : World} {p : Pa} {q : Pq} (h : IsPa (· < w.heap.size) w p q) (hz : SzPa p) (i : Int) :
    Calls Tryz.prog 15 #[valPa p q, .int .i64 i] w (RowP (zs (lineV p i)) w) := by
 obtain ⟨W0, hW0⟩ : ∃ W0, W0 = w.alloc (.cells (cellsPa p q).toArray 27) := ⟨_, rfl⟩
 have hb0 : Below w.heap.size w W0 := by rw [hW0]; exact (Below.refl _ _).alloc (Nat.le_refl _) _
 have V : IsVP W0 w.heap.size p q := by rw [hW0]; exact isVP_new h
 have hs0 : W0.heap.size = w.heap.size + 1 := by rw [hW0]; simp only [World.size_alloc]
 have hR := right_any V.pa hz
 have HLD : Hid (∀ X, Below W0.heap.size W0 X → (Instr.loadAt 27 (.pointer (some ⟨w.heap.size, 0, none⟩))).run Tryz.prog X = .ok (.agg (cellsPa p q).toArray) X) := fun X hX => (V.below hX).load
 have HLV : Hid (lineV p i = if rightT p then wayT p i else []) := rfl
 have HPA : Hid (IsPa (· < w.heap.size) w p q) := h
 have HWF : Hid (∀ X : World, Calls Tryz.prog 38 #[.agg (cellsPa p q).toArray, .int .i64 i] X fun e w' => e = .returned (.func (.func 68) #[] #[.pointer (some ⟨X.heap.size + 1, 0, none⟩), .pointer (some ⟨X.heap.size, 0, none⟩)]) ∧ w' = (X.alloc (.cells (cellsPa p q).toArray 27)).alloc (.cells #[.int .i64 i] 3)) := fun X => way_fn i
 clear V h
 unfold valPa at hR ⊢
 obtain ⟨CP, hCP⟩ : ∃ CP, cellsPa p q = CP := ⟨_, rfl⟩
 have HCP : Hid (cellsPa p q = CP) := hCP
 rw [hCP] at hR HLD HWF hW0 ⊢
 clear hCP
 refine callsIn_wide.1 (callsIn_of_wp_marks (n := 3) Tryz.func15 rfl trivial (wpIn_wide.2 ?_) rfl)
 simp only [Tryz.ntmps15, List.size_toArray, List.length_cons, List.length_nil, Nat.reduceAdd, Nat.reduceSub, Array.replicate_succ, Array.replicate_zero, List.push_toArray, List.append_toArray, List.nil_append, List.cons_append]
 go_upto_region 1 with fail
 rw [← hW0]
 clear hW0
 cases hr : rightT p with
 | false =>
  have HL2 : Hid (lineV p i = []) := by show _ = _; rw [HLV.out, hr]; rfl
  rw [hr] at hR
  clear hr HLV
  go_wp2_with (first
   | (refine wpList_loadK rfl 27 _ rfl w.heap.size 0 rfl CP (HLD.out _ (Below.refl _ _)) ?_)
   | (go_at_call 13; refine hR.mono ?_; rintro e w1 ⟨rfl, hb1⟩))
  refine leaves_none rfl rfl ⟨_, rfl, ?_, belowP hb0 hb1⟩
  rw [HL2.out]
  exact World.ownsRow_nil _ _ _ _
 | true =>
  have HL2 : Hid (lineV p i = wayT p i) := by show _ = _; rw [HLV.out, hr]; rfl
  have hba := (right_parts hr).2.1
  have HSM : Hid (∀ x ∈ wayT p i, x < 64) := fun x hx => by have := way_small hba i x hx; have := hz.evs; omega
  rw [hr] at hR
  clear hr HLV
  go_upto_region 3 with (first
   | (refine wpList_loadK rfl 27 _ rfl w.heap.size 0 rfl CP (HLD.out _ (Below.refl _ _)) ?_)
   | (go_at_call 13; refine hR.mono ?_; rintro e w1 ⟨rfl, hb1⟩))
  clear hR
  have HB1 : Hid (Below W0.heap.size W0 w1) := hb1
  have hst := hb1.size
  obtain ⟨t, ht⟩ : ∃ t, w1.heap.size = t := ⟨_, rfl⟩
  obtain ⟨WR, hWR⟩ : ∃ WR, WR = ((w1.alloc (.cells #[.slice none 0 0] 28)).alloc (.cells CP.toArray 27)).alloc (.cells #[.int .i64 i] 3) := ⟨_, rfl⟩
  obtain ⟨hbR, hsR, q0, q1, q2⟩ := three_at ht _ _ _ hWR
  have HB : Hid (WR.heap[t]? = some (.cells #[.slice none 0 0] 28 (0, 0)) ∧ WR.heap[t + 1]? = some (.cells CP.toArray 27 (0, 0)) ∧ WR.heap[t + 2]? = some (.cells #[.int .i64 i] 3 (0, 0))) := ⟨q0, q1, q2⟩
  have HWR : Hid (WR = ((w1.alloc (.cells #[.slice none 0 0] 28)).alloc (.cells CP.toArray 27)).alloc (.cells #[.int .i64 i] 3)) := hWR
  have HT : Hid (w1.heap.size = t) := ht
  clear q0 q1 q2 hWR hb1
  go_upto_region 4 with fail
  obtain ⟨W3, hW3⟩ : ∃ W3, W3 = w1.alloc (.cells #[.slice none 0 0] 28) := ⟨_, rfl⟩
  rw [← hW3]
  have HW3 : Hid (WR = (W3.alloc (.cells CP.toArray 27)).alloc (.cells #[.int .i64 i] 3)) := by show _ = _; rw [HWR.out, hW3]
  have hs3 : W3.heap.size = t + 1 := by rw [hW3, World.size_alloc, HT.out]
  have hB3 : Below W0.heap.size W0 W3 := by rw [hW3]; exact belowP HB1.out ((Below.refl _ _).alloc (Nat.le_refl _) _)
  clear hW3 HWR
  go_wp2_with (first
   | (refine wpList_loadK rfl 27 _ rfl w.heap.size 0 rfl CP (HLD.out _ hB3) ?_)
   | (go_at_call 38; refine (HWF.out _).mono ?_; rintro e w2 ⟨rfl, hw2⟩; have HW2 := (show Hid _ from hw2); clear hw2))
  have e1 : w2 = WR := HW2.out.trans HW3.out.symm
  rw [e1]
  clear e1 hs3 HW2 HW3 hB3
  simp only [Nat.add_assoc, Nat.reduceAdd]
  refine (wpIn_wide (n := 3)).1 ?_
  have hBW : Below w.heap.size w WR := belowP hb0 (belowP HB1.out (by rw [HT.out]; exact hbR))
  have HP : Hid (∀ k, (k < w.heap.size ∨ k = t + 1 ∨ k = t + 2) → k < WR.heap.size) := fun k hk => by omega
  have hRP : IsPa (fun k => k < w.heap.size ∨ k = t + 1 ∨ k = t + 2) WR p q := HPA.out.carry fun k hk => ⟨.inl hk, hBW.block k hk⟩
  refine wpIn_rangeFunc_ownH rfl (by omega) (gf := 68) (lb := #[.pointer (some ⟨t + 2, 0, none⟩), .pointer (some ⟨t + 1, 0, none⟩)]) rfl trivial (enters_of Tryz.func68 (by kernel_rfl) rfl)
   (way_seq (3 - 1) (t + 2) (t + 1) (by omega) i hRP HP.out hz hba (cellP HB.out.2.2 0 _ rfl) (by have := HB.out.2.1; rw [HCP.out]; exact this) (.inr (.inr rfl)) (.inr (.inl rfl)))
   LayP.trans (fun W l o o' hl _ _ _ => LayP.putObj HP.out W l o' hl) (Below.refl _ _) (fun _ => rfl)
   (LineI WR t) (fun _ _ _ => False) (hsR ▸ lineI_own WR t) (fun c _ _ _ _ h => h.elim)
   ⟨Keep.refl _ _, _, HB.out.1, World.ownsRow_nil _ _ _ _⟩
   (fun x a' _ => ∃ u, u = ((x % 64 : Nat) : Int) ∧ a' = { tmps := #[.agg CP.toArray, .int .i64 i, .pointer (some ⟨w.heap.size, 0, none⟩), undef, .slice none 0 0, .pointer (some ⟨t, 0, none⟩), .int .i64 u, .agg CP.toArray, .bool true, .bool false, .agg CP.toArray, .int .i64 i, .func (.func 68) #[] #[.pointer (some ⟨t + 2, 0, none⟩), .pointer (some ⟨t + 1, 0, none⟩)], .int .i64 u, undef, undef, undef, undef, undef], defers := [] })
   (fun x a' => ownFrom_pure _ (fun _ => ∃ u, u = ((x % 64 : Nat) : Int) ∧ a' = { tmps := #[.agg CP.toArray, .int .i64 i, .pointer (some ⟨w.heap.size, 0, none⟩), undef, .slice none 0 0, .pointer (some ⟨t, 0, none⟩), .int .i64 u, .agg CP.toArray, .bool true, .bool false, .agg CP.toArray, .int .i64 i, .func (.func 68) #[] #[.pointer (some ⟨t + 2, 0, none⟩), .pointer (some ⟨t + 1, 0, none⟩)], .int .i64 u, undef, undef, undef, undef, undef], defers := [] }))
   ?assign ?body ?done ?stop
  case assign =>
   intro l pre x W K hI hK
   have HK : Hid (∀ a' W', KeepsFrom WR.heap.size W W' → LayP (fun k => k < w.heap.size ∨ k = t + 1 ∨ k = t + 2) W W' → LineI WR t pre W' → _ → K a' W') := hK
   clear hK
   gi_wp2
   exact HK.out _ W (KeepsFrom.refl _ _) (LayP.refl _ _) hI ⟨_, rfl, rfl⟩
  case body =>
   rintro l pre x a' W _ _ hI ⟨u, hu, rfl⟩ hlen
   have hk := hI.keep
   have hsW := hk.size
   obtain ⟨v, hv, ho⟩ := hI.gone
   have HU : Hid (u = ((x % 64 : Nat) : Int)) := hu
   obtain ⟨L, hL⟩ : ∃ L, zs (pre.map (· % 64)) = L := ⟨_, rfl⟩
   have HL : Hid (zs (pre.map (· % 64)) = L) := hL
   have hLn : L.length ≤ 1000 := by rw [← hL, zs_len, List.length_map]; omega
   rw [hL] at ho
   have HV : Hid (W.heap[t]? = some (.cells #[v] 28 (0, 0))) := hv
   have g0 := cellP hv 0 _ rfl
   have HKW : Hid (Keep (fun k => k = t ∨ t + 3 ≤ k) WR W) := hk
   clear hI hk hv hu hL
   gi_wp2_with (first
    | (gi_at_builtin; refine wpListIn_pushI rfl _ _ rfl (t + 3) v L rfl ?a0 _ u rfl ?a1 ?a2 ?a3 ?_))
   case a0 => exact ho.alloc _
   case a1 => exact cellP (newP _) 0 _ rfl
   case a2 => omega
   case a3 => simp only [World.size_alloc]; omega
   intro v' w5 ho5a hg5
   have ho5 := own_snoc ho5a
   clear ho5a
   obtain ⟨q5, c5, rfl, _⟩ := own_rd ho5
   have hlt := objP_lt HV.out
   have h5 : ∀ k, k < W.heap.size → k < t + 3 → w5.heap[k]? = W.heap[k]? := fun k hk hk6 => (hg5.block k (by simp only [World.size_alloc]; omega) (fun e => by have := (ho.lt k e.symm).1; omega)).trans (Below.heap_alloc _ _ _ hk)
   have h53 := (h5 t hlt (by omega)).trans HV.out
   have r0 := cellP h53 0 _ rfl
   have rz := fzP h53 0
   have H5 : Hid (∀ k, k < W.heap.size → k < t + 3 → w5.heap[k]? = W.heap[k]?) := h5
   have HG5 : Hid ((W.alloc (.cells #[.int .i64 u] 3)).grownBy w5 v.ownBlock) := hg5
   have HO5 : Hid (w5.ownsRow (t + 3) 3 1 (.slice q5 (L ++ [u]).length c5) (L ++ [u]).length ((L ++ [u]).map (Value.int .i64))) := ho5
   have H53 : Hid (w5.heap[t]? = some (.cells #[v] 28 (0, 0))) := h53
   clear h5 h53 hg5 ho5
   gi_wp2
   have hgs := HG5.out.size
   simp only [World.size_alloc] at hgs
   have hkp : Keep (fun k => k = t ∨ t + 3 ≤ k) W w5 := ⟨HG5.out.os, HG5.out.tape, HG5.out.output, by omega, fun k hk hn => H5.out k hk (by omega)⟩
   have hkf : KeepsFrom WR.heap.size W w5 := ((KeepsOthers.alloc W _).trans (KeepsOthers.of_grownBy HG5.out fun j o hj ho' => by
    exact row_cells (ho.alloc (.cells #[.int .i64 u] 3)) hj ho')).from _
   refine ⟨hkf.trans ((KeepsOthers.setCell _ _ _).from _), ⟨by simp only [World.size_setCell]; omega, fun k hk => ?_⟩, ⟨(HKW.out.trans hkp fun _ _ h => h).setCell (fun _ => .inl rfl) _, ⟨_, box_set _ H53.out, ?_⟩⟩⟩
   · rw [Below.heap_setCell _ _ _ _ (by show k ≠ t; have := hb0.size; omega)]
     exact H5.out k (by omega) (by omega)
   · have e : zs ((pre ++ [x]).map (· % 64)) = L ++ [u] := by rw [List.map_append, List.map_singleton, ← HL.out, HU.out]; simp [zs]
     rw [e]
     have e2 : (L ++ [u]).length = L.length + 1 := by simp
     have h6 := HO5.out
     rw [e2] at h6 ⊢
     exact ownsRow_setCell_below (a := ⟨t, 0, none⟩) h6 (by show t < t + 3; omega) _
  case done =>
   intro D xs W hD hxs hI hD2
   have hk := hI.keep
   obtain ⟨v, hv, ho⟩ := hI.gone
   rw [hxs, mod_small HSM.out, ← HL2.out] at ho
   have g0 := cellP hv 0 _ rfl
   have HO : Hid (W.ownsRow (t + 3) 3 1 v (zs (lineV p i)).length ((zs (lineV p i)).map (Value.int .i64))) := ho
   have HKD : Hid (Keep (fun k => k = t ∨ t + 3 ≤ k) WR W) := hk
   have HD2 : Hid (W.heap[D]? = some (.deferred (some []))) := hD2
   have HBW : Hid (Below w.heap.size w WR) := hBW
   clear hI hk hv ho hD2 hxs hRP hBW hbR
   go_wp2
   refine leaves_mark1 rfl rfl HD2.out ⟨_, rfl, ?_, ?_⟩
   · exact own_le (ownsRow_putObj HO.out _ HD2.out rfl) (by have := hb0.size; omega)
   · have hk := HKD.out
     have hbw := HBW.out
     have h0 := hb0.size
     refine ⟨hk.os.trans hbw.os, hk.tape.trans hbw.tape, hk.output.trans hbw.output, ?_, fun k h1 => ?_⟩
     · have := hk.size
       have := hbw.size
       unfold World.putObj
       simp
       omega
     · rw [← (hk.block k (by have := hbw.size; omega) (by omega)).trans (hbw.block k h1)]
       unfold World.putObj
       simp only [Array.getElem?_setIfInBounds]
       rw [if_neg (by omega)]
  case stop =>
   rintro D c pre W hD hpre hF hD2
   exact hF.elim
end
def levelV (p : Pa) (i : Int) : Int := if rightT p && decide (0 ≤ i ∧ i < (p.evs.length : Int)) then levelT p i.toNat else 0
theorem level_top {w : World} {p : Pa} {q : Pq} (h : IsPa (· < w.heap.size) w p q) (hz : SzPa p) (hs : SzEs p) (i : Int) :
    Calls Tryz.prog 26 #[valPa p q, .int .i64 i] w fun e w' => e = .returned (.int .i64 (levelV p i)) ∧ Below w.heap.size w w' := by
 obtain ⟨W0, hW0⟩ : ∃ W0, W0 = w.alloc (.cells (cellsPa p q).toArray 27) := ⟨_, rfl⟩
 have hb0 : Below w.heap.size w W0 := by rw [hW0]; exact (Below.refl _ _).alloc (Nat.le_refl _) _
 have V : IsVP W0 w.heap.size p q := by rw [hW0]; exact isVP_new h
 have hR := right_any V.pa hz
 have HLD : Hid (∀ X, Below W0.heap.size W0 X → (Instr.loadAt 27 (.pointer (some ⟨w.heap.size, 0, none⟩))).run Tryz.prog X = .ok (.agg (cellsPa p q).toArray) X) := fun X hX => (V.below hX).load
 have HHA : Hid (∀ X, Below W0.heap.size W0 X → Calls Tryz.prog 48 #[.agg (cellsPa p q).toArray, .int .i64 i] X fun e w' => e = .returned (.bool (decide (0 ≤ i ∧ i < (p.evs.length : Int)))) ∧ Below X.heap.size X w') := fun X hX => has_any (V.below hX).pa i
 have HLE : Hid (rightT p = true → (0 ≤ i ∧ i < (p.evs.length : Int)) → ∀ X, Below W0.heap.size W0 X → Calls Tryz.prog 31 #[.agg (cellsPa p q).toArray, .int .i64 i] X fun e w' => e = .returned (.int .i64 (levelT p i.toNat)) ∧ Below X.heap.size X w') := fun hr hi X hX => by
  obtain ⟨x, rfl⟩ := Int.eq_ofNat_of_zero_le hi.1
  exact level_any (V.below hX).pa hz hs (right_parts hr).2.1 x (by omega)
 have HLV : Hid (levelV p i = if rightT p && decide (0 ≤ i ∧ i < (p.evs.length : Int)) then levelT p i.toNat else 0) := rfl
 clear V h hz hs
 unfold valPa at hR ⊢
 generalize levelV p i = R at HLV ⊢
 generalize levelT p i.toNat = LT at HLV HLE
 generalize cellsPa p q = CP at hR HLD HHA HLE hW0 ⊢
 go_enter Tryz.func26, Tryz.ntmps26
 go_upto_region 1 with fail
 rw [← hW0]
 clear hW0
 cases hr : rightT p with
 | false =>
  have HR2 : Hid (R = 0) := by show _ = _; rw [HLV.out, hr]; rfl
  rw [hr] at hR
  clear hr
  go_wp2_with (first
   | (refine wpList_loadK rfl 27 _ rfl w.heap.size 0 rfl CP (HLD.out _ (Below.refl _ _)) ?_)
   | (go_at_call 13; refine hR.mono ?_; rintro e w1 ⟨rfl, hb1⟩))
  go_ret
  exact ⟨by rw [HR2.out]; rfl, belowP hb0 hb1⟩
 | true =>
  rw [hr] at hR
  by_cases hi : 0 ≤ i ∧ i < (p.evs.length : Int)
  · have HR2 : Hid (R = LT) := by show _ = _; rw [HLV.out, hr, decide_eq_true hi]; rfl
    have HL2 := (show Hid _ from HLE.out hr hi)
    rw [decide_eq_true hi] at HHA
    clear hr hi HLE HLV
    go_upto_region 3 with (first
     | (refine wpList_loadK rfl 27 _ rfl w.heap.size 0 rfl CP (HLD.out _ (Below.refl _ _)) ?_)
     | (refine wpList_load_midg (by kernel_rfl) 27 _ rfl w.heap.size 0 rfl CP (HLD.out _ hb1) ?_)
     | (go_at_call 13; refine hR.mono ?_; rintro e w1 ⟨rfl, hb1⟩)
     | (go_at_call 48; refine (HHA.out _ hb1).mono ?_; rintro e w2 ⟨rfl, hb2⟩))
    go_wp2_with (first
     | (refine wpList_loadK rfl 27 _ rfl w.heap.size 0 rfl CP (HLD.out _ (belowP hb1 hb2)) ?_)
     | (go_at_call 31; refine (HL2.out _ (belowP hb1 hb2)).mono ?_; rintro e w3 ⟨rfl, hb3⟩))
    go_ret
    exact ⟨by rw [HR2.out]; rfl, belowP hb0 (belowP (belowP hb1 hb2) hb3)⟩
  · have HR2 : Hid (R = 0) := by show _ = _; rw [HLV.out, hr, decide_eq_false hi]; rfl
    rw [decide_eq_false hi] at HHA
    clear hr hi HLE HLV
    go_wp2_with (first
     | (refine wpList_loadK rfl 27 _ rfl w.heap.size 0 rfl CP (HLD.out _ (Below.refl _ _)) ?_)
     | (refine wpList_load_midg (by kernel_rfl) 27 _ rfl w.heap.size 0 rfl CP (HLD.out _ hb1) ?_)
     | (go_at_call 13; refine hR.mono ?_; rintro e w1 ⟨rfl, hb1⟩)
     | (go_at_call 48; refine (HHA.out _ hb1).mono ?_; rintro e w2 ⟨rfl, hb2⟩))
    go_ret
    exact ⟨by rw [HR2.out]; rfl, belowP hb0 (belowP hb1 hb2)⟩
end Go.Proofs.YtimhpglfolbomabGreat.Od
namespace Go.Proofs.YtimhpglfolbomabGreat.Od
open Go.RowKit Go.Maps
abbrev kCr : ByteArray := ⟨#[109, 46, 114, 111, 111, 109, 46, 99, 114, 101, 97, 116, 101]⟩
abbrev kPo : ByteArray := ⟨#[109, 46, 114, 111, 111, 109, 46, 112, 111, 119, 101, 114, 95, 108, 101, 118, 101, 108, 115]⟩
abbrev uSA : ByteArray := ⟨#[64, 97, 58, 115]⟩
abbrev uSB : ByteArray := ⟨#[64, 98, 58, 115]⟩
abbrev smpC : Ev := ⟨nix, kCr, uSA, true, nix, .mk 0 0 nix [] [], [], [], 0, 0, nix, []⟩
abbrev smpX : Ev := ⟨nix, kPo, uSB, true, nix, .mk 5 0 nix [] [], [], [], 0, 0, nix, []⟩
abbrev smpY : Ev := ⟨nix, kPo, uSA, true, nix, .mk 5 0 nix [] [], [], [], 0, 0, nix, []⟩
abbrev smpP : Pa := ⟨[⟨#[99]⟩, ⟨#[120]⟩, ⟨#[121]⟩], [smpC, smpX, smpY], [[], [], []], [[], [0], [0]], [false, false, false]⟩
theorem smp_sz : SzPa smpP := ⟨by decide, by decide, by decide, by decide, by decide, by decide, by decide⟩
theorem smp_right : rightT smpP = true := by kernel_rfl
theorem smp_l2 : levelT smpP 2 = 100 := by kernel_rfl
theorem smp_l1 : levelT smpP 1 = 0 := by kernel_rfl
theorem smp_v2 : levelV smpP 2 = 100 := by kernel_rfl
theorem smp_v1 : levelV smpP 1 = 0 := by kernel_rfl
theorem smp_px : powersT smpX = true := by kernel_rfl
theorem smp_pc : powersT smpC = false := by kernel_rfl
theorem smp_near : nearV smpP [] 1 = 0 := by kernel_rfl
theorem smp_there : thereT smpP.evs.length [1, 2] = [1, 2] := by kernel_rfl
theorem smp_q : toQ smpP.auth = [[], [0], [0]] := by kernel_rfl
theorem smp_back : BackQ (toQ smpP.auth) := (back_of (right_parts smp_right).2.1).2.1
theorem smp_th : thT (toQ smpP.auth) [1, 2] 3 = [0, 1, 2] := by
 have hS : ∀ x ∈ ([1, 2] : List Nat), x < 3 := by decide
 refine riseN_ext (thT_rises _ _ _) (by decide) fun x => ?_
 rw [thT_mem smp_back hS]
 constructor
 · intro h
   have hx : x < 3 := h.elim (hS x) (ch_lt smp_back hS)
   have : x = 0 ∨ x = 1 ∨ x = 2 := by omega
   rcases this with rfl | rfl | rfl <;> decide
 · intro h
   have h' : x = 0 ∨ x = 1 ∨ x = 2 := by simpa using h
   rcases h' with rfl | rfl | rfl
   · exact .inr (.one (k := 1) (by decide) (by rw [smp_q]; decide))
   · exact .inl (by decide)
   · exact .inl (by decide)
theorem smp_rkd {L : List Nat} (h : Rkd (levelT smpP) smpP [1, 2] L) : L = [2, 1] := by
 refine h.uniq ⟨List.Perm.swap _ _ _, ?_⟩
 rw [List.pairwise_cons]
 refine ⟨fun a ha => ?_, List.pairwise_singleton _ _⟩
 obtain rfl : a = 1 := by simpa using ha
 refine .inl ?_
 rw [smp_l2, smp_l1]
 decide
theorem smp_byp {w w' : World} {e : Ending} (h : ByPP smpP [1, 2] w e w') : RowP [2, 1] w e w' := by
 obtain ⟨L, T, h1, h2, h3⟩ := h
 have e1 := smp_rkd h1
 subst e1
 rw [show smpP.evs.length = 3 from rfl, smp_th] at h2 h3
 rw [smp_q] at h2
 have e2 : lin (rwsT [[], [0], [0]] [0, 1, 2]) (rkT [2, 1] [0, 1, 2]) = some [0, 2, 1] := by kernel_rfl
 rw [e2] at h2
 obtain rfl : [0, 2, 1] = T := by simpa using h2
 have e3 : zs (toldT [0, 1, 2] (rkT [2, 1] [0, 1, 2]) [0, 2, 1]) = [2, 1] := by kernel_rfl
 rw [e3] at h3
 exact h3
end Go.Proofs.YtimhpglfolbomabGreat.Od
namespace Go.Proofs.YtimhpglfolbomabGreat
open Go
def unl (l : Array Bool) : Nat := l.toList.count false
theorem unl_set {l : Array Bool} {i : Nat} (h : l.getD i true = false) : unl (l.setIfInBounds i true) < unl l := by
 have hi : i < l.size := by
  refine Classical.byContradiction fun hn => ?_
  rw [Array.getD_eq_getD_getElem?, Array.getElem?_eq_none (by omega)] at h
  cases h
 have hv : l.toList[i]'(by simpa using hi) = false := by
  rw [Array.getD_eq_getD_getElem?, Array.getElem?_eq_getElem hi] at h
  simpa using h
 unfold unl
 have hp : 0 < l.toList.count false := List.count_pos_iff.2 (by rw [← hv]; exact List.getElem_mem _)
 rw [Array.toList_setIfInBounds, List.count_set (by simpa using hi), hv]
 rw [show (false == false) = true from rfl, show (true == false) = false from rfl]
 simp only [if_true, Bool.false_eq_true, if_false]
 omega
theorem unl_none {l : Array Bool} (h : unl l = 0) (i : Nat) : l.getD i true = true := by
 cases hv : l.getD i true with
 | true => rfl
 | false => have := unl_set hv; omega
section
variable {P : Program} {ops : Array Oper} {Q : Exit → Act → World → Prop} {md : Region.Mode} {C : World → Prop}
theorem wpIn_inv (J : Array Bool → Act → World → Prop) (hC : ∀ l a w, J l a w → C w)
    (hstep : ∀ l a w i o, J l a w → ops[i]? = some o → l.getD i true = false → (∀ e ∈ o.after, Region.binds md e = true → l.getD e.on false = true) →
     Region.wanted o (yielded ops a.tmps) = true ∧ ∀ K' : Act → World → Prop, (∀ a w, J (l.setIfInBounds i true) a w → K' a w) → Oper.wp P o a w K' Q)
    (hend : ∀ l a w, J l a w → Region.ready md ops l = [] → Q .normal a w) :
    ∀ n l a w, unl l ≤ n → J l a w → wpIn P md ops Q C n l a w
 | 0, l, a, w, hn, hJ => by
  have hr : Region.ready md ops l = [] := by
   refine List.eq_nil_iff_forall_not_mem.2 fun j hj => ?_
   have h0 := (mem_ready.1 hj).1
   rw [unl_none (by omega) j] at h0
   cases h0
  exact ⟨hC _ _ _ hJ, hr, hend _ _ _ hJ hr⟩
 | n + 1, l, a, w, hn, hJ => ⟨hC _ _ _ hJ, hend _ _ _ hJ, fun i hi => by
  obtain ⟨h0, o, ho, hall⟩ := mem_ready.1 hi
  obtain ⟨hw, hs⟩ := hstep l a w i o hJ ho h0 hall
  unfold wpOp
  rw [ho]
  simp only
  rw [if_pos hw]
  refine .inl (hs _ fun a' w' hJ' => wpIn_inv J hC hstep hend n _ a' w' ?_ hJ')
  have := unl_set h0
  omega⟩
theorem ready_all {l : Array Bool} (hsz : l.size = ops.size) (hb : (List.range ops.size).all (fun i => ((ops[i]?).map fun o => o.after.all fun e => decide (e.on < i)).getD true) = true) (hr : Region.ready md ops l = []) : ∀ i, l.getD i true = true := by
 intro i
 induction i using Nat.strongRecOn with
 | _ i ih =>
  refine Classical.byContradiction fun hn => ?_
  have h0 : l.getD i true = false := by simpa using hn
  have hi : i < l.size := by
   refine Classical.byContradiction fun hc => ?_
   rw [Array.getD_eq_getD_getElem?, Array.getElem?_eq_none (by omega)] at h0
   cases h0
  have hi2 : i < ops.size := by omega
  have ho : ops[i]? = some ops[i] := Array.getElem?_eq_getElem hi2
  have h1 := List.all_eq_true.1 hb i (List.mem_range.2 hi2)
  rw [ho] at h1
  simp only [Option.map_some, Option.getD_some] at h1
  have hm : i ∈ Region.ready md ops l := mem_ready.2 ⟨h0, _, ho, fun e he _ => by
   have h2 := Array.all_eq_true_iff_forall_mem.1 h1 e he
   have hlt : e.on < i := by simpa using h2
   have h3 := ih e.on hlt
   have hl : e.on < l.size := by omega
   rw [Array.getD_eq_getD_getElem?, Array.getElem?_eq_getElem hl] at h3 ⊢
   simpa using h3⟩
  rw [hr] at hm
  cases hm
end
end Go.Proofs.YtimhpglfolbomabGreat
namespace Go.Proofs.YtimhpglfolbomabGreat.Od
open Go.RowKit Go.Maps
def Ob (b : Nat) (w : World) (k : Nat) : Prop := k < w.heap.size ∧ k ≠ b
theorem Ob.same {b : Nat} {w w' : World} (h : Keep (· = b) w w') : Same (Ob b w) w w' := fun k hk => h.block k hk.1 hk.2
theorem Ob.more {b : Nat} {w w' : World} (h : Keep (· = b) w w') {k : Nat} (hk : Ob b w k) : Ob b w' k := ⟨Nat.lt_of_lt_of_le hk.1 h.size, hk.2⟩
def Ft (b : Nat) : Nat → Value → World → Prop
 | 0, v, w => ∃ g, v = .slice (some ⟨g, 0, none⟩) 3 3 ∧ RdS (Ob b w) w (some ⟨g, 0, none⟩) 3 smpP.names
 | 6, v, w => ∃ g, v = .slice (some ⟨g, 0, none⟩) 3 3 ∧ RdEv (Ob b w) w (some ⟨g, 0, none⟩) 3 smpP.evs
 | 7, v, w => ∃ g, v = .slice (some ⟨g, 0, none⟩) 3 3 ∧ RdR (Ob b w) w (some ⟨g, 0, none⟩) 3 smpP.prev
 | 8, v, w => ∃ g, v = .slice (some ⟨g, 0, none⟩) 1 1 ∧ RdI (Ob b w) w (some ⟨g, 0, none⟩) 1 [0]
 | 9, v, w => ∃ g, v = .slice (some ⟨g, 0, none⟩) 1 1 ∧ RdI (Ob b w) w (some ⟨g, 0, none⟩) 1 [0]
 | 10, v, w => ∃ g, v = .slice (some ⟨g, 0, none⟩) 3 3 ∧ RdR (Ob b w) w (some ⟨g, 0, none⟩) 3 smpP.auth
 | 11, v, w => ∃ g, v = .slice (some ⟨g, 0, none⟩) 3 3 ∧ RdB (Ob b w) w (some ⟨g, 0, none⟩) 3 smpP.den
 | 12, v, w => ∃ q, v = .agg (cellsPa smpP q).toArray ∧ IsPa (Ob b w) w smpP q
 | _, _, _ => True
theorem Ft.carry {b : Nat} {v : Value} {w w' : World} (h : Keep (· = b) w w') : ∀ {k : Nat}, Ft b k v w → Ft b k v w' := by
 have hs := Ob.same h
 have hm := fun k (hk : Ob b w k) => Ob.more h hk
 intro k hf
 unfold Ft at hf ⊢
 split at hf
 · obtain ⟨g, e, r⟩ := hf; exact ⟨g, e, r.carry hs hm⟩
 · obtain ⟨g, e, r⟩ := hf; exact ⟨g, e, r.carry fun k hk => ⟨hm k hk, hs k hk⟩⟩
 · obtain ⟨g, e, r⟩ := hf; exact ⟨g, e, r.carry hs hm⟩
 · obtain ⟨g, e, r⟩ := hf; exact ⟨g, e, r.carry hs hm⟩
 · obtain ⟨g, e, r⟩ := hf; exact ⟨g, e, r.carry hs hm⟩
 · obtain ⟨g, e, r⟩ := hf; exact ⟨g, e, r.carry hs hm⟩
 · obtain ⟨g, e, r⟩ := hf; exact ⟨g, e, r.carry hs hm⟩
 · obtain ⟨g, e, r⟩ := hf; exact ⟨g, e, r.carry fun k hk => ⟨hm k hk, hs k hk⟩⟩
 · trivial
def opS : List (Nat × Nat) := [(0, 3), (6, 9), (7, 10), (8, 11), (9, 12), (10, 13), (11, 14), (12, 15)]
theorem opS_one {k s k' s' : Nat} (h : (k, s) ∈ opS) (h' : (k', s') ∈ opS) (hs : s = s') : k = k' := by
 simp [opS] at h h'; omega
structure SmpJ (W : World) (b : Nat) (l : Array Bool) (a : Act) (w : World) : Prop where
 size : l.size = 14
 tm : a.tmps.size = 16
 df : a.defers = []
 pure : ∀ k, 1 ≤ k → k ≤ 5 → l.getD k true = true
 e0 : a.eval (.tmp 0) = .pointer (some ⟨b, 0, none⟩)
 e4 : a.eval (.tmp 4) = .agg (cellsE smpC Pt.zero).toArray
 e6 : a.eval (.tmp 6) = .agg (cellsE smpX Pt.zero).toArray
 e8 : a.eval (.tmp 8) = .agg (cellsE smpY Pt.zero).toArray
 keep : Keep (· = b) W w
 facts : ∀ k s, (k, s) ∈ opS → l.getD k false = true → Ft b k (a.eval (.tmp s)) w
 blk : l.getD 13 true = false → ∃ cs : List Value, cs.length = 5 ∧ w.heap[b]? = some (.cells cs.toArray 27 (0, 0))
 ord : l.getD 13 true = true → ∀ k, k < 13 → l.getD k true = true
 fin : l.getD 13 true = true → ∃ q, w.heap[b]? = some (.cells (cellsPa smpP q).toArray 27 (0, 0)) ∧ IsPa (Ob b w) w smpP q
theorem SmpJ.put {W : World} {b : Nat} {l : Array Bool} {a : Act} {w w' : World} (h : SmpJ W b l a w) {k s : Nat} (hk : (k, s) ∈ opS) (h13 : l.getD 13 true = false) {v : Value} (hw : Below w.heap.size w w') (hF : Ft b k v w') :
    SmpJ W b (l.setIfInBounds k true) (a.put (some s) v) w' := by
 have hkp : Keep (· = b) w w' := Keep.of_below hw
 obtain ⟨cs, hcs, hb⟩ := h.blk h13
 have hbl := obj_lt hb
 have hk13 : k ≠ 13 ∧ k < 14 ∧ s < 16 ∧ s ≠ 0 ∧ s ≠ 4 ∧ s ≠ 6 ∧ s ≠ 8 := by simp [opS] at hk; omega
 have h13' : (l.setIfInBounds k true).getD 13 true = false := by rw [getD_set_ne true hk13.1]; exact h13
 refine ⟨by simp [h.size], by simp [Act.put, h.tm], h.df, fun j h1 h2 => ?_, ?_, ?_, ?_, ?_, h.keep.trans hkp fun _ _ e => e, fun k' s' hk' hl => ?_, fun _ => ⟨cs, hcs, (hw.block b hbl).trans hb⟩, fun hc => absurd (h13'.symm.trans hc) (by decide), fun hc => absurd (h13'.symm.trans hc) (by decide)⟩
 · by_cases hj : k = j
   · subst hj
     have : k < l.size := by rw [h.size]; omega
     simp [this]
   · rw [getD_set_ne true hj]; exact h.pure j h1 h2
 · rw [Act.eval_put_ne _ _ _ _ (by omega)]; exact h.e0
 · rw [Act.eval_put_ne _ _ _ _ (by omega)]; exact h.e4
 · rw [Act.eval_put_ne _ _ _ _ (by omega)]; exact h.e6
 · rw [Act.eval_put_ne _ _ _ _ (by omega)]; exact h.e8
 · by_cases hs : s = s'
   · obtain rfl := opS_one hk hk' hs
     subst hs
     rw [Act.eval_put_same _ _ _ (by rw [h.tm]; omega)]
     exact hF
   · rw [Act.eval_put_ne _ _ _ _ hs]
     have hne : k ≠ k' := by rintro rfl; simp [opS] at hk hk'; omega
     rw [getD_set_ne false hne] at hl
     exact (h.facts k' s' hk' hl).carry hkp
theorem dep_of {o : Oper} {l : Array Bool} (hall : ∀ e ∈ o.after, Region.binds .any e = true → l.getD e.on false = true) (j : Nat) (h : o.after.any (fun e => Region.binds .any e && e.on == j) = true) : l.getD j false = true := by
 obtain ⟨i, hi, h2⟩ := Array.any_eq_true.1 h
 have he := Array.getElem_mem hi
 generalize o.after[i] = e at *
 rw [Bool.and_eq_true, beq_iff_eq] at h2
 rw [← h2.2]
 exact hall e he h2.1
theorem exec_loadS {a : Act} {o : Oper} {m : Operand} {T : TypeId} {ad : Addr} {w : World} {v : Value} (hop : o.op = Op.load T m) (hm : a.eval m = .pointer (some ad)) (hl : (Instr.loadAt T (.pointer (some ad))).run Tryz.prog w = .ok v w) : (execOp a.eval o).run Tryz.prog w = .ok (.value v) w := by
 simp [execOp, hop, hm, hl]
theorem exec_buildS {a : Act} {o : Oper} {T : TypeId} {parts : Array (Nat × Operand)} {w : World} {cells : Array Value} (hop : o.op = Op.build T parts) (hb : Tryz.prog.built T (parts.map fun (i, x) => (i, a.eval x)).toList = some cells) : (execOp a.eval o).run Tryz.prog w = .ok (.value (.agg cells)) w := by
 have := run_build (P := Tryz.prog) w T (parts.map fun (i, x) => (i, a.eval x)) cells hb
 simp [execOp, hop, this]
def mcS : List Value := [.int .i64 5, .int .i64 0, .string ⟨#[]⟩, .slice none 0 0, .slice none 0 0]
theorem infoJS : (Tryz.prog.info? 38).map (·.size) = some 5 := by kernel_rfl
theorem loadJS {w : World} {b : Nat} (h : w.heap[b]? = some (.cells mcS.toArray 38 (0, 0))) : (Instr.loadAt 38 (.pointer (some ⟨b, 0, none⟩))).run Tryz.prog w = .ok (.agg mcS.toArray) w :=
 run_loadAt_mid w b 0 38 mcS _ (rangeK_of h) Tryz.underlying38 rfl infoJS
theorem wp_rowS {o : Oper} {a : Act} {w : World} {K : Act → World → Prop} {Q : Exit → Act → World → Prop} (t e len : Nat) (parts : Array (Nat × Operand)) (ho : o.op = .buildSlice t len parts) (z : Value) (size bytes : Nat)
    (hu : Tryz.prog.underlying t = some (.slice e)) (hinfo : (Tryz.prog.info? e).map (fun i => (i.zero, i.size, i.bytes)) = some (some z, size, bytes)) (h1 : 0 < len) (h2 : len ≤ 100) (h3 : 0 < size) (h4 : size ≤ 100) (vs : List (Nat × Value)) (hvs : (parts.map fun (i, x) => (i, a.eval x)).toList = vs) (cells : Array Value)
    (hf : Instr.fill (fun i => some (i * size, size)) ((Array.range (len * size)).map (z.cells[· % z.cells.size]!)) vs = some cells)
    (h : K (a.put o.dst (.slice (some ⟨w.heap.size, 0, none⟩) len len)) (w.alloc (.cells cells e))) : o.wp Tryz.prog a w K Q := by
 obtain ⟨i0, hi, hz0, hz1, hz2⟩ := info_parts hinfo
 have hb : len * size ≤ 100 * 100 := Nat.mul_le_mul h2 h4
 have hc : 0 < len * size := Nat.mul_pos h1 h3
 exact wp_buildSlice t e len parts ho cells i0 z hu hi hz0 (by rw [hz1]; omega) (by rw [hz1]; omega) (by rw [hz1, hvs]; exact hf) h
theorem wp_madeS {o : Oper} {a : Act} {w : World} {K : Act → World → Prop} {Q : Exit → Act → World → Prop} (t e : Nat) (ho : o.op = .makeSlice t (.const (.int .i64 3)) (.const (.int .i64 3))) (z : Value) (bytes : Nat)
    (hu : Tryz.prog.underlying t = some (.slice e)) (hinfo : (Tryz.prog.info? e).map (fun i => (i.zero, i.size, i.bytes)) = some (some z, 1, bytes)) (hb : bytes ≤ 100) (cells : Array Value) (hc : madeCells z.cells 3 = cells)
    (h : K (a.put o.dst (.slice (some ⟨w.heap.size, 0, none⟩) 3 3)) (w.alloc (.cells cells e))) : o.wp Tryz.prog a w K Q := by
 obtain ⟨i0, hi, hz0, hz1, hz2⟩ := info_parts hinfo
 have hrun := run_makeSlice (P := Tryz.prog) w t e i0 z hu hi hz0 .i64 .i64 3 3 (by omega) (Int.le_refl _) (by rw [hz1]; simp) (by rw [hz2]; omega) (by omega)
 rw [hz1] at hrun
 replace hrun : (Instr.makeSlice t (.int .i64 3) (.int .i64 3)).run Tryz.prog w = .ok (.slice (some ⟨w.heap.size, 0, none⟩) 3 3) (w.alloc (.cells (madeCells z.cells 3) e)) := hrun
 unfold Oper.wp execOp
 simp only [ho, Act.eval, Sem.run_bind, hrun, Result.andThen_ok, hc]
 exact h
theorem info9S : (Tryz.prog.info? 9).map (fun i => (i.zero, i.size, i.bytes)) = some (some (.string ⟨#[]⟩), 1, 16) := by kernel_rfl
theorem info3S : (Tryz.prog.info? 3).map (fun i => (i.zero, i.size, i.bytes)) = some (some (.int .i64 0), 1, 8) := by kernel_rfl
theorem info4S : (Tryz.prog.info? 4).map (fun i => (i.zero, i.size, i.bytes)) = some (some (.bool false), 1, 1) := by kernel_rfl
theorem infoIS : (Tryz.prog.info? 28).map (fun i => (i.zero, i.size, i.bytes)) = some (some (.slice none 0 0), 1, 24) := by kernel_rfl
theorem infoES : (Tryz.prog.info? 41).map (fun i => (i.zero, i.size, i.bytes)) = some (some (.agg (cellsE Ev.zero Pt.zero).toArray), 16, 256) := by kernel_rfl
theorem below_al (w : World) (o : Obj) : Below w.heap.size w (w.alloc o) := (Below.refl _ _).alloc (Nat.le_refl _) _
theorem rd_newS {α : Type} {enc : α → Value} {b t : Nat} {w : World} (hb : b < w.heap.size) (xs : List α) : Rd enc (Ob b (w.alloc (.cells (xs.map enc).toArray t))) (w.alloc (.cells (xs.map enc).toArray t)) (some ⟨w.heap.size, 0, none⟩) xs.length xs :=
 ⟨Nat.le_refl _, fun _ => ⟨_, _, rfl, ⟨by simp, by omega⟩, fun j x hj => by
  rw [Nat.zero_add]
  exact cell_row (heap_alloc_new _ _) j _ (by rw [List.getElem?_map, hj]; rfl)⟩⟩
theorem wp_pureS {o : Oper} {a : Act} {w : World} {K : Act → World → Prop} {Q : Exit → Act → World → Prop} {v : Value} (h : (execOp a.eval o).run Tryz.prog w = .ok (.value v) w) (hK : K (a.put o.dst v) w) : o.wp Tryz.prog a w K Q := by
 unfold Oper.wp
 rw [h]
 exact hK
theorem isJ_bareS (O : Nat → Prop) (w : World) (k : Int) : isJ O w (.mk k 0 nix [] []) [.int .i64 k, .int .i64 0, .string nix, .slice none 0 0, .slice none 0 0] := by
 unfold isJ
 exact ⟨none, 0, none, 0, rfl, RdK.nil _ _, Nat.le_refl _, by unfold isJs; trivial⟩
def evCells : List Value := cellsE smpC Pt.zero ++ cellsE smpX Pt.zero ++ cellsE smpY Pt.zero
theorem rd_evS {b : Nat} {w : World} (hb : b < w.heap.size) : RdEv (Ob b (w.alloc (.cells evCells.toArray 41))) (w.alloc (.cells evCells.toArray 41)) (some ⟨w.heap.size, 0, none⟩) 3 smpP.evs :=
 ⟨by decide, fun j hj => ⟨w.heap.size, 0, Pt.zero, rfl, ⟨by simp, by omega⟩, fun m v hv => by
  have hm : m < 16 := by
   have h1 : m < (cellsE (smpP.evs.getD j Ev.zero) Pt.zero).length := (List.getElem?_eq_some_iff.1 hv).1
   exact h1
  refine cell_row (heap_alloc_new _ _) _ v ?_
  rw [← hv]
  obtain rfl | rfl | rfl : j = 0 ∨ j = 1 ∨ j = 2 := by have : j < 3 := hj; omega
  · show evCells[0 + 0 * 16 + m]? = (cellsE smpC Pt.zero)[m]?
    rw [show 0 + 0 * 16 + m = m by omega]; unfold evCells
    rw [List.append_assoc, List.getElem?_append_left (by exact hm)]
  · show evCells[0 + 1 * 16 + m]? = (cellsE smpX Pt.zero)[m]?
    unfold evCells
    rw [List.append_assoc, List.getElem?_append_right (by show 16 ≤ _; omega), List.getElem?_append_left (by show 0 + 1 * 16 + m - 16 < 16; omega)]
    congr 1; show 0 + 1 * 16 + m - 16 = m; omega
  · show evCells[0 + 2 * 16 + m]? = (cellsE smpY Pt.zero)[m]?
    unfold evCells
    rw [List.getElem?_append_right (by show 32 ≤ _; omega)]
    congr 1; show 0 + 2 * 16 + m - 32 = m; omega, by
  obtain rfl | rfl | rfl : j = 0 ∨ j = 1 ∨ j = 2 := by have : j < 3 := hj; omega
  · exact ⟨isJ_bareS _ _ _, RdK.nil _ _, RdK.nil _ _, RdS.nil _ _ _ _⟩
  · exact ⟨isJ_bareS _ _ _, RdK.nil _ _, RdK.nil _ _, RdS.nil _ _ _ _⟩
  · exact ⟨isJ_bareS _ _ _, RdK.nil _ _, RdK.nil _ _, RdS.nil _ _ _ _⟩⟩⟩
theorem sample_any (w : World) : Calls Tryz.prog 25 #[] w fun e w' => ∃ q, e = .returned (valPa smpP q) ∧ IsPa (· < w'.heap.size) w' smpP q ∧ Below w.heap.size w w' := by
 obtain ⟨b, hb⟩ : ∃ b, w.heap.size = b := ⟨_, rfl⟩
 go_enter Tryz.func25, Tryz.ntmps25
 go_upto_region 2 with fail
 rename_i Q' K HK
 obtain ⟨W1, hW1⟩ : ∃ W1, W1 = (w.alloc (.cells #[.slice none 0 0, .slice none 0 0, .slice none 0 0, .slice none 0 0, .slice none 0 0] 27)).alloc (.cells #[.int .i64 5, .int .i64 0, .string ⟨#[]⟩, .slice none 0 0, .slice none 0 0] 38) := ⟨_, rfl⟩
 have hb1 : Below w.heap.size w W1 := by rw [hW1]; exact ((Below.refl _ _).alloc (Nat.le_refl _) _).alloc (by simp) _
 have hs1 : W1.heap.size = b + 2 := by rw [hW1]; simp only [World.size_alloc]; omega
 have hm1 : W1.heap[b + 1]? = some (.cells mcS.toArray 38 (0, 0)) := by
  have := heap_alloc_new (w.alloc (.cells #[.slice none 0 0, .slice none 0 0, .slice none 0 0, .slice none 0 0, .slice none 0 0] 27)) (.cells mcS.toArray 38 (0, 0))
  rw [World.size_alloc, hb] at this
  rw [hW1]; exact this
 have hz1 : W1.heap[b]? = some (.cells [Value.slice none 0 0, .slice none 0 0, .slice none 0 0, .slice none 0 0, .slice none 0 0].toArray 27 (0, 0)) := by
  rw [hW1, Below.heap_alloc _ _ _ (by simp; omega), ← hb]; exact heap_alloc_new _ _
 rw [← hW1]
 have HLM : Hid (∀ X, Keep (· = b) W1 X → (Instr.loadAt 38 (.pointer (some ⟨b + 1, 0, none⟩))).run Tryz.prog X = .ok (.agg mcS.toArray) X) := fun X hX => loadJS ((hX.block (b + 1) (by omega) (by omega)).trans hm1)
 clear hW1 hm1
 refine wp_region_in (by kernel_rfl) (fun X => Keep (· = b) W1 X) ?_
 change wpIn _ _ _ _ _ _ _ _ (World.drew _)
 have hD : Keep (· = b) W1 W1.drew := (Keep.refl _ _).drew
 refine wpIn_take (i := 1) (d := (some 4)) (v := .agg (cellsE smpC Pt.zero).toArray) (a' := ?aw1) rfl rfl (by kernel_rfl) (by kernel_rfl) (by kernel_rfl) (fun _ _ _ h => h) (Or.inl ⟨by rfl, ?yw1⟩) ?fw1 ?_
 case yw1 => exact fun wq hq => exec_buildS rfl (by kernel_rfl)
 case fw1 => (go_frame; rfl)
 refine wpIn_take (i := 2) (d := (some 5)) (v := .agg mcS.toArray) (a' := ?aw2) rfl rfl (by kernel_rfl) (by kernel_rfl) (by kernel_rfl) (fun _ _ _ h => h) (Or.inl ⟨by rfl, ?yw2⟩) ?fw2 ?_
 case yw2 => exact fun wq hq => exec_loadS rfl rfl (HLM.out wq hq)
 case fw2 => (go_frame; rfl)
 refine wpIn_take (i := 3) (d := (some 6)) (v := .agg (cellsE smpX Pt.zero).toArray) (a' := ?aw3) rfl rfl (by kernel_rfl) (by kernel_rfl) (by kernel_rfl) (fun _ _ _ h => h) (Or.inl ⟨by rfl, ?yw3⟩) ?fw3 ?_
 case yw3 => exact fun wq hq => exec_buildS rfl (by kernel_rfl)
 case fw3 => (go_frame; rfl)
 refine wpIn_take (i := 4) (d := (some 7)) (v := .agg mcS.toArray) (a' := ?aw4) rfl rfl (by kernel_rfl) (by kernel_rfl) (by kernel_rfl) (fun _ _ _ h => h) (Or.inl ⟨by rfl, ?yw4⟩) ?fw4 ?_
 case yw4 => exact fun wq hq => exec_loadS rfl rfl (HLM.out wq hq)
 case fw4 => (go_frame; rfl)
 refine wpIn_take (i := 5) (d := (some 8)) (v := .agg (cellsE smpY Pt.zero).toArray) (a' := ?aw5) rfl rfl (by kernel_rfl) (by kernel_rfl) (by kernel_rfl) (fun _ _ _ h => h) (Or.inl ⟨by rfl, ?yw5⟩) ?fw5 ?_
 case yw5 => exact fun wq hq => exec_buildS rfl (by kernel_rfl)
 case fw5 => (go_frame; rfl)
 refine wpIn_inv (SmpJ W1 b) (fun _ _ _ h => h.keep) ?step ?fin _ _ _ _ ?n ?start
 case n => exact Nat.le_of_eq (by kernel_rfl)
 case start =>
  refine SmpJ.mk (by kernel_rfl) (by kernel_rfl) rfl ?smpp rfl rfl rfl rfl hD ?smpf (fun _ => ⟨_, rfl, hz1⟩) (fun h => by cases h) (fun h => by cases h)
  case smpp =>
   intro k h1 h2
   obtain rfl | rfl | rfl | rfl | rfl : k = 1 ∨ k = 2 ∨ k = 3 ∨ k = 4 ∨ k = 5 := by omega
   all_goals kernel_rfl
  case smpf =>
   intro k s hk hl
   exfalso
   simp only [opS, List.mem_cons, Prod.mk.injEq, List.not_mem_nil, or_false] at hk
   rcases hk with ⟨rfl, rfl⟩ | ⟨rfl, rfl⟩ | ⟨rfl, rfl⟩ | ⟨rfl, rfl⟩ | ⟨rfl, rfl⟩ | ⟨rfl, rfl⟩ | ⟨rfl, rfl⟩ | ⟨rfl, rfl⟩ <;> cases hl
 case fin =>
  intro l a wx hJ hr
  have hall := ready_all (by rw [hJ.size]; rfl) (by kernel_rfl) hr
  obtain ⟨q, hbk, hp⟩ := hJ.fin (hall 13)
  refine HK _ _ ?_
  refine wp_ret ?_
  refine bodyPost_ret (resultsP_cell (fn := Tryz.f25) rfl _ _ _ (v := valPa smpP q) hJ.e0 ?_) hJ.df ?_
  · exact run_loadVar_mid (P := Tryz.prog) wx b 0 27 (cellsPa smpP q) _ (rangeK_of hbk) Tryz.underlying27 rfl infoPa
  · refine ⟨q, rfl, hp.carry fun k hk => ⟨hk.1, rfl⟩, hb1.trans (hJ.keep.below hb1.size fun k hk e => ?_)⟩
    omega
 case step =>
  intro l a wx i o hJ ho h0 hall
  have hi : i < 14 := by
   have := hJ.size
   refine Classical.byContradiction fun hn => ?_
   rw [Array.getD_eq_getD_getElem?, Array.getElem?_eq_none (by omega)] at h0
   cases h0
  have hip : ¬ (1 ≤ i ∧ i ≤ 5) := fun h => by rw [hJ.pure i h.1 h.2] at h0; cases h0
  have h13 : l.getD 13 true = false := by
   by_cases h : l.getD 13 true = true
   · by_cases h' : i = 13
     · subst h'; exact h0
     · rw [hJ.ord h i (by omega)] at h0; cases h0
   · simpa using h
  obtain rfl | rfl | rfl | rfl | rfl | rfl | rfl | rfl | rfl : i = 0 ∨ i = 6 ∨ i = 7 ∨ i = 8 ∨ i = 9 ∨ i = 10 ∨ i = 11 ∨ i = 12 ∨ i = 13 := by omega
  · cases ho
    refine ⟨rfl, fun K' hK' => ?_⟩
    have hbl := obj_lt (hJ.blk h13).choose_spec.2
    refine wp_rowS 22 9 3 _ rfl _ _ _ Tryz.underlying22 info9S (by decide) (by decide) (by decide) (by decide) _ rfl (smpP.names.map Value.string).toArray (by kernel_rfl) ?_
    exact hK' _ _ (hJ.put (k := 0) (s := 3) (by decide) h13 (below_al _ _) ⟨_, rfl, rd_newS hbl smpP.names⟩)
  · cases ho
    refine ⟨rfl, fun K' hK' => ?_⟩
    have hbl := obj_lt (hJ.blk h13).choose_spec.2
    refine wp_rowS 23 41 3 _ rfl _ _ _ Tryz.underlying23 infoES (by decide) (by decide) (by decide) (by decide) [(0, .agg (cellsE smpC Pt.zero).toArray), (1, .agg (cellsE smpX Pt.zero).toArray), (2, .agg (cellsE smpY Pt.zero).toArray)] ?_ evCells.toArray (by kernel_rfl) ?_
    · simp only [List.map_toArray, List.map_cons, List.map_nil, hJ.e4, hJ.e6, hJ.e8]
    exact hK' _ _ (hJ.put (k := 6) (s := 9) (by decide) h13 (below_al _ _) ⟨_, rfl, rd_evS hbl⟩)
  · cases ho
    refine ⟨rfl, fun K' hK' => ?_⟩
    have hbl := obj_lt (hJ.blk h13).choose_spec.2
    refine wp_madeS 24 28 rfl _ _ Tryz.underlying24 infoIS (by decide) [Value.slice none 0 0, .slice none 0 0, .slice none 0 0].toArray (by kernel_rfl) ?_
    refine hK' _ _ (hJ.put (k := 7) (s := 10) (by decide) h13 (below_al _ _) ⟨_, rfl, by decide, fun j hj => ⟨_, _, none, 0, rfl, ⟨by simp, by omega⟩, ?_, ?_⟩⟩)
    · obtain rfl | rfl | rfl : j = 0 ∨ j = 1 ∨ j = 2 := by have : j < 3 := hj; omega
      all_goals exact cell_row (heap_alloc_new _ _) _ _ rfl
    · obtain rfl | rfl | rfl : j = 0 ∨ j = 1 ∨ j = 2 := by have : j < 3 := hj; omega
      all_goals exact Rd.nil _ _ _ _ _
  · cases ho
    refine ⟨rfl, fun K' hK' => ?_⟩
    have hbl := obj_lt (hJ.blk h13).choose_spec.2
    refine wp_rowS 28 3 1 _ rfl _ _ _ Tryz.underlying28 info3S (by decide) (by decide) (by decide) (by decide) _ rfl (([0] : List Int).map (Value.int .i64)).toArray (by kernel_rfl) ?_
    exact hK' _ _ (hJ.put (k := 8) (s := 11) (by decide) h13 (below_al _ _) ⟨_, rfl, rd_newS hbl [0]⟩)
  · cases ho
    refine ⟨rfl, fun K' hK' => ?_⟩
    have hbl := obj_lt (hJ.blk h13).choose_spec.2
    refine wp_rowS 28 3 1 _ rfl _ _ _ Tryz.underlying28 info3S (by decide) (by decide) (by decide) (by decide) _ rfl (([0] : List Int).map (Value.int .i64)).toArray (by kernel_rfl) ?_
    exact hK' _ _ (hJ.put (k := 9) (s := 12) (by decide) h13 (below_al _ _) ⟨_, rfl, rd_newS hbl [0]⟩)
  · cases ho
    obtain ⟨g1, e1, r1⟩ := hJ.facts 8 11 (by decide) (dep_of hall 8 (by kernel_rfl))
    obtain ⟨g2, e2, r2⟩ := hJ.facts 9 12 (by decide) (dep_of hall 9 (by kernel_rfl))
    refine ⟨rfl, fun K' hK' => ?_⟩
    have hbl := obj_lt (hJ.blk h13).choose_spec.2
    refine wp_rowS 24 28 3 _ rfl _ _ _ Tryz.underlying24 infoIS (by decide) (by decide) (by decide) (by decide) [(0, .slice none 0 0), (1, .slice (some ⟨g1, 0, none⟩) 1 1), (2, .slice (some ⟨g2, 0, none⟩) 1 1)] ?_ [Value.slice none 0 0, .slice (some ⟨g1, 0, none⟩) 1 1, .slice (some ⟨g2, 0, none⟩) 1 1].toArray (by kernel_rfl) ?_
    · simp only [List.map_toArray, List.map_cons, List.map_nil, e1, e2]; rfl
    have hk : Keep (· = b) wx (wx.alloc (.cells [Value.slice none 0 0, .slice (some ⟨g1, 0, none⟩) 1 1, .slice (some ⟨g2, 0, none⟩) 1 1].toArray 28)) := Keep.of_below (below_al _ _)
    refine hK' _ _ (hJ.put (k := 10) (s := 13) (by decide) h13 (below_al _ _) ⟨_, rfl, by decide, fun j hj => ?_⟩)
    obtain rfl | rfl | rfl : j = 0 ∨ j = 1 ∨ j = 2 := by have : j < 3 := hj; omega
    · exact ⟨_, _, none, 0, rfl, ⟨by simp, by omega⟩, cell_row (heap_alloc_new _ _) _ _ rfl, Rd.nil _ _ _ _ _⟩
    · exact ⟨_, _, _, 1, rfl, ⟨by simp, by omega⟩, cell_row (heap_alloc_new _ _) _ _ rfl, r1.carry (Ob.same hk) fun k hk' => Ob.more hk hk'⟩
    · exact ⟨_, _, _, 1, rfl, ⟨by simp, by omega⟩, cell_row (heap_alloc_new _ _) _ _ rfl, r2.carry (Ob.same hk) fun k hk' => Ob.more hk hk'⟩
  · cases ho
    refine ⟨rfl, fun K' hK' => ?_⟩
    have hbl := obj_lt (hJ.blk h13).choose_spec.2
    refine wp_madeS 25 4 rfl _ _ Tryz.underlying25 info4S (by decide) (smpP.den.map Value.bool).toArray (by kernel_rfl) ?_
    exact hK' _ _ (hJ.put (k := 11) (s := 14) (by decide) h13 (below_al _ _) ⟨_, rfl, rd_newS hbl smpP.den⟩)
  · cases ho
    obtain ⟨g0, e0, r0⟩ := hJ.facts 0 3 (by decide) (dep_of hall 0 (by kernel_rfl))
    obtain ⟨g1, e1, r1⟩ := hJ.facts 6 9 (by decide) (dep_of hall 6 (by kernel_rfl))
    obtain ⟨g2, e2, r2⟩ := hJ.facts 7 10 (by decide) (dep_of hall 7 (by kernel_rfl))
    obtain ⟨g3, e3, r3⟩ := hJ.facts 10 13 (by decide) (dep_of hall 10 (by kernel_rfl))
    obtain ⟨g4, e4, r4⟩ := hJ.facts 11 14 (by decide) (dep_of hall 11 (by kernel_rfl))
    refine ⟨rfl, fun K' hK' => ?_⟩
    refine wp_pureS (v := .agg (cellsPa smpP ⟨some ⟨g0, 0, none⟩, 3, some ⟨g1, 0, none⟩, 3, some ⟨g2, 0, none⟩, 3, some ⟨g3, 0, none⟩, 3, some ⟨g4, 0, none⟩, 3⟩).toArray) (exec_buildS rfl ?_) ?_
    · simp only [List.map_toArray, List.map_cons, List.map_nil, e0, e1, e2, e3, e4]
      kernel_rfl
    exact hK' _ _ (hJ.put (k := 12) (s := 15) (by decide) h13 (Below.refl _ _) ⟨_, rfl, r0, r1, r2, r3, r4⟩)
  · cases ho
    obtain ⟨q, e, r⟩ := hJ.facts 12 15 (by decide) (dep_of hall 12 (by kernel_rfl))
    obtain ⟨cs, hcs, hbk⟩ := hJ.blk h13
    refine ⟨rfl, fun K' hK' => ?_⟩
    refine wp_store_row 27 _ _ rfl b (cellsPa smpP q).toArray hJ.e0 e 27 cs.toArray hbk infoPa (by simp [hcs, cellsPa]) (by simp [cellsPa, Value.oneCell']) ?_
    have hk : Keep (· = b) wx (wx.setRow b (cellsPa smpP q).toArray) := by
     have hk0 := keep_setRow wx b (cellsPa smpP q).toArray
     exact ⟨hk0.os, hk0.tape, hk0.output, hk0.size, hk0.block⟩
    have hset : ∀ j, (l.setIfInBounds 13 true).getD 13 j = true := fun j => by have := hJ.size; simp [this]
    refine hK' _ _ ⟨by simp [hJ.size], hJ.tm, hJ.df, fun k h1 h2 => by rw [getD_set_ne true (by omega)]; exact hJ.pure k h1 h2, hJ.e0, hJ.e4, hJ.e6, hJ.e8, hJ.keep.trans hk fun _ _ e => e, fun k s hks hl => ?_, fun h => ?_, fun _ k hk13 => ?_, fun _ => ⟨q, setRow_heap _ _ _ _ _ _ hbk, r.carry fun k hk' => ⟨Ob.more hk hk', Ob.same hk k hk'⟩⟩⟩
    · have hne : (13 : Nat) ≠ k := by rintro rfl; simp [opS] at hks
      rw [getD_set_ne false hne] at hl
      exact (hJ.facts k s hks hl).carry hk
    · rw [hset] at h; cases h
    · rw [getD_set_ne true (by omega)]
      by_cases hp : 1 ≤ k ∧ k ≤ 5
      · exact hJ.pure k hp.1 hp.2
      · have hd : l.getD k false = true := by
          obtain rfl | rfl | rfl | rfl | rfl | rfl | rfl | rfl : k = 0 ∨ k = 6 ∨ k = 7 ∨ k = 8 ∨ k = 9 ∨ k = 10 ∨ k = 11 ∨ k = 12 := by omega
          all_goals exact dep_of hall _ (by kernel_rfl)
        have hkl : k < l.size := by rw [hJ.size]; omega
        rw [Array.getD_eq_getD_getElem?, Array.getElem?_eq_getElem hkl] at hd ⊢
        simpa using hd
theorem take_ext {a b : List Int} (h : a.length = b.length) : (∀ k, k < a.length → a.getD k 0 = b.getD k 0) → a = b := by
 intro hk
 apply List.ext_getElem h
 intro i h1 h2
 have := hk i h1
 rw [getD_in h1, getD_in h2] at this
 exact this
theorem same12_any {O O' : Nat → Prop} (a b : List Int) (p q : Option Addr) (c d : Nat) (w : World) (ra : RdI O w p c a) (rb : RdI O' w q d b) (ha : a.length ≤ 1000000) (_hb : b.length ≤ 1000000) :
    Calls Tryz.prog 6 #[.slice p a.length c, .slice q b.length d] w fun e w' => e = .returned (.bool (decide (a = b))) ∧ Keep (fun _ => False) w w' := by
 by_cases hab : a.length = b.length
 · have HX : Hid ((∀ k, k < a.length → a.getD k 0 = b.getD k 0) → a = b) := take_ext hab
   rw [← hab]
   obtain ⟨n, hn⟩ : ∃ n, a.length = n := ⟨_, rfl⟩
   have HN : Hid (a.length = n) := hn
   have HN' : Hid (b.length = n) := hab.symm.trans hn
   rw [hn] at ha HX ⊢
   clear hn hab
   go_enter Tryz.func6, Tryz.ntmps6
   go_wp2
   go_loopw [5] (fun i wr => ∃ k : Nat, k ≤ n ∧ i = .int .i64 k ∧ Keep (fun _ => False) w wr ∧ wr.heap = w.heap ∧ Hid (∀ j, j < k → a.getD j 0 = b.getD j 0)) (fun i _ => n - (intOf i).toNat)
   case atStart => exact ⟨0, Nat.zero_le _, rfl, Keep.refl _ _, rfl, fun j hj => absurd hj (by omega)⟩
   case round =>
    obtain ⟨k, hk, rfl, hkp, hheap, HA⟩ := hrel
    have hS : ∀ O : Nat → Prop, Same O w wr := fun O k _ => by rw [hheap]
    by_cases hlt : k < n
    · obtain ⟨ad, rfl, _, hca⟩ := (ra.same (hS O)).at k 0 (by rw [HN.out]; exact hlt)
      obtain ⟨ad', rfl, _, hcb⟩ := (rb.same (hS O')).at k 0 (by rw [HN'.out]; exact hlt)
      have HE : Hid (a = b → a.getD k 0 = b.getD k 0) := fun h => by rw [h]
      have HA2 : Hid (a.getD k 0 = b.getD k 0 → ∀ j, j < k + 1 → a.getD j 0 = b.getD j 0) := fun h j hj => by
       rcases Nat.lt_or_ge j k with h' | h'
       · exact HA.out j h'
       · rw [show j = k by omega]; exact h
      have hk1 : ∀ (wx : World) (k : Nat), Keep (fun _ => False) w wx → Keep (fun _ => False) w (wx.drewN k) := fun wx k h => ⟨h.os, h.tape, h.output, h.size, h.block⟩
      generalize a.getD k 0 = x at *
      generalize b.getD k 0 = y at *
      clear hS HA
      have HHp : Hid (wr.heap = w.heap) := hheap
      clear hheap
      by_cases e : x = y
      · subst e
        have HB := HA2.out rfl
        have HB' : Hid _ := HB
        clear HA2 HE HB
        go_wp2_with fail
        go_quiet (fail)
        go_wp2_with fail
        go_roundw
        case rel => exact ⟨k + 1, by omega, by go_num, hk1 _ _ hkp, HHp.out, HB'⟩
        case measure => simp [intOf]; omega
      · have e' : (x == y) = false := by simpa using e
        have HF : Hid (¬ a = b) := fun h => e (HE.out h)
        clear HA2 HE
        go_wp2_with fail
        go_quiet (fail)
        go_wp2_with fail
        go_ret
        exact ⟨ret_bool (decide_eq_false HF.out).symm, hk1 _ _ hkp⟩
    · obtain rfl : k = n := by omega
      have HF : Hid (a = b) := HX.out HA.out
      clear HX HA
      go_wp2_with fail
      go_ret
      exact ⟨ret_bool (decide_eq_true HF.out).symm, hkp⟩
 · have HF : Hid (¬ a = b) := fun h => hab (by rw [h])
   have hab' : ((a.length : Int) == (b.length : Int)) = false := by rw [beq_eq_false_iff_ne]; omega
   generalize a.length = n at *
   generalize b.length = m at *
   go_enter Tryz.func6, Tryz.ntmps6
   go_wp2
   go_ret
   exact ⟨ret_bool (decide_eq_false HF.out).symm, Keep.refl _ _⟩
end Go.Proofs.YtimhpglfolbomabGreat.Od
namespace Go.Proofs.YtimhpglfolbomabGreat.Od
open Go.RowKit Go.Maps Go.Shelf
theorem smp_szs : SzEs smpP := ⟨fun e he => by
 have h : e = smpC ∨ e = smpX ∨ e = smpY := by simpa using he
 rcases h with rfl | rfl | rfl
 all_goals exact ⟨by decide, by decide, by decide, by decide, by decide, by kernel_rfl, by decide, (fun x hx => by cases hx), by decide, (fun x hx => by cases hx), by decide, (fun x hx => by cases hx)⟩⟩
theorem pa_new {w : World} {p : Pa} {q : Pq} (z : Array Value) (h : IsPa (· < w.heap.size) w p q) : Below w.heap.size w ((w.alloc (.cells z 27)).setRow w.heap.size (cellsPa p q).toArray) ∧ IsVP ((w.alloc (.cells z 27)).setRow w.heap.size (cellsPa p q).toArray) w.heap.size p q := by
 have hk := keep_setRow (w.alloc (.cells z 27)) w.heap.size (cellsPa p q).toArray
 have hb : Below w.heap.size w ((w.alloc (.cells z 27)).setRow w.heap.size (cellsPa p q).toArray) := ((Below.refl _ _).alloc (Nat.le_refl _) _).trans (hk.below (by simp) fun k hk e => by unfold OneP at e; omega)
 exact ⟨hb, setRow_heap _ _ _ _ _ _ (newP _), h.below hb⟩
theorem sample_op (w : World) : Calls Tryz.prog 25 #[] w fun e w' => (∃ L : List Value, e = .returned (.agg L.toArray) ∧ ∃ q, Hid (L = cellsPa smpP q) ∧ IsPa (· < w'.heap.size) w' smpP q) ∧ Below w.heap.size w w' :=
 (sample_any w).mono fun _ _ ⟨q, he, hp, hb⟩ => ⟨⟨_, he, q, rfl, hp⟩, hb⟩
theorem one_Pa (p : Pa) (q : Pq) : (cellsPa p q).toArray.all (·.oneCell') = true := by simp [cellsPa, Value.oneCell']
theorem awake12_any (w : World) : Calls Tryz.prog 9 #[] w fun x w' => x = .returned (.bool true) ∧ Below w.heap.size w w' := by
 go_enter Tryz.func9, Tryz.ntmps9
 go_upto_region 2 with (first
  | (go_at_call 25; refine (sample_op _).mono ?_; rintro x w1 ⟨⟨L, rfl, q, HL, hp⟩, hb1⟩)
  | (refine wpList_store_row rfl 27 _ _ rfl w1.heap.size 27 _ L.toArray rfl rfl (newP _) (by rw [HL.out]; exact infoPa) (by rw [HL.out]; rfl) (by rw [HL.out]; exact one_Pa _ _) ?_))
 have hPN := pa_new (p := smpP) (q := q) #[.slice none 0 0, .slice none 0 0, .slice none 0 0, .slice none 0 0, .slice none 0 0] hp
 rw [← HL.out] at hPN
 generalize (w1.alloc (.cells #[.slice none 0 0, .slice none 0 0, .slice none 0 0, .slice none 0 0, .slice none 0 0] 27)).setRow w1.heap.size L.toArray = W1 at hPN
 obtain ⟨hbP, hVP⟩ := hPN
 have hW0 : Below w.heap.size w W1 := belowP hb1 hbP
 have HV : Hid (∀ X, Below W1.heap.size W1 X → IsVP X w1.heap.size smpP q) := fun X hX => hVP.below hX
 obtain ⟨eb, eo, q1, hqe, hqr⟩ := hVP.pa.evs.2 1 (by decide)
 have hec : 3 ≤ q.ce := hVP.pa.evs.1
 have HEV : Hid (∀ X, Below W1.heap.size W1 X → ∀ j, j < 3 → ∃ q', X.rangeAt eb (eo + j * 16) (cellsE (smpP.evs.getD j Ev.zero) q') ∧ IsE (· < X.heap.size) X (smpP.evs.getD j Ev.zero) q') := fun X hX j hj => by
  obtain ⟨b, o, q', h1, _, h3, h4⟩ := (HV.out X hX).pa.evs.2 j hj
  rw [hqe] at h1
  cases h1
  exact ⟨q', h3, h4⟩
 have HEX : Hid (∀ X, Below W1.heap.size W1 X → ∃ LX : List Value, Hid ((Instr.loadAt 41 (.pointer (some ⟨eb, eo + 16, none⟩))).run Tryz.prog X = .ok (.agg LX.toArray) X ∧ Calls Tryz.prog 27 #[.agg LX.toArray] X fun e w' => e = .returned (.bool true) ∧ Below X.heap.size X w')) := fun X hX => by
  obtain ⟨q', h3, h4⟩ := HEV.out X hX 1 (by decide)
  refine ⟨cellsE smpX q', run_loadAt_mid X eb (eo + 16) 41 (cellsE smpX q') _ h3 Tryz.underlying41 rfl infoE, ?_⟩
  have := powers_any h4 (fun _ h => h) (smp_szs.ev smpX (by simp))
  rw [show powersT (smpP.evs.getD 1 Ev.zero) = true from smp_px] at this
  exact this
 have HEC : Hid (∀ X, Below W1.heap.size W1 X → ∃ LX : List Value, Hid ((Instr.loadAt 41 (.pointer (some ⟨eb, eo, none⟩))).run Tryz.prog X = .ok (.agg LX.toArray) X ∧ Calls Tryz.prog 27 #[.agg LX.toArray] X fun e w' => e = .returned (.bool false) ∧ Below X.heap.size X w')) := fun X hX => by
  obtain ⟨q', h3, h4⟩ := HEV.out X hX 0 (by decide)
  rw [show eo + 0 * 16 = eo by omega] at h3
  refine ⟨cellsE smpC q', run_loadAt_mid X eb eo 41 (cellsE smpC q') _ h3 Tryz.underlying41 rfl infoE, ?_⟩
  have := powers_any h4 (fun _ h => h) (smp_szs.ev smpC (by simp))
  rw [show powersT (smpP.evs.getD 0 Ev.zero) = false from smp_pc] at this
  exact this
 have HC1 : Hid (∀ X, Below W1.heap.size W1 X → X.cell? ⟨w1.heap.size, 1, none⟩ = some (.slice (some ⟨eb, eo, none⟩) 3 q.ce)) := fun X hX => by
  have := (HV.out X hX).c1
  rw [hqe] at this
  exact this
 have HLD : Hid (∀ X, Below W1.heap.size W1 X → (Instr.loadAt 27 (.pointer (some ⟨w1.heap.size, 0, none⟩))).run Tryz.prog X = .ok (.agg L.toArray) X) := fun X hX => by
  have := (HV.out X hX).load
  rw [← HL.out] at this
  exact this
 have HVA : Hid (valPa smpP q = .agg L.toArray) := by show _ = _; unfold valPa; rw [← HL.out]
 have HRI : Hid (∀ X, Below W1.heap.size W1 X → Calls Tryz.prog 13 #[.agg L.toArray] X fun e w' => e = .returned (.bool true) ∧ Below X.heap.size X w') := fun X hX => by
  have := right_any (HV.out X hX).pa smp_sz
  rw [HVA.out, smp_right] at this
  exact this
 have HBP : Hid (∀ X, Below W1.heap.size W1 X → Calls Tryz.prog 10 #[.agg L.toArray, .slice (some ⟨X.heap.size, 0, none⟩) 2 2] (X.alloc (.cells #[.int .i64 1, .int .i64 2] 3)) fun e w' => ∃ p c, e = .returned (.slice p 2 c) ∧ RdI (· < w'.heap.size) w' p c [2, 1] ∧ Below X.heap.size X w') := fun X hX => by
  have hbX : Below X.heap.size X (X.alloc (.cells #[.int .i64 1, .int .i64 2] 3)) := (Below.refl _ _).alloc (Nat.le_refl _) _
  have := byPower_ok (O := fun k => k = X.heap.size) (l := [1, 2]) (pl := some ⟨X.heap.size, 0, none⟩) (cl := 2) (HV.out _ (belowP hX hbX)).pa smp_sz smp_szs smp_right ⟨Nat.le_refl _, fun _ => ⟨_, _, rfl, rfl, fun j x hj => by
   rw [Nat.zero_add]
   exact cell_row (cur := [Value.int .i64 1, .int .i64 2]) (heap_alloc_new _ _) j _ (by rw [show [Value.int .i64 1, .int .i64 2] = ([1, 2] : List Int).map (Value.int .i64) from rfl, List.getElem?_map, hj]; rfl)⟩⟩ (fun k hk => by subst hk; simp) (by decide)
  rw [HVA.out, smp_there] at this
  refine this.mono fun e w' h => ?_
  obtain ⟨p, c, h1, h2, h3⟩ := (smp_byp h).rd
  exact ⟨p, c, h1, h2.carry (fun _ _ => rfl) fun k hk => hk.2, belowP hbX h3⟩
 have HSA : Hid (∀ X p c, RdI (· < X.heap.size) X p c [2, 1] → Calls Tryz.prog 6 #[.slice p 2 c, .slice (some ⟨X.heap.size, 0, none⟩) 2 2] (X.alloc (.cells #[.int .i64 2, .int .i64 1] 3)) fun e w' => e = .returned (.bool true) ∧ Below X.heap.size X w') := fun X p c hr => by
  have hbX : Below X.heap.size X (X.alloc (.cells #[.int .i64 2, .int .i64 1] 3)) := (Below.refl _ _).alloc (Nat.le_refl _) _
  have := same12_any (O := (· < X.heap.size)) (O' := fun k => k = X.heap.size) [2, 1] [2, 1] p (some ⟨X.heap.size, 0, none⟩) c 2 _ (hr.same (Same.of_below hbX fun _ h => h)) ⟨Nat.le_refl _, fun _ => ⟨_, _, rfl, rfl, fun j x hj => by
   rw [Nat.zero_add]
   exact cell_row (cur := [Value.int .i64 2, .int .i64 1]) (heap_alloc_new _ _) j _ (by rw [show [Value.int .i64 2, .int .i64 1] = ([2, 1] : List Int).map (Value.int .i64) from rfl, List.getElem?_map, hj]; rfl)⟩⟩ (by decide) (by decide)
  refine this.mono fun e w' h => ⟨h.1, belowP hbX (h.2.below (Nat.le_refl _) fun _ _ h => h)⟩
 have HL2 : Hid (∀ X, Below W1.heap.size W1 X → Calls Tryz.prog 26 #[.agg L.toArray, .int .i64 2] X fun e w' => e = .returned (.int .i64 100) ∧ Below X.heap.size X w') := fun X hX => by
  have := level_top (HV.out X hX).pa smp_sz smp_szs 2
  rw [HVA.out, smp_v2] at this
  exact this
 have HL1 : Hid (∀ X, Below W1.heap.size W1 X → Calls Tryz.prog 26 #[.agg L.toArray, .int .i64 1] X fun e w' => e = .returned (.int .i64 0) ∧ Below X.heap.size X w') := fun X hX => by
  have := level_top (HV.out X hX).pa smp_sz smp_szs 1
  rw [HVA.out, smp_v1] at this
  exact this
 have HNE : Hid (∀ X, Below W1.heap.size W1 X → Calls Tryz.prog 28 #[.agg L.toArray, .slice none 0 0, .int .i64 1] X fun e w' => e = .returned (.int .i64 0) ∧ Below X.heap.size X w') := fun X hX => by
  have := nearP_any (O := fun _ => False) (l := []) (pl := none) (cl := 0) (HV.out X hX).pa smp_sz (Rd.nil _ _ _ _ _) (fun _ h => h.elim) (by decide) (fun x hx => by cases hx) 1
  rw [HVA.out, smp_near] at this
  exact this
 have hcur : Below W1.heap.size W1 W1 := Below.refl _ _
 have HW0 : Hid (Below w.heap.size w W1) := hW0
 generalize q.ce = ce at *
 clear hp hb1 hbP hVP HL HV hqe HVA hW0 hqr HEV
 go_wp2_with (first
  | (refine wpList_loadK rfl 27 _ rfl w1.heap.size 0 rfl L (HLD.out _ hcur) ?_)
  | (refine wpList_load_midg (by kernel_rfl) 27 _ rfl w1.heap.size 0 rfl L (HLD.out _ hcur) ?_)
  | (go_at_call 13; refine (HRI.out _ hcur).mono ?_; rintro e w2 ⟨rfl, hb2⟩; replace hcur := belowP hcur hb2)
  | (go_at_call 10; refine (HBP.out _ hcur).mono ?_; rintro e w3 ⟨p3, c3, rfl, hr3, hb3⟩; replace hcur := belowP hcur hb3)
  | (go_at_call 6; refine (HSA.out _ p3 c3 hr3).mono ?_; rintro e w4 ⟨rfl, hb4⟩; clear hr3; replace hcur := belowP hcur hb4)
  | (go_at_call 26; refine (HL2.out _ hcur).mono ?_; rintro e w5 ⟨rfl, hb5⟩; clear HL2; replace hcur := belowP hcur hb5)
  | (go_at_call 26; refine (HL1.out _ hcur).mono ?_; rintro e w5 ⟨rfl, hb5⟩; replace hcur := belowP hcur hb5; have c1 := HC1.out _ hcur; obtain ⟨LX, HLX⟩ := HEX.out _ hcur)
  | (refine wpList_load_midg (by kernel_rfl) 41 _ rfl eb (eo + 16) rfl LX HLX.out.1 ?_)
  | (go_at_call 27; refine HLX.out.2.mono ?_; rintro e w6 ⟨rfl, hb6⟩; clear HLX; obtain ⟨LX, HLX⟩ := HEC.out _ (belowP hcur hb6); have c1 := HC1.out _ (belowP hcur hb6); clear HEX; replace hcur := belowP hcur hb6)
  | (refine wpList_load_midg (by kernel_rfl) 41 _ rfl eb eo rfl LX HLX.out.1 ?_)
  | (go_at_call 27; refine HLX.out.2.mono ?_; rintro e w8 ⟨rfl, hb8⟩; replace hcur := belowP hcur hb8)
  | (go_at_call 28; refine (HNE.out _ hcur).mono ?_; rintro e w7 ⟨rfl, hb7⟩; replace hcur := belowP hcur hb7))
 go_ret
 exact ⟨rfl, belowP HW0.out hcur⟩
end Go.Proofs.YtimhpglfolbomabGreat.Od

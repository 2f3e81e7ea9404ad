/-
  What each of some places leans on, by where it stands among them: by a contract.
  Comparisons: by contracts.
  In which order places are ranked: as plain functions.
  The comparisons of ranked, one behind the other: by contracts.
  Places sorted by comparisons, one behind the other: by a contract.
-/
import Derived.Test.YtimhpglfolbomabGreatRL12
set_option maxRecDepth 100000
set_option maxHeartbeats 16000000
namespace Go.Proofs.YtimhpglfolbomabGreat.Od
open Go.RowKit Go.Maps
theorem run_lookupI {w : World} {b N : Nat} {f : Int → Option Int} (h : MapI w b N f) {z : Int} (hz : wf64 z) : (Instr.lookup 43 (.map (some b)) (.int .i64 z) false).run Tryz.prog w = .ok (.int .i64 ((f z).getD 0)) w := by
 obtain ⟨D, h1, h2⟩ := h
 obtain ⟨c, hrun, hat, _⟩ := h1.lookup_int lawI Tryz.underlying43 Tryz.underlying3 (zero3 w) (keyI hz)
 obtain ⟨e1, _⟩ := unM_look h2 hz hat
 rw [hrun, e1]
def rwT (Q : List (List Nat)) (Th : List Nat) (p : Nat) : List Nat := (par Q (Th.getD p 0)).map fun (j : Nat) => (zs Th).idxOf (j : Int)
def rwsT (Q : List (List Nat)) (Th : List Nat) : List (List Nat) := (List.range Th.length).map (rwT Q Th)
def rwJ (Q : List (List Nat)) (Th : List Nat) (m j p : Nat) : List Nat := if p < m then rwT Q Th p else if p = m then (rwT Q Th m).take j else []
theorem rwJ_zero (Q : List (List Nat)) (Th : List Nat) (m p : Nat) : rwJ Q Th m 0 p = if p < m then rwT Q Th p else [] := by
 unfold rwJ
 split
 · rfl
 · split <;> simp
theorem rwJ_all (Q : List (List Nat)) (Th : List Nat) (m p : Nat) : rwJ Q Th m (par Q (Th.getD m 0)).length p = rwJ Q Th (m + 1) 0 p := by
 rw [rwJ_zero]
 unfold rwJ
 by_cases h : p < m
 · rw [if_pos h, if_pos (by omega)]
 · by_cases e : p = m
   · subst e
     rw [if_neg h, if_pos rfl, if_pos (by omega), List.take_of_length_le (by simp [rwT])]
   · rw [if_neg h, if_neg e, if_neg (by omega)]
theorem rwJ_next {Q : List (List Nat)} {Th : List Nat} {m j : Nat} (hj : j < (par Q (Th.getD m 0)).length) (p : Nat) : rwJ Q Th m (j + 1) p = if p = m then rwJ Q Th m j m ++ [(zs Th).idxOf (((par Q (Th.getD m 0)).getD j 0 : Nat) : Int)] else rwJ Q Th m j p := by
 unfold rwJ
 by_cases e : p = m
 · subst e
   rw [if_neg (by omega), if_pos rfl, if_pos rfl, if_neg (by omega), if_pos rfl, take_snoc _ j 0 (by simpa [rwT] using hj)]
   congr 2
   unfold rwT
   rw [getD_in (by simpa using hj), getD_in hj]
   simp
 · rw [if_neg e, if_neg e, if_neg e]
theorem rwJ_len (Q : List (List Nat)) (Th : List Nat) (m j : Nat) : (rwJ Q Th m j m).length ≤ j := by
 unfold rwJ
 rw [if_neg (by omega), if_pos rfl, List.length_take]
 omega
def RowsP (Q : List (List Nat)) (Th : List Nat) (w : World) (e : Ending) (w' : World) : Prop :=
 ∃ c, e = .returned (.slice (some ⟨c, 0, none⟩) Th.length Th.length) ∧ RdR (fun k => w.heap.size ≤ k ∧ k < w'.heap.size) w' (some ⟨c, 0, none⟩) Th.length ((rwsT Q Th).map zs) ∧ Below w.heap.size w w'
theorem rows_any {O : Nat → Prop} {w : World} {p : Pa} {q : Pq} {Th : List Nat} {pl : Option Addr} {cl : Nat} (h : IsPa (· < w.heap.size) w p q) (hz : SzPa p) (hr : backT p.auth p.evs.length = true) (hl : RdI O w pl cl (zs Th)) (hO : ∀ k, O k → k < w.heap.size) (hTl : Th.length ≤ 30) (hb : ∀ x ∈ Th, x < p.evs.length) (hc : ∀ x ∈ Th, ∀ y ∈ par (toQ p.auth) x, y ∈ Th) :
    Calls Tryz.prog 35 #[valPa p q, .slice pl (zs Th).length cl] w (RowsP (toQ p.auth) Th w) := by
 obtain ⟨W0, hW0⟩ : ∃ W0, W0 = w.alloc (.cells (cellsPa p q).toArray 27) := ⟨_, rfl⟩
 have hb0 : Below w.heap.size w W0 := by rw [hW0]; exact (Below.refl _ _).alloc (Nat.le_refl _) _
 have V : IsVP W0 w.heap.size p q := by rw [hW0]; exact isVP_new h
 have hen := hz.evs
 have hwz : ∀ x ∈ zs Th, wf64 x := fun x hx => by
  obtain ⟨y, hy, rfl⟩ := List.mem_map.1 hx
  have := hb y hy
  unfold wf64
  omega
 have hst := stands_any (w := W0) (hl.same (Same.of_below hb0 hO)) (fun k hk => Nat.lt_of_lt_of_le (hO k hk) hb0.size) (by rw [zs_len]; omega) hwz
 have HV : Hid (∀ X, Below W0.heap.size W0 X → IsVP X w.heap.size p q) := fun X hX => V.below hX
 have HC3 : Hid (∀ X, Below W0.heap.size W0 X → X.cell? ⟨w.heap.size, 3, none⟩ = some (.slice q.a p.evs.length q.ca)) := fun X hX => by rw [← (back_of hr).2.2]; exact (V.below hX).c3
 have HRW : Hid (∀ X, Below W0.heap.size W0 X → ∀ i, i < p.evs.length → ∃ ad p1 c1, q.a = some ad ∧ X.cell? (ad.add i) = some (.slice p1 (par (toQ p.auth) i).length c1) ∧ RdI (· < W0.heap.size) X p1 c1 (zs (par (toQ p.auth) i))) := fun X hX i hi => by
  obtain ⟨ad, p1, c1, h1, _, h3, h4, _⟩ := row_at (V.pa.auth.below hX) hr hi
  exact ⟨ad, p1, c1, h1, h3, h4⟩
 have HRL : Hid (∀ i, i < p.evs.length → (par (toQ p.auth) i).length ≤ 30) := fun i hi => row_len hz hr hi
 have HLI : Hid (∀ X, Below W0.heap.size W0 X → RdI O X pl cl (zs Th)) := fun X hX => hl.same (Same.of_below (belowP hb0 hX) hO)
 have HIN : Hid (∀ x ∈ Th, x < p.evs.length) := hb
 have HCH : Hid (∀ x ∈ Th, ∀ y ∈ par (toQ p.auth) x, y ∈ Th) := hc
 generalize toQ p.auth = Q at *
 obtain ⟨s, hsl⟩ : ∃ s, (zs Th).length = s := ⟨_, rfl⟩
 have HSL : Hid ((zs Th).length = s) := hsl
 have HSN : Hid (Th.length = s) := by show _ = _; rw [← zs_len]; exact hsl
 have hs30 : s ≤ 30 := by rw [← HSN.out]; exact hTl
 have HB0 : Hid (Below w.heap.size w W0) := hb0
 rw [hsl] at hst ⊢
 clear V h hz hr hl hO hb hc hwz hTl hsl hb0
 unfold valPa
 generalize cellsPa p q = CP at *
 generalize p.evs.length = n1 at *
 go_enter Tryz.func35, Tryz.ntmps35
 go_upto_region 1 with fail
 rw [← hW0]
 clear hW0
 go_wp2_with (first
  | (go_at_call 29; refine hst.mono ?_; rintro e w1 ⟨mb, N, rfl, hmb, hN, hM, hb1⟩; clear hst)
  | (refine wpList_rows rfl _ _ rfl s (by omega) rfl rfl ?_; intro w2 hw2))
 have hml := hM.lt
 have hb2 : Below w1.heap.size w1 w2 := by rw [hw2.out]; exact (Below.refl _ _).alloc (Nat.le_refl _) _
 have hCh0 : Ch w1.heap.size w2 w1.heap.size mb (List.replicate s nilS) (rwJ Q Th 0 0) := by rw [hw2.out]; exact (Ch.start _ _ _).congr fun p _ => by rw [rwJ_zero]; simp
 have hs2 : w2.heap.size = w1.heap.size + 1 := by rw [hw2.out]; simp
 have HB1 : Hid (Below W0.heap.size W0 w1) := hb1
 have hB01 := hb1.size
 have HM : Hid (MapI w2 mb N (posI (zs Th))) := hM.same (hb2.block mb hml)
 obtain ⟨B, hB⟩ : ∃ B, w1.heap.size = B := ⟨_, rfl⟩
 have HBB : Hid (w1.heap.size = B) := hB
 rw [hB] at hCh0 hb2 hs2 hml hB01 ⊢
 obtain ⟨cb, hcb⟩ : ∃ cb, B = cb := ⟨_, rfl⟩
 have hBcb : B ≤ cb := by omega
 have hcbm : cb ≠ mb := by omega
 have hcb2 : cb < w2.heap.size := by omega
 have HC0 : Hid (Ch B w2 cb mb (List.replicate s nilS) (rwJ Q Th 0 0)) := by rw [← hcb]; exact hCh0
 have HB2 : Hid (Below B w1 w2) := hb2
 rw [show (Value.slice (some ⟨B, 0, none⟩) s s) = Value.slice (some ⟨cb, 0, none⟩) s s by rw [hcb]]
 have HKW : Hid (∀ X, Keep (fun k => B ≤ k) w2 X → Below W0.heap.size W0 X) := fun X hX => HB1.out.trans ((HB2.out.trans (hX.below (by omega) (fun k hk => by omega))).mono (by omega))
 clear hw2 hCh0 hb2 hM hb1 hcb hB
 go_loopw [18] (fun i wr => ∃ (m : Nat) (cs : List Value), m ≤ s ∧ i = .int .i64 m ∧ cs.length = s ∧ Keep (fun k => B ≤ k) w2 wr ∧ Hid (Ch B wr cb mb cs (rwJ Q Th m 0))) (fun i _ => s - (intOf i).toNat)
 case atStart => exact ⟨0, _, Nat.zero_le _, rfl, by simp, Keep.refl _ _, HC0⟩
 case round =>
  clear HC0
  obtain ⟨m, cs, hm, rfl, hcs, hkp, HC⟩ := hrel
  by_cases hlt : m < s
  · have hml2 : m < (zs Th).length := by rw [HSL.out]; exact hlt
    have hmT : m < Th.length := by rw [HSN.out]; exact hlt
    obtain ⟨adl, rfl, _, hcl⟩ := (HLI.out wr (HKW.out wr hkp)).at m 0 hml2
    rw [zs_getD] at hcl
    have hx := HIN.out _ (getD_inm (d := 0) hmT)
    have HCX : Hid (∀ y ∈ par Q (Th.getD m 0), y ∈ Th) := HCH.out _ (getD_inm (d := 0) hmT)
    have HNX : Hid (∀ j, j < (par Q (Th.getD m 0)).length → ∀ p, rwJ Q Th m (j + 1) p = if p = m then rwJ Q Th m j m ++ [(zs Th).idxOf (((par Q (Th.getD m 0)).getD j 0 : Nat) : Int)] else rwJ Q Th m j p) := fun j hj p => rwJ_next hj p
    have HAL : Hid (∀ p, rwJ Q Th m (par Q (Th.getD m 0)).length p = rwJ Q Th (m + 1) 0 p) := fun p => rwJ_all Q Th m p
    generalize Th.getD m 0 = x at *
    have hca := HC3.out wr (HKW.out wr hkp)
    obtain ⟨ada, p1, k1, hqa, hcr, hrr⟩ := HRW.out wr (HKW.out wr hkp) x hx
    have hrl := HRL.out x hx
    have HRR : Hid (∀ X, Keep (fun k => B ≤ k) wr X → RdI (· < W0.heap.size) X p1 k1 (zs (par Q x))) := fun X hX => hrr.same (Same.of_keep hX fun k hk => ⟨by have := hkp.size; have : k < W0.heap.size := hk; omega, by have : k < W0.heap.size := hk; omega⟩)
    rw [hqa] at hca
    obtain ⟨r, hrlen⟩ : ∃ r, (par Q x).length = r := ⟨_, rfl⟩
    have HRN : Hid ((par Q x).length = r) := hrlen
    rw [hrlen] at hcr hrl HNX HAL
    clear hrlen hrr
    obtain ⟨W3, hW3⟩ : ∃ W3, W3 = wr := ⟨_, rfl⟩
    have HW3 : Hid (W3 = wr) := hW3
    have HCW : Hid (Ch B W3 cb mb cs (rwJ Q Th m 0)) := by rw [hW3]; exact HC
    have HKP : Hid (Keep (fun k => B ≤ k) w2 W3) := by rw [hW3]; exact hkp
    rw [← hW3] at HRR
    have HK0 : Hid (Keep (fun k => B ≤ k) W3 wr) := by rw [hW3]; exact Keep.refl _ _
    clear HC hkp hW3
    go_upto_region 7 with fail
    go_loopw [29] (fun i wx => ∃ (j : Nat) (cs : List Value), j ≤ r ∧ i = .int .i64 j ∧ cs.length = s ∧ Keep (fun k => B ≤ k) W3 wx ∧ Hid (Ch B wx cb mb cs (rwJ Q Th m j))) (fun i _ => r - (intOf i).toNat)
    case atStart => exact ⟨0, cs, Nat.zero_le _, rfl, hcs, HK0.out, by rw [← HW3.out]; exact HCW⟩
    case round =>
     clear hcr hca hcl HCW HK0 HW3 hcs
     obtain ⟨j, cs, hj, rfl, hcs, hkp, HC⟩ := hrel
     by_cases hjt : j < r
     · have hjr : j < (par Q x).length := by rw [HRN.out]; exact hjt
       obtain ⟨adr, rfl, _, hcj⟩ := (HRR.out wr hkp).at j 0 (by rw [zs_len]; exact hjr)
       rw [zs_getD] at hcj
       have hyT := HCX.out _ (getD_inm (d := 0) hjr)
       have HNJ : Hid (∀ p, rwJ Q Th m (j + 1) p = if p = m then rwJ Q Th m j m ++ [(zs Th).idxOf (((par Q x).getD j 0 : Nat) : Int)] else rwJ Q Th m j p) := HNX.out j hjt
       have hyn := HIN.out _ hyT
       generalize (par Q x).getD j 0 = y at *
       have hwy : wf64 (y : Int) := wf_nat (by omega)
       have hpos : posI (zs Th) (y : Int) = some ((zs Th).idxOf (y : Int) : Int) := by unfold posI; rw [if_pos ((zs_mem _ _).2 hyT)]
       generalize (zs Th).idxOf (y : Int) = i0 at *
       have hk2 : Keep (fun k => B ≤ k) w2 wr := HKP.out.trans hkp fun _ _ h => h
       have HMW : Hid (MapI wr mb N (posI (zs Th))) := HM.out.same (hk2.block mb (by omega) (by omega))
       have HLK : Hid (∀ X, Keep (fun k => B ≤ k) wr X → (Instr.lookup 43 (.map (some mb)) (.int .i64 (y : Int)) false).run Tryz.prog X = .ok (.int .i64 (i0 : Int)) X) := fun X hX => by
        have h1 := run_lookupI (w := X) (b := mb) (N := N) (HMW.out.same (hX.block mb (by have := HMW.out.lt; omega) (by omega))) hwy
        rw [hpos] at h1
        exact h1
       have hlen := rwJ_len Q Th m j
       have hzl := zs_len (rwJ Q Th m j m)
       have hsz : B ≤ wr.heap.size := by have := hk2.size; omega
       have hmw : mb < wr.heap.size := HMW.out.lt
       have hown := HC.out.own m (by omega)
       have hfz := frozen_of_row wr cb m _ _ HC.out.obj
       have hcx := cell_row (cur := cs) HC.out.obj m _ (by rw [List.getElem?_eq_getElem (by omega), ← getD_in (d := nilS) (by omega)])
       obtain ⟨Kk, hKk⟩ : ∃ Kk, Kk = rwJ Q Th m j := ⟨_, rfl⟩
       rw [← hKk] at hown HC hlen hzl
       have HP : Hid (∀ v' w1, w1.ownsRow B 3 1 v' (zs (Kk m) ++ [(i0 : Int)]).length ((zs (Kk m) ++ [(i0 : Int)]).map (Value.int .i64)) → (wr.drew.alloc (.cells #[.int .i64 (i0 : Int)] 3)).grownBy w1 (cs.getD m nilS).ownBlock → (v'.ownBlock = (cs.getD m nilS).ownBlock ∨ v'.ownBlock = some (wr.drew.alloc (.cells #[.int .i64 (i0 : Int)] 3)).heap.size) →
           Ch B (w1.setCell ⟨cb, m, none⟩ v') cb mb (cs.set m v') (rwJ Q Th m (j + 1)) ∧ Keep (fun k => B ≤ k) wr w1 ∧ w1.cell? ⟨cb, m, none⟩ = some (cs.getD m nilS) ∧ w1.frozen? ⟨cb, m, none⟩ = false) := by
        intro v' w1 ho hg hl
        have hk1 : Keep ((cs.getD m nilS).ownBlock = some ·) wr w1 := (((Keep.refl _ wr).drew).alloc (.cells #[.int .i64 (i0 : Int)] 3)).trans (Keep.of_grown (S := ((cs.getD m nilS).ownBlock = some ·)) hg fun k _ e => e) fun _ _ h => h
        have hlo : v'.ownBlock = (cs.getD m nilS).ownBlock ∨ ∀ k, v'.ownBlock = some k → wr.heap.size ≤ k := by
         refine hl.imp id fun e k hk => ?_
         rw [e] at hk
         cases hk
         simp
        obtain ⟨s1, s2, s3, s4⟩ := HC.out.step (p := m) (i := i0) (by omega) hmw ho hk1 hlo
        refine ⟨s1.congr fun p _ => ?_, hk1.mono fun k _ e => (hown.lt k e).1, s3, s4⟩
        rw [HNJ.out p, hKk]
       have hvs := own_rd hown
       obtain ⟨q0, c0, hv, _⟩ := hvs
       rw [hv] at hcx hown HP
       have hownA : (wr.drew.alloc (.cells #[.int .i64 (i0 : Int)] 3)).ownsRow B 3 1 (.slice q0 (zs (Kk m)).length c0) (zs (Kk m)).length ((zs (Kk m)).map (Value.int .i64)) := (show wr.drew.ownsRow B 3 1 _ _ _ from hown).alloc _
       have hnew : ∀ j u, ([.int .i64 (i0 : Int)] : List Value)[j]? = some u → (wr.drew.alloc (.cells #[.int .i64 (i0 : Int)] 3)).cell? (Addr.add ⟨wr.drew.heap.size, 0, none⟩ j) = some u := fun j u hu => by
        match j, hu with
        | 0, hu => simp at hu; subst hu; exact cell_row (cur := [_]) (heap_alloc_new _ _) 0 _ rfl
       have hC0 : Keep (fun k => B ≤ k) wr wr.drew := (Keep.refl _ _).drew
       have hC1 : Keep (fun k => B ≤ k) wr (wr.drew.alloc (.cells #[.int .i64 (i0 : Int)] 3)) := hC0.alloc _
       have hcx1 : (wr.drew.alloc (.cells #[.int .i64 (i0 : Int)] 3)).cell? ⟨cb, m, none⟩ = some (.slice q0 (zs (Kk m)).length c0) := (World.cell?_of_block (a := ⟨cb, m, none⟩) ((Below.refl wr.drew.heap.size wr.drew).alloc (Nat.le_refl _) (.cells #[.int .i64 (i0 : Int)] 3) |>.block cb (by show cb < wr.heap.size; exact obj_lt HC.out.obj))).trans hcx
       have HKk : Hid (Kk = rwJ Q Th m j) := hKk
       have hcx2 : (wr.alloc (.cells #[.int .i64 (i0 : Int)] 3)).cell? ⟨cb, m, none⟩ = some (.slice q0 (zs (Kk m)).length c0) := hcx1
       have hzn : (zs (Kk m)).length ≤ 30 := by rw [hzl]; omega
       clear hpos hown HC hv HMW hKk hzl hlen
       go_upto_region 9 with fail
       refine wp_region_in (by kernel_rfl) (fun w' => Keep (fun k => B ≤ k) wr w') ?_
       change wpIn _ _ _ _ _ _ _ _ (World.drew _)
       refine wpIn_tk (i := 0) (d := some 33) rfl ?_
       refine wpIn_tk (i := 1) (d := some 34) rfl ?_
       refine wpIn_tk (i := 2) (d := some 35) rfl ?_
       refine wpIn_tk (i := 3) (d := some 36) rfl ?_
       refine wpIn_tk (i := 4) (d := some 37) rfl ?_
       refine wpIn_tk (i := 6) (d := some 39) rfl ?_
       refine wpIn_tk (i := 7) (d := some 40) rfl ?_
       refine wpIn_take (i := 8) (d := (some 41)) (v := .int .i64 (i0 : Int)) (a' := ?ar8) rfl rfl (by kernel_rfl) (by kernel_rfl) (by kernel_rfl) (fun _ _ _ h => h) (Or.inl ⟨by rfl, ?yr8⟩) ?fr8 ?_
       case yr8 => (intro wq hq; have hlk := HLK.out wq hq; go_simp; first | done | with_reducible rfl)
       case fr8 => (go_frame; rfl)
       refine wpIn_pair (i := 5) (j := 9) hC0 (by kernel_rfl) rfl rfl (by rfl) (by rfl) ?_ ?_
       · intro K hK
         go_simp
         refine hK _ _ ?_
         clear hK K
         refine wpIn_do (i := 9) hC0 (by kernel_rfl) rfl (by rfl) ?_
         intro K hK
         go_simp
         refine hK _ _ ?_
         clear hK K
         refine wpIn_do (i := 10) hC1 (by kernel_rfl) rfl (by rfl) ?_
         intro K hK
         refine wp_append_at (.tmp 38) (.tmp 42) 28 rfl B 3 (.int .i64 0) 1 8 Tryz.underlying28 Tryz.info3 rfl (by decide) (by decide) _ (zs (Kk m)).length ((zs (Kk m)).map (Value.int .i64)) rfl hownA _ [.int .i64 (i0 : Int)] rfl rfl hnew (fun u hu => by simp at hu; subst hu; rfl) (by omega) (by show B ≤ (wr.alloc _).heap.size; simp; omega) ?_
         intro v' w5 ho5 hg5 hl5
         refine hK _ _ ?_
         clear hK K
         have ho6 := own_snoc ho5
         obtain ⟨g1, g2, g3, g4⟩ := HP.out v' w5 ho6 hg5 hl5
         have G1 : Hid _ := g1
         have hC5 : Keep (fun k => B ≤ k) wr w5 := g2
         clear ho5 hg5 hl5 g1 g2
         obtain ⟨q', c', rfl, _⟩ := own_rd ho6
         rw [show (zs (Kk m) ++ [(i0 : Int)]).length = (zs (Kk m)).length + 1 by simp] at G1 ⊢
         refine wpIn_tk (i := 11) (d := some 44) rfl ?_
         refine wpIn_do (i := 12) hC5 (by kernel_rfl) rfl (by rfl) ?_
         intro K hK
         go_simp
         refine hK _ _ ?_
         clear hK K
         refine wpIn_done (hC5.setCell (p := ⟨cb, m, none⟩) (fun _ => hBcb) _) (by kernel_rfl) ?_ _
         go_wp2
         go_roundw
         case rel => exact ⟨j + 1, _, by omega, by go_num, by rw [List.length_set]; exact hcs, hkp.trans (hC5.setCell (p := ⟨cb, m, none⟩) (fun _ => hBcb) _) (fun _ _ h => h), G1⟩
         case measure => simp [intOf]; try omega
       · intro K hK
         go_simp
         refine hK _ _ ?_
         clear hK K
         refine wpIn_do (i := 5) hC1 (by kernel_rfl) rfl (by rfl) ?_
         intro K hK
         go_simp
         refine hK _ _ ?_
         clear hK K
         refine wpIn_do (i := 10) hC1 (by kernel_rfl) rfl (by rfl) ?_
         intro K hK
         refine wp_append_at (.tmp 38) (.tmp 42) 28 rfl B 3 (.int .i64 0) 1 8 Tryz.underlying28 Tryz.info3 rfl (by decide) (by decide) _ (zs (Kk m)).length ((zs (Kk m)).map (Value.int .i64)) rfl hownA _ [.int .i64 (i0 : Int)] rfl rfl hnew (fun u hu => by simp at hu; subst hu; rfl) (by omega) (by show B ≤ (wr.alloc _).heap.size; simp; omega) ?_
         intro v' w5 ho5 hg5 hl5
         refine hK _ _ ?_
         clear hK K
         have ho6 := own_snoc ho5
         obtain ⟨g1, g2, g3, g4⟩ := HP.out v' w5 ho6 hg5 hl5
         have G1 : Hid _ := g1
         have hC5 : Keep (fun k => B ≤ k) wr w5 := g2
         clear ho5 hg5 hl5 g1 g2
         obtain ⟨q', c', rfl, _⟩ := own_rd ho6
         rw [show (zs (Kk m) ++ [(i0 : Int)]).length = (zs (Kk m)).length + 1 by simp] at G1 ⊢
         refine wpIn_tk (i := 11) (d := some 44) rfl ?_
         refine wpIn_do (i := 12) hC5 (by kernel_rfl) rfl (by rfl) ?_
         intro K hK
         go_simp
         refine hK _ _ ?_
         clear hK K
         refine wpIn_done (hC5.setCell (p := ⟨cb, m, none⟩) (fun _ => hBcb) _) (by kernel_rfl) ?_ _
         go_wp2
         go_roundw
         case rel => exact ⟨j + 1, _, by omega, by go_num, by rw [List.length_set]; exact hcs, hkp.trans (hC5.setCell (p := ⟨cb, m, none⟩) (fun _ => hBcb) _) (fun _ _ h => h), G1⟩
         case measure => simp [intOf]; try omega
     · obtain rfl : j = r := by omega
       have HC3 : Hid (Ch B wr cb mb cs (rwJ Q Th (m + 1) 0)) := HC.out.congr fun p _ => by rw [HAL.out]
       go_wp2
       go_roundw
       case rel => exact ⟨m + 1, cs, by omega, by go_num, hcs, HKP.out.trans hkp fun _ _ h => h, HC3⟩
       case measure => simp [intOf]; try omega
  · obtain rfl : m = s := by omega
    have hrd := HC.out.read hBcb hcbm
    rw [hcs, ← HSN.out] at hrd
    have HRD : Hid _ := hrd
    go_wp2
    go_ret
    have hk := HKW.out wr hkp
    have hbb := HB0.out.size
    have hkz := hk.size
    refine ⟨cb, by rw [HSN.out]; rfl, ?_, belowP HB0.out hk⟩
    have e1 : (List.range Th.length).map (fun p => zs (rwJ Q Th Th.length 0 p)) = (rwsT Q Th).map zs := by
     unfold rwsT
     rw [List.map_map]
     refine List.map_congr_left fun p hp => ?_
     rw [rwJ_zero, if_pos (List.mem_range.1 hp)]
     rfl
    rw [← e1]
    exact RdR.carry (O := fun k => B ≤ k ∧ k ≠ mb ∧ k < wr.heap.size) HRD.out (fun _ _ => rfl) fun k hk => ⟨by omega, hk.2.2⟩
def cmpZ (a b : Int) : Int := if a < b then -1 else if b < a then 1 else 0
def cmpB (a b : ByteArray) : Int := if ltK a b = true then -1 else if ltK b a = true then 1 else 0
theorem nan3_any {w : World} (a : Int) : Calls Tryz.prog 74 #[.int .i64 a] w fun e w' => e = .returned (.bool false) ∧ w = w' := by
 go_enter Tryz.func74, Tryz.ntmps74
 go_wp2
 go_ret
 exact ⟨ret_bool (by simp), rfl⟩
theorem nan2_any {w : World} (a : Int) : Calls Tryz.prog 69 #[.int .i64 a] w fun e w' => e = .returned (.bool false) ∧ w = w' := by
 go_enter Tryz.func69, Tryz.ntmps69
 go_wp2
 go_ret
 exact ⟨ret_bool (by simp), rfl⟩
theorem cmp3_any {w : World} (a b : Int) : Calls Tryz.prog 47 #[.int .i64 a, .int .i64 b] w fun e w' => e = .returned (.int .i64 (cmpZ a b)) ∧ w = w' := by
 have h1 := nan3_any (w := w) a
 have h2 := nan3_any (w := w) b
 unfold cmpZ
 by_cases c1 : a < b
 · have d1 : decide (a < b) = true := decide_eq_true c1
   go_enter Tryz.func47, Tryz.ntmps47
   go_wp2_with (first
    | (go_at_call 74; refine h1.mono ?_; rintro e w' ⟨rfl, rfl⟩; clear h1)
    | (go_at_call 74; refine h2.mono ?_; rintro e w' ⟨rfl, rfl⟩; clear h2))
   go_ret
   exact ⟨ret_int (by first | rfl | simp [*]), rfl⟩
 · by_cases c2 : b < a
   · go_enter Tryz.func47, Tryz.ntmps47
     go_wp2_with (first
      | (go_at_call 74; refine h1.mono ?_; rintro e w' ⟨rfl, rfl⟩; clear h1)
      | (go_at_call 74; refine h2.mono ?_; rintro e w' ⟨rfl, rfl⟩; clear h2))
     go_ret
     exact ⟨ret_int (by first | rfl | simp [*]), rfl⟩
   · go_enter Tryz.func47, Tryz.ntmps47
     go_wp2_with (first
      | (go_at_call 74; refine h1.mono ?_; rintro e w' ⟨rfl, rfl⟩; clear h1)
      | (go_at_call 74; refine h2.mono ?_; rintro e w' ⟨rfl, rfl⟩; clear h2))
     go_ret
     exact ⟨ret_int (by first | rfl | simp [*]), rfl⟩
theorem cmp2_any {w : World} (a b : Int) : Calls Tryz.prog 40 #[.int .i64 a, .int .i64 b] w fun e w' => e = .returned (.int .i64 (cmpZ a b)) ∧ w = w' := by
 have h1 := nan2_any (w := w) a
 have h2 := nan2_any (w := w) b
 unfold cmpZ
 by_cases c1 : a < b
 · go_enter Tryz.func40, Tryz.ntmps40
   go_wp2_with (first
    | (go_at_call 69; refine h1.mono ?_; rintro e w' ⟨rfl, rfl⟩; clear h1)
    | (go_at_call 69; refine h2.mono ?_; rintro e w' ⟨rfl, rfl⟩; clear h2))
   go_ret
   exact ⟨ret_int (by first | rfl | simp [*]), rfl⟩
 · by_cases c2 : b < a
   · go_enter Tryz.func40, Tryz.ntmps40
     go_wp2_with (first
      | (go_at_call 69; refine h1.mono ?_; rintro e w' ⟨rfl, rfl⟩; clear h1)
      | (go_at_call 69; refine h2.mono ?_; rintro e w' ⟨rfl, rfl⟩; clear h2))
     go_ret
     exact ⟨ret_int (by first | rfl | simp [*]), rfl⟩
   · go_enter Tryz.func40, Tryz.ntmps40
     go_wp2_with (first
      | (go_at_call 69; refine h1.mono ?_; rintro e w' ⟨rfl, rfl⟩; clear h1)
      | (go_at_call 69; refine h2.mono ?_; rintro e w' ⟨rfl, rfl⟩; clear h2))
     go_ret
     exact ⟨ret_int (by first | rfl | simp [*]), rfl⟩
theorem cmpS_any {w : World} (a b : ByteArray) : Calls Tryz.prog 43 #[.string a, .string b] w fun e w' => e = .returned (.int .i64 (cmpB a b)) ∧ w = w' := by
 have h1 := cNaN_any (w := w) a
 have h2 := cNaN_any (w := w) b
 have l1 := lessP_ltK a b
 have l2 := lessP_ltK b a
 unfold cmpB
 cases c1 : ltK a b with
 | true =>
  rw [c1] at l1
  go_enter Tryz.func43, Tryz.ntmps43
  go_wp2_with (first
   | (go_at_call 70; refine h1.mono ?_; rintro e w' ⟨rfl, rfl⟩; clear h1)
   | (go_at_call 70; refine h2.mono ?_; rintro e w' ⟨rfl, rfl⟩; clear h2))
  go_ret
  exact ⟨ret_int (by first | rfl | simp [*]), rfl⟩
 | false =>
  rw [c1] at l1
  cases c2 : ltK b a with
  | true =>
   rw [c2] at l2
   have e1 : (a.toList == b.toList) = false := by
    rw [beq_eq_false_iff_ne]
    intro h
    exact ltK_ne c2 (toList_inj h).symm
   go_enter Tryz.func43, Tryz.ntmps43
   go_wp2_with (first
    | (go_at_call 70; refine h1.mono ?_; rintro e w' ⟨rfl, rfl⟩; clear h1)
    | (go_at_call 70; refine h2.mono ?_; rintro e w' ⟨rfl, rfl⟩; clear h2))
   go_ret
   exact ⟨ret_int (by first | rfl | simp [*]), rfl⟩
  | false =>
   rw [c2] at l2
   have e1 : (a.toList == b.toList) = true := by
    by_cases h : a = b
    · rw [h]; exact beq_self_eq_true _
    · rcases ltK_total h with h' | h'
      · rw [c1] at h'; cases h'
      · rw [c2] at h'; cases h'
   go_enter Tryz.func43, Tryz.ntmps43
   go_wp2_with (first
    | (go_at_call 70; refine h1.mono ?_; rintro e w' ⟨rfl, rfl⟩; clear h1)
    | (go_at_call 70; refine h2.mono ?_; rintro e w' ⟨rfl, rfl⟩; clear h2))
   go_ret
   exact ⟨ret_int (by first | rfl | simp [*]), rfl⟩
theorem num_in {z : Int} {o : Option J} (h : (numT z o).2 = false) (hz : -1073741824 ≤ z ∧ z ≤ 1073741824) : -1073741824 ≤ (numT z o).1 ∧ (numT z o).1 ≤ 1073741824 := by
 cases o with
 | none => exact hz
 | some v =>
  simp only [numT, Bool.not_eq_false'] at h ⊢
  unfold lvOk at h
  simp only [Bool.and_eq_true, decide_eq_true_eq] at h
  exact h.2
theorem fnd_mem {l : Nms} {s : ByteArray} {x : Int} (h : fnd l s = some x) : ∃ p ∈ l, p.2 = x := by
 induction l with
 | nil => cases h
 | cons p r ih =>
  unfold fnd at h
  split at h
  · cases h
    exact ⟨p, List.mem_cons_self .., rfl⟩
  · obtain ⟨y, hy, e⟩ := ih h
    exact ⟨y, List.mem_cons_of_mem _ hy, e⟩
theorem usr_in {c : J} (h : (parseT c).2 = 0) (s : ByteArray) : -1073741824 ≤ usr (parseT c).1 s ∧ usr (parseT c).1 s ≤ 1073741824 := by
 unfold parseT at h ⊢
 split at h
 · cases h
 · rename_i hb
   rw [if_neg hb]
   unfold parseB at hb
   simp only [Bool.or_eq_true, not_or, Bool.not_eq_true] at hb
   obtain ⟨⟨⟨_, hu⟩, hrow⟩, _⟩ := hb
   show _ ≤ (fnd (parseL c).byUser s).getD (parseL c).users ∧ (fnd (parseL c).byUser s).getD (parseL c).users ≤ _
   cases hf : fnd (parseL c).byUser s with
   | none => exact num_in hu (by omega)
   | some x =>
    obtain ⟨q, hq, rfl⟩ := fnd_mem hf
    show _ ≤ q.2 ∧ q.2 ≤ _
    have hq2 : q ∈ (rowT isU (lookV c.ks c.ls kByUser)).1 := hq
    revert hq2 hrow
    cases lookV c.ks c.ls kByUser with
    | none => intro _ h; cases h
    | some v =>
     intro hrow hq2
     simp only [rowT, Bool.or_eq_false_iff] at hrow
     obtain ⟨y, hy, rfl⟩ := List.mem_map.1 hq2
     have := List.any_eq_false.1 hrow.2 y hy
     unfold badIn lvOk at this
     simp only [Bool.or_eq_true, not_or, Bool.not_eq_true', Bool.not_eq_false, Bool.and_eq_true, decide_eq_true_eq] at this
     exact this.2.2
theorem level_in (p : Pa) (i : Nat) : -1073741824 ≤ levelT p i ∧ levelT p i ≤ 1073741824 := by
 unfold levelT
 split
 · split
   · rename_i h; exact usr_in h _
   · omega
 · split
   · unfold usr
     show _ ≤ (fnd [(_, (100 : Int))] _).getD 0 ∧ (fnd [(_, (100 : Int))] _).getD 0 ≤ _
     unfold fnd
     split
     · exact ⟨by show (-1073741824 : Int) ≤ 100; decide, by show (100 : Int) ≤ 1073741824; decide⟩
     · unfold fnd; exact ⟨by decide, by decide⟩
   · omega
theorem level_wf (p : Pa) (i : Nat) : wf64 (levelT p i) := by
 have := level_in p i
 unfold wf64
 omega
def nmT (p : Pa) (i : Nat) : ByteArray := p.names.getD i nix
def cmpT (num : Nat → Int) (p : Pa) (a b : Nat) : Int :=
 if cmpZ (num b) (num a) ≠ 0 then cmpZ (num b) (num a) else if cmpZ (evT p a).ts (evT p b).ts ≠ 0 then cmpZ (evT p a).ts (evT p b).ts else if cmpB (nmT p a) (nmT p b) ≠ 0 then cmpB (nmT p a) (nmT p b) else cmpZ a b
def LtT (num : Nat → Int) (p : Pa) (a b : Nat) : Prop :=
 num b < num a ∨ num a = num b ∧ ((evT p a).ts < (evT p b).ts ∨ (evT p a).ts = (evT p b).ts ∧ (ltK (nmT p a) (nmT p b) = true ∨ nmT p a = nmT p b ∧ a < b))
theorem cmpZ_neg (a b : Int) : cmpZ a b < 0 ↔ a < b := by unfold cmpZ; split <;> (try split) <;> omega
theorem cmpZ_zero (a b : Int) : cmpZ a b = 0 ↔ a = b := by unfold cmpZ; split <;> (try split) <;> omega
theorem cmpB_neg (a b : ByteArray) : cmpB a b < 0 ↔ ltK a b = true := by
 unfold cmpB
 split
 · rename_i h; simp [h]
 · rename_i h
   split <;> simp [h]
theorem cmpB_zero (a b : ByteArray) : cmpB a b = 0 ↔ a = b := by
 unfold cmpB
 constructor
 · intro h
   refine Classical.byContradiction fun hn => ?_
   rcases ltK_total hn with h' | h'
   · rw [if_pos h'] at h; cases h
   · split at h
     · cases h
     · first
         | (cases h; done)
         | (rw [if_pos h'] at h; cases h)
 · rintro rfl
   rw [ltK_irrefl]
   rfl
theorem cmpT_neg (num : Nat → Int) (p : Pa) (a b : Nat) : cmpT num p a b < 0 ↔ LtT num p a b := by
 unfold cmpT LtT
 by_cases h1 : cmpZ (num b) (num a) = 0
 · have e1 := (cmpZ_zero _ _).1 h1
   rw [if_neg (by simpa using h1)]
   by_cases h2 : cmpZ (evT p a).ts (evT p b).ts = 0
   · have e2 := (cmpZ_zero _ _).1 h2
     rw [if_neg (by simpa using h2)]
     by_cases h3 : cmpB (nmT p a) (nmT p b) = 0
     · have e3 := (cmpB_zero _ _).1 h3
       rw [if_neg (by simpa using h3), cmpZ_neg]
       constructor
       · intro h; exact .inr ⟨e1.symm, .inr ⟨e2, .inr ⟨e3, by omega⟩⟩⟩
       · rintro (h | ⟨_, h | ⟨_, h | ⟨_, h⟩⟩⟩)
         · omega
         · omega
         · rw [e3, ltK_irrefl] at h; cases h
         · omega
     · rw [if_pos h3, cmpB_neg]
       constructor
       · intro h; exact .inr ⟨e1.symm, .inr ⟨e2, .inl h⟩⟩
       · rintro (h | ⟨_, h | ⟨_, h | ⟨h, _⟩⟩⟩)
         · omega
         · omega
         · exact h
         · exact absurd ((cmpB_zero _ _).2 h) h3
   · rw [if_pos h2, cmpZ_neg]
     have e2 : ¬ (evT p a).ts = (evT p b).ts := fun h => h2 ((cmpZ_zero _ _).2 h)
     constructor
     · intro h; exact .inr ⟨e1.symm, .inl h⟩
     · rintro (h | ⟨_, h | ⟨h, _⟩⟩)
       · omega
       · exact h
       · exact absurd h e2
 · rw [if_pos h1, cmpZ_neg]
   have e1 : ¬ num b = num a := fun h => h1 ((cmpZ_zero _ _).2 h)
   constructor
   · intro h; exact .inl h
   · rintro (h | ⟨h, _⟩)
     · exact h
     · exact absurd h.symm e1
theorem ltT_irrefl (num : Nat → Int) (p : Pa) (a : Nat) : ¬ LtT num p a a := by
 unfold LtT
 rintro (h | ⟨_, h | ⟨_, h | ⟨_, h⟩⟩⟩)
 · omega
 · omega
 · rw [ltK_irrefl] at h; cases h
 · omega
theorem ltT_trans {num : Nat → Int} {p : Pa} {a b c : Nat} (h : LtT num p a b) (k : LtT num p b c) : LtT num p a c := by
 unfold LtT at *
 rcases h with h | ⟨h1, h⟩
 · rcases k with k | ⟨k1, _⟩ <;> exact .inl (by omega)
 · rcases k with k | ⟨k1, k⟩
   · exact .inl (by omega)
   · refine .inr ⟨by omega, ?_⟩
     rcases h with h | ⟨h2, h⟩
     · rcases k with k | ⟨k2, _⟩ <;> exact .inl (by omega)
     · rcases k with k | ⟨k2, k⟩
       · exact .inl (by omega)
       · refine .inr ⟨by omega, ?_⟩
         rcases h with h | ⟨h3, h⟩
         · rcases k with k | ⟨k3, _⟩
           · exact .inl (ltK_trans h k)
           · exact .inl (k3 ▸ h)
         · rcases k with k | ⟨k3, k⟩
           · exact .inl (h3 ▸ k)
           · exact .inr ⟨h3.trans k3, by omega⟩
theorem ltT_total (num : Nat → Int) (p : Pa) {a b : Nat} (h : a ≠ b) : LtT num p a b ∨ LtT num p b a := by
 unfold LtT
 rcases Int.lt_trichotomy (num a) (num b) with h1 | h1 | h1
 · exact .inr (.inl h1)
 · rcases Int.lt_trichotomy (evT p a).ts (evT p b).ts with h2 | h2 | h2
   · exact .inl (.inr ⟨h1, .inl h2⟩)
   · by_cases h3 : nmT p a = nmT p b
     · rcases Nat.lt_or_gt_of_ne h with h4 | h4
       · exact .inl (.inr ⟨h1, .inr ⟨h2, .inr ⟨h3, h4⟩⟩⟩)
       · exact .inr (.inr ⟨h1.symm, .inr ⟨h2.symm, .inr ⟨h3.symm, h4⟩⟩⟩)
     · rcases ltK_total h3 with h4 | h4
       · exact .inl (.inr ⟨h1, .inr ⟨h2, .inl h4⟩⟩)
       · exact .inr (.inr ⟨h1.symm, .inr ⟨h2.symm, .inl h4⟩⟩)
   · exact .inr (.inr ⟨h1.symm, .inl h2⟩)
 · exact .inl (.inl h1)
structure Rkd (num : Nat → Int) (p : Pa) (S L : List Nat) : Prop where
 perm : L.Perm S
 sorted : L.Pairwise (LtT num p)
theorem rkd_one {num : Nat → Int} {p : Pa} : ∀ {L M : List Nat}, L.Perm M → L.Pairwise (LtT num p) → M.Pairwise (LtT num p) → L = M
 | [], M, h, _, _ => h.nil_eq
 | a :: L, M, h, h1, h2 => by
  cases M with
  | nil => exact absurd h.length_eq (by simp)
  | cons b M =>
   rw [List.pairwise_cons] at h1 h2
   have hab : a = b := by
    refine Classical.byContradiction fun hne => ?_
    have ha : a ∈ M := (List.mem_cons.1 (h.mem_iff.1 (List.mem_cons_self ..))).resolve_left hne
    have hb : b ∈ L := (List.mem_cons.1 (h.mem_iff.2 (List.mem_cons_self ..))).resolve_left fun e => hne e.symm
    exact ltT_irrefl num p a (ltT_trans (h1.1 b hb) (h2.1 a ha))
   subst hab
   rw [rkd_one (h.cons_inv) h1.2 h2.2]
theorem Rkd.uniq {num : Nat → Int} {p : Pa} {S L M : List Nat} (h : Rkd num p S L) (k : Rkd num p S M) : L = M := rkd_one (h.perm.trans k.perm.symm) h.sorted k.sorted
def MapL (w : World) (b N : Nat) (f : Int → Option Int) : Prop := ∃ D : DataW Unit, w.ownsMap Tryz.prog 3 (plainElem Tryz.prog 2) b N D ∧ unM 2 .i64 f D
theorem mapL_made (w : World) : MapL (w.alloc (.map #[] 0)) w.heap.size 0 (fun _ => none) := ⟨.map [], World.ownsMap_made _ _ _ _, unM_empty 2 .i64⟩
theorem MapL.same {w w' : World} {b N : Nat} {f : Int → Option Int} (h : MapL w b N f) (hs : w'.heap[b]? = w.heap[b]?) : MapL w' b N f := by
 obtain ⟨D, ⟨es, clock, hb, r⟩, hn⟩ := h
 exact ⟨D, ⟨es, clock, by rw [hs]; exact hb, r⟩, hn⟩
theorem MapL.lt {w : World} {b N : Nat} {f : Int → Option Int} (h : MapL w b N f) : b < w.heap.size := by
 obtain ⟨D, h1, _⟩ := h
 exact h1.lt
theorem zero2 (w : World) : (zeroValue 2).run Tryz.prog w = .ok (.int .i64 0) w := by kernel_rfl
theorem wpList_lookupL {w : World} {ops : Array Oper} {rest : List Oper} {o : Oper} {a : Act} {Q : Exit → Act → World → Prop} (hg : o.guard = none) (m x : Operand) (hop : o.op = Op.lookup 70 m x false) (b N : Nat) (f : Int → Option Int) (hm : a.eval m = .map (some b)) (h : MapL w b N f) (z : Int) (hz : wf64 z) (hx : a.eval x = .int .i64 z)
    (hK : wpList Tryz.prog ops Q rest (a.put o.dst (.int .i64 ((f z).getD 0))) w) : wpList Tryz.prog ops Q (o :: rest) a w := by
 obtain ⟨D, h1, h2⟩ := h
 refine wpList_lookup_own_int w hg m x 70 hop 3 2 .i64 lawI Tryz.underlying70 Tryz.underlying2 (zero2 _) b N D hm h1 _ _ hx (keyI hz) ?_
 intro c hat _
 obtain ⟨e1, _⟩ := unM_look h2 hz hat
 rw [e1]
 exact hK
theorem wp_updateL {w : World} {op : Oper} {a : Act} {K : Act → World → Prop} {Q : Exit → Act → World → Prop} (m x v : Operand) (hop : op.op = Op.mapUpdate 70 m x v) (b N : Nat) (f : Int → Option Int) (hm : a.eval m = .map (some b)) (h : MapL w b N f) (hN : N < 1000000) (z c : Int) (hz : wf64 z) (hc : wf64 c) (hx : a.eval x = .int .i64 z) (hv : a.eval v = .int .i64 c)
    (hK : ∀ w', MapL w' b (N + 1) (more f z c) → w.grownBy w' (some b) → K (a.put op.dst undef) w') : op.wp Tryz.prog a w K Q := by
 obtain ⟨D, h1, h2⟩ := h
 obtain ⟨w', hrun, r1, r2⟩ := h1.update lawI Tryz.underlying70 (by unfold maxLen; omega) (keyI hz) (plainElem_int Tryz.underlying2 (wf_lit hc))
 unfold Oper.wp
 simp [execOp, hop, hm, hx, hv, hrun, Result.andThen]
 exact hK w' ⟨_, r1, unM_put h2 z c⟩ r2
structure CloP (w : World) (O : Nat → Prop) (num : Nat → Int) (S : List Nat) (p : Pa) (q : Pq) (pb mc mb N fb bx : Nat) (f : Int → Option Int) : Prop where
 pa : w.heap[pb]? = some (.cells (cellsPa p q).toArray 27 (0, 0))
 is : IsPa O w p q
 mcell : w.cell? ⟨mc, 0, none⟩ = some (.map (some mb))
 map : MapL w mb N f
 tells : ∀ x ∈ S, f (x : Int) = some (num x)
 box : w.cell? ⟨bx, 0, none⟩ = some (.slice (some ⟨fb, 0, none⟩) 4 4)
 f0 : w.cell? ⟨fb, 0, none⟩ = some (.func (.func 39) #[] #[.pointer (some ⟨mc, 0, none⟩)])
 f1 : w.cell? ⟨fb, 1, none⟩ = some (.func (.func 41) #[] #[.pointer (some ⟨pb, 0, none⟩)])
 f2 : w.cell? ⟨fb, 2, none⟩ = some (.func (.func 42) #[] #[.pointer (some ⟨pb, 0, none⟩)])
 f3 : w.cell? ⟨fb, 3, none⟩ = some (.func (.func 47) #[] #[])
theorem clo1_any {w : World} {num : Nat → Int} {mc mb N : Nat} {f : Int → Option Int} (hc : w.cell? ⟨mc, 0, none⟩ = some (.map (some mb))) (hm : MapL w mb N f) (a b : Nat) (ha : f (a : Int) = some (num a)) (hb : f (b : Int) = some (num b)) (la : a ≤ 1000000) (lb : b ≤ 1000000) :
    Calls Tryz.prog 39 #[.int .i64 a, .int .i64 b, .pointer (some ⟨mc, 0, none⟩)] w fun e w' => e = .returned (.int .i64 (cmpZ (num b) (num a))) ∧ ∃ n, w' = w.drewN n := by
 have wa := wf_nat la
 have wb := wf_nat lb
 have HCM : Hid (∀ X : World, Calls Tryz.prog 40 #[.int .i64 (num b), .int .i64 (num a)] X fun e w' => e = .returned (.int .i64 (cmpZ (num b) (num a))) ∧ X = w') := fun X => cmp2_any _ _
 generalize cmpZ (num b) (num a) = r at *
 go_enter Tryz.func39, Tryz.ntmps39
 go_wp2_with (first
  | (at_lookup; refine wpList_lookupL rfl _ _ rfl mb N f rfl hm b wb rfl ?_; rw [hb])
  | (at_lookup; refine wpList_lookupL rfl _ _ rfl mb N f rfl hm a wa rfl ?_; rw [ha])
  | (go_at_call 40; refine (HCM.out _).mono ?_; rintro e w' ⟨rfl, rfl⟩))
 go_ret
 exact ⟨rfl, 0, rfl⟩
theorem clo2_any {w : World} {O : Nat → Prop} {p : Pa} {q : Pq} {pb : Nat} (hp : w.heap[pb]? = some (.cells (cellsPa p q).toArray 27 (0, 0))) (hi : IsPa O w p q) (_hn : p.evs.length ≤ 30) (a b : Nat) (la : a < p.evs.length) (lb : b < p.evs.length) :
    Calls Tryz.prog 41 #[.int .i64 a, .int .i64 b, .pointer (some ⟨pb, 0, none⟩)] w fun e w' => e = .returned (.int .i64 (cmpZ (evT p a).ts (evT p b).ts)) ∧ ∃ n, w' = w.drewN n := by
 have c1 : w.cell? ⟨pb, 1, none⟩ = some (.slice q.e p.evs.length q.ce) := cell_row hp 1 _ rfl
 obtain ⟨eb, eo, qa, hqe, _, hca, _⟩ := hi.evs.2 a la
 obtain ⟨eb', eo', qb, hqe', _, hcb, _⟩ := hi.evs.2 b lb
 rw [hqe] at hqe'
 cases hqe'
 have d1 : w.cell? ⟨eb, eo + a * 16 + 13, none⟩ = some (.int .i64 (evT p a).ts) := hca 13 _ rfl
 have d2 : w.cell? ⟨eb, eo + b * 16 + 13, none⟩ = some (.int .i64 (evT p b).ts) := hcb 13 _ rfl
 rw [hqe] at c1
 have hcon := fun wx : World => (cmp2_any (w := wx) (evT p a).ts (evT p b).ts).mono fun _ _ h => (⟨h.1, h.2.symm⟩ : _ ∧ _)
 generalize cmpZ (evT p a).ts (evT p b).ts = r at *
 generalize (evT p a).ts = ta at *
 generalize (evT p b).ts = tb at *
 have hel := hi.evs.1
 clear hca hcb hp hi
 generalize p.evs.length = n1 at *
 go_enter Tryz.func41, Tryz.ntmps41
 go_wp2
 go_quiet (first | (go_at_call 40; exact Calls.quiet_of_same (hcon _)))
 go_wp2
 go_ret
 exact ⟨rfl, nq, rfl⟩
theorem clo3_any {w : World} {O : Nat → Prop} {p : Pa} {q : Pq} {pb : Nat} (hp : w.heap[pb]? = some (.cells (cellsPa p q).toArray 27 (0, 0))) (hi : IsPa O w p q) (_hn : p.names.length ≤ 30) (a b : Nat) (la : a < p.names.length) (lb : b < p.names.length) :
    Calls Tryz.prog 42 #[.int .i64 a, .int .i64 b, .pointer (some ⟨pb, 0, none⟩)] w fun e w' => e = .returned (.int .i64 (cmpB (nmT p a) (nmT p b))) ∧ ∃ n, w' = w.drewN n := by
 have c1 : w.cell? ⟨pb, 0, none⟩ = some (.slice q.n p.names.length q.cn) := cell_row hp 0 _ rfl
 obtain ⟨ad, hqn, _, d1⟩ := hi.names.at a nix la
 obtain ⟨ad', hqn', _, d2⟩ := hi.names.at b nix lb
 rw [hqn] at hqn'
 cases hqn'
 change w.cell? (ad.add a) = some (.string (nmT p a)) at d1
 change w.cell? (ad.add b) = some (.string (nmT p b)) at d2
 rw [hqn] at c1
 have hcon := fun wx : World => (cmpS_any (w := wx) (nmT p a) (nmT p b)).mono fun _ _ h => (⟨h.1, h.2.symm⟩ : _ ∧ _)
 generalize cmpB (nmT p a) (nmT p b) = r at *
 generalize nmT p a = ta at *
 generalize nmT p b = tb at *
 have hel := hi.names.1
 clear hp hi
 generalize p.names.length = n1 at *
 go_enter Tryz.func42, Tryz.ntmps42
 go_wp2
 go_quiet (first | (go_at_call 43; exact Calls.quiet_of_same (hcon _)))
 go_wp2
 go_ret
 exact ⟨rfl, nq, rfl⟩
theorem turn_any {w : World} {O : Nat → Prop} {num : Nat → Int} {S : List Nat} {p : Pa} {q : Pq} {pb mc mb N fb bx : Nat} {f : Int → Option Int} (C : CloP w O num S p q pb mc mb N fb bx f) (hz : SzPa p) (hnl : p.names.length = p.evs.length) (hS : ∀ x ∈ S, x < p.evs.length) (a b : Nat) (ha : a ∈ S) (hb : b ∈ S) :
    Calls Tryz.prog 73 #[.int .i64 a, .int .i64 b, .pointer (some ⟨bx, 0, none⟩)] w fun e w' => e = .returned (.int .i64 (cmpT num p a b)) ∧ ∃ n, w' = w.drewN n := by
 have la := hS a ha
 have lb := hS b hb
 have hen := hz.evs
 have h1 := clo1_any C.mcell C.map a b (C.tells a ha) (C.tells b hb) (by omega) (by omega)
 have H2 : Hid (∀ n, Calls Tryz.prog 41 #[.int .i64 a, .int .i64 b, .pointer (some ⟨pb, 0, none⟩)] (w.drewN n) fun e w' => e = .returned (.int .i64 (cmpZ (evT p a).ts (evT p b).ts)) ∧ ∃ m, w' = w.drewN m) := fun n => (clo2_any (w := w.drewN n) C.pa (C.is.carry fun k hk => ⟨hk, rfl⟩) hen a b la lb).mono fun _ _ ⟨h1, m, h2⟩ => ⟨h1, n + m, by rw [h2, World.drewN_drewN]⟩
 have H3 : Hid (∀ n, Calls Tryz.prog 42 #[.int .i64 a, .int .i64 b, .pointer (some ⟨pb, 0, none⟩)] (w.drewN n) fun e w' => e = .returned (.int .i64 (cmpB (nmT p a) (nmT p b))) ∧ ∃ m, w' = w.drewN m) := fun n => (clo3_any (w := w.drewN n) C.pa (C.is.carry fun k hk => ⟨hk, rfl⟩) hz.names a b (by omega) (by omega)).mono fun _ _ ⟨h1, m, h2⟩ => ⟨h1, n + m, by rw [h2, World.drewN_drewN]⟩
 have H4 : Hid (∀ X : World, Calls Tryz.prog 47 #[.int .i64 a, .int .i64 b] X fun e w' => e = .returned (.int .i64 (cmpZ a b)) ∧ X = w') := fun X => cmp3_any _ _
 have HT : Hid (cmpT num p a b = if cmpZ (num b) (num a) ≠ 0 then cmpZ (num b) (num a) else if cmpZ (evT p a).ts (evT p b).ts ≠ 0 then cmpZ (evT p a).ts (evT p b).ts else if cmpB (nmT p a) (nmT p b) ≠ 0 then cmpB (nmT p a) (nmT p b) else cmpZ a b) := rfl
 have HC : Hid (∀ n : Nat, ((w.drewN n).cell? ⟨bx, 0, none⟩ = some (.slice (some ⟨fb, 0, none⟩) 4 4) ∧ (w.drewN n).cell? ⟨fb, 0, none⟩ = some (.func (.func 39) #[] #[.pointer (some ⟨mc, 0, none⟩)])) ∧ (w.drewN n).cell? ⟨fb, 1, none⟩ = some (.func (.func 41) #[] #[.pointer (some ⟨pb, 0, none⟩)]) ∧ (w.drewN n).cell? ⟨fb, 2, none⟩ = some (.func (.func 42) #[] #[.pointer (some ⟨pb, 0, none⟩)]) ∧ (w.drewN n).cell? ⟨fb, 3, none⟩ = some (.func (.func 47) #[] #[])) := fun n => ⟨⟨C.box, C.f0⟩, C.f1, C.f2, C.f3⟩
 have k0 := C.box; have k1 := C.f0
 clear C hz la lb hen hnl hS ha hb
 generalize cmpT num p a b = R at *
 generalize cmpZ (num b) (num a) = r1 at *
 generalize cmpZ (evT p a).ts (evT p b).ts = r2 at *
 generalize cmpB (nmT p a) (nmT p b) = r3 at *
 generalize cmpZ a b = r4 at *
 go_enter Tryz.func73, Tryz.ntmps73
 by_cases c1 : r1 = 0
 · subst c1
   by_cases c2 : r2 = 0
   · subst c2
     by_cases c3 : r3 = 0
     · subst c3
       have HT1 : Hid (R = r4) := by show _ = _; rw [HT.out]; simp
       by_cases c4 : r4 = 0
       · subst c4
         go_wp2
         refine wp_loop_rounds 5 ?_
         rw [rounds_succ]
         go_wp2_with (go_at_call 39; refine h1.mono ?_; rintro e w1 ⟨rfl, n1, rfl⟩; obtain ⟨_, k2, _, _⟩ := HC.out n1; have h2 := H2.out n1; clear h1)
         rw [rounds_succ]
         go_wp2_with (go_at_call 41; refine h2.mono ?_; rintro e w2 ⟨rfl, n2, rfl⟩; obtain ⟨_, _, k3, _⟩ := HC.out n2; have h3 := H3.out n2; clear h2 k2)
         rw [rounds_succ]
         go_wp2_with (go_at_call 42; refine h3.mono ?_; rintro e w3 ⟨rfl, n3, rfl⟩; obtain ⟨_, _, _, k4⟩ := HC.out n3; have h4 := H4.out (w.drewN n3); clear h3 k3)
         rw [rounds_succ]
         go_wp2_with (go_at_call 47; refine h4.mono ?_; rintro e w4 ⟨rfl, rfl⟩; clear h4 k4)
         rw [rounds_succ]
         go_wp2
         go_ret
         exact ⟨ret_int HT1.out.symm, _, rfl⟩
       · have e4 : (r4 == 0) = false := by simpa using c4
         go_wp2
         refine wp_loop_rounds 5 ?_
         rw [rounds_succ]
         go_wp2_with (go_at_call 39; refine h1.mono ?_; rintro e w1 ⟨rfl, n1, rfl⟩; obtain ⟨_, k2, _, _⟩ := HC.out n1; have h2 := H2.out n1; clear h1)
         rw [rounds_succ]
         go_wp2_with (go_at_call 41; refine h2.mono ?_; rintro e w2 ⟨rfl, n2, rfl⟩; obtain ⟨_, _, k3, _⟩ := HC.out n2; have h3 := H3.out n2; clear h2 k2)
         rw [rounds_succ]
         go_wp2_with (go_at_call 42; refine h3.mono ?_; rintro e w3 ⟨rfl, n3, rfl⟩; obtain ⟨_, _, _, k4⟩ := HC.out n3; have h4 := H4.out (w.drewN n3); clear h3 k3)
         rw [rounds_succ]
         go_wp2_with (go_at_call 47; refine h4.mono ?_; rintro e w4 ⟨rfl, rfl⟩; clear h4 k4)
         go_ret
         exact ⟨ret_int HT1.out.symm, _, rfl⟩
     · have e3 : (r3 == 0) = false := by simpa using c3
       have HT1 : Hid (R = r3) := by show _ = _; rw [HT.out]; simp [c3]
       go_wp2
       refine wp_loop_rounds 5 ?_
       rw [rounds_succ]
       go_wp2_with (go_at_call 39; refine h1.mono ?_; rintro e w1 ⟨rfl, n1, rfl⟩; obtain ⟨_, k2, _, _⟩ := HC.out n1; have h2 := H2.out n1; clear h1)
       rw [rounds_succ]
       go_wp2_with (go_at_call 41; refine h2.mono ?_; rintro e w2 ⟨rfl, n2, rfl⟩; obtain ⟨_, _, k3, _⟩ := HC.out n2; have h3 := H3.out n2; clear h2 k2)
       rw [rounds_succ]
       go_wp2_with (go_at_call 42; refine h3.mono ?_; rintro e w3 ⟨rfl, n3, rfl⟩; obtain ⟨_, _, _, k4⟩ := HC.out n3; have h4 := H4.out (w.drewN n3); clear h3 k3)
       go_ret
       exact ⟨ret_int HT1.out.symm, _, rfl⟩
   · have e2 : (r2 == 0) = false := by simpa using c2
     have HT1 : Hid (R = r2) := by show _ = _; rw [HT.out]; simp [c2]
     go_wp2
     refine wp_loop_rounds 5 ?_
     rw [rounds_succ]
     go_wp2_with (go_at_call 39; refine h1.mono ?_; rintro e w1 ⟨rfl, n1, rfl⟩; obtain ⟨_, k2, _, _⟩ := HC.out n1; have h2 := H2.out n1; clear h1)
     rw [rounds_succ]
     go_wp2_with (go_at_call 41; refine h2.mono ?_; rintro e w2 ⟨rfl, n2, rfl⟩; obtain ⟨_, _, k3, _⟩ := HC.out n2; have h3 := H3.out n2; clear h2 k2)
     go_ret
     exact ⟨ret_int HT1.out.symm, _, rfl⟩
 · have e1 : (r1 == 0) = false := by simpa using c1
   have HT1 : Hid (R = r1) := by show _ = _; rw [HT.out]; simp [c1]
   go_wp2
   refine wp_loop_rounds 5 ?_
   rw [rounds_succ]
   go_wp2_with (go_at_call 39; refine h1.mono ?_; rintro e w1 ⟨rfl, n1, rfl⟩; obtain ⟨_, k2, _, _⟩ := HC.out n1; have h2 := H2.out n1; clear h1)
   go_ret
   exact ⟨ret_int HT1.out.symm, _, rfl⟩
end Go.Proofs.YtimhpglfolbomabGreat.Od
namespace Go.Proofs.YtimhpglfolbomabGreat.Od
open Go.RowKit Go.Maps Go.Lib Go.Sort
theorem clone_any {O : Nat → Prop} {p : Option Addr} {c : Nat} {l : List Int} (w : World) (h : RdI O w p c l) (hl : l.length ≤ 1000000) :
    Calls Tryz.prog 44 #[.slice p l.length c] w fun e w' => ∃ v, e = .returned v ∧ w'.ownsRow w.heap.size 3 1 v l.length (l.map (Value.int .i64)) ∧ Below w.heap.size w w' := by
 cases p with
 | none =>
  obtain rfl := h.len
  refine (Tryz.slices_Clone_int_nil _ _ w).mono ?_
  rintro e w' ⟨rfl, rfl⟩
  exact ⟨_, rfl, World.ownsRow_nil _ _ _ _, Below.refl _ _⟩
 | some a =>
  by_cases hn : l = []
  · subst hn
    refine (Tryz.slices_Clone_int_zero a c w).mono ?_
    rintro e w' ⟨v, rfl, ho, _, hb⟩
    exact ⟨v, rfl, ho, hb⟩
  · obtain ⟨b, o, ha, _, hc⟩ := h.2 hn
    cases ha
    have := Tryz.slices_Clone_int b o l.length c l w (Nat.le_refl _) (by omega) fun j hj => hc j _ (by rw [getD_in hj, List.getElem?_eq_getElem hj])
    rw [List.take_length] at this
    refine this.mono ?_
    rintro e w' ⟨v, rfl, ho, _, hb⟩
    exact ⟨v, rfl, ho, hb⟩
theorem keep_sortK {α : Type} [Inhabited α] (enc : α → Value) (w : World) (g m : Nat) (d : Array α) (os : Array Obj) : Keep (fun k => k = g) w (sortWorld enc w g 0 m d os) := by
 refine ⟨rfl, rfl, rfl, ?_, fun k hk hn => ?_⟩
 · unfold sortWorld grow putRow mapBlock Sort.ahead
   simp
 · unfold sortWorld
   rw [Sort.heap_grow_old _ _ (by unfold putRow mapBlock Sort.ahead; simpa using hk)]
   unfold putRow mapBlock Sort.ahead
   simp only [Array.getElem?_modify]
   rw [if_neg (fun h => hn h.symm)]
def encS (S : List Nat) (m : Nat) (x : Fin (m + 1)) : Value := .int .i64 ((S.getD x.val 0 : Nat) : Int)
def cfS (num : Nat → Int) (p : Pa) (S : List Nat) (m : Nat) (x y : Fin (m + 1)) : Int := cmpT num p (S.getD x.val 0) (S.getD y.val 0)
theorem cfS_lt (num : Nat → Int) (p : Pa) (S : List Nat) (m : Nat) (x y : Fin (m + 1)) : ltOf (cfS num p S m) x y = true ↔ LtT num p (S.getD x.val 0) (S.getD y.val 0) := by
 unfold ltOf cfS
 rw [decide_eq_true_eq, cmpT_neg]
theorem swoS (num : Nat → Int) (p : Pa) (S : List Nat) (m : Nat) : SWO (ltOf (cfS num p S m)) where
 irrefl x := by
  cases h : ltOf (cfS num p S m) x x with
  | false => rfl
  | true => exact absurd ((cfS_lt ..).1 h) (ltT_irrefl _ _ _)
 trans x y z h1 h2 := (cfS_lt ..).2 (ltT_trans ((cfS_lt ..).1 h1) ((cfS_lt ..).1 h2))
 ntrans x y z h1 h2 := by
  cases h : ltOf (cfS num p S m) x z with
  | false => rfl
  | true =>
   have h3 := (cfS_lt ..).1 h
   have n1 : ¬ LtT num p (S.getD x.val 0) (S.getD y.val 0) := fun h' => by rw [(cfS_lt ..).2 h'] at h1; cases h1
   have n2 : ¬ LtT num p (S.getD y.val 0) (S.getD z.val 0) := fun h' => by rw [(cfS_lt ..).2 h'] at h2; cases h2
   by_cases e : S.getD x.val 0 = S.getD y.val 0
   · rw [e] at h3; exact absurd h3 n2
   · rcases ltT_total num p e with h' | h'
     · exact absurd h' n1
     · exact absurd (ltT_trans h' h3) n2
theorem eg104 : ∀ args w, (callFunc 73 args).run Tryz.prog w = .ok (.enter 73 args) w := enters_of Tryz.func73 (by kernel_rfl) rfl
theorem ranked_of {num : Nat → Int} {p : Pa} {S : List Nat} {m : Nat} (hm : S.length = m + 1) (hnd : S.Nodup) {d' : Array (Fin (m + 1))} (hp : PermIn 0 (fins m).size (fins m) d') (hs : SortedIn (ltOf (cfS num p S m)) 0 (fins m).size d') : Rkd num p S (d'.toList.map fun x => S.getD x.val 0) ∧ d'.size = m + 1 := by
 obtain ⟨h1, _, h3⟩ := hp
 have hsz : d'.size = m + 1 := by rw [h1, fins_size]
 have e1 : (d'.extract 0 (fins m).size).toList = d'.toList := by rw [← h1, Array.extract_size]
 have e2 : ((fins m).extract 0 (fins m).size).toList = List.finRange (m + 1) := by rw [Array.extract_size]; unfold fins; simp
 rw [e1, e2] at h3
 have hS : (List.finRange (m + 1)).map (fun x : Fin (m + 1) => S.getD x.val 0) = S := by
  apply List.ext_getElem
  · simp [hm]
  · intro n h1 h2
    simp [List.getElem?_eq_getElem h2]
 have hperm := h3.map (fun x : Fin (m + 1) => S.getD x.val 0)
 rw [hS] at hperm
 refine ⟨⟨hperm, ?_⟩, hsz⟩
 rw [List.pairwise_iff_getElem]
 intro i j hi hj hij
 have hi' : i < d'.size := by simpa using hi
 have hj' : j < d'.size := by simpa using hj
 simp only [List.getElem_map, Array.getElem_toList]
 have hno := hs i j (Nat.zero_le _) hij (by rw [fins_size]; omega)
 rw [getElem!_pos d' i hi', getElem!_pos d' j hj'] at hno
 have hne : S.getD d'[i].val 0 ≠ S.getD d'[j].val 0 := by
  have hnd2 : (d'.toList.map fun x : Fin (m + 1) => S.getD x.val 0).Nodup := hperm.nodup_iff.2 hnd
  have := List.pairwise_iff_getElem.1 hnd2 i j hi hj hij
  simpa using this
 rcases ltT_total num p hne with h | h
 · exact h
 · rw [(cfS_lt num p S m d'[j] d'[i]).2 h] at hno; cases hno
theorem sortS_any {w : World} {O : Nat → Prop} {num : Nat → Int} {S : List Nat} {p : Pa} {q : Pq} {pb mc mb N fb bx g cap : Nat} {f : Int → Option Int} (C : CloP w O num S p q pb mc mb N fb bx f) (hz : SzPa p) (hnl : p.names.length = p.evs.length) (hS : ∀ x ∈ S, x < p.evs.length) (hnd : S.Nodup)
    (hO : ∀ k, O k → k < w.heap.size ∧ k ≠ g) (hpb : pb ≠ g) (hmc : mc ≠ g ∧ mc < w.heap.size) (hmb : mb ≠ g) (hfb : fb ≠ g ∧ fb < w.heap.size) (hbx : bx ≠ g ∧ bx < w.heap.size) (hg : w.ownsRow g 3 1 (.slice (some ⟨g, 0, none⟩) (zs S).length cap) (zs S).length ((zs S).map (Value.int .i64))) :
    Calls Tryz.prog 45 #[.slice (some ⟨g, 0, none⟩) (zs S).length cap, .func (.func 73) #[] #[.pointer (some ⟨bx, 0, none⟩)]] w fun e w' => e = .returned (.tuple #[]) ∧ ∃ L, Rkd num p S L ∧ w'.ownsRow g 3 1 (.slice (some ⟨g, 0, none⟩) (zs S).length cap) (zs L).length ((zs L).map (Value.int .i64)) ∧ w.grownBy w' (some g) := by
 cases hSe : S with
 | nil =>
  subst hSe
  refine (Tryz.slices_SortFunc_none (α := Nat) (some ⟨g, 0, none⟩) cap _ w).mono ?_
  rintro e w' ⟨rfl, rfl⟩
  exact ⟨rfl, [], ⟨List.Perm.refl _, List.Pairwise.nil⟩, hg, ⟨rfl, rfl, rfl, Nat.le_refl _, fun _ _ _ => rfl⟩⟩
 | cons a0 r0 =>
  rw [← hSe]
  obtain ⟨m, hm⟩ : ∃ m, S.length = m + 1 := ⟨r0.length, by rw [hSe]; rfl⟩
  clear hSe
  have hml : m + 1 ≤ 1000000 := by
   have h1 := sub_len (l := S) (T := List.range p.evs.length) hnd (fun x hx => List.mem_range.2 (hS x hx))
   have := hz.evs
   simp at h1
   omega
  have hmap : (zs S).map (Value.int .i64) = (List.finRange (m + 1)).map (encS S m) := by
   apply List.ext_getElem
   · simp [zs, hm]
   · intro n h1 h2
     have h3 : n < S.length := by simpa [zs] using h1
     simp [zs, encS, List.getElem?_eq_getElem h3]
  have hzl : (zs S).length = m + 1 := by rw [zs_len, hm]
  rw [hzl] at hg ⊢
  rw [hmap] at hg
  obtain ⟨g', cap', e0, _, hgl, hnc, hcm, _, hH⟩ := Lib.holds_of_ownsRow hg (by simp)
  simp only [Value.slice.injEq, Option.some.injEq, Addr.mk.injEq, and_true, true_and] at e0
  obtain ⟨rfl, rfl⟩ := e0
  have hcmp : CmpReads Tryz.prog 73 #[.pointer (some ⟨bx, 0, none⟩)] (encS S m) (cfS num p S m) g 0 (fins m).size w := by
   intro n os dk hdk x y
   have hks := keep_sortK (encS S m) w g n dk os
   have hx : x.val < S.length := by omega
   have hy : y.val < S.length := by omega
   refine turn_any (O := O) (S := S) (num := num) (p := p) (q := q) (pb := pb) (mc := mc) (mb := mb) (N := N) (fb := fb) (bx := bx) (f := f) ⟨?_, ?_, ?_, ?_, C.tells, ?_, ?_, ?_, ?_, ?_⟩ hz hnl hS _ _ (getD_inm hx) (getD_inm hy)
   · exact (hks.block pb (obj_lt C.pa) hpb).trans C.pa
   · exact C.is.carry fun k hk => ⟨hk, hks.block k (hO k hk).1 (hO k hk).2⟩
   · exact (World.cell?_of_block (a := ⟨mc, 0, none⟩) (hks.block mc hmc.2 hmc.1)).trans C.mcell
   · exact C.map.same (hks.block mb C.map.lt hmb)
   · exact (World.cell?_of_block (a := ⟨bx, 0, none⟩) (hks.block bx hbx.2 hbx.1)).trans C.box
   · exact (World.cell?_of_block (a := ⟨fb, 0, none⟩) (hks.block fb hfb.2 hfb.1)).trans C.f0
   · exact (World.cell?_of_block (a := ⟨fb, 1, none⟩) (hks.block fb hfb.2 hfb.1)).trans C.f1
   · exact (World.cell?_of_block (a := ⟨fb, 2, none⟩) (hks.block fb hfb.2 hfb.1)).trans C.f2
   · exact (World.cell?_of_block (a := ⟨fb, 3, none⟩) (hks.block fb hfb.2 hfb.1)).trans C.f3
  have hfs : (fins m).size = m + 1 := fins_size m
  have harg : (Value.slice (some ⟨g, 0, none⟩) (m + 1) cap) = Value.slice (some ⟨g, 0, none⟩) (fins m).size cap := by rw [hfs]
  rw [harg]
  refine (Tryz.slices_SortFunc (encS S m) (fun _ => rfl) (cfS num p S m) (swoS num p S m) 73 #[.pointer (some ⟨bx, 0, none⟩)] g 0 cap (fins m) w eg104 hcmp.lays hH hgl (by rw [hfs]; omega)).mono fun e w' ⟨h1, d', n, os, hp, hs, hw⟩ => ?_
  subst hw
  obtain ⟨hR, hsz⟩ := ranked_of hm hnd hp hs
  refine ⟨h1, _, hR, ?_, ?_⟩
  · rw [hfs]
    have h2 := Lib.ownsRow_putRow (q := n) (k := m + 1) (ys := d'.toList) hg (by simpa using hsz) (Nat.le_refl _)
    rw [List.take_of_length_le (by simp [hsz]), Array.toArray_toList] at h2
    have hl2 : (zs (d'.toList.map fun x => S.getD x.val 0)).length = m + 1 := by rw [zs_len, List.length_map, Array.length_toList, hsz]
    rw [hl2, show (zs (d'.toList.map fun x => S.getD x.val 0)).map (Value.int .i64) = d'.toList.map (encS S m) by simp [zs, encS, List.map_map]]
    exact own_below h2 (below_grow _ _)
  · have h1 := grown_put (enc := encS S m) (w := w) (g := g) (n := n) (d := d')
    have h2 := below_grow (Sort.putRow (encS S m) (Sort.ahead w n) g 0 d') os
    exact ⟨rfl, rfl, rfl, Nat.le_trans h1.size h2.size, fun k hk hne => (h2.block k (Nat.lt_of_lt_of_le hk h1.size)).trans (h1.block k hk hne)⟩
end Go.Proofs.YtimhpglfolbomabGreat.Od

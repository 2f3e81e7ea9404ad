/-
  The document's ByLine: by a contract.
  What ByPower and ByLine tell of places, told of their set alone.
  ByLine, both, tell the same.
  By a line: the law, walked.
  A value of JSON that came in, as the walks read it.
  Whether no two of a row are the same, by a set: a contract.
  A map or list that is being made, a key and a value after another: what lies in memory.
  A key and a value more, by a contract: what told's own function does.
  The small parts of an event's shape and JSON, by contracts: within, digest, text, number.
  Lists of texts, and maps of signatures, as JSON: by contracts.
  A map of names to values of JSON, as the reader of events has it.
  The reader of events: what it has left, and how it takes a value: by contracts.
-/
import Derived.Test.YtimhpglfolbomabGreatRL18
import Derived.Test.YtimhpglfolbomabGreatChecked
import Derived.ProofKit
import Derived.SizedLaws
import Derived.SliceStrings
import Derived.Laws.OwnMore
set_option maxRecDepth 100000
set_option maxHeartbeats 16000000
namespace Go.Proofs.YtimhpglfolbomabGreat.Od
open Go.RowKit Go.Maps
def lenVL : Value → Nat
 | .slice _ n _ => n
 | _ => 0
theorem zs_cut (lf : List Nat) (b : Nat) : zs (lf.take b ++ lf.drop (b + 1)) = (zs lf).take b ++ (zs lf).drop (b + 1) := by simp [zs]
theorem rbyLine_not {w : World} {p : Pa} {q : Pq} {pl : Option Addr} {nl cl : Nat} (h : IsPa (· < w.heap.size) w p q) (hz : SzPa p) (hr : rightT p = false) (i : Int) :
    Calls Tryz.prog 8 #[valPa p q, .slice pl nl cl, .int .i64 i] w (RowP [] w) := by
 obtain ⟨W0, hW0⟩ : ∃ W0, W0 = w.alloc (.cells (cellsPa p q).toArray 27) := ⟨_, rfl⟩
 have hb0 : Below w.heap.size w W0 := by rw [hW0]; exact (Below.refl _ _).alloc (Nat.le_refl _) _
 have V : IsVP W0 w.heap.size p q := by rw [hW0]; exact isVP_new h
 have hR := rright_any V.pa hz
 have hl := V.load
 rw [hr] at hR
 clear V h hz hr
 unfold valPa at *
 generalize cellsPa p q = CP at *
 go_enter Tryz.func8, Tryz.ntmps8
 go_upto_region 1 with fail
 rw [← hW0]
 clear hW0
 go_wp2_with (first
  | (refine wpList_loadK rfl 27 _ rfl w.heap.size 0 rfl CP hl ?_)
  | (go_at_call 20; refine hR.mono ?_; rintro e w1 ⟨rfl, hb1⟩))
 go_ret
 exact ⟨_, rfl, World.ownsRow_nil _ _ _ _, belowP hb0 hb1⟩
theorem rbyLine_ok {O : Nat → Prop} {w : World} {p : Pa} {q : Pq} {l : List Int} {pl : Option Addr} {cl : Nat} (h : IsPa (· < w.heap.size) w p q) (hz : SzPa p) (hr : rightT p = true) (hl : RdI O w pl cl l) (hO : ∀ k, O k → k < w.heap.size) (hll : l.length ≤ 1000) (i : Int) :
    Calls Tryz.prog 8 #[valPa p q, .slice pl l.length cl, .int .i64 i] w fun e w' => ∃ L, Rkd (nrT p (zs (lineV p i))) p (thereT p.evs.length l) L ∧ RowP (zs L) w e w' := by
 obtain ⟨hnl, hba, _, _⟩ := right_parts hr
 obtain ⟨W0, hW0⟩ : ∃ W0, W0 = w.alloc (.cells (cellsPa p q).toArray 27) := ⟨_, rfl⟩
 have hb0 : Below w.heap.size w W0 := by rw [hW0]; exact (Below.refl _ _).alloc (Nat.le_refl _) _
 have V : IsVP W0 w.heap.size p q := by rw [hW0]; exact isVP_new h
 have hR := rright_any V.pa hz
 rw [hr] at hR
 obtain ⟨LV, hLV⟩ : ∃ LV, zs (lineV p i) = LV := ⟨_, rfl⟩
 have hlvn : LV.length ≤ 30 := by
  rw [← hLV, zs_len]
  unfold lineV
  rw [if_pos hr]
  exact Nat.le_trans (way_len hz hba i) (by decide)
 have HLN : Hid (∀ X, Below W0.heap.size W0 X → Calls Tryz.prog 21 #[.agg (cellsPa p q).toArray, .int .i64 i] X fun e w' => ∃ v c, e = .returned (.slice v LV.length c) ∧ RdI (fun k => X.heap.size ≤ k ∧ k < w'.heap.size) w' v c LV ∧ Below X.heap.size X w') := fun X hX => by
  have := rline_any (V.below hX).pa hz i
  rw [hLV] at this
  exact this.mono fun _ _ h => h.rd
 have HSET : Hid (∀ X, Below W0.heap.size W0 X → Calls Tryz.prog 22 #[.agg (cellsPa p q).toArray, .slice pl l.length cl] X fun e w' => ∃ v c, e = .returned (.slice v (zs (thereT p.evs.length l)).length c) ∧ RdI (fun k => X.heap.size ≤ k ∧ k < w'.heap.size) w' v c (zs (thereT p.evs.length l)) ∧ Below X.heap.size X w') := fun X hX => (rset_any (O := O) (V.below hX).pa hz (hl.same (Same.of_below (belowP hb0 hX) hO)) (fun k hk => Nat.lt_of_lt_of_le (hO k hk) (belowP hb0 hX).size) hll).mono fun _ _ h => h.rd
 have HLD : Hid (∀ X, Below W0.heap.size W0 X → (Instr.loadAt 27 (.pointer (some ⟨w.heap.size, 0, none⟩))).run Tryz.prog X = .ok (.agg (cellsPa p q).toArray) X) := fun X hX => (V.below hX).load
 have HNR : Hid (∀ (X : World) (v : Option Addr) (c s1 s2 : Nat) (x : Nat), Below W0.heap.size W0 X → RdI (fun k => s1 ≤ k ∧ k < s2) X v c LV → s2 ≤ X.heap.size → x < p.evs.length → Calls Tryz.prog 23 #[.agg (cellsPa p q).toArray, .slice v LV.length c, .int .i64 (x : Int)] X fun e w' => e = .returned (.int .i64 (nrT p LV x)) ∧ Below X.heap.size X w') := fun X v c s1 s2 x hX hv hs hx => by
  have := rnear_any (V.below hX).pa hz hv (fun k hk => by omega) (by omega) (x : Int)
  unfold nearV at this
  rw [if_pos hr, way_at hx] at this
  exact this
 have HYO : Hid (∀ X (a b : Nat), Below W0.heap.size W0 X → a < p.evs.length → b < p.evs.length → Calls Tryz.prog 24 #[.agg (cellsPa p q).toArray, .int .i64 (a : Int), .int .i64 (b : Int)] X fun e w' => e = .returned (.bool (youngT p a b)) ∧ Below X.heap.size X w') := fun X a b hX ha hb => ryounger_any (V.below hX).pa hz hnl a b ha hb
 have HSL : Hid (∀ x ∈ thereT p.evs.length l, x < p.evs.length) := fun x hx => (there_mem.1 hx).1
 have HND : Hid ((thereT p.evs.length l).Nodup) := (there_rises p.evs.length l).imp fun h => Nat.ne_of_lt h
 have hsl : (thereT p.evs.length l).length ≤ 30 := Nat.le_trans (there_len _ _) hz.evs
 have hnw := fun x => nrT_wf (p := p) (l := LV) (by omega) x
 have HNW : Hid (∀ x, wf64 (nrT p LV x)) := hnw
 rw [hLV]
 clear V h hz hr hl hba hnl hLV hnw
 unfold valPa at *
 generalize nrT p LV = num at *
 generalize cellsPa p q = CP at *
 generalize thereT p.evs.length l = S at *
 generalize p.evs.length = pn at *
 generalize l.length = nl at *
 go_enter Tryz.func8, Tryz.ntmps8
 go_upto_region 1 with fail
 rw [← hW0]
 clear hW0
 go_upto_region 3 with (first
  | (refine wpList_loadK rfl 27 _ rfl w.heap.size 0 rfl CP (HLD.out _ (Below.refl _ _)) ?_)
  | (go_at_call 20; refine hR.mono ?_; rintro e w1 ⟨rfl, hb1⟩))
 have HB1 : Hid (Below W0.heap.size W0 w1) := hb1
 clear hb1 hR
 go_upto_region 4 with (first
  | (refine wpList_loadK rfl 27 _ rfl w.heap.size 0 rfl CP (HLD.out _ HB1.out) ?_)
  | (go_at_call 21; refine (HLN.out _ HB1.out).mono ?_; rintro e w2 ⟨vL, cL, rfl, hrL, hb2⟩))
 have HB2 : Hid (Below W0.heap.size W0 w2) := belowP HB1.out hb2
 have HRL : Hid (∀ X, Below w2.heap.size w2 X → RdI (fun k => w1.heap.size ≤ k ∧ k < w2.heap.size) X vL cL LV) := fun X hX => hrL.same (Same.of_below hX fun k hk => hk.2)
 clear hb2 hrL HLN
 go_upto_region 6 with (first
  | (refine wpList_loadK rfl 27 _ rfl w.heap.size 0 rfl CP (HLD.out _ HB2.out) ?_)
  | (go_at_call 22; refine (HSET.out _ HB2.out).mono ?_; rintro e w3 ⟨v1, k1, rfl, hr1, hb3⟩))
 have HB3 : Hid (Below W0.heap.size W0 w3) := belowP HB2.out hb3
 have HNX : Hid (∀ X (x : Nat), Below w3.heap.size w3 X → x < pn → Calls Tryz.prog 23 #[.agg CP.toArray, .slice vL LV.length cL, .int .i64 (x : Int)] X fun e w' => e = .returned (.int .i64 (num x)) ∧ Below X.heap.size X w') := fun X x hX hx => HNR.out X vL cL w1.heap.size w2.heap.size x (belowP HB3.out hX) (HRL.out X (belowP hb3 hX)) (belowP hb3 hX).size hx
 have HR3 : Hid (RdI (fun k => k < w3.heap.size) w3 v1 k1 (zs S)) := hr1.carry (fun _ _ => rfl) fun k hk => hk.2
 obtain ⟨B, hB⟩ : ∃ B, w3.heap.size = B := ⟨_, rfl⟩
 have HBB : Hid (w3.heap.size = B) := hB
 have HKB : Hid (∀ X, Keep (fun k => B ≤ k) w3 X → Below w3.heap.size w3 X) := fun X hX => hX.below (Nat.le_refl _) fun k hk e => by have := HBB.out; omega
 clear hB hr1 hb3 HSET HNR
 go_loopw [8, 9] (fun lv ov wr => ∃ (d lf : List Nat) (ql : Option Addr) (c : Nat), lv = .slice ql (zs lf).length c ∧ Hid (Sel num p S d lf) ∧ wr.ownsRow B 3 1 ov (zs d).length ((zs d).map (Value.int .i64)) ∧ Hid (RdI (fun k => k < wr.heap.size ∧ ov.ownBlock ≠ some k) wr ql c (zs lf)) ∧ Keep (fun k => B ≤ k) w3 wr) (fun lv _ _ => lenVL lv)
 case atStart => exact ⟨[], S, v1, k1, rfl, Sel.start _ _ _, World.ownsRow_nil _ _ _ _, (HR3.out.carry (fun _ _ => rfl) fun k hk => ⟨hk, by intro e; cases e⟩), Keep.refl _ _⟩
 case round =>
  obtain ⟨d, lf, ql, c, rfl, HSE, hown, HRD, hkp⟩ := hrel
  have hBr := HKB.out _ hkp
  have hBW := belowP HB3.out hBr
  have hlen := HSE.out.len
  obtain ⟨n, hn⟩ : ∃ n, lf.length = n := ⟨_, rfl⟩
  have HN : Hid (lf.length = n) := hn
  rw [zs_len lf, hn]
  rw [hn] at hlen
  by_cases hn0 : 0 < n
  · obtain ⟨sb, so, rfl, hOb, hck⟩ := HRD.out.2 (by intro h0; have h9 := zs_len lf; rw [h0] at h9; simp at h9; omega)
    have HC1 : Hid (lf.length ≤ c) := by have := HRD.out.1; rw [zs_len] at this; exact this
    have HSK : Hid (∀ j, j < n → wr.cell? ⟨sb, so + j, none⟩ = some (.int .i64 ((lf.getD j 0 : Nat) : Int))) := fun j hj => by
     have hjO : j < lf.length := by rw [HN.out]; exact hj
     refine hck j _ ?_
     rw [show (zs lf)[j]? = (lf[j]?).map (fun k : Nat => (k : Int)) from by simp [zs], List.getElem?_eq_getElem hjO, getD_in hjO]
     rfl
    have HSX : Hid (∀ X, Below wr.heap.size wr X → ∀ j, j < n → X.cell? ⟨sb, so + j, none⟩ = some (.int .i64 ((lf.getD j 0 : Nat) : Int))) := fun X hX j hj => (World.cell?_of_block (a := ⟨sb, so + j, none⟩) (hX.block sb hOb.1)).trans (HSK.out j hj)
    have HIN : Hid (∀ j, j < n → lf.getD j 0 < pn) := fun j hj => HSL.out _ (HSE.out.mem (getD_inm (by rw [HN.out]; exact hj)))
    have HLN2 : Hid lf.Nodup := HSE.out.left_nodup HND.out
    have hn30 : n ≤ 30 := by omega
    have hc1 := HC1.out
    rw [hn] at hc1
    clear hn HRD hck
    go_upto_region 9 with fail
    go_loopw [10, 11] (fun bv kv wx => ∃ b k : Nat, 1 ≤ k ∧ k ≤ n ∧ bv = .int .i64 (b : Int) ∧ kv = .int .i64 (k : Int) ∧ Hid (Bst num p lf k b) ∧ Below wr.heap.size wr wx) (fun _ kv _ => n - (intOf kv).toNat)
    case atStart => exact ⟨0, 1, Nat.le_refl _, by omega, rfl, rfl, Bst.one _ _ _, Below.refl _ _⟩
    case round =>
     obtain ⟨b, k, hk1, hk, rfl, rfl, HBS, hbx⟩ := hrel
     obtain ⟨wx, rfl⟩ : ∃ z : World, z = wr := ⟨_, rfl⟩
     have hbk := HBS.out.1
     have hB3 := belowP hBr hbx
     have hX0 := belowP HB3.out hB3
     by_cases hkn : k < n
     · obtain ⟨x, hx⟩ : ∃ x, lf.getD k 0 = x := ⟨_, rfl⟩
       obtain ⟨Y, hY⟩ : ∃ Y, lf.getD b 0 = Y := ⟨_, rfl⟩
       have hxn : x < pn := by rw [← hx]; exact HIN.out k hkn
       have hYn : Y < pn := by rw [← hY]; exact HIN.out b (by omega)
       have HXK : Hid (∀ X, Below wx.heap.size wx X → X.cell? ⟨sb, so + k, none⟩ = some (.int .i64 (x : Int))) := fun X hX => by have := HSX.out X (belowP hbx hX) k hkn; rw [hx] at this; exact this
       have HXB : Hid (∀ X, Below wx.heap.size wx X → X.cell? ⟨sb, so + b, none⟩ = some (.int .i64 (Y : Int))) := fun X hX => by have := HSX.out X (belowP hbx hX) b (by omega); rw [hY] at this; exact this
       have HL1 : Hid (∀ X, Below wx.heap.size wx X → (Instr.loadAt 27 (.pointer (some ⟨w.heap.size, 0, none⟩))).run Tryz.prog X = .ok (.agg CP.toArray) X) := fun X hX => HLD.out X (belowP hX0 hX)
       have HNK : Hid (∀ X, Below wx.heap.size wx X → Calls Tryz.prog 23 #[.agg CP.toArray, .slice vL LV.length cL, .int .i64 (x : Int)] X fun e w' => e = .returned (.int .i64 (num x)) ∧ Below X.heap.size X w') := fun X hX => HNX.out X x (belowP hB3 hX) hxn
       have HNB : Hid (∀ X, Below wx.heap.size wx X → Calls Tryz.prog 23 #[.agg CP.toArray, .slice vL LV.length cL, .int .i64 (Y : Int)] X fun e w' => e = .returned (.int .i64 (num Y)) ∧ Below X.heap.size X w') := fun X hX => HNX.out X Y (belowP hB3 hX) hYn
       have HYX : Hid (∀ X, Below wx.heap.size wx X → Calls Tryz.prog 24 #[.agg CP.toArray, .int .i64 (Y : Int), .int .i64 (x : Int)] X fun e w' => e = .returned (.bool (youngT p Y x)) ∧ Below X.heap.size X w') := fun X hX => HYO.out X Y x (belowP hX0 hX) hYn hxn
       have hyl := young_Lt num p Y x
       have hbn : b < n := by omega
       have HT : Hid (LtT num p x Y → Bst num p lf (k + 1) k) := fun h => HBS.out.turn (by rw [hx, hY]; exact h)
       have HS : Hid (¬ LtT num p x Y → Bst num p lf (k + 1) b) := fun h => HBS.out.stay HLN2.out (by rw [HN.out]; exact hkn) (by rw [hx, hY]; exact h)
       have hwx := HNW.out x
       have hwY := HNW.out Y
       obtain ⟨la, hla⟩ : ∃ la, num x = la := ⟨_, rfl⟩
       obtain ⟨lb, hlb⟩ : ∃ lb, num Y = lb := ⟨_, rfl⟩
       obtain ⟨yb, hyb⟩ : ∃ yb, youngT p Y x = yb := ⟨_, rfl⟩
       rw [hla, hlb, hyb] at hyl
       rw [hla] at HNK hwx
       rw [hlb] at HNB hwY
       rw [hyb] at HYX
       have HYL := (show Hid _ from hyl)
       clear hyl hla hlb hyb hx hY HBS
       go_upto_region 11 with fail
       refine wp_region_in (by kernel_rfl) (fun w' => Below wx.heap.size wx w') ?_
       change wpIn _ _ _ _ _ _ _ _ (World.drew _)
       have hF : Below wx.heap.size wx (World.drew wx) := (Below.refl _ _).drew
       refine wpIn_ur (i := 0) (d := some 32) (v := .agg CP.toArray) rfl (by (exact fun wq hq => exec_loadR rfl rfl (HL1.out wq hq))) ?_
       refine wpIn_uq (i := 1) (d := some 33) (v := .slice vL LV.length cL) rfl ?_
       refine wpIn_uq (i := 2) (d := some 34) (v := .slice (some ⟨sb, so, none⟩) n c) rfl ?_
       refine wpIn_uq (i := 3) (d := some 35) (v := .int .i64 (k : Int)) rfl ?_
       refine wpIn_ur (i := 4) (d := some 36) (v := .pointer (some ⟨sb, so + k, none⟩)) rfl (by (intro wq hq; have g1 := HXK.out wq hq; have g2 := HXB.out wq hq; go_simp; first | done | with_reducible rfl)) ?_
       refine wpIn_ur (i := 5) (d := some 37) (v := .int .i64 (x : Int)) rfl (by (intro wq hq; have g1 := HXK.out wq hq; have g2 := HXB.out wq hq; go_simp; first | done | with_reducible rfl)) ?_
       refine wpIn_ur (i := 7) (d := some 39) (v := .agg CP.toArray) rfl (by (exact fun wq hq => exec_loadR rfl rfl (HL1.out wq hq))) ?_
       refine wpIn_uq (i := 8) (d := some 40) (v := .slice vL LV.length cL) rfl ?_
       refine wpIn_uq (i := 9) (d := some 41) (v := .slice (some ⟨sb, so, none⟩) n c) rfl ?_
       refine wpIn_uq (i := 10) (d := some 42) (v := .int .i64 (b : Int)) rfl ?_
       refine wpIn_ur (i := 11) (d := some 43) (v := .pointer (some ⟨sb, so + b, none⟩)) rfl (by (intro wq hq; have g1 := HXK.out wq hq; have g2 := HXB.out wq hq; go_simp; first | done | with_reducible rfl)) ?_
       refine wpIn_ur (i := 12) (d := some 44) (v := .int .i64 (Y : Int)) rfl (by (intro wq hq; have g1 := HXK.out wq hq; have g2 := HXB.out wq hq; go_simp; first | done | with_reducible rfl)) ?_
       refine wpIn_do (i := 6) hF (by kernel_rfl) rfl (by rfl) ?_
       intro K6 hK6
       go_simp
       go_wp2_with (go_at_call 23; refine (HNK.out _ hF).mono ?_; rintro e wa ⟨rfl, hba⟩)
       have hG : Below wx.heap.size wx wa := belowP hF hba
       refine wpIn_do (i := 13) hG (by kernel_rfl) rfl (by rfl) ?_
       intro K13 hK13
       go_simp
       go_wp2_with (go_at_call 23; refine (HNB.out _ hG).mono ?_; rintro e wb ⟨rfl, hbb⟩)
       have hH : Below wx.heap.size wx wb := belowP hG hbb
       have hzb := hH.size
       refine wpIn_uq (i := 14) (d := some 12) (v := .int .i64 la) rfl ?_
       refine wpIn_uq (i := 15) (d := some 13) (v := .int .i64 lb) rfl ?_
       refine wpIn_done hH (by kernel_rfl) ?_ _
       clear hba hbb hF hG
       go_upto_region 12 with fail
       by_cases hgt : lb < la
       · have d1 : decide (lb < la) = true := decide_eq_true hgt
         have HNXT : Hid (Bst num p lf (k + 1) k) := HT.out (HYL.out.1 (by simp [hgt]))
         clear HT HS HYL
         refine wp_region_in (by kernel_rfl) (fun w' => Below wb.heap.size wb w') ?_
         change wpIn _ _ _ _ _ _ _ _ (World.drew _)
         have hF : Below wb.heap.size wb (World.drew wb) := (Below.refl _ _).drew
         refine wpIn_uq (i := 0) (d := some 46) (v := .int .i64 la) rfl ?_
         refine wpIn_uq (i := 1) (d := some 47) (v := .int .i64 lb) rfl ?_
         refine wpIn_uq (i := 2) (d := some 48) (v := .bool true) rfl ?_
         refine wpIn_uq (i := 3) (d := some 49) (v := .bool true) rfl ?_
         refine wpIn_un (i := 4) (d := some 50) rfl ?_
         refine wpIn_un (i := 5) (d := some 51) rfl ?_
         refine wpIn_un (i := 6) (d := some 52) rfl ?_
         refine wpIn_un (i := 7) (d := some 53) rfl ?_
         refine wpIn_un (i := 8) (d := some 54) rfl ?_
         refine wpIn_un (i := 9) (d := some 55) rfl ?_
         refine wpIn_un (i := 10) (d := some 56) rfl ?_
         refine wpIn_un (i := 11) (d := some 57) rfl ?_
         refine wpIn_un (i := 12) (d := some 58) rfl ?_
         refine wpIn_un (i := 13) (d := some 59) rfl ?_
         refine wpIn_un (i := 14) (d := some 60) rfl ?_
         refine wpIn_un (i := 15) (d := some 61) rfl ?_
         refine wpIn_un (i := 16) (d := some 62) rfl ?_
         refine wpIn_un (i := 17) (d := some 63) rfl ?_
         refine wpIn_un (i := 18) (d := some 64) rfl ?_
         refine wpIn_uq (i := 19) (d := some 65) (v := .bool true) rfl ?_
         refine wpIn_done hF (by kernel_rfl) ?_ _
         have hbZ := belowP hbx (belowP hH hF)
         go_wp2
         go_roundw
         case rel => exact ⟨k, k + 1, by omega, by omega, rfl, by go_num, HNXT, hbZ⟩
         case measure => simp [intOf]; try omega
       · have d1 : decide (lb < la) = false := decide_eq_false hgt
         by_cases heq : la = lb
         · subst heq
           cases yb with
           | true =>
            have HNXT : Hid (Bst num p lf (k + 1) k) := HT.out (HYL.out.1 (by simp))
            clear HT HS HYL
            refine wp_region_in (by kernel_rfl) (fun w' => Below wb.heap.size wb w') ?_
            change wpIn _ _ _ _ _ _ _ _ (World.drew _)
            have hF : Below wb.heap.size wb (World.drew wb) := (Below.refl _ _).drew
            refine wpIn_uq (i := 0) (d := some 46) (v := .int .i64 la) rfl ?_
            refine wpIn_uq (i := 1) (d := some 47) (v := .int .i64 la) rfl ?_
            refine wpIn_uq (i := 2) (d := some 48) (v := .bool false) rfl ?_
            refine wpIn_uq (i := 3) (d := some 49) (v := .bool false) rfl ?_
            refine wpIn_uq (i := 4) (d := some 50) (v := .int .i64 la) rfl ?_
            refine wpIn_uq (i := 5) (d := some 51) (v := .int .i64 la) rfl ?_
            refine wpIn_uq (i := 6) (d := some 52) (v := .bool true) rfl ?_
            refine wpIn_uq (i := 7) (d := some 53) (v := .bool true) rfl ?_
            refine wpIn_ur (i := 8) (d := some 54) (v := .agg CP.toArray) rfl (by (exact fun wq hq => exec_loadR rfl rfl (HL1.out wq (belowP hH hq)))) ?_
            refine wpIn_uq (i := 9) (d := some 55) (v := .slice (some ⟨sb, so, none⟩) n c) rfl ?_
            refine wpIn_uq (i := 10) (d := some 56) (v := .int .i64 (b : Int)) rfl ?_
            refine wpIn_ur (i := 11) (d := some 57) (v := .pointer (some ⟨sb, so + b, none⟩)) rfl (by (intro wq hq; have g1 := HXK.out wq (belowP hH hq); have g2 := HXB.out wq (belowP hH hq); go_simp; first | done | with_reducible rfl)) ?_
            refine wpIn_ur (i := 12) (d := some 58) (v := .int .i64 (Y : Int)) rfl (by (intro wq hq; have g1 := HXK.out wq (belowP hH hq); have g2 := HXB.out wq (belowP hH hq); go_simp; first | done | with_reducible rfl)) ?_
            refine wpIn_uq (i := 13) (d := some 59) (v := .slice (some ⟨sb, so, none⟩) n c) rfl ?_
            refine wpIn_uq (i := 14) (d := some 60) (v := .int .i64 (k : Int)) rfl ?_
            refine wpIn_ur (i := 15) (d := some 61) (v := .pointer (some ⟨sb, so + k, none⟩)) rfl (by (intro wq hq; have g1 := HXK.out wq (belowP hH hq); have g2 := HXB.out wq (belowP hH hq); go_simp; first | done | with_reducible rfl)) ?_
            refine wpIn_ur (i := 16) (d := some 62) (v := .int .i64 (x : Int)) rfl (by (intro wq hq; have g1 := HXK.out wq (belowP hH hq); have g2 := HXB.out wq (belowP hH hq); go_simp; first | done | with_reducible rfl)) ?_
            refine wpIn_do (i := 17) hF (by kernel_rfl) rfl (by rfl) ?_
            intro K17 hK17
            go_simp
            go_wp2_with (go_at_call 24; refine (HYX.out _ (belowP hH hF)).mono ?_; rintro e wc ⟨rfl, hbc⟩)
            have hG : Below wb.heap.size wb wc := belowP hF hbc
            refine wpIn_uq (i := 18) (d := some 64) (v := .bool true) rfl ?_
            refine wpIn_uq (i := 19) (d := some 65) (v := .bool true) rfl ?_
            refine wpIn_done hG (by kernel_rfl) ?_ _
            have hbZ := belowP hbx (belowP hH hG)
            go_wp2
            go_roundw
            case rel => exact ⟨k, k + 1, by omega, by omega, rfl, by go_num, HNXT, hbZ⟩
            case measure => simp [intOf]; try omega
           | false =>
            have HNXT : Hid (Bst num p lf (k + 1) b) := HS.out (fun h => by have := HYL.out.2 h; simp at this)
            clear HT HS HYL
            refine wp_region_in (by kernel_rfl) (fun w' => Below wb.heap.size wb w') ?_
            change wpIn _ _ _ _ _ _ _ _ (World.drew _)
            have hF : Below wb.heap.size wb (World.drew wb) := (Below.refl _ _).drew
            refine wpIn_uq (i := 0) (d := some 46) (v := .int .i64 la) rfl ?_
            refine wpIn_uq (i := 1) (d := some 47) (v := .int .i64 la) rfl ?_
            refine wpIn_uq (i := 2) (d := some 48) (v := .bool false) rfl ?_
            refine wpIn_uq (i := 3) (d := some 49) (v := .bool false) rfl ?_
            refine wpIn_uq (i := 4) (d := some 50) (v := .int .i64 la) rfl ?_
            refine wpIn_uq (i := 5) (d := some 51) (v := .int .i64 la) rfl ?_
            refine wpIn_uq (i := 6) (d := some 52) (v := .bool true) rfl ?_
            refine wpIn_uq (i := 7) (d := some 53) (v := .bool true) rfl ?_
            refine wpIn_ur (i := 8) (d := some 54) (v := .agg CP.toArray) rfl (by (exact fun wq hq => exec_loadR rfl rfl (HL1.out wq (belowP hH hq)))) ?_
            refine wpIn_uq (i := 9) (d := some 55) (v := .slice (some ⟨sb, so, none⟩) n c) rfl ?_
            refine wpIn_uq (i := 10) (d := some 56) (v := .int .i64 (b : Int)) rfl ?_
            refine wpIn_ur (i := 11) (d := some 57) (v := .pointer (some ⟨sb, so + b, none⟩)) rfl (by (intro wq hq; have g1 := HXK.out wq (belowP hH hq); have g2 := HXB.out wq (belowP hH hq); go_simp; first | done | with_reducible rfl)) ?_
            refine wpIn_ur (i := 12) (d := some 58) (v := .int .i64 (Y : Int)) rfl (by (intro wq hq; have g1 := HXK.out wq (belowP hH hq); have g2 := HXB.out wq (belowP hH hq); go_simp; first | done | with_reducible rfl)) ?_
            refine wpIn_uq (i := 13) (d := some 59) (v := .slice (some ⟨sb, so, none⟩) n c) rfl ?_
            refine wpIn_uq (i := 14) (d := some 60) (v := .int .i64 (k : Int)) rfl ?_
            refine wpIn_ur (i := 15) (d := some 61) (v := .pointer (some ⟨sb, so + k, none⟩)) rfl (by (intro wq hq; have g1 := HXK.out wq (belowP hH hq); have g2 := HXB.out wq (belowP hH hq); go_simp; first | done | with_reducible rfl)) ?_
            refine wpIn_ur (i := 16) (d := some 62) (v := .int .i64 (x : Int)) rfl (by (intro wq hq; have g1 := HXK.out wq (belowP hH hq); have g2 := HXB.out wq (belowP hH hq); go_simp; first | done | with_reducible rfl)) ?_
            refine wpIn_do (i := 17) hF (by kernel_rfl) rfl (by rfl) ?_
            intro K17 hK17
            go_simp
            go_wp2_with (go_at_call 24; refine (HYX.out _ (belowP hH hF)).mono ?_; rintro e wc ⟨rfl, hbc⟩)
            have hG : Below wb.heap.size wb wc := belowP hF hbc
            refine wpIn_uq (i := 18) (d := some 64) (v := .bool false) rfl ?_
            refine wpIn_uq (i := 19) (d := some 65) (v := .bool false) rfl ?_
            refine wpIn_done hG (by kernel_rfl) ?_ _
            have hbZ := belowP hbx (belowP hH hG)
            go_wp2
            go_roundw
            case rel => exact ⟨b, k + 1, by omega, by omega, rfl, by go_num, HNXT, hbZ⟩
            case measure => simp [intOf]; try omega
         · have e1 : (la == lb) = false := by simpa using heq
           have HNXT : Hid (Bst num p lf (k + 1) b) := HS.out (fun h => by have := HYL.out.2 h; simp [hgt, heq] at this)
           clear HT HS HYL
           refine wp_region_in (by kernel_rfl) (fun w' => Below wb.heap.size wb w') ?_
           change wpIn _ _ _ _ _ _ _ _ (World.drew _)
           have hF : Below wb.heap.size wb (World.drew wb) := (Below.refl _ _).drew
           refine wpIn_uq (i := 0) (d := some 46) (v := .int .i64 la) rfl ?_
           refine wpIn_uq (i := 1) (d := some 47) (v := .int .i64 lb) rfl ?_
           refine wpIn_uq (i := 2) (d := some 48) (v := .bool false) rfl ?_
           refine wpIn_uq (i := 3) (d := some 49) (v := .bool false) rfl ?_
           refine wpIn_uq (i := 4) (d := some 50) (v := .int .i64 la) rfl ?_
           refine wpIn_uq (i := 5) (d := some 51) (v := .int .i64 lb) rfl ?_
           refine wpIn_uq (i := 6) (d := some 52) (v := .bool false) rfl ?_
           refine wpIn_uq (i := 7) (d := some 53) (v := .bool false) rfl ?_
           refine wpIn_un (i := 8) (d := some 54) rfl ?_
           refine wpIn_un (i := 9) (d := some 55) rfl ?_
           refine wpIn_un (i := 10) (d := some 56) rfl ?_
           refine wpIn_un (i := 11) (d := some 57) rfl ?_
           refine wpIn_un (i := 12) (d := some 58) rfl ?_
           refine wpIn_un (i := 13) (d := some 59) rfl ?_
           refine wpIn_un (i := 14) (d := some 60) rfl ?_
           refine wpIn_un (i := 15) (d := some 61) rfl ?_
           refine wpIn_un (i := 16) (d := some 62) rfl ?_
           refine wpIn_un (i := 17) (d := some 63) rfl ?_
           refine wpIn_uq (i := 18) (d := some 64) (v := .bool false) rfl ?_
           refine wpIn_uq (i := 19) (d := some 65) (v := .bool false) rfl ?_
           refine wpIn_done hF (by kernel_rfl) ?_ _
           have hbZ := belowP hbx (belowP hH hF)
           go_wp2
           go_roundw
           case rel => exact ⟨b, k + 1, by omega, by omega, rfl, by go_num, HNXT, hbZ⟩
           case measure => simp [intOf]; try omega
     · obtain rfl : k = n := by omega
       have hb1 : b < k := hbk
       obtain ⟨Y, hY⟩ : ∃ Y, lf.getD b 0 = Y := ⟨_, rfl⟩
       have HNXT : Hid (Sel num p S (d ++ [Y]) (lf.take b ++ lf.drop (b + 1))) := by show Sel _ _ _ _ _; rw [← hY]; exact HSE.out.next HND.out (by rw [HN.out]; exact hb1) fun j hj hne => HBS.out.2 j (by rw [← HN.out]; exact hj) hne
       have hcb := HSX.out wx hbx b hb1
       rw [hY] at hcb
       have howx := own_same hown (Same.of_below hbx fun k e => (hown.lt k e).2)
       have hdl : (zs d).length ≤ 30 := by rw [zs_len]; omega
       have hsbx := hbx.block sb hOb.1
       have hszx := hbx.size
       have HAP : Hid (u9.ownBlock ≠ some sb) := hOb.2
       have hsbl := hOb.1
       have hkx : Keep (fun j => B ≤ j) w3 wx := hkp.trans (Keep.of_below (S := fun j => B ≤ j) hbx) fun _ _ h => h
       have HCX : Hid (∀ j, j < k → wx.cell? ⟨sb, so + j, none⟩ = some (.int .i64 ((lf.getD j 0 : Nat) : Int))) := fun j hj => HSX.out wx hbx j hj
       obtain ⟨lf', hlf'⟩ : ∃ lf', lf.take b ++ lf.drop (b + 1) = lf' := ⟨_, rfl⟩
       have HCUT : Hid (zs lf' = (zs lf).take b ++ (zs lf).drop (b + 1)) := by show _ = _; rw [← hlf', zs_cut]
       rw [hlf'] at HNXT
       obtain ⟨m5, hm5⟩ : ∃ m5, (zs lf').length = m5 := ⟨_, rfl⟩
       have hm5k : m5 + 1 = k := by
        rw [← hm5, HCUT.out, List.length_append, List.length_take, List.length_drop, zs_len, HN.out]
        omega
       have HM5 : Hid ((zs lf').length = m5) := hm5
       have HTK : Hid (((zs lf).take b).length = b ∧ ((zs lf).drop (b + 1)).length = k - (b + 1)) := by
        refine ⟨?_, ?_⟩
        · rw [List.length_take, zs_len, HN.out]; omega
        · rw [List.length_drop, zs_len, HN.out]
       have HCT : Hid (∀ j u, ((zs lf).take b)[j]? = some u → j < b ∧ ((lf.getD j 0 : Nat) : Int) = u) := fun j u hj => by
        have hjb : j < b := by
         have := (List.getElem?_eq_some_iff.1 hj).1
         rw [HTK.out.1] at this
         exact this
        rw [List.getElem?_take_of_lt hjb] at hj
        refine ⟨hjb, ?_⟩
        rw [← zs_getD, List.getD_eq_getElem?_getD, hj]
        rfl
       have HCD : Hid (∀ j u, ((zs lf).drop (b + 1))[j]? = some u → b + 1 + j < k ∧ ((lf.getD (b + 1 + j) 0 : Nat) : Int) = u) := fun j u hj => by
        have hjb : j < k - (b + 1) := by
         have := (List.getElem?_eq_some_iff.1 hj).1
         rw [HTK.out.2] at this
         exact this
        rw [List.getElem?_drop] at hj
        refine ⟨by omega, ?_⟩
        rw [← zs_getD, List.getD_eq_getElem?_getD, hj]
        rfl
       clear hm5 hlf' HSX hY hown hkp hOb
       go_wp2_with (at_builtin; refine wpList_push rfl (.tmp 67) (.tmp 72) 28 3 (.int .i64 0) 8 rfl Tryz.underlying28 Tryz.info3 rfl (by decide) int_one B _ (zs d) rfl ?a0 _ (Y : Int) rfl ?a1 ?a2 ?a3 ?_)
       case a0 => exact howx.alloc _
       case a1 => exact cell_row (cur := [_]) (heap_alloc_new _ _) 0 _ rfl
       case a2 => omega
       case a3 => have := HBB.out; have := hkx.size; simp; omega
       intro v' w12 ho12 hg12 hloc
       have ho13 := own_snoc ho12
       rw [show zs d ++ [(Y : Int)] = zs (d ++ [Y]) from by simp [zs]] at ho13
       have hkY := (hkx.alloc (.cells #[.int .i64 (Y : Int)] 3)).trans (Keep.of_grown (S := fun j => B ≤ j) hg12 fun j _ e => (howx.lt j e).1) fun _ _ h => h
       have hs12 := hg12.size
       have hsz12 : sb < w12.heap.size := by simp at hs12; omega
       have HC12 : Hid (∀ j, j < k → w12.cell? ⟨sb, so + j, none⟩ = some (.int .i64 ((lf.getD j 0 : Nat) : Int))) := fun j hj => (World.cell?_of_block (a := ⟨sb, so + j, none⟩) ((hg12.block sb (by simp; omega) fun e => HAP.out e.symm).trans (Below.heap_alloc _ _ _ (by omega)))).trans (HCX.out j hj)
       have HO13 : Hid (w12.ownsRow B 3 1 v' (zs (d ++ [Y])).length ((zs (d ++ [Y])).map (Value.int .i64))) := ho13
       have HKY : Hid (Keep (fun j => B ≤ j) w3 w12) := hkY
       clear ho12 ho13 hg12 hloc hkY hs12 howx hcb HCX hsbx HAP hkx
       obtain ⟨s2, hs2⟩ : ∃ s2, (if c = b + 1 then so else so + (b + 1)) = s2 := ⟨_, rfl⟩
       have HS2 : Hid ((if c = b + 1 then so else so + (b + 1)) = s2) := hs2
       clear hs2
       go_upto_region 15 with fail
       refine wp_region_in (by kernel_rfl) (fun _ => True) ?_
       change wpIn _ _ _ _ _ _ _ _ (World.drew _)
       refine wpIn_uq (i := 1) (d := some 75) (v := .slice (some ⟨sb, so, none⟩) k c) rfl ?_
       refine wpIn_uq (i := 2) (d := some 76) (v := .int .i64 (b : Int)) rfl ?_
       refine wpIn_ur (i := 3) (d := some 77) (v := .slice (some ⟨sb, so, none⟩) b c) rfl (by (intro wq hq; go_simp; first | done | with_reducible rfl | (intro hh; exfalso; omega))) ?_
       refine wpIn_uq (i := 5) (d := some 79) (v := .slice (some ⟨sb, so, none⟩) k c) rfl ?_
       refine wpIn_uq (i := 6) (d := some 80) (v := .int .i64 (b : Int)) rfl ?_
       refine wpIn_ur (i := 7) (d := some 81) (v := .int .i64 ((b : Int) + 1)) rfl (by (intro wq hq; go_simp; first | done | (rw [IntKind.wrap_i64]; omega))) ?_
       refine wpIn_ur (i := 8) (d := some 82) (v := .slice (some ⟨sb, s2, none⟩) (k - (b + 1)) (c - (b + 1))) rfl (by (intro wq hq; go_simp; rw [if_pos (show 0 ≤ (b : Int) + 1 ∧ (b : Int) + 1 ≤ (k : Int) by omega), ← HS2.out]; split <;> rfl)) ?_
       refine wpIn_do (i := 0) trivial (by kernel_rfl) rfl (by rfl) ?_
       intro K0 hK0
       refine wp_noneI (d := some 74) rfl rfl ?_
       refine hK0 _ _ ?_
       have hA0 : Keep (fun j => w12.heap.size ≤ j) w12 (w12.drew.alloc (.cells #[] 3)) := (Keep.refl _ w12).drew.alloc _
       have hOW := own_none w12.drew
       have hcA : ∀ j, j < k → (w12.drew.alloc (.cells #[] 3)).cell? ⟨sb, so + j, none⟩ = some (.int .i64 ((lf.getD j 0 : Nat) : Int)) := fun j hj => (World.cell?_of_block (a := ⟨sb, so + j, none⟩) (hA0.block sb hsz12 (by omega))).trans (HC12.out j hj)
       have hdz : w12.drew.heap.size = w12.heap.size := rfl
       have hAz : (w12.drew.alloc (.cells #[] 3)).heap.size = w12.heap.size + 1 := by simp
       rw [hdz] at hOW
       change wpIn _ _ _ _ _ _ _ (Act.mk _ _) (w12.drew.alloc (.cells #[] 3))
       generalize w12.drew.alloc (.cells #[] 3) = wA at *
       refine wpIn_do (i := 4) trivial (by kernel_rfl) rfl (by rfl) ?_
       intro K4 hK4
       refine wp_srcI (.tmp 74) (.tmp 77) (d := some 78) rfl rfl w12.heap.size (.slice (some ⟨w12.heap.size, 0, none⟩) 0 0) 0 [] rfl hOW ⟨sb, so, none⟩ b c ((zs lf).take b) rfl HTK.out.1 ?b2 (by omega) (by omega) ?_
       case b2 => exact fun j u hj => by rw [add_flat]; obtain ⟨h1, h2⟩ := HCT.out j u hj; rw [hcA j (by omega), h2]
       intro v4 w14 ho14 hg14 hl14
       refine hK4 _ _ ?_
       have hA4 := hA0.trans (Keep.of_grown (S := fun j => w12.heap.size ≤ j) hg14 fun j _ e => by cases e; exact Nat.le_refl _) fun _ _ h => h
       have hcB : ∀ j, j < k → w14.cell? ⟨sb, so + j, none⟩ = some (.int .i64 ((lf.getD j 0 : Nat) : Int)) := fun j hj => (World.cell?_of_block (a := ⟨sb, so + j, none⟩) (hA4.block sb hsz12 (by omega))).trans (HC12.out j hj)
       have hs14 := hA4.size
       refine wpIn_do (i := 9) trivial (by kernel_rfl) rfl (by rfl) ?_
       intro K9 hK9
       refine wp_srcI (.tmp 78) (.tmp 82) (d := some 83) rfl rfl w12.heap.size v4 (0 + b) ([] ++ (zs lf).take b) rfl ho14 ⟨sb, s2, none⟩ (k - (b + 1)) (c - (b + 1)) ((zs lf).drop (b + 1)) rfl HTK.out.2 ?b5 (by omega) (by omega) ?_
       case b5 => exact fun j u hj => by obtain ⟨h1, h2⟩ := HCD.out j u hj; rw [add_flat, ← HS2.out, if_neg (by omega), Nat.add_assoc, hcB (b + 1 + j) h1, h2]
       intro v5 w15 ho15 hg15 hl15
       refine hK9 _ _ ?_
       have hA5 := hA4.trans (Keep.of_grown (S := fun j => w12.heap.size ≤ j) hg15 fun j _ e => (ho14.lt j e).1) fun _ _ h => h
       rw [List.nil_append, ← HCUT.out, show 0 + b + (k - (b + 1)) = (zs lf').length from by rw [HM5.out]; omega] at ho15
       obtain ⟨q5, c5, rfl, hr5⟩ := own_rd ho15
       have HRD5 : Hid (RdI (fun j => j < w15.heap.size ∧ v'.ownBlock ≠ some j) w15 q5 c5 (zs lf')) := hr5.carry (fun _ _ => rfl) fun j hj => ⟨(ho15.lt j hj).2, fun e => by have := (HO13.out.lt j e).2; have := (ho15.lt j hj).1; omega⟩
       have HOW5 : Hid (w15.ownsRow B 3 1 v' (zs (d ++ [Y])).length ((zs (d ++ [Y])).map (Value.int .i64))) := own_same HO13.out fun j e => hA5.block j (HO13.out.lt j e).2 (by have := (HO13.out.lt j e).2; omega)
       have HKP5 : Hid (Keep (fun j => B ≤ j) w3 w15) := HKY.out.trans hA5 fun j _ e => by have := HKY.out.size; have := HBB.out; omega
       rw [HM5.out]
       clear ho14 hg14 hl14 ho15 hg15 hl15 hr5 hA0 hA4 hA5 hcA hcB hOW hK0 hK4 hK9
       refine wpIn_uq (i := 10) (d := some 8) (v := .slice q5 m5 c5) rfl ?_
       refine wpIn_done trivial (by kernel_rfl) ?_ _
       go_wp2
       go_roundw
       case rel => exact ⟨d ++ [Y], lf', q5, c5, by rw [HM5.out], HNXT, HOW5.out, HRD5, HKP5.out⟩
       case measure => simp [lenVL]; try omega
  · obtain rfl : n = 0 := by omega
    have hl0 : lf = [] := List.eq_nil_of_length_eq_zero HN.out
    have HEN : Hid (Rkd num p S d) := by show Rkd _ _ _ _; have := HSE.out; rw [hl0] at this; exact this.done
    go_wp2
    go_ret
    exact ⟨d, HEN.out, RowP.of_own hown (by have := belowP hb0 HB3.out; have := this.size; have := HBB.out; omega) (belowP hb0 hBW)⟩
theorem rbyLine_any {O : Nat → Prop} {w : World} {p : Pa} {q : Pq} {ls : List Int} {pl : Option Addr} {cl : Nat} (h : IsPa (· < w.heap.size) w p q) (hz : SzPa p) (hl : RdI O w pl cl ls) (hO : ∀ k, O k → k < w.heap.size) (hll : ls.length ≤ 1000) (i : Int) :
    Calls Tryz.prog 8 #[valPa p q, .slice pl ls.length cl, .int .i64 i] w fun e w' => ∃ L, ByL p ls i L ∧ RowP (zs L) w e w' := by
 unfold ByL
 cases hr : rightT p with
 | false => exact (rbyLine_not h hz hr i).mono fun e w' hh => ⟨[], rfl, hh⟩
 | true => exact (rbyLine_ok h hz hr hl hO hll i).mono fun e w' ⟨L, h1, h2⟩ => ⟨L, h1, h2⟩
end Go.Proofs.YtimhpglfolbomabGreat.Od
namespace Go.Proofs.YtimhpglfolbomabGreat.Od
open Go.RowKit Go.Maps
open Classical in
noncomputable def byLV (p : Pa) (l : List Int) (i : Int) : List Int := if h : ∃ L, ByL p l i L then zs h.choose else []
theorem byLV_of {p : Pa} {l : List Int} {i : Int} {L : List Nat} (h : ByL p l i L) : byLV p l i = zs L := by
 unfold byLV
 have he : ∃ L, ByL p l i L := ⟨L, h⟩
 rw [dif_pos he, he.choose_spec.uniq h]
theorem byLV_len (p : Pa) (l : List Int) (i : Int) : (byLV p l i).length ≤ p.evs.length := by
 unfold byLV
 split
 · rename_i h
   rw [zs_len]
   exact h.choose_spec.len
 · exact Nat.zero_le _
theorem byLineV_any {O : Nat → Prop} {w : World} {p : Pa} {q : Pq} {ls : List Int} {pl : Option Addr} {cl : Nat} (h : IsPa (· < w.heap.size) w p q) (hz : SzPa p) (hl : RdI O w pl cl ls) (hO : ∀ k, O k → k < w.heap.size) (hll : ls.length ≤ 1000) (i : Int) :
    Calls Tryz.prog 7 #[valPa p q, .slice pl ls.length cl, .int .i64 i] w (RowP (byLV p ls i) w) :=
 (byLine_any h hz hl hO hll i).mono fun e w' ⟨L, h1, h2⟩ => by rw [byLV_of h1]; exact h2
end Go.Proofs.YtimhpglfolbomabGreat.Od
namespace Go.Proofs.YtimhpglfolbomabGreat.Od
open Go.RowKit Go.Maps
theorem rbyLineV_any {O : Nat → Prop} {w : World} {p : Pa} {q : Pq} {ls : List Int} {pl : Option Addr} {cl : Nat} (h : IsPa (· < w.heap.size) w p q) (hz : SzPa p) (hl : RdI O w pl cl ls) (hO : ∀ k, O k → k < w.heap.size) (hll : ls.length ≤ 1000) (i : Int) :
    Calls Tryz.prog 8 #[valPa p q, .slice pl ls.length cl, .int .i64 i] w (RowP (byLV p ls i) w) :=
 (rbyLine_any h hz hl hO hll i).mono fun e w' ⟨L, h1, h2⟩ => by rw [byLV_of h1]; exact h2
theorem byLineLaw_any {O : Nat → Prop} {w : World} {p : Pa} {q : Pq} {l : List Int} {pl : Option Addr} {cl : Nat} (h : IsPa (· < w.heap.size) w p q) (hB : BigPa p) (hl : RdI O w pl cl l) (hO : ∀ k, O k → k < w.heap.size) (hln : l.length ≤ 9223372036854775807) (_hw : ∀ y ∈ l, wf64 y) (i : Int) :
    Calls Tryz.prog 3 #[valPa p q, .slice pl l.length cl, .int .i64 i] w fun x w' => x = .returned (.bool true) ∧ Below w.heap.size w w' := by
 obtain ⟨W0, hW0⟩ : ∃ W0, W0 = w.alloc (.cells (cellsPa p q).toArray 27) := ⟨_, rfl⟩
 have hb0 : Below w.heap.size w W0 := by rw [hW0]; exact (Below.refl _ _).alloc (Nat.le_refl _) _
 have V : IsVP W0 w.heap.size p q := by rw [hW0]; exact isVP_new h
 have HLD : Hid (∀ X, Below W0.heap.size W0 X → (Instr.loadAt 27 (.pointer (some ⟨w.heap.size, 0, none⟩))).run Tryz.prog X = .ok (.agg (cellsPa p q).toArray) X) := fun X hX => (V.below hX).load
 have hFew := few12_any V.pa hB
 have HCA : Hid (FewPa p → l.length ≤ 50 → ∀ X, Below W0.heap.size W0 X → Calls Tryz.prog 7 #[.agg (cellsPa p q).toArray, .slice pl l.length cl, .int .i64 i] X fun e w' => ∃ v c, e = .returned (.slice v (byLV p l i).length c) ∧ RdI (fun k => X.heap.size ≤ k ∧ k < w'.heap.size) w' v c (byLV p l i) ∧ Below X.heap.size X w') := fun h1 h2 X hX => (byLineV_any (O := O) (V.below hX).pa h1.sz (hl.same (Same.of_below (belowP hb0 hX) hO)) (fun k hk => Nat.lt_of_lt_of_le (hO k hk) (belowP hb0 hX).size) (by omega) i).mono fun _ _ h => h.rd
 have HCB : Hid (FewPa p → l.length ≤ 50 → ∀ X, Below W0.heap.size W0 X → Calls Tryz.prog 8 #[.agg (cellsPa p q).toArray, .slice pl l.length cl, .int .i64 i] X fun e w' => ∃ v c, e = .returned (.slice v (byLV p l i).length c) ∧ RdI (fun k => X.heap.size ≤ k ∧ k < w'.heap.size) w' v c (byLV p l i) ∧ Below X.heap.size X w') := fun h1 h2 X hX => (rbyLineV_any (O := O) (V.below hX).pa h1.sz (hl.same (Same.of_below (belowP hb0 hX) hO)) (fun k hk => Nat.lt_of_lt_of_le (hO k hk) (belowP hb0 hX).size) (by omega) i).mono fun _ _ h => h.rd
 have HCL : Hid (FewPa p → (byLV p l i).length ≤ 30) := fun h1 => Nat.le_trans (byLV_len p l i) h1.sz.evs
 have hB0 : Below W0.heap.size W0 W0 := Below.refl _ _
 clear h V hB hl
 unfold valPa at hFew ⊢
 generalize cellsPa p q = C at *
 generalize byLV p l i = CV at *
 generalize l.length = nl at *
 by_cases h50 : nl ≤ 50
 case neg =>
  have h50' : 50 < nl := by omega
  have d1 : decide ((50 : Int) < (nl : Int)) = true := decide_eq_true (by omega)
  have d2 : decide (50 < nl) = true := decide_eq_true h50'
  go_enter Tryz.func3, Tryz.ntmps3
  go_upto_region 1 with fail
  rw [← hW0]
  clear hW0
  go_wp2_with (first
   | (refine wpList_loadK rfl 27 _ rfl w.heap.size 0 rfl C (HLD.out _ hB0) ?_)
   | (go_at_call 5; refine hFew.mono ?_; rintro x W ⟨⟨b1, rfl, hf1⟩, hB1⟩; cases b1))
  all_goals (go_ret; exact ⟨rfl, belowP hb0 hB1⟩)
 have d1 : decide ((50 : Int) < (nl : Int)) = false := decide_eq_false (by omega)
 have d2 : decide (50 < nl) = false := decide_eq_false (by omega)
 go_enter Tryz.func3, Tryz.ntmps3
 go_upto_region 1 with fail
 rw [← hW0]
 clear hW0
 go_upto_region 3 with (first
  | (refine wpList_loadK rfl 27 _ rfl w.heap.size 0 rfl C (HLD.out _ hB0) ?_)
  | (go_at_call 5; refine hFew.mono ?_; rintro x W ⟨⟨b1, rfl, hf1⟩, hB1⟩; cases b1; have hN1 := hB1; clear hB1))
 · go_wp2
   go_ret
   exact ⟨rfl, belowP hb0 hN1⟩
 · have hfe := hf1 trivial
   have hcl := HCL.out hfe
   have HP3 : Hid (∀ X, Below W.heap.size W X → Calls Tryz.prog 7 #[.agg C.toArray, .slice pl nl cl, .int .i64 i] X fun e w' => ∃ v c, e = .returned (.slice v CV.length c) ∧ RdI (fun k => X.heap.size ≤ k ∧ k < w'.heap.size) w' v c CV ∧ Below X.heap.size X w') := fun X hX => HCA.out hfe h50 X (belowP hB1 hX)
   have HP4 : Hid (∀ X, Below W.heap.size W X → Calls Tryz.prog 8 #[.agg C.toArray, .slice pl nl cl, .int .i64 i] X fun e w' => ∃ v c, e = .returned (.slice v CV.length c) ∧ RdI (fun k => X.heap.size ≤ k ∧ k < w'.heap.size) w' v c CV ∧ Below X.heap.size X w') := fun X hX => HCB.out hfe h50 X (belowP hB1 hX)
   have HL1 : Hid (∀ X, Below W.heap.size W X → (Instr.loadAt 27 (.pointer (some ⟨w.heap.size, 0, none⟩))).run Tryz.prog X = .ok (.agg C.toArray) X) := fun X hX => HLD.out X (belowP hB1 hX)
   clear HCA HCB HLD hFew hf1 hfe HCL
   refine wp_region_in (by kernel_rfl) (fun w' => Below W.heap.size W w') ?_
   change wpIn _ _ _ _ _ _ _ _ (World.drew _)
   have hD : Below W.heap.size W W.drew := (Below.refl _ _).drew
   refine wpIn_take (i := 0) (d := (some 15)) (v := .agg C.toArray) (a' := ?aw0) rfl rfl (by kernel_rfl) (by kernel_rfl) (by kernel_rfl) (fun _ _ _ h => h) (Or.inl ⟨by rfl, ?yw0⟩) ?fw0 ?_
   case yw0 => exact fun wq hq => exec_loadR rfl rfl (HL1.out wq hq)
   case fw0 => (go_frame; rfl)
   refine wpIn_take (i := 1) (d := (some 16)) (v := .slice pl nl cl) (a' := ?aw1) rfl rfl (by kernel_rfl) (by kernel_rfl) (by kernel_rfl) (fun _ _ _ h => h) (Or.inl ⟨by rfl, ?yw1⟩) ?fw1 ?_
   case yw1 => (intro wq hq; go_simp; first | done | with_reducible rfl)
   case fw1 => (go_frame; rfl)
   refine wpIn_take (i := 2) (d := (some 17)) (v := .int .i64 i) (a' := ?aw2) rfl rfl (by kernel_rfl) (by kernel_rfl) (by kernel_rfl) (fun _ _ _ h => h) (Or.inl ⟨by rfl, ?yw2⟩) ?fw2 ?_
   case yw2 => (intro wq hq; go_simp; first | done | with_reducible rfl)
   case fw2 => (go_frame; rfl)
   refine wpIn_take (i := 4) (d := (some 19)) (v := .agg C.toArray) (a' := ?aw4) rfl rfl (by kernel_rfl) (by kernel_rfl) (by kernel_rfl) (fun _ _ _ h => h) (Or.inl ⟨by rfl, ?yw4⟩) ?fw4 ?_
   case yw4 => exact fun wq hq => exec_loadR rfl rfl (HL1.out wq hq)
   case fw4 => (go_frame; rfl)
   refine wpIn_take (i := 5) (d := (some 20)) (v := .slice pl nl cl) (a' := ?aw5) rfl rfl (by kernel_rfl) (by kernel_rfl) (by kernel_rfl) (fun _ _ _ h => h) (Or.inl ⟨by rfl, ?yw5⟩) ?fw5 ?_
   case yw5 => (intro wq hq; go_simp; first | done | with_reducible rfl)
   case fw5 => (go_frame; rfl)
   refine wpIn_take (i := 6) (d := (some 21)) (v := .int .i64 i) (a' := ?aw6) rfl rfl (by kernel_rfl) (by kernel_rfl) (by kernel_rfl) (fun _ _ _ h => h) (Or.inl ⟨by rfl, ?yw6⟩) ?fw6 ?_
   case yw6 => (intro wq hq; go_simp; first | done | with_reducible rfl)
   case fw6 => (go_frame; rfl)
   refine wpIn_do (i := 3) hD (by kernel_rfl) rfl (by rfl) ?_
   intro K2 hK2
   go_simp
   go_wp2_with (go_at_call 7; refine (HP3.out _ hD).mono ?_; rintro x w4 ⟨v4, c4, rfl, hr4, hbw4⟩)
   have hD4 : Below W.heap.size W w4 := belowP hD hbw4
   have HR4 : Hid (∀ X, Below w4.heap.size w4 X → RdI (· < X.heap.size) X v4 c4 CV) := fun X hX => hr4.carry (fun k hk => hX.block k hk.2) fun k hk => Nat.lt_of_lt_of_le hk.2 hX.size
   clear hr4
   refine wpIn_do (i := 7) hD4 (by kernel_rfl) rfl (by rfl) ?_
   intro K5 hK5
   go_simp
   go_wp2_with (go_at_call 8; refine (HP4.out _ hD4).mono ?_; rintro x w5 ⟨v5, c5, rfl, hr5, hbw5⟩)
   have hD5 : Below W.heap.size W w5 := belowP hD4 hbw5
   have HSM : Hid (Calls Tryz.prog 6 #[.slice v4 CV.length c4, .slice v5 CV.length c5] w5 fun e w' => e = .returned (.bool true) ∧ Below w5.heap.size w5 w') := (same12_any CV CV v4 v5 c4 c5 w5 (HR4.out w5 hbw5) hr5 (by omega) (by omega)).mono fun e w' hh => ⟨by rw [hh.1, decide_eq_true rfl], hh.2.below (Nat.le_refl _) fun _ _ h => h⟩
   clear hr5 HR4
   refine wpIn_do (i := 8) hD5 (by kernel_rfl) rfl (by rfl) ?_
   intro K6 hK6
   go_simp
   go_wp2_with (go_at_call 6; refine (HSM.out).mono ?_; rintro x w6 ⟨rfl, hbw6⟩)
   have hD6 : Below W.heap.size W w6 := belowP hD5 hbw6
   refine wpIn_take (i := 9) (d := (some 24)) (v := .bool true) (a' := ?aw9) rfl rfl (by kernel_rfl) (by kernel_rfl) (by kernel_rfl) (fun _ _ _ h => h) (Or.inl ⟨by rfl, ?yw9⟩) ?fw9 ?_
   case yw9 => (intro wq hq; go_simp; first | done | with_reducible rfl)
   case fw9 => (go_frame; rfl)
   refine wpIn_do (i := 10) hD6 (by kernel_rfl) rfl (by rfl) ?_
   intro K8 hK8
   go_simp
   go_wp2_with (go_at_call 9; refine (awake12_any _).mono ?_; rintro x w7 ⟨rfl, hbw7⟩)
   have hD7 : Below W.heap.size W w7 := belowP hD6 hbw7
   refine wpIn_take (i := 11) (d := (some 26)) (v := .bool true) (a' := ?aw11) rfl rfl (by kernel_rfl) (by kernel_rfl) (by kernel_rfl) (fun _ _ _ h => h) (Or.inl ⟨by rfl, ?yw11⟩) ?fw11 ?_
   case yw11 => (intro wq hq; go_simp; first | done | with_reducible rfl)
   case fw11 => (go_frame; rfl)
   refine wpIn_take (i := 12) (d := (some 6)) (v := .bool true) (a' := ?aw12) rfl rfl (by kernel_rfl) (by kernel_rfl) (by kernel_rfl) (fun _ _ _ h => h) (Or.inl ⟨by rfl, ?yw12⟩) ?fw12 ?_
   case yw12 => (intro wq hq; go_simp; first | done | with_reducible rfl)
   case fw12 => (go_frame; rfl)
   refine wpIn_done hD7 (by kernel_rfl) ?_ _
   go_wp2
   go_ret
   exact ⟨rfl, belowP hb0 (belowP hB1 hD7)⟩
end Go.Proofs.YtimhpglfolbomabGreat.Od
namespace Go.Proofs.YtimhpglfolbomabGreat
open Go.ChangeShapes Go.WideShapes Go.ChangeAt Go.RowKit
theorem cellsJ : Tryz.prog.cellsOf 38 = 5 := by kernel_rfl
theorem cellsS : Tryz.prog.cellsOf 9 = 1 := by kernel_rfl
theorem cellsI3 : Tryz.prog.cellsOf 3 = 1 := by kernel_rfl
theorem cellsI2 : Tryz.prog.cellsOf 2 = 1 := by kernel_rfl
theorem cellsKs : Tryz.prog.cellsOf 22 = 1 := by kernel_rfl
theorem cellsLs : Tryz.prog.cellsOf 36 = 1 := by kernel_rfl
theorem cell_lt {w : World} {a : Addr} {v : Value} (h : w.cell? a = some v) : a.block < w.heap.size := by
 rcases Nat.lt_or_ge a.block w.heap.size with h' | h'
 · exact h'
 · simp [World.cell?, Array.getElem?_eq_none h'] at h
theorem cell_none {w : World} {b o : Nat} {sp : Option Nat} {v : Value} (h : w.cell? ⟨b, o, sp⟩ = some v) : sp = none := by
 cases sp with
 | none => rfl
 | some x =>
  unfold World.cell? at h
  split at h <;> simp at h
theorem isJs_of {O : Nat → Prop} {w : World} {b o : Nat} (hO : O b) : ∀ (l : List J) (n : Nat), (∀ i, i < l.length → ∃ cs, (∀ m v, cs[m]? = some v → w.cell? ⟨b, o + (n + i) * 5 + m, none⟩ = some v) ∧ isJ O w (l.getD i J.zero) cs) → isJs O w (some ⟨b, o, none⟩) n l
 | [], _, _ => by unfold isJs; trivial
 | j :: r, n, h => by
  unfold isJs
  obtain ⟨cs, h1, h2⟩ := h 0 (by simp)
  refine ⟨⟨b, o, cs, rfl, hO, fun m v hv => ?_, h2⟩, isJs_of hO r (n + 1) fun i hi => ?_⟩
  · have := h1 m v hv
    simpa using this
  · obtain ⟨cs, h1, h2⟩ := h (i + 1) (by simp; omega)
    refine ⟨cs, fun m v hv => ?_, h2⟩
    have := h1 m v hv
    rwa [show n + (i + 1) = n + 1 + i by omega] at this
theorem pick_list {α : Type} {z : α} {P : Nat → α → Prop} : ∀ n, (∀ i, i < n → ∃ x, P i x) → ∃ l : List α, l.length = n ∧ ∀ i, i < n → P i (l.getD i z)
 | 0, _ => ⟨[], rfl, fun i hi => absurd hi (by omega)⟩
 | n + 1, h => by
  obtain ⟨l, hl, hp⟩ := pick_list (z := z) n fun i hi => h i (by omega)
  obtain ⟨x, hx⟩ := h n (by omega)
  refine ⟨l ++ [x], by simp [hl], fun i hi => ?_⟩
  by_cases hin : i < n
  · have : (l ++ [x]).getD i z = l.getD i z := by
      rw [List.getD_eq_getElem?_getD, List.getD_eq_getElem?_getD, List.getElem?_append_left (by omega)]
    rw [this]
    exact hp i hin
  · obtain rfl : i = n := by omega
    have : (l ++ [x]).getD i z = x := by
     rw [List.getD_eq_getElem?_getD, List.getElem?_append_right (by omega), hl]
     simp
    rw [this]
    exact hx
theorem viewJ {H : Type} {enc : TypeId × Value → H} {W : World} : ∀ (fuel : Nat) (cs : List Value) (x : DataW H × List MemPlace), DataW.trod enc Tryz.prog W 0 (fun _ => true) true fuel 38 cs = some x → ∃ j, isJ (fun b => b < W.heap.size) W j cs
 | 0, cs, x, h => by
  obtain ⟨_, n, hf, _⟩ := DataW.trod_struct Tryz.underlying38 h
  omega
 | fuel + 1, cs, x, h => by
  obtain ⟨xs, n, hf, _, hl, hlen, hfs⟩ := DataW.trod_struct Tryz.underlying38 h
  obtain rfl : fuel = n := by omega
  rw [cellsJ] at hl
  match cs, hl with
  | [c0, c1, c2, c3, c4], _ =>
   match xs, hlen with
   | [y0, y1, y2, y3, y4], _ =>
    have g0 : DataW.trod enc Tryz.prog W 0 (fun _ => true) true fuel 3 (([c0, c1, c2, c3, c4].drop 0).take (Tryz.prog.cellsOf 3)) = some y0 := hfs 0 _ rfl
    rw [cellsI3] at g0
    have f0 : DataW.trod enc Tryz.prog W 0 (fun _ => true) true fuel 3 [c0] = some y0 := g0
    have g1 : DataW.trod enc Tryz.prog W 0 (fun _ => true) true fuel 2 (([c0, c1, c2, c3, c4].drop 1).take (Tryz.prog.cellsOf 2)) = some y1 := hfs 1 _ rfl
    rw [cellsI2] at g1
    have f1 : DataW.trod enc Tryz.prog W 0 (fun _ => true) true fuel 2 [c1] = some y1 := g1
    have g2 : DataW.trod enc Tryz.prog W 0 (fun _ => true) true fuel 9 (([c0, c1, c2, c3, c4].drop 2).take (Tryz.prog.cellsOf 9)) = some y2 := hfs 2 _ rfl
    rw [cellsS] at g2
    have f2 : DataW.trod enc Tryz.prog W 0 (fun _ => true) true fuel 9 [c2] = some y2 := g2
    have g3 : DataW.trod enc Tryz.prog W 0 (fun _ => true) true fuel 22 (([c0, c1, c2, c3, c4].drop 3).take (Tryz.prog.cellsOf 22)) = some y3 := hfs 3 _ rfl
    rw [cellsKs] at g3
    have f3 : DataW.trod enc Tryz.prog W 0 (fun _ => true) true fuel 22 [c3] = some y3 := g3
    have g4 : DataW.trod enc Tryz.prog W 0 (fun _ => true) true fuel 36 (([c0, c1, c2, c3, c4].drop 4).take (Tryz.prog.cellsOf 36)) = some y4 := hfs 4 _ rfl
    rw [cellsLs] at g4
    have f4 : DataW.trod enc Tryz.prog W 0 (fun _ => true) true fuel 36 [c4] = some y4 := g4
    obtain ⟨k, e0, _, _⟩ := DataW.trod_int Tryz.underlying3 f0
    obtain ⟨i, e1, _, _⟩ := DataW.trod_int Tryz.underlying2 f1
    obtain ⟨t, e2, _, _⟩ := DataW.trod_string Tryz.underlying9 f2
    simp only [List.cons.injEq, and_true] at e0 e1 e2
    subst e0 e1 e2
    have hkeys : ∃ pk nk ck ks, c3 = .slice pk nk ck ∧ nk = ks.length ∧ RdK (fun b => b < W.heap.size) W pk ck ks := by
     rcases open_strings Tryz.underlying22 Tryz.underlying9 cellsS f3 with ⟨e3, _⟩ | ⟨a, len, cap, ss, e3, _, hlc, _, hss, _, hcell, _⟩
     · simp only [List.cons.injEq, and_true] at e3
       exact ⟨none, 0, 0, [], e3, rfl, RdK.nil _ _⟩
     · simp only [List.cons.injEq, and_true] at e3
       simp only [if_true] at hss
       refine ⟨some a, len, cap, ss.take len, e3, by simp; omega, by simp; omega, fun j hj => ⟨a, rfl, ?_, ?_⟩⟩
       · have hj' : j < len := by simp at hj; omega
         have := cell_lt (hcell j (by omega))
         rwa [add_block] at this
       · have hj' : j < len := by simp at hj; omega
         rw [hcell j (by omega)]
         congr 2
         rw [List.getD_eq_getElem?_getD, List.getD_eq_getElem?_getD, List.getElem?_take, if_pos hj', List.getElem?_eq_getElem (by omega)]
         rfl
    have hlist : ∃ pl nl cl l, c4 = .slice pl nl cl ∧ nl = l.length ∧ l.length ≤ cl ∧ isJs (fun b => b < W.heap.size) W pl 0 l := by
     rcases DataW.trod_slice Tryz.underlying36 f4 with ⟨e4, _⟩ | ⟨a, len, cap, elems, rest, n', hn', e4, _, _, hlc, _, hel, hget, _, _⟩
     · simp only [List.cons.injEq, and_true] at e4
       exact ⟨none, 0, 0, [], e4, rfl, Nat.le_refl _, by unfold isJs; trivial⟩
     · simp only [List.cons.injEq, and_true] at e4
       rw [cellsJ] at hget
       cases len with
       | zero => exact ⟨some a, 0, cap, [], e4, rfl, Nat.zero_le _, by unfold isJs; trivial⟩
       | succ len =>
        obtain ⟨b, o, sp⟩ := a
        have hone : ∀ i, i < len + 1 → ∃ cs, W.cells? 0 ((⟨b, o, sp⟩ : Addr).add (i * 5)) 5 = some cs ∧ ∃ y, DataW.trod enc Tryz.prog W 0 (fun _ => true) true n' 38 cs = some y := fun i hi => by
         have h1 := hget i hi
         rw [List.getElem?_eq_getElem (by omega), Option.bind_eq_some_iff] at h1
         obtain ⟨cs, h2, h3⟩ := h1
         exact ⟨cs, h2, _, h3⟩
        have hsp : sp = none := by
         obtain ⟨cs, h2, _⟩ := hone 0 (by omega)
         have h3 := (World.cells?_some h2).2.2 0 (by omega)
         have h4 : (((⟨b, o, sp⟩ : Addr).add (0 * 5)).add 0) = ⟨b, o, sp⟩ := by
          unfold Addr.add
          simp
         rw [h4] at h3
         have hlen5 := (World.cells?_some h2).2.1
         rw [List.getElem?_eq_getElem (by omega)] at h3
         exact cell_none h3
        subst hsp
        have hadd : ∀ m, (⟨b, o, none⟩ : Addr).add m = ⟨b, o + m, none⟩ := fun m => by unfold Addr.add; split <;> simp_all
        have hadd2 : ∀ m m', ((⟨b, o + m, none⟩ : Addr)).add m' = ⟨b, o + m + m', none⟩ := fun m m' => by unfold Addr.add; split <;> simp_all
        have hb : b < W.heap.size := by
         obtain ⟨cs, h2, _⟩ := hone 0 (by omega)
         have := World.cells?_block h2 (by decide)
         rwa [hadd] at this
        obtain ⟨l, hl1, hl2⟩ := pick_list (z := J.zero) (P := fun i j => ∃ cs, (∀ m v, cs[m]? = some v → W.cell? ⟨b, o + (0 + i) * 5 + m, none⟩ = some v) ∧ isJ (fun b => b < W.heap.size) W j cs) (len + 1) fun i hi => by
         obtain ⟨cs, h2, y, h3⟩ := hone i hi
         obtain ⟨j, hj⟩ := viewJ n' cs y h3
         refine ⟨j, cs, fun m v hv => ?_, hj⟩
         have h5 := (World.cells?_some h2).2.2
         have hlen5 := (World.cells?_some h2).2.1
         have hm : m < 5 := by
          have := (List.getElem?_eq_some_iff.1 hv).1
          omega
         have h6 := h5 m hm
         rw [hadd, hadd2, hv] at h6
         rw [show o + (0 + i) * 5 + m = o + i * 5 + m by omega]
         exact h6
        exact ⟨some ⟨b, o, none⟩, len + 1, cap, l, e4, hl1.symm, by omega, isJs_of (O := fun b => b < W.heap.size) hb l 0 fun i hi => hl2 i (by omega)⟩
    obtain ⟨pk, nk, ck, ks, rfl, rfl, hk⟩ := hkeys
    obtain ⟨pl, nl, cl, l, rfl, rfl, hlc, hll⟩ := hlist
    exact ⟨.mk k i t ks l, by unfold isJ; exact ⟨pk, ck, pl, cl, rfl, hk, hlc, hll⟩⟩
end Go.Proofs.YtimhpglfolbomabGreat

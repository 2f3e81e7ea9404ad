/-
  By power: by a contract.
  How far back in a line an event stands, as the program tells it: by a contract.
  The line of an event, as the program tells it: by a contract.
  Chain and Level, as the program tells them: by contracts.
  The example of ranks.
  The example of ranks: what is told of it.
  A region that draws its order: what holds of what was done so far, whatever was done first.
-/
import Derived.Test.YtimhpglfolbomaaGreatRY15
set_option maxRecDepth 100000
set_option maxHeartbeats 16000000
namespace Go.Proofs.YtimhpglfolbomaaGreat.Od
open Go.RowKit Go.Maps
theorem byPower_not {w : World} {p : Pa} {q : Pq} {pl : Option Addr} {nl cl : Nat} (h : IsPa (· < w.heap.size) w p q) (hz : SzPa p) (hr : rightT p = false) :
    Calls Tryz.prog 21 #[valPa p q, .slice pl nl cl] w (RowP [] w) := by
 obtain ⟨W0, hW0⟩ : ∃ W0, W0 = w.alloc (.cells (cellsPa p q).toArray 27) := ⟨_, rfl⟩
 have hb0 : Below w.heap.size w W0 := by rw [hW0]; exact (Below.refl _ _).alloc (Nat.le_refl _) _
 have V : IsVP W0 w.heap.size p q := by rw [hW0]; exact isVP_new h
 have hR := right_any V.pa hz
 have hl := V.load
 rw [hr] at hR
 clear V h hz hr
 unfold valPa at *
 generalize cellsPa p q = CP at *
 go_enter Tryz.func21, Tryz.ntmps21
 go_upto_region 1 with fail
 rw [← hW0]
 clear hW0
 go_wp2_with (first
  | (refine wpList_loadK rfl 27 _ rfl w.heap.size 0 rfl CP hl ?_)
  | (go_at_call 10; refine hR.mono ?_; rintro e w1 ⟨rfl, hb1⟩))
 go_ret
 exact ⟨_, rfl, World.ownsRow_nil _ _ _ _, belowP hb0 hb1⟩
def ByPP (p : Pa) (S : List Nat) (w : World) (e : Ending) (w' : World) : Prop :=
 ∃ L T, Rkd (levelT p) p S L ∧ lin (rwsT (toQ p.auth) (thT (toQ p.auth) S p.evs.length)) (rkT L (thT (toQ p.auth) S p.evs.length)) = some T ∧ RowP (zs (toldT (thT (toQ p.auth) S p.evs.length) (rkT L (thT (toQ p.auth) S p.evs.length)) T)) w e w'
theorem right_parts {p : Pa} (h : rightT p = true) : p.names.length = p.evs.length ∧ backT p.auth p.evs.length = true ∧ p.prev.length = p.evs.length ∧ p.den.length = p.evs.length := by
 unfold rightT at h
 simp only [Bool.and_eq_true, decide_eq_true_eq] at h
 exact ⟨h.1.1.1, h.2, (back_of h.1.2).2.2, h.1.1.2⟩
theorem byPower_ok {O : Nat → Prop} {w : World} {p : Pa} {q : Pq} {l : List Int} {pl : Option Addr} {cl : Nat} (h : IsPa (· < w.heap.size) w p q) (hz : SzPa p) (hs : SzEs p) (hr : rightT p = true) (hl : RdI O w pl cl l) (hO : ∀ k, O k → k < w.heap.size) (hll : l.length ≤ 1000) :
    Calls Tryz.prog 21 #[valPa p q, .slice pl l.length cl] w (ByPP p (thereT p.evs.length l) w) := by
 obtain ⟨hnl, hba, _, _⟩ := right_parts hr
 obtain ⟨W0, hW0⟩ : ∃ W0, W0 = w.alloc (.cells (cellsPa p q).toArray 27) := ⟨_, rfl⟩
 have hb0 : Below w.heap.size w W0 := by rw [hW0]; exact (Below.refl _ _).alloc (Nat.le_refl _) _
 have V : IsVP W0 w.heap.size p q := by rw [hW0]; exact isVP_new h
 have HB0 : Hid (Below w.heap.size w W0) := hb0
 have hRi := right_any V.pa hz
 rw [hr] at hRi
 have HLD : Hid (∀ X, Below W0.heap.size W0 X → (Instr.loadAt 27 (.pointer (some ⟨w.heap.size, 0, none⟩))).run Tryz.prog X = .ok (.agg (cellsPa p q).toArray) X) := fun X hX => (V.below hX).load
 have HTH : Hid (∀ X, Below W0.heap.size W0 X → Calls Tryz.prog 32 #[.agg (cellsPa p q).toArray, .slice pl l.length cl] X fun e w' => ∃ p1 c1, e = .returned (.slice p1 (zs (thereT p.evs.length l)).length c1) ∧ RdI (fun k => X.heap.size ≤ k ∧ k < w'.heap.size) w' p1 c1 (zs (thereT p.evs.length l)) ∧ Below X.heap.size X w') := fun X hX => (there_any (V.below hX).pa (hl.same (Same.of_below (belowP hb0 hX) hO)) (fun k hk => Nat.lt_of_lt_of_le (hO k hk) (belowP hb0 hX).size) hll).mono fun _ _ h => h.rd
 have hQ := (back_of hba).2.1
 have hSr := there_rises p.evs.length l
 have hSb : ∀ x ∈ thereT p.evs.length l, x < p.evs.length := fun x hx => (there_mem.1 hx).1
 have hen := hz.evs
 obtain ⟨S, hS⟩ : ∃ S, thereT p.evs.length l = S := ⟨_, rfl⟩
 rw [hS] at HTH hSr hSb ⊢
 have hnd : S.Nodup := hSr.imp fun h => by omega
 have hSl : S.length ≤ 30 := by
  have h1 := sub_len (l := S) (T := List.range p.evs.length) hnd (fun x hx => List.mem_range.2 (hSb x hx))
  simp at h1
  omega
 have HRK : Hid (∀ (X : World) (p1 : Option Addr) (c1 : Nat), Below W0.heap.size W0 X → RdI (· < X.heap.size) X p1 c1 (zs S) → Calls Tryz.prog 45 #[.agg (cellsPa p q).toArray, .slice p1 (zs S).length c1, .func (.func 46) #[] #[.pointer (some ⟨w.heap.size, 0, none⟩)]] X fun e w' => ∃ L, Rkd (levelT p) p S L ∧ ∃ p2 c2, e = .returned (.slice p2 (zs L).length c2) ∧ RdI (fun k => X.heap.size ≤ k ∧ k < w'.heap.size) w' p2 c2 (zs L) ∧ Below X.heap.size X w') := fun X p1 c1 hX hr1 => (ranked_any (V.below hX).pa (V.below hX) hz hs hnl hba hr1 (fun _ h => h) hnd hSb).mono fun _ _ ⟨L, h1, h2⟩ => ⟨L, h1, h2.rd⟩
 have HST : Hid (∀ (X : World) (L : List Nat) (p2 : Option Addr) (c2 : Nat), Rkd (levelT p) p S L → RdI (· < X.heap.size) X p2 c2 (zs L) → Calls Tryz.prog 44 #[.slice p2 (zs L).length c2] X (StandsP (zs L) X)) := fun X L p2 c2 hL hr2 => stands_any hr2 (fun _ h => h) (by rw [zs_len, hL.perm.length_eq]; omega) (fun x hx => by
  obtain ⟨y, hy, rfl⟩ := List.mem_map.1 hx
  have := hSb y (hL.perm.mem_iff.1 hy)
  exact wf_nat (by omega))
 have HCH : Hid (∀ (X : World) (p1 : Option Addr) (c1 : Nat), Below W0.heap.size W0 X → RdI (· < X.heap.size) X p1 c1 (zs S) → Calls Tryz.prog 31 #[.agg (cellsPa p q).toArray, .slice p1 (zs S).length c1] X fun e w' => ∃ p2 c2, e = .returned (.slice p2 (zs (chT (toQ p.auth) S)).length c2) ∧ RdI (fun k => X.heap.size ≤ k ∧ k < w'.heap.size) w' p2 c2 (zs (chT (toQ p.auth) S)) ∧ Below X.heap.size X w') := fun X p1 c1 hX hr1 => (chain_any (V.below hX).pa hz hba hr1 (fun _ h => h) hSr hSb).mono fun _ _ h => h.rd
 have hcl : (zs (chT (toQ p.auth) S)).length ≤ 30 := by
  have h1 := sub_len (l := chT (toQ p.auth) S) (T := List.range p.evs.length) ((cht_rises _ _).imp fun h => by omega) (fun x hx => List.mem_range.2 (ch_lt hQ hSb ((cht_mem hQ).1 hx)))
  rw [zs_len]
  simp at h1
  omega
 have hzl : (zs S).length ≤ 30 := by rw [zs_len]; exact hSl
 have HUN : Hid (∀ (X : World) (p0 : Option Addr) (c0 : Nat), RdR (· < X.heap.size) X p0 c0 [zs S, zs (chT (toQ p.auth) S)] → Calls Tryz.prog 47 #[.slice p0 2 c0] X fun e w' => ∃ p2 c2, e = .returned (.slice p2 (zs (thT (toQ p.auth) S p.evs.length)).length c2) ∧ RdI (fun k => X.heap.size ≤ k ∧ k < w'.heap.size) w' p2 c2 (zs (thT (toQ p.auth) S p.evs.length)) ∧ Below X.heap.size X w') := fun X p0 c0 hr0 => (union_any [zs S, zs (chT (toQ p.auth) S)] p0 c0 X hr0 (by simp) (fun x hx => by
     rcases List.mem_cons.1 hx with rfl | hx
     · omega
     · rw [List.mem_singleton.1 hx]; omega) (fun x hx y hy => by
     have key : ∀ m : List Nat, (∀ z ∈ m, z < p.evs.length) → ∀ y ∈ zs m, wf64 y := fun m hm y hy => by
      obtain ⟨z, hz', rfl⟩ := List.mem_map.1 hy
      have := hm z hz'
      exact wf_nat (by omega)
     rcases List.mem_cons.1 hx with rfl | hx
     · exact key S hSb y hy
     · rw [List.mem_singleton.1 hx] at hy
       exact key _ (fun z hz' => ch_lt hQ hSb ((cht_mem hQ).1 hz')) y hy)).mono fun _ w' ⟨v, l2, h1, h2, h3, _, h5⟩ => by
     rw [within_two hQ hSb h3] at h2
     exact RowP.rd ⟨v, h1, h2, h5⟩
 have hTr := thT_rises (toQ p.auth) S p.evs.length
 have hTl := thT_len (toQ p.auth) S p.evs.length
 have hTb : ∀ x ∈ thT (toQ p.auth) S p.evs.length, x < p.evs.length := fun x hx => ((thT_mem hQ hSb).1 hx).elim (hSb x) (ch_lt hQ hSb)
 have hTc : ∀ x ∈ thT (toQ p.auth) S p.evs.length, ∀ y ∈ par (toQ p.auth) x, y ∈ thT (toQ p.auth) S p.evs.length := fun x hx y hy => thT_chain hQ hSb hx hy
 unfold ByPP
 generalize thT (toQ p.auth) S p.evs.length = Th at *
 have HRW : Hid (∀ (X : World) (p1 : Option Addr) (c1 : Nat), Below W0.heap.size W0 X → RdI (· < X.heap.size) X p1 c1 (zs Th) → Calls Tryz.prog 49 #[.agg (cellsPa p q).toArray, .slice p1 (zs Th).length c1] X (RowsP (toQ p.auth) Th X)) := fun X p1 c1 hX hr1 => rows_any (V.below hX).pa hz hba hr1 (fun _ h => h) (by omega) hTb hTc
 have HLS : Hid (∀ L, ∃ T, lin (rwsT (toQ p.auth) Th) (rkT L Th) = some T ∧ linP ((rwsT (toQ p.auth) Th).map zs) (rkT L Th) = some T) := fun L => lin_some hQ hTr hTc
 have HRL : Hid (∀ x ∈ (rwsT (toQ p.auth) Th).map zs, x.length ≤ 1000) := fun x hx => by
  obtain ⟨y, hy, rfl⟩ := List.mem_map.1 hx
  obtain ⟨i, hi, rfl⟩ := List.mem_map.1 hy
  have h1 := row_len hz hba (hTb _ (getD_inm (d := 0) (List.mem_range.1 hi)))
  rw [zs_len]
  unfold rwT
  rw [List.length_map]
  omega
 have HTF : Hid (∀ L T, lin (rwsT (toQ p.auth) Th) (rkT L Th) = some T → (∀ x ∈ T, x < Th.length) ∧ T.length = Th.length) := fun L T h => by
  obtain ⟨h1, h2⟩ := lin_fit h
  have e : (rwsT (toQ p.auth) Th).length = Th.length := by simp [rwsT]
  rw [e] at h2
  exact ⟨fun x hx => by have := h1.lt x hx; omega, h2⟩
 have hP0 : ((rwsT (toQ p.auth) Th).map zs).length = Th.length := by simp [rwsT]
 have HLN : Hid (∀ (X : World) (c rb : Nat) (L T : List Nat), linP ((rwsT (toQ p.auth) Th).map zs) (rkT L Th) = some T → RdR (· < X.heap.size) X (some ⟨c, 0, none⟩) Th.length ((rwsT (toQ p.auth) Th).map zs) → RdI (· < X.heap.size) X (some ⟨rb, 0, none⟩) Th.length (rkT L Th) → Calls Tryz.prog 48 #[.slice (some ⟨c, 0, none⟩) Th.length Th.length, .slice (some ⟨rb, 0, none⟩) Th.length Th.length] X fun e w' => ∃ p2 c2, e = .returned (.tuple #[.slice p2 (zs T).length c2, .int .i64 0]) ∧ RdI (fun k => X.heap.size ≤ k ∧ k < w'.heap.size) w' p2 c2 (zs T) ∧ Below X.heap.size X w') := fun X c rb L T hT hr1 hr2 => by
  have h1 := linear_any ((rwsT (toQ p.auth) Th).map zs) (rkT L Th) _ _ _ _ X hr1 hr2 (by rw [hP0]; omega) HRL.out (by simp [rkT]; omega)
  rw [hP0, show (rkT L Th).length = Th.length by simp [rkT], hT] at h1
  refine h1.mono fun e w' ⟨v, e1, ho, hb⟩ => ?_
  obtain ⟨p2, c2, rfl, hr3⟩ := own_rd ho
  exact ⟨p2, c2, e1, hr3.carry (fun _ _ => rfl) fun k hk => ho.lt k hk, hb⟩
 clear V h hz hs hr hl hba hnl hb0 hSr hnd HRL hQ hP0
 have hzt : (zs Th).length = Th.length := zs_len Th
 rw [hzt] at HUN HRW
 obtain ⟨nt, hnt⟩ : ∃ nt, Th.length = nt := ⟨_, rfl⟩
 have HNT : Hid (Th.length = nt) := hnt
 have hnt30 : nt ≤ 30 := by omega
 have HRW2 : Hid (∀ (X : World) (p1 : Option Addr) (c1 : Nat), Below W0.heap.size W0 X → RdI (· < X.heap.size) X p1 c1 (zs Th) → Calls Tryz.prog 49 #[.agg (cellsPa p q).toArray, .slice p1 nt c1] X fun e w' => ∃ c, e = .returned (.slice (some ⟨c, 0, none⟩) nt nt) ∧ RdR (fun k => X.heap.size ≤ k ∧ k < w'.heap.size) w' (some ⟨c, 0, none⟩) nt ((rwsT (toQ p.auth) Th).map zs) ∧ Below X.heap.size X w') := fun X p1 c1 h1 h2 => by
  have := HRW.out X p1 c1 h1 h2
  unfold RowsP at this
  rw [hnt] at this
  exact this
 rw [hnt] at HUN HLN HTF hTl
 have HSB : Hid (∀ x ∈ S, x < p.evs.length) := hSb
 have HTB : Hid (∀ x ∈ Th, x < p.evs.length) := hTb
 obtain ⟨ns, hns⟩ : ∃ ns, (zs S).length = ns := ⟨_, rfl⟩
 rw [hns] at HTH HRK HCH hzl
 obtain ⟨nc, hnc⟩ : ∃ nc, (zs (chT (toQ p.auth) S)).length = nc := ⟨_, rfl⟩
 rw [hnc] at HCH hcl
 have HNS : Hid ((zs S).length = ns) := hns
 have HNC : Hid ((zs (chT (toQ p.auth) S)).length = nc) := hnc
 clear hzt hnt HRW hSb hTb hTc hTr hns hnc hTl hS
 generalize hnum : levelT p = num at *
 clear hnum
 unfold valPa at hRi ⊢
 generalize cellsPa p q = CP at *
 generalize chT (toQ p.auth) S = Cc at *
 generalize toQ p.auth = Q at *
 generalize p.evs.length = n1 at *
 generalize l.length = nl at *
 have hcur : Below W0.heap.size W0 W0 := Below.refl _ _
 go_enter Tryz.func21, Tryz.ntmps21
 go_upto_region 1 with fail
 rw [← hW0]
 clear hW0
 go_upto_region 7 with (first
  | (refine wpList_loadK rfl 27 _ rfl w.heap.size 0 rfl CP (HLD.out _ hcur) ?_)
  | (go_at_call 10; refine hRi.mono ?_; rintro e w1 ⟨rfl, hb1⟩; replace hcur := belowP hcur hb1; clear hRi hb1)
  | (go_at_call 32; refine (HTH.out _ hcur).mono ?_; rintro e w2 ⟨p1, c1, rfl, hr1, hb2⟩; replace hcur := belowP hcur hb2
     have HR1 : Hid (∀ X, Below w2.heap.size w2 X → RdI (· < X.heap.size) X p1 c1 (zs S)) := fun X hX => hr1.carry (Same.of_below hX fun k hk => hk.2) fun k hk => Nat.lt_of_lt_of_le hk.2 hX.size
     have hc2 : Below w2.heap.size w2 w2 := Below.refl _ _
     clear hb2 hr1)
  | (go_at_call 45; refine (HRK.out _ p1 c1 hcur (HR1.out _ hc2)).mono ?_; rintro e w3 ⟨L, hL, p2, c2, rfl, hr2, hb3⟩; replace hcur := belowP hcur hb3; replace hc2 := belowP hc2 hb3
     have HL : Hid (Rkd num p S L) := hL
     have hst := HST.out w3 L p2 c2 hL (hr2.carry (fun _ _ => rfl) fun k hk => hk.2)
     clear hb3 hL hr2)
  | (go_at_call 44; refine hst.mono ?_; rintro e w4 ⟨mb, N, rfl, hmb, hN, hM, hb4⟩; replace hcur := belowP hcur hb4; replace hc2 := belowP hc2 hb4
     have HM : Hid (∀ X, Below w4.heap.size w4 X → MapI X mb N (posI (zs L))) := fun X hX => hM.same (hX.block mb hM.lt)
     have HML : Hid (mb < w4.heap.size) := hM.lt
     have hc4 : Below w4.heap.size w4 w4 := Below.refl _ _
     clear hst hb4 hM hmb)
  | (go_at_call 31; refine (HCH.out _ p1 c1 hcur (HR1.out _ hc2)).mono ?_; rintro e w5 ⟨p3, c3, rfl, hr3, hb5⟩; replace hcur := belowP hcur hb5; replace hc2 := belowP hc2 hb5; replace hc4 := belowP hc4 hb5
     have HRR : Hid (∀ X, Hid (X = w5.alloc (.cells #[.slice p1 ns c1, .slice p3 nc c3] 28)) → RdR (· < X.heap.size) X (some ⟨w5.heap.size, 0, none⟩) 2 [zs S, zs Cc]) := fun X hX => by
      have hbx : Below w5.heap.size w5 X := by rw [hX.out]; exact (Below.refl _ _).alloc (Nat.le_refl _) _
      have hox : X.heap[w5.heap.size]? = some (.cells ([.slice p1 ns c1, .slice p3 nc c3] : List Value).toArray 28) := by rw [hX.out]; exact heap_alloc_new _ _
      have h1 := HR1.out X (belowP hc2 hbx)
      have h3 : RdI (· < X.heap.size) X p3 c3 (zs Cc) := hr3.carry (Same.of_below hbx fun k hk => hk.2) fun k hk => Nat.lt_of_lt_of_le hk.2 hbx.size
      refine ⟨by simp, fun j hj => ?_⟩
      match j, hj with
      | 0, _ => exact ⟨w5.heap.size, 0, p1, c1, rfl, obj_lt hox, by rw [show ([zs S, zs Cc] : List (List Int)).getD 0 [] = zs S from rfl, HNS.out]; exact cell_row hox 0 _ rfl, h1⟩
      | 1, _ => exact ⟨w5.heap.size, 0, p3, c3, rfl, obj_lt hox, by rw [show ([zs S, zs Cc] : List (List Int)).getD 1 [] = zs Cc from rfl, HNC.out]; exact cell_row hox 1 _ rfl, h3⟩
     clear hb5 hr3)
  | (go_at_call 47; refine (HUN.out _ _ _ (HRR.out _ rfl)).mono ?_; rintro e w6 ⟨p4, c4, rfl, hr4, hb6⟩
     have hb6' := belowP ((Below.refl w5.heap.size w5).alloc (Nat.le_refl _) _) hb6
     replace hcur := belowP hcur hb6'; replace hc2 := belowP hc2 hb6'; replace hc4 := belowP hc4 hb6'
     have HR4 : Hid (∀ X, Below w6.heap.size w6 X → RdI (· < X.heap.size) X p4 c4 (zs Th)) := fun X hX => hr4.carry (Same.of_below hX fun k hk => hk.2) fun k hk => Nat.lt_of_lt_of_le hk.2 hX.size
     clear hb6 hb6' hr4 HRR)
  | (refine wpList_longs rfl _ _ rfl nt (by omega) rfl rfl ?_; intro w7 hw7))
 have hb7 : Below w6.heap.size w6 w7 := by rw [hw7.out]; exact (Below.refl _ _).alloc (Nat.le_refl _) _
 obtain ⟨rb, hrb⟩ : ∃ rb, w6.heap.size = rb := ⟨_, rfl⟩
 have HRB : Hid (w6.heap.size = rb) := hrb
 have hI0 : Ik2 w7 rb (rkJ L Th 0) := by rw [rkJ_zero, HNT.out, hw7.out, ← hrb]; exact heap_alloc_new _ _
 have hs7 : w7.heap.size = rb + 1 := by rw [hw7.out, ← hrb]; simp
 have hc6 : Below w6.heap.size w6 w7 := hb7
 have hr46 : w4.heap.size ≤ rb := by rw [← hrb]; exact hc4.size
 have hr06 : W0.heap.size ≤ rb := by rw [← hrb]; exact hcur.size
 replace hcur := belowP hcur hb7
 replace hc2 := belowP hc2 hb7
 replace hc4 := belowP hc4 hb7
 have HI0 : Hid (Ik2 w7 rb (rkJ L Th 0)) := hI0
 have HCUR : Hid (Below W0.heap.size W0 w7) := hcur
 have HC4 : Hid (Below w4.heap.size w4 w7) := hc4
 have HC6 : Hid (Below w6.heap.size w6 w7) := hc6
 have HS7 : Hid (w7.heap.size = rb + 1) := hs7
 have HX7 : Hid (∀ X, Keep (· = rb) w7 X → Below W0.heap.size W0 X ∧ Below w4.heap.size w4 X ∧ Below w6.heap.size w6 X) := fun X hX => ⟨(HCUR.out).trans (hX.below (by have := HS7.out; omega) fun k hk => by omega), (HC4.out).trans (hX.below (by have := HS7.out; omega) fun k hk => by omega), (HC6.out).trans (hX.below (by have := HS7.out; have := HRB.out; omega) fun k hk => by have := HRB.out; omega)⟩
 have HLT : Hid (∀ i ∈ L, L.idxOf i < 31) := fun i hi => by
  have h1 := idx_lt hi
  rw [HL.out.perm.length_eq] at h1
  omega
 rw [hrb]
 clear hb7 hw7 hrb hI0 hs7 hc6 hcur hc2 hc4 HR1
 go_upto_region 8 with fail
 go_loopw [40] (fun i wr => ∃ k : Nat, k ≤ nt ∧ i = .int .i64 k ∧ Ik2 wr rb (rkJ L Th k) ∧ Keep (· = rb) w7 wr) (fun i _ => nt - (intOf i).toNat)
 case atStart => exact ⟨0, Nat.zero_le _, rfl, HI0.out, Keep.refl _ _⟩
 case round =>
  clear HI0
  obtain ⟨k, hk, rfl, hI, hkp⟩ := hrel
  obtain ⟨hx0, hx4, hx6⟩ := HX7.out wr hkp
  by_cases hlt : k < nt
  · have hkT : k < Th.length := by rw [HNT.out]; exact hlt
    obtain ⟨ad, rfl, _, hc⟩ := (HR4.out wr hx6).at k 0 (by rw [zs_len]; exact hkT)
    rw [zs_getD] at hc
    have hx := HTB.out _ (getD_inm (d := 0) hkT)
    have hcr := hI.cell k (by rw [rkJ_len]; exact hkT)
    rw [rkJ_get L Th k k hkT, if_neg (by omega)] at hcr
    have HSET : Hid (Ik2 (wr.setCell ⟨rb, k, none⟩ (.int .i64 (rkV L (Th.getD k 0)))) rb (rkJ L Th (k + 1))) := by show Ik2 _ _ _; rw [← rkJ_set L Th k hkT]; exact hI.set k _
    have HSAME : Hid (rkV L (Th.getD k 0) = 0 → rkJ L Th k = rkJ L Th (k + 1)) := fun h => rkJ_same L Th k h
    have hfz := hI.fz k
    have HII : Hid (Ik2 wr rb (rkJ L Th k)) := hI
    clear hI
    generalize Th.getD k 0 = x at *
    have hwx : wf64 (x : Int) := wf_nat (by omega)
    have hMw := HM.out wr hx4
    by_cases hxL : x ∈ L
    · have hps : posI (zs L) (x : Int) = some ((L.idxOf x : Nat) : Int) := by unfold posI; rw [if_pos ((zs_mem _ _).2 hxL), idx_zs]
      have hrv : rkV L x = ((L.idxOf x : Nat) : Int) + 1 := rkV_in hxL
      have hil := HLT.out x hxL
      rw [hrv] at HSET
      generalize L.idxOf x = t at *
      clear HSAME hrv hxL
      go_wp2_with (first
       | (at_lookup; refine wpList_lookupI rfl _ _ rfl mb N _ rfl hMw x hwx rfl ?_; rw [hps]; simp only [Option.getD_some, Option.isSome_some]))
      go_roundw
      case rel => exact ⟨k + 1, by omega, by go_num, HSET.out, hkp.setCell (p := ⟨rb, k, none⟩) (fun _ => rfl) _⟩
      case measure => simp [intOf]; try omega
    · have hps : posI (zs L) (x : Int) = none := by unfold posI; rw [if_neg (fun h => hxL ((zs_mem _ _).1 h))]
      have HS2 : Hid (rkJ L Th k = rkJ L Th (k + 1)) := HSAME.out (rkV_out hxL)
      clear HSET HSAME hxL
      go_wp2_with (first
       | (at_lookup; refine wpList_lookupI rfl _ _ rfl mb N _ rfl hMw x hwx rfl ?_; rw [hps]; simp only [Option.getD_none, Option.isSome_none]))
      go_roundw
      case rel => exact ⟨k + 1, by omega, by go_num, by rw [← HS2.out]; exact HII.out, hkp⟩
      case measure => simp [intOf]; try omega
  · obtain rfl : k = nt := by omega
    obtain ⟨T, hT1, hT2⟩ := HLS.out L
    obtain ⟨hTm, hTl⟩ := HTF.out L T hT1
    have HT1 : Hid (lin (rwsT Q Th) (rkT L Th) = some T) := hT1
    have HTM : Hid (∀ x ∈ T, x < k) := hTm
    rw [← HNT.out, rkJ_all] at hI
    have hrw := HRW2.out wr p4 c4 hx0 (HR4.out wr hx6)
    have HRR : Hid (∀ X, Below wr.heap.size wr X → RdI (· < X.heap.size) X (some ⟨rb, 0, none⟩) k (rkT L Th)) := fun X hX => (hI.rd k (by simp [rkT]; rw [HNT.out]; exact Nat.le_refl _)).carry (Same.of_below hX fun j hj => by cases hj; exact obj_lt hI) fun j hj => by cases hj; exact Nat.lt_of_lt_of_le (obj_lt hI) hX.size
    have HLIN : Hid (∀ X c, Below wr.heap.size wr X → RdR (· < X.heap.size) X (some ⟨c, 0, none⟩) k ((rwsT Q Th).map zs) → Calls Tryz.prog 48 #[.slice (some ⟨c, 0, none⟩) k k, .slice (some ⟨rb, 0, none⟩) k k] X fun e w' => ∃ p2 c2, e = .returned (.tuple #[.slice p2 (zs T).length c2, .int .i64 0]) ∧ RdI (fun j => X.heap.size ≤ j ∧ j < w'.heap.size) w' p2 c2 (zs T) ∧ Below X.heap.size X w') := fun X c hX hr => HLN.out X c rb L T hT2 hr (HRR.out X hX)
    have HIK : Hid (∀ X, Below wr.heap.size wr X → Ik2 X rb (rkT L Th)) := fun X hX => (hX.block rb (obj_lt hI)).trans hI
    have HWR : Hid (Below w6.heap.size w6 wr) := hx6
    have HWR0 : Hid (Below W0.heap.size W0 wr) := hx0
    have hIl := obj_lt hI
    have hzT : (zs T).length = k := by rw [zs_len]; exact hTl
    clear hT1 hT2 hTm HLS HTF HLN HRW2 hI hkp hx4 hlt hTl
    go_upto_region 16 with (first
     | (refine wpList_loadK rfl 27 _ rfl w.heap.size 0 rfl CP (HLD.out _ HWR0.out) ?_)
     | (go_at_call 49; refine hrw.mono ?_; rintro e w8 ⟨c8, rfl, hr8, hb8⟩
        have hlin := HLIN.out w8 c8 hb8 (hr8.carry (fun _ _ => rfl) fun j hj => hj.2)
        clear hrw hr8)
     | (go_at_call 48; refine hlin.mono ?_; rintro e w9 ⟨p9, c9, rfl, hr9, hb9⟩; clear hlin)
     | (refine wpList_ints rfl _ _ rfl 0 ns (Nat.zero_le _) (by omega) rfl rfl ?_; intro w10 hw10))
    have hb89 : Below wr.heap.size wr w9 := belowP hb8 hb9
    have hb10 : Below w9.heap.size w9 w10 := by rw [hw10.out]; exact (Below.refl _ _).alloc (Nat.le_refl _) _
    have hown0 : w10.ownsRow w9.heap.size 3 1 (.slice (some ⟨w9.heap.size, 0, none⟩) 0 ns) 0 [] := by rw [hw10.out]; exact own_made0 (by omega)
    have HR9 : Hid (∀ X, Below w9.heap.size w9 X → RdI (· < X.heap.size) X p9 c9 (zs T)) := fun X hX => hr9.carry (Same.of_below hX fun j hj => hj.2) fun j hj => Nat.lt_of_lt_of_le hj.2 hX.size
    have HW9 : Hid (Below wr.heap.size wr w9) := hb89
    have HB10 : Hid (Below w9.heap.size w9 w10) := hb10
    have hs9 := hb89.size
    have hs10 := hb10.size
    generalize hv0 : (Value.slice (some ⟨w9.heap.size, 0, none⟩) 0 ns) = v0 at *
    obtain ⟨B, hB⟩ : ∃ B, w9.heap.size = B := ⟨_, rfl⟩
    have HBB : Hid (w9.heap.size = B) := hB
    rw [hB] at hown0 hs9 hs10
    clear hw10 hb89 hb10 hb8 hb9 hr9 hB hv0
    have HOWN0 : Hid (w10.ownsRow B 3 1 v0 0 []) := hown0
    clear hown0
    have HWX : Hid (∀ X, Keep (fun j => B ≤ j) w10 X → Below w9.heap.size w9 X ∧ Below wr.heap.size wr X) := fun X hX => by
     have h9 := HBB.out
     have h1 : Below w9.heap.size w9 X := HB10.out.trans (hX.below (by omega) fun j hj => by omega)
     exact ⟨h1, belowP HW9.out h1⟩
    have HZT : Hid ((zs T).length = k) := hzT
    have HTK : Hid (T.length = k) := by show _ = _; rw [← zs_len]; exact hzT
    clear hzT
    go_upto_region 17 with fail
    go_loopw [15, 71] (fun v i wx => ∃ (j : Nat) (M : List Nat), j ≤ k ∧ i = .int .i64 j ∧ wx.ownsRow B 3 1 v (zs M).length ((zs M).map (Value.int .i64)) ∧ Hid (M = toldT Th (rkT L Th) (T.take j)) ∧ M.length ≤ j ∧ Keep (fun j => B ≤ j) w10 wx) (fun _ i _ => k - (intOf i).toNat)
    case atStart => exact ⟨0, [], Nat.zero_le _, rfl, HOWN0.out, rfl, Nat.le_refl _, Keep.refl _ _⟩
    case round =>
     clear HOWN0
     obtain ⟨j, M, hj, rfl, hown, HMT, hMl, hkp⟩ := hrel
     obtain ⟨hx9, hxr⟩ := HWX.out _ hkp
     by_cases hjt : j < k
     · have hjT : j < T.length := by rw [HTK.out]; exact hjt
       obtain ⟨ad9, rfl, _, hc9⟩ := (HR9.out _ hx9).at j 0 (by rw [HZT.out]; exact hjt)
       rw [zs_getD] at hc9
       have hxk := HTM.out _ (getD_inm (d := 0) hjT)
       have HNX : Hid (toldT Th (rkT L Th) (T.take (j + 1)) = toldT Th (rkT L Th) (T.take j) ++ if 0 < rk (rkT L Th) (T.getD j 0) then [Th.getD (T.getD j 0) 0] else []) := told_next hjT
       generalize T.getD j 0 = x at *
       have hcR := (HIK.out _ hxr).cell x (by simp [rkT]; rw [HNT.out]; exact hxk)
       change _ = some (Value.int .i64 (rk (rkT L Th) x)) at hcR
       have hxT : x < Th.length := by rw [HNT.out]; exact hxk
       obtain ⟨ad4, rfl, _, hc4⟩ := (HR4.out _ (belowP HWR.out hxr)).at x 0 (by rw [zs_len]; exact hxT)
       rw [zs_getD] at hc4
       generalize Th.getD x 0 = y at *
       have hws := hkp.size
       by_cases hr0 : 0 < rk (rkT L Th) x
       · have HN2 : Hid (M ++ [y] = toldT Th (rkT L Th) (T.take (j + 1))) := by show _ = _; rw [HNX.out, if_pos hr0, HMT.out]
         generalize rk (rkT L Th) x = r at *
         have hzm : (zs M).length ≤ 30 := by rw [zs_len]; omega
         clear HNX HMT
         go_wp2_with (first
          | (at_builtin; refine wpList_push rfl (.tmp 80) (.tmp 85) 28 3 (.int .i64 0) 8 rfl Tryz.underlying28 Tryz.info3 rfl (by decide) int_one B _ (zs M) rfl ?a0 _ (y : Int) rfl ?a1 ?a2 ?a3 ?_))
         case a0 => exact hown.alloc _
         case a1 => exact cell_row (cur := [_]) (heap_alloc_new _ _) 0 _ rfl
         case a2 => omega
         case a3 => simp; omega
         intro v' w12 ho12 hg12 _
         have ho13 := own_snoc ho12
         have hk12 := (hkp.alloc (.cells #[.int .i64 (y : Int)] 3)).trans (Keep.of_grown (S := fun j => B ≤ j) hg12 fun j _ e => (hown.lt j e).1) fun _ _ h => h
         clear ho12 hg12
         go_wp2
         go_roundw
         case rel => exact ⟨j + 1, M ++ [y], by omega, by go_num, by rw [show zs (M ++ [y]) = zs M ++ [(y : Int)] by simp [zs]]; exact ho13, HN2, by simp; omega, hk12⟩
         case measure => simp [intOf]; try omega
       · have HN2 : Hid (M = toldT Th (rkT L Th) (T.take (j + 1))) := by show _ = _; rw [HNX.out, if_neg hr0, List.append_nil, HMT.out]
         have d0 : decide (0 < rk (rkT L Th) x) = false := decide_eq_false hr0
         generalize rk (rkT L Th) x = r at *
         clear HNX HMT
         go_wp2
         go_roundw
         case rel => exact ⟨j + 1, M, by omega, by go_num, hown, HN2, by omega, hkp⟩
         case measure => simp [intOf]; try omega
     · obtain rfl : j = k := by omega
       have HMM : Hid (M = toldT Th (rkT L Th) T) := by
        have := HMT.out
        rw [← HTK.out, List.take_length] at this
        exact this
       have hbw := belowP HWR0.out hxr
       have hz0 := HB0.out.size
       have hz1 := HWR0.out.size
       have hz2 := HW9.out.size
       have hz3 := HBB.out
       go_wp2
       go_ret
       refine ⟨L, T, HL.out, HT1.out, _, rfl, ?_, belowP HB0.out hbw⟩
       rw [← HMM.out]
       exact own_le hown (by omega)
end Go.Proofs.YtimhpglfolbomaaGreat.Od
namespace Go.Proofs.YtimhpglfolbomaaGreat.Od
open Go.RowKit Go.Maps Go.Shelf
theorem loadM2 {w : World} {b : Nat} {a0 a1 : Value} (h : w.heap[b]? = some (.cells #[a0, a1] 81 (0, 0))) : (loadVar 81 ⟨b, 0, none⟩).run Tryz.prog w = .ok (.agg #[a0, a1]) w := by
 have k0 := cellP h 0 _ rfl; have k1 := cellP h 1 _ rfl
 simp [loadVar, go_sem, k0, k1]
theorem measure_any {O : Nat → Prop} {w : World} {l : List Int} {p : Option Addr} {c : Nat} (hr : RdI O w p c l) (hO : ∀ k, O k → k < w.heap.size) (hl : l.length ≤ 1000) (hw : ∀ x ∈ l, wf64 x) :
    Calls Tryz.prog 54 #[.slice p l.length c] w fun e w' => ∃ b N, e = .returned (.agg #[.map (some b), .int .i64 (l.length : Int)]) ∧ w.heap.size ≤ b ∧ N ≤ 1000 ∧ MapI w' b N (posI l) ∧ Below w.heap.size w w' := by
 obtain ⟨W0, hW0⟩ : ∃ W0, W0 = w.alloc (.cells #[.map none, .int .i64 0] 81) := ⟨_, rfl⟩
 have hb0 : Below w.heap.size w W0 := by rw [hW0]; exact (Below.refl _ _).alloc (Nat.le_refl _) _
 have h0 : W0.heap[w.heap.size]? = some (.cells #[.map none, .int .i64 0] 81 (0, 0)) := by rw [hW0]; exact newP _
 have hs0 : W0.heap.size = w.heap.size + 1 := by rw [hW0]; simp only [World.size_alloc]
 have HS : Hid (Calls Tryz.prog 44 #[.slice p l.length c] W0 (StandsP l W0)) := stands_any (hr.same (Same.of_below hb0 hO)) (fun k hk => Nat.lt_of_lt_of_le (hO k hk) hb0.size) hl hw
 clear hr hw
 generalize hn : l.length = n at HS ⊢
 go_enter Tryz.func54, Tryz.ntmps54
 go_upto_region 1 with fail
 rw [← hW0]
 clear hW0
 go_wp2_with (go_at_call 44; refine HS.out.mono ?_; rintro e w1 ⟨b, N, rfl, hb, hN, hM, hb1⟩; have h1 := (hb1.block _ (objP_lt h0)).trans h0; have r0 := cellP h1 0 _ rfl; have r1 := cellP h1 1 _ rfl; have z0 := fzP h1 0; have z1 := fzP h1 1)
 have h5 := setL_all (b := w.heap.size) [.map (some b), .int .i64 n] h1 rfl
 have HK5 := setL_keep (w.heap.size) [.map (some b), .int .i64 n] w1 0
 simp only [setL, Nat.zero_add] at h5 HK5
 refine bodyPost_ret (resultsP_cell rfl _ _ _ rfl (loadM2 h5)) rfl ?_
 have hbb := hM.lt
 refine ⟨b, N, rfl, by omega, hN, hM.same (HK5.block b hbb (by unfold OneP; omega)), ?_⟩
 have hk2 := belowP hb0 hb1
 exact ⟨HK5.os.trans hk2.os, HK5.tape.trans hk2.tape, HK5.output.trans hk2.output, Nat.le_trans hk2.size HK5.size, fun k hk => (HK5.block k (Nat.lt_of_lt_of_le hk hk2.size) (by unfold OneP; omega)).trans (hk2.block k hk)⟩
def nearV (p : Pa) (l : List Int) (i : Int) : Int := if rightT p then nearT (posI l) (l.length : Int) (wayT p i) else (l.length : Int)
theorem pos_wf {l : List Int} (hl : l.length ≤ 1000) : ∀ x c, posI l x = some c → wf64 c := fun x c h => by
 unfold posI at h
 split at h
 · rename_i hx
   cases h
   have := List.idxOf_lt_length_of_mem hx
   exact wf_nat (by omega)
 · cases h
theorem nearP_any {O : Nat → Prop} {w : World} {p : Pa} {q : Pq} {l : List Int} {pl : Option Addr} {cl : Nat} (h : IsPa (· < w.heap.size) w p q) (hz : SzPa p) (hl : RdI O w pl cl l) (hO : ∀ k, O k → k < w.heap.size) (hll : l.length ≤ 1000) (hw : ∀ x ∈ l, wf64 x) (i : Int) :
    Calls Tryz.prog 26 #[valPa p q, .slice pl l.length cl, .int .i64 i] w fun e w' => e = .returned (.int .i64 (nearV p l i)) ∧ Below w.heap.size w w' := by
 obtain ⟨W0, hW0⟩ : ∃ W0, W0 = w.alloc (.cells (cellsPa p q).toArray 27) := ⟨_, rfl⟩
 have hb0 : Below w.heap.size w W0 := by rw [hW0]; exact (Below.refl _ _).alloc (Nat.le_refl _) _
 have V : IsVP W0 w.heap.size p q := by rw [hW0]; exact isVP_new h
 have hR := right_any V.pa hz
 have HLD : Hid (∀ X, Below W0.heap.size W0 X → (Instr.loadAt 27 (.pointer (some ⟨w.heap.size, 0, none⟩))).run Tryz.prog X = .ok (.agg (cellsPa p q).toArray) X) := fun X hX => (V.below hX).load
 have HME : Hid (∀ X, Below W0.heap.size W0 X → Calls Tryz.prog 54 #[.slice pl l.length cl] X fun e w' => ∃ b N, e = .returned (.agg #[.map (some b), .int .i64 (l.length : Int)]) ∧ X.heap.size ≤ b ∧ N ≤ 1000 ∧ MapI w' b N (posI l) ∧ Below X.heap.size X w') := fun X hX => measure_any (hl.same (Same.of_below (belowP hb0 hX) hO)) (fun k hk => Nat.lt_of_lt_of_le (hO k hk) (belowP hb0 hX).size) hll hw
 have HNV : Hid (nearV p l i = if rightT p then nearT (posI l) (l.length : Int) (wayT p i) else (l.length : Int)) := rfl
 have HNE : Hid (rightT p = true → ∀ X b N, Below W0.heap.size W0 X → MapI X b N (posI l) → N ≤ 1000 → Calls Tryz.prog 55 #[.agg #[.map (some b), .int .i64 (l.length : Int)], .agg (cellsPa p q).toArray, .int .i64 i] X fun e w' => e = .returned (.int .i64 (nearT (posI l) (l.length : Int) (wayT p i))) ∧ Keep (· = b) X w') := fun hr X b N hX hM hN => (near_any (V.below hX).pa hz (right_parts hr).2.1 hM hN (pos_wf hll) (wf_nat (by omega)) i).mono fun _ _ h => ⟨h.1, h.2.2⟩
 clear V h hz hl hw
 unfold valPa at hR ⊢
 generalize nearV p l i = R at HNV ⊢
 generalize nearT (posI l) (l.length : Int) (wayT p i) = NT at HNV HNE
 generalize l.length = n at HME HNV HNE hll ⊢
 generalize cellsPa p q = CP at hR HLD HNE hW0 ⊢
 go_enter Tryz.func26, Tryz.ntmps26
 go_upto_region 1 with fail
 rw [← hW0]
 clear hW0
 cases hr : rightT p with
 | false =>
  have HR2 : Hid (R = (n : Int)) := by show _ = _; rw [HNV.out, hr]; rfl
  rw [hr] at hR
  clear hr
  go_wp2_with (first
   | (refine wpList_loadK rfl 27 _ rfl w.heap.size 0 rfl CP (HLD.out _ (Below.refl _ _)) ?_)
   | (go_at_call 10; refine hR.mono ?_; rintro e w1 ⟨rfl, hb1⟩))
  go_ret
  exact ⟨by rw [HR2.out]; rfl, belowP hb0 hb1⟩
 | true =>
  have HR2 : Hid (R = NT) := by show _ = _; rw [HNV.out, hr]; rfl
  have HNE2 := (show Hid _ from HNE.out hr)
  rw [hr] at hR
  clear hr HNE
  go_upto_region 3 with (first
   | (refine wpList_loadK rfl 27 _ rfl w.heap.size 0 rfl CP (HLD.out _ (Below.refl _ _)) ?_)
   | (go_at_call 10; refine hR.mono ?_; rintro e w1 ⟨rfl, hb1⟩))
  clear hR
  have HBW : Hid (Below W0.heap.size W0 w1) := hb1
  clear hb1
  refine wp_region_in (by kernel_rfl) (fun w' => Below w1.heap.size w1 w') ?_
  change wpIn _ _ _ _ _ _ _ _ (World.drew _)
  have hD : Below w1.heap.size w1 w1.drew := (Below.refl _ _).drew
  refine wpIn_tk (i := 0) (d := some 12) rfl ?_
  refine wpIn_take (i := 2) (d := (some 14)) (v := .agg CP.toArray) (a' := ?aw2) rfl rfl (by kernel_rfl) (by kernel_rfl) (by kernel_rfl) (fun _ _ _ h => h) (Or.inl ⟨by rfl, ?yw2⟩) ?fw2 ?_
  case yw2 => exact fun wq hq => exec_loadR rfl rfl (HLD.out wq (belowP HBW.out hq))
  case fw2 => (go_frame; rfl)
  refine wpIn_tk (i := 3) (d := some 15) rfl ?_
  refine wpIn_do (i := 1) hD (by kernel_rfl) rfl (by rfl) ?_
  intro K hK
  go_simp
  go_wp2_with (go_at_call 54; refine (HME.out _ (belowP HBW.out hD)).mono ?_; rintro e w2 ⟨b, N, rfl, hb, hN, hM, hb2⟩)
  have hD2 : Below w1.heap.size w1 w2 := belowP hD hb2
  have hbw : w1.heap.size ≤ b := hb
  clear hb
  refine wpIn_do (i := 4) hD2 (by kernel_rfl) rfl (by rfl) ?_
  intro K hK
  go_simp
  go_wp2_with (go_at_call 55; refine (HNE2.out _ b N (belowP HBW.out hD2) hM hN).mono ?_; rintro e w3 ⟨rfl, hb3⟩)
  have hD3 : Below w1.heap.size w1 w3 := ⟨hb3.os.trans hD2.os, hb3.tape.trans hD2.tape, hb3.output.trans hD2.output, Nat.le_trans hD2.size hb3.size, fun k hk => (hb3.block k (Nat.lt_of_lt_of_le hk hD2.size) (by omega)).trans (hD2.block k hk)⟩
  refine wpIn_tk (i := 5) (d := some 6) rfl ?_
  refine wpIn_done hD3 (by kernel_rfl) ?_ _
  go_wp2
  go_ret
  exact ⟨by rw [HR2.out]; rfl, belowP hb0 (belowP HBW.out hD3)⟩
noncomputable def chainV (p : Pa) (l : List Int) : List Nat := if rightT p then chT (toQ p.auth) (thereT p.evs.length l) else []
def levelV (p : Pa) (i : Int) : Int := if rightT p && decide (0 ≤ i ∧ i < (p.evs.length : Int)) then levelT p i.toNat else 0
theorem level_top {w : World} {p : Pa} {q : Pq} (h : IsPa (· < w.heap.size) w p q) (hz : SzPa p) (hs : SzEs p) (i : Int) :
    Calls Tryz.prog 19 #[valPa p q, .int .i64 i] w fun e w' => e = .returned (.int .i64 (levelV p i)) ∧ Below w.heap.size w w' := by
 obtain ⟨W0, hW0⟩ : ∃ W0, W0 = w.alloc (.cells (cellsPa p q).toArray 27) := ⟨_, rfl⟩
 have hb0 : Below w.heap.size w W0 := by rw [hW0]; exact (Below.refl _ _).alloc (Nat.le_refl _) _
 have V : IsVP W0 w.heap.size p q := by rw [hW0]; exact isVP_new h
 have hR := right_any V.pa hz
 have HLD : Hid (∀ X, Below W0.heap.size W0 X → (Instr.loadAt 27 (.pointer (some ⟨w.heap.size, 0, none⟩))).run Tryz.prog X = .ok (.agg (cellsPa p q).toArray) X) := fun X hX => (V.below hX).load
 have HHA : Hid (∀ X, Below W0.heap.size W0 X → Calls Tryz.prog 38 #[.agg (cellsPa p q).toArray, .int .i64 i] X fun e w' => e = .returned (.bool (decide (0 ≤ i ∧ i < (p.evs.length : Int)))) ∧ Below X.heap.size X w') := fun X hX => has_any (V.below hX).pa i
 have HLE : Hid (rightT p = true → (0 ≤ i ∧ i < (p.evs.length : Int)) → ∀ X, Below W0.heap.size W0 X → Calls Tryz.prog 39 #[.agg (cellsPa p q).toArray, .int .i64 i] X fun e w' => e = .returned (.int .i64 (levelT p i.toNat)) ∧ Below X.heap.size X w') := fun hr hi X hX => by
  obtain ⟨x, rfl⟩ := Int.eq_ofNat_of_zero_le hi.1
  exact level_any (V.below hX).pa hz hs (right_parts hr).2.1 x (by omega)
 have HLV : Hid (levelV p i = if rightT p && decide (0 ≤ i ∧ i < (p.evs.length : Int)) then levelT p i.toNat else 0) := rfl
 clear V h hz hs
 unfold valPa at hR ⊢
 generalize levelV p i = R at HLV ⊢
 generalize levelT p i.toNat = LT at HLV HLE
 generalize cellsPa p q = CP at hR HLD HHA HLE hW0 ⊢
 go_enter Tryz.func19, Tryz.ntmps19
 go_upto_region 1 with fail
 rw [← hW0]
 clear hW0
 cases hr : rightT p with
 | false =>
  have HR2 : Hid (R = 0) := by show _ = _; rw [HLV.out, hr]; rfl
  rw [hr] at hR
  clear hr
  go_wp2_with (first
   | (refine wpList_loadK rfl 27 _ rfl w.heap.size 0 rfl CP (HLD.out _ (Below.refl _ _)) ?_)
   | (go_at_call 10; refine hR.mono ?_; rintro e w1 ⟨rfl, hb1⟩))
  go_ret
  exact ⟨by rw [HR2.out]; rfl, belowP hb0 hb1⟩
 | true =>
  rw [hr] at hR
  by_cases hi : 0 ≤ i ∧ i < (p.evs.length : Int)
  · have HR2 : Hid (R = LT) := by show _ = _; rw [HLV.out, hr, decide_eq_true hi]; rfl
    have HL2 := (show Hid _ from HLE.out hr hi)
    rw [decide_eq_true hi] at HHA
    clear hr hi HLE HLV
    go_upto_region 3 with (first
     | (refine wpList_loadK rfl 27 _ rfl w.heap.size 0 rfl CP (HLD.out _ (Below.refl _ _)) ?_)
     | (refine wpList_load_midg (by kernel_rfl) 27 _ rfl w.heap.size 0 rfl CP (HLD.out _ hb1) ?_)
     | (go_at_call 10; refine hR.mono ?_; rintro e w1 ⟨rfl, hb1⟩)
     | (go_at_call 38; refine (HHA.out _ hb1).mono ?_; rintro e w2 ⟨rfl, hb2⟩))
    go_wp2_with (first
     | (refine wpList_loadK rfl 27 _ rfl w.heap.size 0 rfl CP (HLD.out _ (belowP hb1 hb2)) ?_)
     | (go_at_call 39; refine (HL2.out _ (belowP hb1 hb2)).mono ?_; rintro e w3 ⟨rfl, hb3⟩))
    go_ret
    exact ⟨by rw [HR2.out]; rfl, belowP hb0 (belowP (belowP hb1 hb2) hb3)⟩
  · have HR2 : Hid (R = 0) := by show _ = _; rw [HLV.out, hr, decide_eq_false hi]; rfl
    rw [decide_eq_false hi] at HHA
    clear hr hi HLE HLV
    go_wp2_with (first
     | (refine wpList_loadK rfl 27 _ rfl w.heap.size 0 rfl CP (HLD.out _ (Below.refl _ _)) ?_)
     | (refine wpList_load_midg (by kernel_rfl) 27 _ rfl w.heap.size 0 rfl CP (HLD.out _ hb1) ?_)
     | (go_at_call 10; refine hR.mono ?_; rintro e w1 ⟨rfl, hb1⟩)
     | (go_at_call 38; refine (HHA.out _ hb1).mono ?_; rintro e w2 ⟨rfl, hb2⟩))
    go_ret
    exact ⟨by rw [HR2.out]; rfl, belowP hb0 (belowP hb1 hb2)⟩
end Go.Proofs.YtimhpglfolbomaaGreat.Od
namespace Go.Proofs.YtimhpglfolbomaaGreat.Od
open Go.RowKit Go.Maps
abbrev kCr : ByteArray := ⟨#[109, 46, 114, 111, 111, 109, 46, 99, 114, 101, 97, 116, 101]⟩
abbrev kPo : ByteArray := ⟨#[109, 46, 114, 111, 111, 109, 46, 112, 111, 119, 101, 114, 95, 108, 101, 118, 101, 108, 115]⟩
abbrev uSA : ByteArray := ⟨#[64, 97, 58, 115]⟩
abbrev uSB : ByteArray := ⟨#[64, 98, 58, 115]⟩
abbrev smpC : Ev := ⟨nix, kCr, uSA, true, nix, .mk 0 0 nix [] [], [], [], 0, 0, nix, []⟩
abbrev smpX : Ev := ⟨nix, kPo, uSB, true, nix, .mk 5 0 nix [] [], [], [], 0, 0, nix, []⟩
abbrev smpY : Ev := ⟨nix, kPo, uSA, true, nix, .mk 5 0 nix [] [], [], [], 0, 0, nix, []⟩
abbrev smpP : Pa := ⟨[⟨#[99]⟩, ⟨#[120]⟩, ⟨#[121]⟩], [smpC, smpX, smpY], [[], [], []], [[], [0], [0]], [false, false, false]⟩
theorem smp_sz : SzPa smpP := ⟨by decide, by decide, by decide, by decide, by decide, by decide, by decide⟩
theorem smp_right : rightT smpP = true := by kernel_rfl
theorem smp_l2 : levelT smpP 2 = 100 := by kernel_rfl
theorem smp_l1 : levelT smpP 1 = 0 := by kernel_rfl
theorem smp_v2 : levelV smpP 2 = 100 := by kernel_rfl
theorem smp_v1 : levelV smpP 1 = 0 := by kernel_rfl
theorem smp_px : powersT smpX = true := by kernel_rfl
theorem smp_pc : powersT smpC = false := by kernel_rfl
theorem smp_near : nearV smpP [] 1 = 0 := by kernel_rfl
theorem smp_there : thereT smpP.evs.length [1, 2] = [1, 2] := by kernel_rfl
theorem smp_q : toQ smpP.auth = [[], [0], [0]] := by kernel_rfl
theorem smp_back : BackQ (toQ smpP.auth) := (back_of (right_parts smp_right).2.1).2.1
theorem smp_th : thT (toQ smpP.auth) [1, 2] 3 = [0, 1, 2] := by
 have hS : ∀ x ∈ ([1, 2] : List Nat), x < 3 := by decide
 refine riseN_ext (thT_rises _ _ _) (by decide) fun x => ?_
 rw [thT_mem smp_back hS]
 constructor
 · intro h
   have hx : x < 3 := h.elim (hS x) (ch_lt smp_back hS)
   have : x = 0 ∨ x = 1 ∨ x = 2 := by omega
   rcases this with rfl | rfl | rfl <;> decide
 · intro h
   have h' : x = 0 ∨ x = 1 ∨ x = 2 := by simpa using h
   rcases h' with rfl | rfl | rfl
   · exact .inr (.one (k := 1) (by decide) (by rw [smp_q]; decide))
   · exact .inl (by decide)
   · exact .inl (by decide)
theorem smp_rkd {L : List Nat} (h : Rkd (levelT smpP) smpP [1, 2] L) : L = [2, 1] := by
 refine h.uniq ⟨List.Perm.swap _ _ _, ?_⟩
 rw [List.pairwise_cons]
 refine ⟨fun a ha => ?_, List.pairwise_singleton _ _⟩
 obtain rfl : a = 1 := by simpa using ha
 refine .inl ?_
 rw [smp_l2, smp_l1]
 decide
theorem smp_byp {w w' : World} {e : Ending} (h : ByPP smpP [1, 2] w e w') : RowP [2, 1] w e w' := by
 obtain ⟨L, T, h1, h2, h3⟩ := h
 have e1 := smp_rkd h1
 subst e1
 rw [show smpP.evs.length = 3 from rfl, smp_th] at h2 h3
 rw [smp_q] at h2
 have e2 : lin (rwsT [[], [0], [0]] [0, 1, 2]) (rkT [2, 1] [0, 1, 2]) = some [0, 2, 1] := by kernel_rfl
 rw [e2] at h2
 obtain rfl : [0, 2, 1] = T := by simpa using h2
 have e3 : zs (toldT [0, 1, 2] (rkT [2, 1] [0, 1, 2]) [0, 2, 1]) = [2, 1] := by kernel_rfl
 rw [e3] at h3
 exact h3
end Go.Proofs.YtimhpglfolbomaaGreat.Od
namespace Go.Proofs.YtimhpglfolbomaaGreat
open Go
def unl (l : Array Bool) : Nat := l.toList.count false
theorem unl_set {l : Array Bool} {i : Nat} (h : l.getD i true = false) : unl (l.setIfInBounds i true) < unl l := by
 have hi : i < l.size := by
  refine Classical.byContradiction fun hn => ?_
  rw [Array.getD_eq_getD_getElem?, Array.getElem?_eq_none (by omega)] at h
  cases h
 have hv : l.toList[i]'(by simpa using hi) = false := by
  rw [Array.getD_eq_getD_getElem?, Array.getElem?_eq_getElem hi] at h
  simpa using h
 unfold unl
 have hp : 0 < l.toList.count false := List.count_pos_iff.2 (by rw [← hv]; exact List.getElem_mem _)
 rw [Array.toList_setIfInBounds, List.count_set (by simpa using hi), hv]
 rw [show (false == false) = true from rfl, show (true == false) = false from rfl]
 simp only [if_true, Bool.false_eq_true, if_false]
 omega
theorem unl_none {l : Array Bool} (h : unl l = 0) (i : Nat) : l.getD i true = true := by
 cases hv : l.getD i true with
 | true => rfl
 | false => have := unl_set hv; omega
section
variable {P : Program} {ops : Array Oper} {Q : Exit → Act → World → Prop} {md : Region.Mode} {C : World → Prop}
theorem wpIn_inv (J : Array Bool → Act → World → Prop) (hC : ∀ l a w, J l a w → C w)
    (hstep : ∀ l a w i o, J l a w → ops[i]? = some o → l.getD i true = false → (∀ e ∈ o.after, Region.binds md e = true → l.getD e.on false = true) →
     Region.wanted o (yielded ops a.tmps) = true ∧ ∀ K' : Act → World → Prop, (∀ a w, J (l.setIfInBounds i true) a w → K' a w) → Oper.wp P o a w K' Q)
    (hend : ∀ l a w, J l a w → Region.ready md ops l = [] → Q .normal a w) :
    ∀ n l a w, unl l ≤ n → J l a w → wpIn P md ops Q C n l a w
 | 0, l, a, w, hn, hJ => by
  have hr : Region.ready md ops l = [] := by
   refine List.eq_nil_iff_forall_not_mem.2 fun j hj => ?_
   have h0 := (mem_ready.1 hj).1
   rw [unl_none (by omega) j] at h0
   cases h0
  exact ⟨hC _ _ _ hJ, hr, hend _ _ _ hJ hr⟩
 | n + 1, l, a, w, hn, hJ => ⟨hC _ _ _ hJ, hend _ _ _ hJ, fun i hi => by
  obtain ⟨h0, o, ho, hall⟩ := mem_ready.1 hi
  obtain ⟨hw, hs⟩ := hstep l a w i o hJ ho h0 hall
  unfold wpOp
  rw [ho]
  simp only
  rw [if_pos hw]
  refine .inl (hs _ fun a' w' hJ' => wpIn_inv J hC hstep hend n _ a' w' ?_ hJ')
  have := unl_set h0
  omega⟩
theorem ready_all {l : Array Bool} (hsz : l.size = ops.size) (hb : (List.range ops.size).all (fun i => ((ops[i]?).map fun o => o.after.all fun e => decide (e.on < i)).getD true) = true) (hr : Region.ready md ops l = []) : ∀ i, l.getD i true = true := by
 intro i
 induction i using Nat.strongRecOn with
 | _ i ih =>
  refine Classical.byContradiction fun hn => ?_
  have h0 : l.getD i true = false := by simpa using hn
  have hi : i < l.size := by
   refine Classical.byContradiction fun hc => ?_
   rw [Array.getD_eq_getD_getElem?, Array.getElem?_eq_none (by omega)] at h0
   cases h0
  have hi2 : i < ops.size := by omega
  have ho : ops[i]? = some ops[i] := Array.getElem?_eq_getElem hi2
  have h1 := List.all_eq_true.1 hb i (List.mem_range.2 hi2)
  rw [ho] at h1
  simp only [Option.map_some, Option.getD_some] at h1
  have hm : i ∈ Region.ready md ops l := mem_ready.2 ⟨h0, _, ho, fun e he _ => by
   have h2 := Array.all_eq_true_iff_forall_mem.1 h1 e he
   have hlt : e.on < i := by simpa using h2
   have h3 := ih e.on hlt
   have hl : e.on < l.size := by omega
   rw [Array.getD_eq_getD_getElem?, Array.getElem?_eq_getElem hl] at h3 ⊢
   simpa using h3⟩
  rw [hr] at hm
  cases hm
end
end Go.Proofs.YtimhpglfolbomaaGreat

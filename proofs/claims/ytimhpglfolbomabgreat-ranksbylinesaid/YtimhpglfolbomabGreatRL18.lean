/-
  Places in order of a line, as the program tells them: by a contract.
  Steps of a region that draws its order, in one line each.
-/
import Derived.Test.YtimhpglfolbomabGreatRL17
set_option maxRecDepth 100000
set_option maxHeartbeats 16000000
namespace Go.Proofs.YtimhpglfolbomabGreat.Od
open Go.RowKit Go.Maps
theorem way_at {p : Pa} {i : Nat} (hi : i < p.evs.length) : wayT p (i : Int) = lineT p i := by
 unfold wayT
 rw [if_pos ⟨by omega, by omega⟩]
 rfl
theorem byl1_any {P : Nat → Prop} {w : World} {p : Pa} {q : Pq} {l : List Int} {F : Int → Option Int} {pb mv b N : Nat} (hpb : w.heap[pb]? = some (.cells (cellsPa p q).toArray 27 (0, 0))) (hp : IsPa P w p q) (hP : ∀ k, P k → k < w.heap.size) (hmv : w.heap[mv]? = some (.cells #[.map (some b), .int .i64 (l.length : Int)] 45 (0, 0))) (hM : MapI w b N F) (hF : Msr p l F) (hN : N ≤ 10000) (hz : SzPa p) (hr : backT p.auth p.evs.length = true) (hll : l.length ≤ 1000) (i : Nat) (hi : i < p.evs.length) :
    Calls Tryz.prog 18 #[.int .i64 (i : Int), .pointer (some ⟨mv, 0, none⟩), .pointer (some ⟨pb, 0, none⟩)] w fun e w' => e = .returned (.int .i64 (nrT p l i)) ∧ (∃ N' F', N' ≤ N + 31 ∧ MapI w' b N' F' ∧ Msr p l F') ∧ Keep (· = b) w w' := by
 have hl : (Instr.loadAt 27 (.pointer (some ⟨pb, 0, none⟩))).run Tryz.prog w = .ok (.agg (cellsPa p q).toArray) w := run_loadAt_mid w pb 0 27 (cellsPa p q) _ (rangeK_of hpb) Tryz.underlying27 rfl infoPa
 have r0 := cellP hmv 0 _ rfl
 have r1 := cellP hmv 1 _ rfl
 have hn := (near_any (hp.carry fun k hk => ⟨hP k hk, rfl⟩) hz hr hM hN hF.wf (wf_nat (n := l.length) (by omega)) (i : Int))
 rw [way_at hi, hF.told i] at hn
 have HX : Hid (∀ (w' : World) N' F', (∀ x, F' x = if x ∈ zs (goneT F (lineT p i)) then some (nrT p l i) else F x) → N' ≤ N + 31 → MapI w' b N' F' → ∃ N' F', N' ≤ N + 31 ∧ MapI w' b N' F' ∧ Msr p l F') := fun w' N' F' h1 h2 h3 => ⟨N', F', h2, h3, hF.next hr hll i (by rw [hF.told i]; exact h1)⟩
 clear hF hp hz hr hM hpb
 unfold valPa at hn
 generalize nrT p l i = R at *
 generalize cellsPa p q = CP at *
 generalize l.length = n at *
 go_enter Tryz.func18, Tryz.ntmps18
 go_wp2_with (first
  | (refine wpList_loadK rfl 27 _ rfl pb 0 rfl CP hl ?_)
  | (go_at_call 19; refine hn.mono ?_; rintro e w1 ⟨rfl, ⟨N', F', h1, h2, h3⟩, hb1⟩))
 go_ret
 exact ⟨rfl, HX.out w1 N' F' h3 h1 h2, hb1⟩
theorem rankedL_any {O P : Nat → Prop} {w : World} {p : Pa} {q : Pq} {S : List Nat} {l : List Int} {F0 : Int → Option Int} {pl : Option Addr} {cl cb mv b N0 : Nat} (h : IsPa P w p q) (hP : ∀ k, P k → k < w.heap.size ∧ k ≠ b) (hcb : w.heap[cb]? = some (.cells (cellsPa p q).toArray 27 (0, 0))) (hcbb : cb ≠ b) (hmv : w.heap[mv]? = some (.cells #[.map (some b), .int .i64 (l.length : Int)] 45 (0, 0))) (hmvb : mv ≠ b) (hM0 : MapI w b N0 F0) (hF0 : Msr p l F0) (hN0 : N0 ≤ 1000) (hll : l.length ≤ 1000) (hz : SzPa p) (hnl : p.names.length = p.evs.length) (hr : backT p.auth p.evs.length = true) (hl : RdI O w pl cl (zs S)) (hO : ∀ k, O k → k < w.heap.size ∧ k ≠ b) (hnd : S.Nodup) (hb : ∀ x ∈ S, x < p.evs.length) :
    Calls Tryz.prog 16 #[valPa p q, .slice pl (zs S).length cl, .func (.func 18) #[] #[.pointer (some ⟨mv, 0, none⟩), .pointer (some ⟨cb, 0, none⟩)]] w fun e w' => ∃ L, Rkd (nrT p l) p S L ∧ ∃ v, e = .returned v ∧ w'.ownsRow w.heap.size 3 1 v (zs L).length ((zs L).map (Value.int .i64)) ∧ Keep (· = b) w w' := by
 have hmm := run_makeMap_room Tryz.underlying70
 obtain ⟨W0, hW0⟩ : ∃ W0, W0 = w.alloc (.cells (cellsPa p q).toArray 27) := ⟨_, rfl⟩
 have hb0 : Below w.heap.size w W0 := by rw [hW0]; exact (Below.refl _ _).alloc (Nat.le_refl _) _
 have hs0 : W0.heap.size = w.heap.size + 1 := by rw [hW0]; simp
 have V : W0.heap[w.heap.size]? = some (.cells (cellsPa p q).toArray 27 (0, 0)) := by rw [hW0]; exact heap_alloc_new _ _
 have hbl := hM0.lt
 obtain ⟨mb, hmb⟩ : ∃ mb, W0.heap.size = mb := ⟨_, rfl⟩
 obtain ⟨W1, hW1⟩ : ∃ W1, W1 = (W0.alloc (.map #[] 0)).alloc (.cells #[.map (some mb)] 70) := ⟨_, rfl⟩
 have HMB : Hid (w.heap.size + 1 = mb) := by show _ = _; rw [← hmb, hs0]
 have hk1 : Keep (fun k => mb ≤ k) W0 W1 := by rw [hW1]; exact (((Keep.refl _ W0).alloc _).alloc _)
 have hs1 : W1.heap.size = mb + 2 := by rw [hW1]; simp [hmb]
 have HS1 : Hid (W1.heap.size = mb + 2) := hs1
 have HM0 : Hid (MapL W1 mb 0 (fT (nrT p l) [])) := by
  show MapL _ _ _ _
  rw [hW1, fT_nil]
  refine MapL.same (w := W0.alloc (.map #[] 0)) (by rw [← hmb]; exact mapL_made W0) ?_
  exact Below.block ((Below.refl (W0.alloc (.map #[] 0)).heap.size (W0.alloc (.map #[] 0))).alloc (Nat.le_refl _) _) mb (by simp [hmb])
 have HMC : Hid (W1.cell? ⟨mb + 1, 0, none⟩ = some (.map (some mb))) := by
  show _ = _
  rw [hW1, show mb + 1 = (W0.alloc (.map #[] 0)).heap.size by simp [hmb]]
  exact cell_row (cur := [_]) (heap_alloc_new _ _) 0 _ rfl
 have HMCX : Hid (∀ X, Keep (fun k => k = b ∨ k = mb ∨ mb + 2 ≤ k) W1 X → X.cell? ⟨mb + 1, 0, none⟩ = some (.map (some mb))) := fun X hX => (World.cell?_of_block (a := ⟨mb + 1, 0, none⟩) (hX.block (mb + 1) (by omega) (by omega))).trans HMC.out
 have HBW : Hid (∀ X, Keep (fun k => k = b ∨ k = mb ∨ mb + 2 ≤ k) W1 X → Keep (· = b) W0 X) := fun X hX => ((hk1.mono (S' := fun k => k = b ∨ mb ≤ k) fun _ _ h => .inr h).trans hX (fun i _ e => by omega)).mono fun k hk e => by omega
 have HBX : Hid (∀ X, Keep (fun k => k = b ∨ k = mb ∨ mb + 2 ≤ k) W1 X → ∀ k, k < w.heap.size → k ≠ b → X.heap[k]? = w.heap[k]?) := fun X hX k hk hkb => ((HBW.out X hX).block k (by omega) hkb).trans (hb0.block k hk)
 have HMVX : Hid (∀ X, Keep (fun k => k = b ∨ k = mb ∨ mb + 2 ≤ k) W1 X → X.heap[mv]? = some (.cells #[.map (some b), .int .i64 (l.length : Int)] 45 (0, 0))) := fun X hX => (HBX.out X hX mv (objP_lt hmv) hmvb).trans hmv
 have HVC : Hid (∀ X, Keep (fun k => k = b ∨ k = mb ∨ mb + 2 ≤ k) W1 X → X.heap[cb]? = some (.cells (cellsPa p q).toArray 27 (0, 0))) := fun X hX => (HBX.out X hX cb (objP_lt hcb) hcbb).trans hcb
 have HVB : Hid (∀ X, Keep (fun k => k = b ∨ k = mb ∨ mb + 2 ≤ k) W1 X → X.heap[w.heap.size]? = some (.cells (cellsPa p q).toArray 27 (0, 0))) := fun X hX => ((HBW.out X hX).block _ (by omega) (by omega)).trans V
 have HIS : Hid (∀ X, Keep (fun k => k = b ∨ k = mb ∨ mb + 2 ≤ k) W1 X → IsPa P X p q) := fun X hX => h.carry fun k hk => ⟨hk, HBX.out X hX k (hP k hk).1 (hP k hk).2⟩
 have HR : Hid (∀ X, Keep (fun k => k = b ∨ k = mb ∨ mb + 2 ≤ k) W1 X → RdI O X pl cl (zs S)) := fun X hX => hl.same fun k hk => HBX.out X hX k (hO k hk).1 (hO k hk).2
 have HBY : Hid (∀ X i N F, Keep (fun k => k = b ∨ k = mb ∨ mb + 2 ≤ k) W1 X → MapI X b N F → Msr p l F → N ≤ 10000 → i < p.evs.length → Calls Tryz.prog 18 #[.int .i64 (i : Int), .pointer (some ⟨mv, 0, none⟩), .pointer (some ⟨cb, 0, none⟩)] X fun e w' => e = .returned (.int .i64 (nrT p l i)) ∧ (∃ N' F', N' ≤ N + 31 ∧ MapI w' b N' F' ∧ Msr p l F') ∧ Keep (· = b) X w') := fun X i N F hX hM hF hN hi => byl1_any (HVC.out X hX) (HIS.out X hX) (fun k hk => by have := (hP k hk).1; have := (HBW.out X hX).size; omega) (HMVX.out X hX) hM hF hN hz hr hll i hi
 have HMI0 : Hid (MapI W1 b N0 F0) := hM0.same ((hk1.block b (by omega) (by omega)).trans (hb0.block b hbl))
 have HF0 : Hid (Msr p l F0) := hF0
 have HPX : Hid (∀ k, P k → k < w.heap.size ∧ k ≠ b) := hP
 have HBL : Hid (b < w.heap.size) := hbl
 have hSl : S.length ≤ 30 := by
  have h1 := sub_len (l := S) (T := List.range p.evs.length) hnd (fun x hx => List.mem_range.2 (hb x hx))
  have := hz.evs
  simp at h1
  omega
 have hen := hz.evs
 have HSB : Hid (∀ x ∈ S, x < p.evs.length) := hb
 have HZ : Hid (SzPa p) := hz
 have HND : Hid S.Nodup := hnd
 have HNL : Hid (p.names.length = p.evs.length) := hnl
 have HOL : Hid (∀ k, O k → k < w.heap.size ∧ k ≠ b) := hO
 have HB0 : Hid (Below w.heap.size w W0) := hb0
 obtain ⟨s, hsl⟩ : ∃ s, (zs S).length = s := ⟨_, rfl⟩
 have HSL : Hid ((zs S).length = s) := hsl
 have HSN : Hid (S.length = s) := by show _ = _; rw [← zs_len]; exact hsl
 have hs30 : s ≤ 30 := by rw [← HSN.out]; exact hSl
 rw [hsl]
 clear hk1 hz hr hl hO hb hb0 hnl hnd hcb h V hsl hSl hM0 hF0 hP hmv hcbb hmvb hbl HMVX HBX
 have HNUM : Hid (∀ i, wf64 (nrT p l i)) := fun i => nrT_wf hll i
 unfold valPa
 generalize hnum : nrT p l = num at *
 clear hnum
 generalize hCP : (cellsPa p q) = CP at hW0 ⊢
 clear hs0 hCP
 go_enter Tryz.func16, Tryz.ntmps16
 go_upto_region 1 with fail
 rw [← hW0]
 clear hW0
 go_upto_region 2 with fail
 rw [← hW1]
 clear hW1 hmm hmb hs1
 go_upto_region 3 with fail
 go_loopw [19] (fun i wr => ∃ (k N Nb : Nat) (F : Int → Option Int), k ≤ s ∧ i = .int .i64 k ∧ N ≤ k ∧ MapL wr mb N (fT num (S.take k)) ∧ MapI wr b Nb F ∧ Nb ≤ N0 + 31 * k ∧ Msr p l F ∧ Keep (fun k => k = b ∨ k = mb ∨ mb + 2 ≤ k) W1 wr) (fun i _ => s - (intOf i).toNat)
 case atStart => exact ⟨0, 0, N0, F0, Nat.zero_le _, rfl, Nat.le_refl _, HM0.out, HMI0.out, by omega, HF0.out, Keep.refl _ _⟩
 case round =>
  clear HM0 HMI0 HF0
  obtain ⟨k, N, Nb, F, hk, rfl, hN, hM, hMI, hNb, hMF, hkp⟩ := hrel
  by_cases hlt : k < s
  · have hkl : k < (zs S).length := by rw [HSL.out]; exact hlt
    have hkS : k < S.length := by rw [HSN.out]; exact hlt
    obtain ⟨ad, rfl, _, hc⟩ := (HR.out wr hkp).at k 0 hkl
    rw [zs_getD] at hc
    have hx := HSB.out _ (getD_inm (d := 0) hkS)
    have HT : Hid (fT num (S.take (k + 1)) = more (fT num (S.take k)) (S.getD k 0 : Nat) (num (S.getD k 0))) := by show _ = _; rw [take_snoc S k 0 hkS, fT_snoc]
    generalize S.getD k 0 = x at *
    have hwx : wf64 (x : Int) := wf_nat (by omega)
    have hwn := HNUM.out x
    have HTR : Hid (∀ X, Keep (fun k => k = b ∨ k = mb) wr X → Keep (fun k => k = b ∨ k = mb ∨ mb + 2 ≤ k) W1 X) := fun X hX => hkp.trans hX fun _ _ e => by omega
    have HCC : Hid (∀ X, Keep (fun k => k = b ∨ k = mb) wr X → X.cell? ⟨mb + 1, 0, none⟩ = some (.map (some mb))) := fun X hX => HMCX.out X (HTR.out X hX)
    have HB2 : Hid (Calls Tryz.prog 18 #[.int .i64 (x : Int), .pointer (some ⟨mv, 0, none⟩), .pointer (some ⟨cb, 0, none⟩)] wr.drew fun e w' => e = .returned (.int .i64 (num x)) ∧ (∃ N' F', N' ≤ Nb + 31 ∧ MapI w' b N' F' ∧ Msr p l F') ∧ Keep (· = b) wr.drew w') := HBY.out _ x Nb F (HTR.out _ ((Keep.refl _ wr).drew)) (hMI.same rfl) hMF (by omega) hx
    have hmil := hMI.lt
    have hbmb : b < mb := by have := HBL.out; have := HMB.out; omega
    have HMM : Hid (MapL wr mb N (fT num (S.take k))) := hM
    have hml := hM.lt
    clear hM hMI hMF
    go_upto_region 5 with fail
    refine wp_region_in (by kernel_rfl) (fun w' => Keep (fun k => k = b ∨ k = mb) wr w') ?_
    change wpIn _ _ _ _ _ _ _ _ (World.drew _)
    have hD : Keep (fun k => k = b ∨ k = mb) wr wr.drew := (Keep.refl _ _).drew
    refine wpIn_take (i := 0) (d := (some 23)) (v := .map (some mb)) (a' := ?aq0) rfl rfl (by kernel_rfl) (by kernel_rfl) (by kernel_rfl) (fun _ _ _ h => h) (Or.inl ⟨by rfl, ?yq0⟩) ?fq0 ?_
    case yq0 => (intro wq hq; have hcc := HCC.out wq hq; go_simp; first | done | with_reducible rfl)
    case fq0 => (go_frame; rfl)
    refine wpIn_tk (i := 1) (d := some 24) rfl ?_
    refine wpIn_tk (i := 2) (d := some 25) rfl ?_
    refine wpIn_tk (i := 3) (d := some 26) rfl ?_
    refine wpIn_do (i := 4) hD (by kernel_rfl) rfl (by rfl) ?_
    intro K hK
    go_simp
    go_wp2_with (go_at_call 18; refine HB2.out.mono ?_; rintro e w7 ⟨rfl, ⟨N7, F7, hN7, hMI7, hF7⟩, hb7⟩)
    have hD7 : Keep (fun k => k = b ∨ k = mb) wr w7 := hD.trans hb7 fun _ _ h => .inl h
    have hM7 : MapL w7 mb N (fT num (S.take k)) := HMM.out.same (hb7.block mb (by show mb < wr.heap.size; exact hml) (by omega))
    refine wpIn_do (i := 5) hD7 (by kernel_rfl) rfl (by rfl) ?_
    intro K2 hK2
    refine wp_updateL _ _ _ rfl mb N _ rfl hM7 (by omega) (x : Int) (num x) hwx hwn rfl rfl ?_
    intro w8 hM8 hg8
    refine hK2 _ _ ?_
    have hD8 : Keep (fun k => k = b ∨ k = mb) wr w8 := hD7.trans (Keep.of_grown (S := (· = mb)) hg8 fun k _ e => by cases e; rfl) fun _ _ h => .inr h
    have hMI8 : MapI w8 b N7 F7 := hMI7.same (hg8.block b hMI7.lt (by intro e; cases e; omega))
    refine wpIn_done hD8 (by kernel_rfl) ?_ _
    rw [← HT.out] at hM8
    go_wp2
    go_roundw
    case rel => exact ⟨k + 1, N + 1, N7, F7, by omega, by go_num, by omega, hM8, hMI8, by omega, hF7, HTR.out _ hD8⟩
    case measure => simp [intOf]; try omega
  · obtain rfl : k = s := by omega
    rw [← HSN.out, List.take_length] at hM
    have hML := hM.lt
    have hcl := clone_any wr (HR.out wr hkp) (by rw [HSL.out]; omega)
    rw [HSL.out] at hcl
    have HVBW := HVB.out wr hkp
    have HISW : Hid (IsPa P wr p q) := HIS.out wr hkp
    have hmcw := HMCX.out wr hkp
    have hwr := hkp.size
    clear HVC HVB HIS HR HBY HMCX HMC
    by_cases hS0 : S = []
    · subst hS0
      obtain rfl : k = 0 := by rw [← HSN.out]; rfl
      have HSF : Hid (∀ (X : World) (a : Option Addr) (c : Nat) (fv : Value), Calls Tryz.prog 45 #[.slice a 0 c, fv] X fun e w' => e = .returned (.tuple #[]) ∧ w' = X) := fun X a c fv => Tryz.slices_SortFunc_none (α := Nat) a c fv X
      go_wp2_with (first
       | (go_at_call 44; refine hcl.mono ?_; rintro e w3 ⟨v, rfl, ho3, hb3⟩; obtain ⟨q3, c3, rfl, _⟩ := own_rd (xs := []) (enc := Value.int .i64) ho3)
       | (go_at_call 46; refine inTurn_any.mono ?_; rintro e w4 ⟨rfl, rfl⟩)
       | (go_at_call 45; refine (HSF.out _ _ _ _).mono ?_; rintro e w5 ⟨rfl, rfl⟩))
      go_ret
      refine ⟨[], ⟨List.Perm.refl _, List.Pairwise.nil⟩, _, rfl, ?_, ?_⟩
      · exact own_le ((ho3.alloc _).alloc _) (by have := HB0.out.size; have := (HBW.out _ hkp).size; omega)
      · exact (((((Keep.of_below (S := (· = b)) HB0.out).trans (HBW.out _ hkp) fun _ _ h => h).trans (Keep.of_below (S := (· = b)) hb3) fun _ _ h => h).alloc _).alloc _)
    · have HCL : Hid (∀ (X : World) (g c fb bx N : Nat), CloP X P num S p q w.heap.size (mb + 1) mb N fb bx (fT num S) → w.heap.size < g → mb + 2 ≤ g → mb + 2 ≤ X.heap.size → fb ≠ g ∧ fb < X.heap.size → bx ≠ g ∧ bx < X.heap.size → X.ownsRow g 3 1 (.slice (some ⟨g, 0, none⟩) k c) k ((zs S).map (Value.int .i64)) → Calls Tryz.prog 45 #[.slice (some ⟨g, 0, none⟩) k c, .func (.func 73) #[] #[.pointer (some ⟨bx, 0, none⟩)]] X fun e w' => e = .returned (.tuple #[]) ∧ ∃ L, Rkd num p S L ∧ w'.ownsRow g 3 1 (.slice (some ⟨g, 0, none⟩) k c) (zs L).length ((zs L).map (Value.int .i64)) ∧ X.grownBy w' (some g)) := by
        intro X g c fb bx N C h1 h2 h3 h4 h5 h6
        have hh := sortS_any (cap := c) C HZ.out HNL.out HSB.out HND.out (fun k hk => ⟨by have := HMB.out; have := (HPX.out k hk).1; omega, by have := (HPX.out k hk).1; omega⟩) (by omega) ⟨by omega, by omega⟩ (by omega) h4 h5 (by rw [HSL.out]; exact h6)
        rw [HSL.out] at hh
        exact hh
      have hmb1 := HMB.out
      have hbw := HBW.out _ hkp
      have hbs := hbw.size
      have hb00 := HB0.out.size
      have hS1 := HS1.out
      have HVB2 : Hid (wr.heap[w.heap.size]? = some (.cells (cellsPa p q).toArray 27 (0, 0))) := HVBW
      have HML2 : Hid (MapL wr mb N (fT num S)) := hM
      have HMC2 : Hid (wr.cell? ⟨mb + 1, 0, none⟩ = some (.map (some mb))) := hmcw
      have hzne : zs S ≠ [] := fun e => hS0 (List.eq_nil_of_length_eq_zero (by rw [← zs_len, e]; rfl))
      have HZN : Hid (zs S ≠ []) := hzne
      have HBX : Hid (Keep (· = b) W0 wr) := hbw
      clear hM hmcw hzne HVBW hbw
      go_upto_region 11 with (go_at_call 44; refine hcl.mono ?_; rintro e w3 ⟨v, rfl, ho3, hb3⟩; clear hcl)
      have ho4 : w3.ownsRow wr.heap.size 3 1 v ((zs S).map (Value.int .i64)).length ((zs S).map (Value.int .i64)) := by rw [List.length_map, HSL.out]; exact ho3
      obtain ⟨g, c, rfl, hgb, hgl⟩ := own_some ho4 (by simpa using HZN.out)
      rw [List.length_map, HSL.out] at ho4 ⊢
      have hs3 := hb3.size
      have HB3 : Hid (Below wr.heap.size wr w3) := hb3
      have HO4 : Hid (w3.ownsRow g 3 1 (.slice (some ⟨g, 0, none⟩) k c) k ((zs S).map (Value.int .i64))) := own_base ho4
      clear ho3 ho4 hb3
      obtain ⟨W5, hW5⟩ : ∃ W5, W5 = (w3.alloc (.cells #[.func (.func 39) #[] #[.pointer (some ⟨mb + 1, 0, none⟩)], .func (.func 41) #[] #[.pointer (some ⟨w.heap.size, 0, none⟩)], .func (.func 42) #[] #[.pointer (some ⟨w.heap.size, 0, none⟩)], .func (.func 47) #[] #[]] 76)).alloc (.cells #[.slice (some ⟨w3.heap.size, 0, none⟩) 4 4] 109) := ⟨_, rfl⟩
      have hb5 : Below w3.heap.size w3 W5 := by rw [hW5]; exact ((Below.refl _ _).alloc (Nat.le_refl _) _).alloc (by simp) _
      have hs5 : W5.heap.size = w3.heap.size + 2 := by rw [hW5]; simp
      have hF : W5.heap[w3.heap.size]? = some (.cells ([.func (.func 39) #[] #[.pointer (some ⟨mb + 1, 0, none⟩)], .func (.func 41) #[] #[.pointer (some ⟨w.heap.size, 0, none⟩)], .func (.func 42) #[] #[.pointer (some ⟨w.heap.size, 0, none⟩)], .func (.func 47) #[] #[]] : List Value).toArray 76 (0, 0)) := by
       rw [hW5]
       exact (Below.block ((Below.refl (w3.alloc (.cells #[.func (.func 39) #[] #[.pointer (some ⟨mb + 1, 0, none⟩)], .func (.func 41) #[] #[.pointer (some ⟨w.heap.size, 0, none⟩)], .func (.func 42) #[] #[.pointer (some ⟨w.heap.size, 0, none⟩)], .func (.func 47) #[] #[]] 76)).heap.size _).alloc (Nat.le_refl _) _) _ (by simp)).trans (heap_alloc_new _ _)
      have hX : W5.heap[w3.heap.size + 1]? = some (.cells ([.slice (some ⟨w3.heap.size, 0, none⟩) 4 4] : List Value).toArray 109 (0, 0)) := by
       rw [hW5, show w3.heap.size + 1 = (w3.alloc (.cells #[.func (.func 39) #[] #[.pointer (some ⟨mb + 1, 0, none⟩)], .func (.func 41) #[] #[.pointer (some ⟨w.heap.size, 0, none⟩)], .func (.func 42) #[] #[.pointer (some ⟨w.heap.size, 0, none⟩)], .func (.func 47) #[] #[]] 76)).heap.size by simp]
       exact heap_alloc_new _ _
      have hbw5 : Below wr.heap.size wr W5 := belowP HB3.out hb5
      have hsort := HCL.out W5 g c w3.heap.size (w3.heap.size + 1) N ⟨(hbw5.block w.heap.size (obj_lt HVB2.out)).trans HVB2.out, HISW.out.carry fun k hk => ⟨hk, hbw5.block k (by have := (HPX.out k hk).1; omega)⟩, (World.cell?_of_block (a := ⟨mb + 1, 0, none⟩) (hbw5.block (mb + 1) (by omega))).trans HMC2.out, HML2.out.same (hbw5.block mb hML), fun x hx => fT_tells hx, cell_row hX 0 _ rfl, cell_row hF 0 _ rfl, cell_row hF 1 _ rfl, cell_row hF 2 _ rfl, cell_row hF 3 _ rfl⟩ (by omega) (by omega) (by omega) ⟨by omega, by omega⟩ ⟨by omega, by omega⟩ (own_below HO4.out hb5)
      have HW5 : Hid (W5 = (w3.alloc (.cells #[.func (.func 39) #[] #[.pointer (some ⟨mb + 1, 0, none⟩)], .func (.func 41) #[] #[.pointer (some ⟨w.heap.size, 0, none⟩)], .func (.func 42) #[] #[.pointer (some ⟨w.heap.size, 0, none⟩)], .func (.func 47) #[] #[]] 76)).alloc (.cells #[.slice (some ⟨w3.heap.size, 0, none⟩) 4 4] 109)) := hW5
      have HEND : Hid (∀ X, W5.grownBy X (some g) → Keep (· = b) w X) := fun X hX => (((Keep.of_below (S := (· = b)) HB0.out).trans HBX.out fun _ _ h => h).trans (Keep.of_below (S := (· = b)) hbw5) fun _ _ h => h).trans (Keep.of_grown (S := (· = g)) hX fun k _ e => by cases e; rfl) fun k hk e => by omega
      clear hF hX hW5 hb5 hbw5 hs5
      go_wp2_with (first
       | (go_at_call 46; refine inTurn_any.mono ?_; rintro e w4 ⟨rfl, rfl⟩; rw [← HW5.out])
       | (go_at_call 45; refine hsort.mono ?_; rintro e w6 ⟨rfl, L, hL, ho6, hg6⟩))
      go_ret
      exact ⟨L, hL, _, rfl, own_le ho6 (by omega), HEND.out _ hg6⟩
def ByL (p : Pa) (ls : List Int) (i : Int) (L : List Nat) : Prop := if rightT p = true then Rkd (nrT p (zs (lineV p i))) p (thereT p.evs.length ls) L else L = []
theorem ByL.uniq {p : Pa} {ls : List Int} {i : Int} {L M : List Nat} (h : ByL p ls i L) (k : ByL p ls i M) : L = M := by
 unfold ByL at h k
 split at h
 · rename_i hr
   rw [if_pos hr] at k
   exact h.uniq k
 · rename_i hr
   rw [if_neg hr] at k
   rw [h, k]
theorem ByL.len {p : Pa} {ls : List Int} {i : Int} {L : List Nat} (h : ByL p ls i L) : L.length ≤ p.evs.length := by
 unfold ByL at h
 split at h
 · rw [h.perm.length_eq]
   unfold thereT
   exact Nat.le_trans (List.length_filter_le _ _) (by simp)
 · rw [h]; exact Nat.zero_le _
theorem byLine_not {w : World} {p : Pa} {q : Pq} {pl : Option Addr} {nl cl : Nat} (h : IsPa (· < w.heap.size) w p q) (hz : SzPa p) (hr : rightT p = false) (i : Int) :
    Calls Tryz.prog 7 #[valPa p q, .slice pl nl cl, .int .i64 i] w (RowP [] w) := by
 obtain ⟨W0, hW0⟩ : ∃ W0, W0 = w.alloc (.cells (cellsPa p q).toArray 27) := ⟨_, rfl⟩
 have hb0 : Below w.heap.size w W0 := by rw [hW0]; exact (Below.refl _ _).alloc (Nat.le_refl _) _
 have V : IsVP W0 w.heap.size p q := by rw [hW0]; exact isVP_new h
 have hR := right_any V.pa hz
 have hl := V.load
 rw [hr] at hR
 clear V h hz hr
 unfold valPa at *
 generalize cellsPa p q = CP at *
 go_enter Tryz.func7, Tryz.ntmps7
 go_upto_region 1 with fail
 rw [← hW0]
 clear hW0
 go_wp2_with (first
  | (refine wpList_loadK rfl 27 _ rfl w.heap.size 0 rfl CP hl ?_)
  | (go_at_call 13; refine hR.mono ?_; rintro e w1 ⟨rfl, hb1⟩))
 go_ret
 exact ⟨_, rfl, World.ownsRow_nil _ _ _ _, belowP hb0 hb1⟩
theorem byLine_ok {O : Nat → Prop} {w : World} {p : Pa} {q : Pq} {ls : List Int} {pl : Option Addr} {cl : Nat} (h : IsPa (· < w.heap.size) w p q) (hz : SzPa p) (hr : rightT p = true) (hl : RdI O w pl cl ls) (hO : ∀ k, O k → k < w.heap.size) (hll : ls.length ≤ 1000) (i : Int) :
    Calls Tryz.prog 7 #[valPa p q, .slice pl ls.length cl, .int .i64 i] w fun e w' => ∃ L, Rkd (nrT p (zs (lineV p i))) p (thereT p.evs.length ls) L ∧ RowP (zs L) w e w' := by
 obtain ⟨hnl, hba, _, _⟩ := right_parts hr
 obtain ⟨W0, hW0⟩ : ∃ W0, W0 = w.alloc (.cells (cellsPa p q).toArray 27) := ⟨_, rfl⟩
 have hb0 : Below w.heap.size w W0 := by rw [hW0]; exact (Below.refl _ _).alloc (Nat.le_refl _) _
 have V : IsVP W0 w.heap.size p q := by rw [hW0]; exact isVP_new h
 have hR := right_any V.pa hz
 rw [hr] at hR
 obtain ⟨LV, hLV⟩ : ∃ LV, zs (lineV p i) = LV := ⟨_, rfl⟩
 have hlvs : ∀ x ∈ lineV p i, x < p.evs.length := fun x hx => by
  unfold lineV at hx
  rw [if_pos hr] at hx
  exact way_small hba i x hx
 have hlvn : LV.length ≤ 30 := by
  rw [← hLV, zs_len]
  unfold lineV
  rw [if_pos hr]
  exact Nat.le_trans (way_len hz hba i) (by decide)
 have HLVW : Hid (∀ x ∈ LV, wf64 x) := fun x hx => by
  rw [← hLV] at hx
  simp only [zs, List.mem_map] at hx
  obtain ⟨y, hy, rfl⟩ := hx
  have := hlvs y hy
  have := hz.evs
  exact wf_nat (by omega)
 have HLN : Hid (∀ X, Below W0.heap.size W0 X → Calls Tryz.prog 15 #[.agg (cellsPa p q).toArray, .int .i64 i] X fun e w' => ∃ v c, e = .returned (.slice v LV.length c) ∧ RdI (fun k => X.heap.size ≤ k ∧ k < w'.heap.size) w' v c LV ∧ Below X.heap.size X w') := fun X hX => by
  have := line_any (V.below hX).pa hz i
  rw [hLV] at this
  exact this.mono fun _ _ h => h.rd
 have HTH : Hid (∀ X, Below W0.heap.size W0 X → Calls Tryz.prog 17 #[.agg (cellsPa p q).toArray, .slice pl ls.length cl] X fun e w' => ∃ v c, e = .returned (.slice v (zs (thereT p.evs.length ls)).length c) ∧ RdI (fun k => X.heap.size ≤ k ∧ k < w'.heap.size) w' v c (zs (thereT p.evs.length ls)) ∧ Below X.heap.size X w') := fun X hX => (there_any (V.below hX).pa (hl.same (Same.of_below (belowP hb0 hX) hO)) (fun k hk => Nat.lt_of_lt_of_le (hO k hk) (belowP hb0 hX).size) hll).mono fun _ _ h => h.rd
 have HLD : Hid (∀ X, Below W0.heap.size W0 X → (Instr.loadAt 27 (.pointer (some ⟨w.heap.size, 0, none⟩))).run Tryz.prog X = .ok (.agg (cellsPa p q).toArray) X) := fun X hX => (V.below hX).load
 have HSM : ∀ x ∈ thereT p.evs.length ls, x < p.evs.length := fun x hx => (there_mem.1 hx).1
 have HND : (thereT p.evs.length ls).Nodup := (there_rises p.evs.length ls).imp fun h => Nat.ne_of_lt h
 have HRK : Hid (∀ (X : World) (v : Option Addr) (c b N0 mv s1 s2 : Nat), Below W0.heap.size W0 X → X.heap[mv]? = some (.cells #[.map (some b), .int .i64 (LV.length : Int)] 45 (0, 0)) → mv ≠ b → MapI X b N0 (posI LV) → N0 ≤ 1000 → w.heap.size < b → b < s1 → RdI (fun k => s1 ≤ k ∧ k < s2) X v c (zs (thereT p.evs.length ls)) → s2 ≤ X.heap.size → Calls Tryz.prog 16 #[.agg (cellsPa p q).toArray, .slice v (zs (thereT p.evs.length ls)).length c, .func (.func 18) #[] #[.pointer (some ⟨mv, 0, none⟩), .pointer (some ⟨w.heap.size, 0, none⟩)]] X fun e w' => ∃ L, Rkd (nrT p LV) p (thereT p.evs.length ls) L ∧ ∃ v, e = .returned v ∧ w'.ownsRow X.heap.size 3 1 v (zs L).length ((zs L).map (Value.int .i64)) ∧ Keep (· = b) X w') := fun X v c b N0 mv s1 s2 hX h1 h2 h3 h4 h5 h6 h7 h8 =>
  rankedL_any (P := fun k => k < w.heap.size) (h.carry fun k hk => ⟨hk, (belowP hb0 hX).block k hk⟩) (fun k hk => ⟨by have := (belowP hb0 hX).size; omega, by omega⟩) ((hX.block _ (obj_lt V.blk)).trans V.blk) (by omega) h1 h2 h3 (Msr.start (by omega)) h4 (by omega) hz hnl hba h7 (fun k hk => ⟨by omega, by omega⟩) HND HSM
 have hlt0 : w.heap.size < W0.heap.size := by rw [hW0]; simp
 rw [hLV]
 clear V h hz hr hl hO HSM HND hnl hba hlvs hLV
 unfold valPa at *
 generalize zs (thereT p.evs.length ls) = TT at *
 generalize cellsPa p q = CP at *
 generalize ls.length = nl at *
 go_enter Tryz.func7, Tryz.ntmps7
 go_upto_region 1 with fail
 rw [← hW0]
 clear hW0
 go_upto_region 3 with (first
  | (refine wpList_loadK rfl 27 _ rfl w.heap.size 0 rfl CP (HLD.out _ (Below.refl _ _)) ?_)
  | (go_at_call 13; refine hR.mono ?_; rintro e w1 ⟨rfl, hb1⟩))
 have HB1 : Hid (Below W0.heap.size W0 w1) := hb1
 clear hb1 hR
 go_upto_region 4 with (first
  | (refine wpList_loadK rfl 27 _ rfl w.heap.size 0 rfl CP (HLD.out _ HB1.out) ?_)
  | (go_at_call 15; refine (HLN.out _ HB1.out).mono ?_; rintro e w2 ⟨vL, cL, rfl, hrL, hb2⟩; have hme := measure_any (hrL.carry (fun _ _ => rfl) fun k hk => hk.2) (fun k hk => hk) (by omega) HLVW.out; have HB2 := (show Hid _ from hb2); clear hb2 hrL)
  | (go_at_call 14; refine hme.mono ?_; rintro e w3 ⟨b, N0, rfl, hbb, hN0, hM3, hb3⟩; have HB3 := (show Hid _ from hb3); have HM3 : Hid (MapI w3 b N0 (posI LV)) := hM3; clear hb3 hM3 hme))
 have hN4 : (w3.alloc (.cells #[.map (some b), .int .i64 (LV.length : Int)] 45)).heap[w3.heap.size]? = some (.cells #[.map (some b), .int .i64 (LV.length : Int)] 45 (0, 0)) := heap_alloc_new _ _
 have hB4 : Below w3.heap.size w3 (w3.alloc (.cells #[.map (some b), .int .i64 (LV.length : Int)] 45)) := (Below.refl _ _).alloc (Nat.le_refl _) _
 generalize w3.alloc (.cells #[.map (some b), .int .i64 (LV.length : Int)] 45) = W4 at *
 have hbl := MapI.lt HM3.out
 have hM4 : MapI W4 b N0 (posI LV) := HM3.out.same (hB4.block b hbl)
 have hs1 := HB1.out.size
 have hs2 := HB2.out.size
 have hs3 := HB3.out.size
 have HBX : Hid (Below W0.heap.size W0 W4) := belowP HB1.out (belowP HB2.out (belowP HB3.out hB4))
 have HM4 : Hid (MapI W4 b N0 (posI LV)) := hM4
 have HN4 : Hid (W4.heap[w3.heap.size]? = some (.cells #[.map (some b), .int .i64 (LV.length : Int)] 45 (0, 0))) := hN4
 have hs4 := hB4.size
 have hmlt := objP_lt hN4
 have hb4l : b < W4.heap.size := hM4.lt
 clear hM4 hN4 hB4 HM3 HLN HLVW
 have HBK : Hid (∀ X, Keep (· = b) W4 X → Below W0.heap.size W0 X) := fun X hX => HBX.out.trans (hX.below (by omega) fun k hk e => by omega)
 refine wp_region_in (by kernel_rfl) (fun w' => Keep (· = b) W4 w') ?_
 change wpIn _ _ _ _ _ _ _ _ (World.drew _)
 have hD : Keep (· = b) W4 W4.drew := (Keep.refl _ _).drew
 refine wpIn_take (i := 0) (d := (some 15)) (v := .agg CP.toArray) (a' := ?aw0) rfl rfl (by kernel_rfl) (by kernel_rfl) (by kernel_rfl) (fun _ _ _ h => h) (Or.inl ⟨by rfl, ?yw0⟩) ?fw0 ?_
 case yw0 => exact fun wq hq => exec_loadR rfl rfl (HLD.out wq (HBK.out wq hq))
 case fw0 => (go_frame; rfl)
 refine wpIn_take (i := 1) (d := (some 16)) (v := .agg CP.toArray) (a' := ?aw1) rfl rfl (by kernel_rfl) (by kernel_rfl) (by kernel_rfl) (fun _ _ _ h => h) (Or.inl ⟨by rfl, ?yw1⟩) ?fw1 ?_
 case yw1 => exact fun wq hq => exec_loadR rfl rfl (HLD.out wq (HBK.out wq hq))
 case fw1 => (go_frame; rfl)
 refine wpIn_take (i := 2) (d := (some 17)) (v := .slice pl nl cl) (a' := ?aw2) rfl rfl (by kernel_rfl) (by kernel_rfl) (by kernel_rfl) (fun _ _ _ h => h) (Or.inl ⟨by rfl, ?yw2⟩) ?fw2 ?_
 case yw2 => (intro wq hq; go_simp; first | done | with_reducible rfl)
 case fw2 => (go_frame; rfl)
 refine wpIn_take (i := 4) (d := (some 19)) (v := .func (.func 18) #[] #[.pointer (some ⟨w3.heap.size, 0, none⟩), .pointer (some ⟨w.heap.size, 0, none⟩)]) (a' := ?aw4) rfl rfl (by kernel_rfl) (by kernel_rfl) (by kernel_rfl) (fun _ _ _ h => h) (Or.inl ⟨by rfl, ?yw4⟩) ?fw4 ?_
 case yw4 => (intro wq hq; go_simp; first | done | with_reducible rfl)
 case fw4 => (go_frame; rfl)
 refine wpIn_do (i := 3) hD (by kernel_rfl) rfl (by rfl) ?_
 intro K3 hK3
 go_simp
 go_wp2_with (go_at_call 17; refine (HTH.out _ (HBK.out _ hD)).mono ?_; rintro e w5 ⟨vT, cT, rfl, hrT, hb5⟩)
 have hD5 : Keep (· = b) W4 w5 := hD.trans (Keep.of_below (S := (· = b)) hb5) fun _ _ h => h
 have hK := HRK.out w5 vT cT b N0 w3.heap.size W4.heap.size w5.heap.size (HBK.out _ hD5) ((hD5.block _ hmlt (by omega)).trans HN4.out) (by omega) (HM4.out.same (hb5.block b hb4l)) hN0 (by omega) hb4l hrT (Nat.le_refl _)
 clear hrT HRK HTH
 refine wpIn_do (i := 5) hD5 (by kernel_rfl) rfl (by rfl) ?_
 intro K5 hK5
 go_simp
 go_wp2_with (go_at_call 16; refine hK.mono ?_; rintro e w6 ⟨L, hL, v6, rfl, ho6, hk6⟩)
 have hD6 : Keep (· = b) W4 w6 := hD5.trans hk6 fun _ _ h => h
 refine wpIn_take (i := 6) (d := (some 6)) (v := v6) (a' := ?aw6) rfl rfl (by kernel_rfl) (by kernel_rfl) (by kernel_rfl) (fun _ _ _ h => h) (Or.inl ⟨by rfl, ?yw6⟩) ?fw6 ?_
 case yw6 => (intro wq hq; go_simp; first | done | with_reducible rfl)
 case fw6 => (go_frame; rfl)
 refine wpIn_done hD6 (by kernel_rfl) ?_ _
 go_wp2
 go_ret
 exact ⟨L, hL, v6, rfl, own_le ho6 (by have := hD5.size; have := hb0.size; omega), belowP hb0 (HBK.out _ hD6)⟩
theorem byLine_any {O : Nat → Prop} {w : World} {p : Pa} {q : Pq} {ls : List Int} {pl : Option Addr} {cl : Nat} (h : IsPa (· < w.heap.size) w p q) (hz : SzPa p) (hl : RdI O w pl cl ls) (hO : ∀ k, O k → k < w.heap.size) (hll : ls.length ≤ 1000) (i : Int) :
    Calls Tryz.prog 7 #[valPa p q, .slice pl ls.length cl, .int .i64 i] w fun e w' => ∃ L, ByL p ls i L ∧ RowP (zs L) w e w' := by
 unfold ByL
 cases hr : rightT p with
 | false => exact (byLine_not h hz hr i).mono fun e w' hh => ⟨[], rfl, hh⟩
 | true => exact (byLine_ok h hz hr hl hO hll i).mono fun e w' ⟨L, h1, h2⟩ => ⟨L, h1, h2⟩
section
variable {P : Program} {ops : Array Oper} {Q : Exit → Act → World → Prop} {md : Region.Mode} {C : World → Prop}
theorem wpIn_uq {i : Nat} {o : Oper} {v : Value} {d : Option Tmp} {n : Nat} {listed : Array Bool} {a a' : Act} {w : World} (hi : ops[i]? = some o)
    (h : wpIn P md ops Q C n (listed.setIfInBounds i true) a' w) (hd : o.dst = d := by rfl) (hw : Region.wanted o (yielded ops a.tmps) = true := by rfl) (hy : ∀ w, C w → (execOp a.eval o).run P w = .ok (.value v) w := by (intro wq hq; go_simp; first | done | with_reducible rfl)) (ha : a.put d v = a' := by (go_frame; rfl))
    (hs : Region.noSelect ops = true := by kernel_rfl) (hf : Region.free md ops listed i = true := by kernel_rfl) (hr : (Region.ready md ops listed).contains i = true := by kernel_rfl)
    (hQ : ∀ c a w, Q (.panic c) (a.put d v) w → Q (.panic c) a w := by exact fun _ _ _ h => h) : wpIn P md ops Q C (n + 1) listed a w :=
 wpIn_take hi hd hs hf hr hQ (Or.inl ⟨hw, hy⟩) ha h
theorem wpIn_ur {i : Nat} {o : Oper} {v : Value} {d : Option Tmp} {n : Nat} {listed : Array Bool} {a a' : Act} {w : World} (hi : ops[i]? = some o)
    (hy : ∀ w, C w → (execOp a.eval o).run P w = .ok (.value v) w) (h : wpIn P md ops Q C n (listed.setIfInBounds i true) a' w)
    (ha : a.put d v = a' := by (go_frame; rfl)) (hd : o.dst = d := by rfl) (hw : Region.wanted o (yielded ops a.tmps) = true := by rfl)
    (hs : Region.noSelect ops = true := by kernel_rfl) (hf : Region.free md ops listed i = true := by kernel_rfl) (hr : (Region.ready md ops listed).contains i = true := by kernel_rfl)
    (hQ : ∀ c a w, Q (.panic c) (a.put d v) w → Q (.panic c) a w := by exact fun _ _ _ h => h) : wpIn P md ops Q C (n + 1) listed a w :=
 wpIn_take hi hd hs hf hr hQ (Or.inl ⟨hw, hy⟩) ha h
theorem wpIn_un {i : Nat} {o : Oper} {d : Option Tmp} {n : Nat} {listed : Array Bool} {a a' : Act} {w : World} (hi : ops[i]? = some o)
    (h : wpIn P md ops Q C n (listed.setIfInBounds i true) a' w)
    (ha : a.put d undef = a' := by (go_frame; rfl)) (hd : o.dst = d := by rfl) (hw : Region.wanted o (yielded ops a.tmps) = false := by rfl)
    (hs : Region.noSelect ops = true := by kernel_rfl) (hf : Region.free md ops listed i = true := by kernel_rfl) (hr : (Region.ready md ops listed).contains i = true := by kernel_rfl)
    (hQ : ∀ c a w, Q (.panic c) (a.put d undef) w → Q (.panic c) a w := by exact fun _ _ _ h => h) : wpIn P md ops Q C (n + 1) listed a w :=
 wpIn_take hi hd hs hf hr hQ (Or.inr ⟨hw, rfl⟩) ha h
end
theorem wp_noneI {w : World} {o : Oper} {a : Act} {K : Act → World → Prop} {Q : Exit → Act → World → Prop} {d : Option Tmp} (ho : o.op = .buildSlice 28 0 #[]) (hd : o.dst = d) (h : K (a.put d (.slice (some ⟨w.heap.size, 0, none⟩) 0 0)) (w.alloc (.cells #[] 3))) : o.wp Tryz.prog a w K Q := by
 subst hd
 obtain ⟨d, op, ty, ps, af, gd⟩ := o
 simp only at ho
 subst ho
 go_simp
 exact h
theorem own_none (w : World) : (w.alloc (.cells #[] 3)).ownsRow w.heap.size 3 1 (.slice (some ⟨w.heap.size, 0, none⟩) 0 0) 0 (([] : List Int).map (Value.int .i64)) := ⟨by simp, .inr ⟨w.heap.size, 0, #[], rfl, Nat.le_refl _, heap_alloc_new _ _, Nat.le_refl _, by unfold maxLen; omega, by simp, by simp⟩⟩
theorem wp_srcI {w : World} {o : Oper} {a : Act} {K : Act → World → Prop} {Q : Exit → Act → World → Prop} (s x : Operand) {d : Option Tmp}
    (ho : o.op = .call { callee := .builtin .append, args := #[s, x], argTypes := #[28, 28] }) (hd : o.dst = d)
    (base : Nat) (v : Value) (n : Nat) (xs : List Int) (hs : a.eval s = v) (hown : w.ownsRow base 3 1 v n (xs.map (Value.int .i64)))
    (ad : Addr) (m c : Nat) (news : List Int) (hx : a.eval x = .slice (some ad) m c) (hl : news.length = m) (hnews : ∀ j u, news[j]? = some u → w.cell? (ad.add j) = some (.int .i64 u))
    (hn : n + m ≤ 1000000) (hbase : base ≤ w.heap.size)
    (h : ∀ v' w', w'.ownsRow base 3 1 v' (n + m) ((xs ++ news).map (Value.int .i64)) → w.grownBy w' v.ownBlock → (v'.ownBlock = v.ownBlock ∨ v'.ownBlock = some w.heap.size) → K (a.put d v') w') : o.wp Tryz.prog a w K Q := by
 subst hd
 obtain ⟨i0, hi, hz0, hz1, hz2⟩ := info_parts Tryz.info3
 obtain ⟨v', w', hr, h2, h3, h4, h5⟩ := run_append_own_at (P := Tryz.prog) w base 28 o.type 3 i0 (.int .i64 0) 1 8 Tryz.underlying28 hi hz0 hz1 hz2 rfl (by decide) v n (xs.map (Value.int .i64)) hown ad m c (news.map (Value.int .i64)) (by rw [List.length_map, hl]; omega) (fun j u hj => by
  rw [List.getElem?_map] at hj
  cases hg : news[j]? with
  | none => rw [hg] at hj; cases hj
  | some z => rw [hg] at hj; cases hj; exact hnews j z hg) (fun u hu => by obtain ⟨z, _, rfl⟩ := List.mem_map.1 hu; rfl) (by unfold maxLen; omega) (by omega) hbase
 unfold Oper.wp execOp
 simp only [ho, resolve, invoke, builtin, Sem.run_bind, Sem.run_pure, Result.andThen_ok, List.map_toArray, List.map_cons, List.map_nil, hs, hx, hr]
 exact h v' w' (by rw [List.map_append]; exact h2) h3 h5
end Go.Proofs.YtimhpglfolbomabGreat.Od

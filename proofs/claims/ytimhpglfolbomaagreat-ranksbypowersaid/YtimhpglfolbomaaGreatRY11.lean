/-
  The rows of a content: by contracts.
  Parse, by a contract.
  What stands under a key of a value, and of the value in order: the same, in order. Levels as the document reads them.
  The document's Get of a value, by a contract.
  Levels that are parsed are not too many.
  Which events the rules allow: as plain functions.
  Events that are nowhere too long.
-/
import Derived.Test.YtimhpglfolbomaaGreatRY10
set_option maxRecDepth 100000
set_option maxHeartbeats 16000000
namespace Go.Proofs.YtimhpglfolbomaaGreat
open Go.RowKit
def isU (s : ByteArray) : Bool := (Id.parts 64 s).2.2
def isT (s : ByteArray) : Bool := Id.typ s
theorem isUser_any {w : World} (s : ByteArray) (hs : s.size ≤ 1000000000) : Calls Tryz.prog 93 #[.string s] w fun e w' => e = .returned (.bool (isU s)) ∧ Below w.heap.size w w' := by
 have hU := Id.user_any s w (by omega)
 unfold isU
 generalize Id.parts 64 s = x at hU
 obtain ⟨x1, x2, x3⟩ := x
 simp only [Id.told] at hU
 go_enter Tryz.func93, Tryz.ntmps93
 go_wp2_with (go_at_call 124; refine hU.mono ?_; rintro e w1 ⟨rfl, hb1⟩)
 go_ret
 exact ⟨rfl, hb1⟩
theorem isType_any {w : World} (s : ByteArray) (hs : s.size ≤ 1000000000) : Calls Tryz.prog 94 #[.string s] w fun e w' => e = .returned (.bool (isT s)) ∧ Below w.heap.size w w' := Id.type_any s w (by omega)
def rowsOf (v : J) : Nms := (v.ks.zip v.ls).map fun q => (q.1, q.2.nm)
def badIn (fit : ByteArray → Bool) (q : ByteArray × J) : Bool := !fit q.1 || !lvOk q.2.kd q.2.nm
def rowT (fit : ByteArray → Bool) : Option J → Nms × Bool
 | none => ([], false)
 | some v => (rowsOf v, !decide (v.kd = 5) || (v.ks.zip v.ls).any (badIn fit))
theorem zip_at {ks : List ByteArray} {l : List J} {n : Nat} (h : n < ks.length) (hl : ks.length ≤ l.length) : (ks.zip l).take (n + 1) = (ks.zip l).take n ++ [(ks.getD n nix, l.getD n J.zero)] := by
 have hz : n < (ks.zip l).length := by rw [List.length_zip]; omega
 rw [takeP_one (z := (nix, J.zero)) hz]
 congr 2
 rw [List.getD_eq_getElem?_getD, List.getElem?_eq_getElem hz]
 simp only [List.getElem_zip, Option.getD_some]
 rw [List.getD_eq_getElem?_getD, List.getElem?_eq_getElem h, List.getD_eq_getElem?_getD, List.getElem?_eq_getElem (by omega : n < l.length)]
 rfl
theorem row_users {O : Nat → Prop} {w : World} {Rb d : Nat} {j : J} {k i : Int} {t : ByteArray} {pk pl : Option Addr} {nk ck nl cl : Nat} {bad : Bool} (hR : RdrIs w Rb (.int .i64 k) (.int .i64 i) (.string t) (.slice pk nk ck) (.slice pl nl cl) bad)
    (hj : isJ O w j [.int .i64 k, .int .i64 i, .string t, .slice pk nk ck, .slice pl nl cl]) (hO : ∀ x, O x → x < w.heap.size ∧ x ≠ Rb) (hok : OkJ (d + 2) j) (s : ByteArray) :
    Calls Tryz.prog 92 #[.pointer (some ⟨Rb, 0, none⟩), .string s, .func (.func 93) #[] #[]] w fun e w' => (∃ p c, e = .returned (.slice p (rowT isU (lookV j.ks j.ls s)).1.length c) ∧ RdN (fun b => w.heap.size ≤ b ∧ b < w'.heap.size) w' p c (rowT isU (lookV j.ks j.ls s)).1) ∧ RdrIs w' Rb (.int .i64 k) (.int .i64 i) (.string t) (.slice pk nk ck) (.slice pl nl cl) (bad || (rowT isU (lookV j.ks j.ls s)).2) ∧ Keep (OneP Rb) w w' := by
 have hU := under_any hR hj (fun x hx => (hO x hx).1) hok s
 have HR : Hid (∀ X, Below w.heap.size w X → RdrIs X Rb (.int .i64 k) (.int .i64 i) (.string t) (.slice pk nk ck) (.slice pl nl cl) bad) := fun X hX => (hX.block Rb (objP_lt hR)).trans hR
 have hlt := objP_lt hR
 have HOK : Hid (∀ v, lookV j.ks j.ls s = some v → OkJ (d + 1) v) := fun v hv => by
  obtain ⟨_, _, _, _, _⟩ := j
  exact hok.parts.2.2.2.2.2 v (lookJ_mem hv)
 clear hR hj hok
 generalize lookV j.ks j.ls s = o at hU HOK
 cases o with
 | none =>
  go_enter Tryz.func92, Tryz.ntmps92
  go_wp2_with (go_at_call 122; refine hU.mono ?_; rintro e w1 ⟨he, hb1⟩; replace he : e = _ := he; subst he)
  go_ret
  have hbE := belowP hb1 ((Below.refl _ _).alloc (Nat.le_refl _) (.cells #[.int .i64 0, .int .i64 0, .string ⟨#[]⟩, .slice none 0 0, .slice none 0 0] 36))
  refine ⟨⟨none, 0, rfl, RdN.nil _ _ _ _ fun _ => rfl⟩, ?_, Keep.of_below hbE⟩
  simp only [rowT, Bool.or_false]
  exact HR.out _ hbE
 | some v =>
  have hokv := HOK.out v rfl
  obtain ⟨kv, iv, tv, ks, ls⟩ := v
  have hkn := hokv.parts.2.2.2.1
  have HKS : Hid (∀ x ∈ ks, x.size ≤ 1000000000) := hokv.parts.2.2.2.2.1
  have HLE : Hid (ks.length ≤ ls.length) := hokv.lens
  have HNE : Hid (kv ≠ 5 → ks = []) := hokv.parts.2.2.1
  clear hokv HOK
  obtain ⟨nv, hnv⟩ : ∃ n, ks.length = n := ⟨_, rfl⟩
  obtain ⟨mv, hmv⟩ : ∃ n, ls.length = n := ⟨_, rfl⟩
  have HNV : Hid (ks.length = nv) := hnv
  have HMV : Hid (ls.length = mv) := hmv
  rw [hnv] at hkn
  clear hnv hmv
  go_enter Tryz.func92, Tryz.ntmps92
  go_upto_region 2 with (go_at_call 122; refine hU.mono ?_; rintro e w1 ⟨⟨kv', iv', tv', pv, nv', cv, qv, mv', dv, rfl, hv⟩, hb1⟩; obtain ⟨rfl, rfl, rfl, rfl, rfl, hvk, hvc, hvs⟩ := isJP_parts hv; rw [HNV.out, HMV.out]; rw [HMV.out] at hvc; clear hv)
  obtain ⟨W1, hW1⟩ : ∃ W1, W1 = w1.alloc (.cells #[.int .i64 kv', .int .i64 iv', .string tv', .slice pv nv cv, .slice qv mv dv] 36) := ⟨_, rfl⟩
  have hbW : Below w.heap.size w W1 := by rw [hW1]; exact belowP hb1 ((Below.refl _ _).alloc (Nat.le_refl _) _)
  have hs1 := hb1.size
  have hX : W1.heap[w1.heap.size]? = some (.cells #[.int .i64 kv', .int .i64 iv', .string tv', .slice pv nv cv, .slice qv mv dv] 36 (0, 0)) := by rw [hW1]; exact newP _
  have hsW : w1.heap.size < W1.heap.size := objP_lt hX
  have HRW : Hid (RdrIs W1 Rb (.int .i64 k) (.int .i64 i) (.string t) (.slice pk nk ck) (.slice pl nl cl) bad) := HR.out W1 hbW
  have HOB : Hid (∀ x, O x → x < W1.heap.size ∧ x ≠ Rb) := fun x hx => ⟨Nat.lt_of_lt_of_le (hO x hx).1 hbW.size, (hO x hx).2⟩
  have HVK : Hid (RdK O W1 pv cv ks) := hvk.carry fun x hx => ⟨hx, (by rw [hW1]; exact Below.heap_alloc _ _ _ (Nat.lt_of_lt_of_le (hO x hx).1 hb1.size))⟩
  have HVS : Hid (isJs O W1 qv 0 ls) := isJs.carry (fun x hx => ⟨hx, (by rw [hW1]; exact Below.heap_alloc _ _ _ (Nat.lt_of_lt_of_le (hO x hx).1 hb1.size))⟩) qv 0 ls hvs
  have hck := hvk.1
  rw [HNV.out] at hck
  have b0 := cellP hX 0 _ rfl; have b3 := cellP hX 3 _ rfl
  have r5 := cellP HRW.out 5 _ rfl
  have rz := fzP HRW.out 5
  rw [← hW1]
  clear hvk hvs hU hW1 hb1
  by_cases hk5 : kv' = 5
  · subst hk5
    go_wp2
    have HBX : Hid (W1.heap[w1.heap.size]? = some (.cells #[.int .i64 5, .int .i64 iv', .string tv', .slice pv nv cv, .slice qv mv dv] 36 (0, 0))) := hX
    clear r5 rz b0 b3 hX
    go_loopw [9, 29] (fun v x wx => ∃ n : Nat, x = .int .i64 n ∧ n ≤ nv ∧ wx.ownsRow W1.heap.size 98 2 v (((ks.zip ls).take n).map fun q => (q.1, q.2.nm)).length (flatN (((ks.zip ls).take n).map fun q => (q.1, q.2.nm))) ∧ RdrIs wx Rb (.int .i64 k) (.int .i64 i) (.string t) (.slice pk nk ck) (.slice pl nl cl) (bad || ((ks.zip ls).take n).any (badIn isU)) ∧ Keep (OneP Rb) W1 wx) (fun _ x _ => nv - (intOf x).toNat)
    case atStart => exact ⟨0, rfl, Nat.zero_le _, World.ownsRow_nil _ _ _ _, by simpa using HRW.out, Keep.refl _ _⟩
    case round =>
     obtain ⟨n, rfl, hn, hown, hrd, hkp⟩ := hrel
     have HF : Hid (∀ X, Keep (OneP Rb) W1 X → X.cell? ⟨w1.heap.size, 4, none⟩ = some (.slice qv mv dv)) := fun X hX => (World.cell?_of_block (a := ⟨w1.heap.size, 4, none⟩) (hX.block w1.heap.size hsW (by unfold OneP; omega))).trans (cellP HBX.out 4 _ rfl)
     by_cases hnv : n < nv
     · have hnk : n < ks.length := by rw [HNV.out]; exact hnv
       have hnm : n < mv := by have := HLE.out; rw [HNV.out, HMV.out] at this; omega
       have HT : Hid ((ks.zip ls).take (n + 1) = (ks.zip ls).take n ++ [(ks.getD n nix, ls.getD n J.zero)]) := zip_at hnk HLE.out
       obtain ⟨ad, rfl, hOa, hck1⟩ := HVK.out.2 n hnk
       have hkey : wr.cell? (ad.add n) = some (.string (ks.getD n nix)) := (World.cell?_of_block (by rw [add_block]; exact hkp.block _ (HOB.out _ hOa).1 (by unfold OneP; exact (HOB.out _ hOa).2))).trans hck1
       have hksz : (ks.getD n nix).size ≤ 1000000000 := by rw [List.getD_eq_getElem?_getD, List.getElem?_eq_getElem hnk]; exact HKS.out _ (List.getElem_mem hnk)
       obtain ⟨lb, lo, cs, hpl, hOb, hcells, hyj⟩ := isJs.at ls 0 n HVS.out (by rw [HMV.out]; exact hnm)
       subst hpl
       obtain ⟨ke, ie, te, pe, ne, ce, qe, me, de, rfl⟩ := isJ_shape hyj
       have HE : Hid ((ls.getD n J.zero).kd = ke ∧ (ls.getD n J.zero).nm = ie) := by
        generalize ls.getD n J.zero = y at hyj
        obtain ⟨_, _, _, _, _⟩ := y
        obtain ⟨rfl, rfl, _⟩ := isJP_parts hyj
        exact ⟨rfl, rfl⟩
       have HC : Hid (∀ X, Keep (OneP Rb) W1 X → X.cell? ⟨lb, lo + n * 5, none⟩ = some (.int .i64 ke) ∧ X.cell? ⟨lb, lo + n * 5 + 1, none⟩ = some (.int .i64 ie) ∧ X.cell? ⟨lb, lo + n * 5 + 2, none⟩ = some (.string te) ∧ X.cell? ⟨lb, lo + n * 5 + 3, none⟩ = some (.slice pe ne ce) ∧ X.cell? ⟨lb, lo + n * 5 + 4, none⟩ = some (.slice qe me de)) := fun X hX => by
        have cc : ∀ m v, [Value.int .i64 ke, .int .i64 ie, .string te, .slice pe ne ce, .slice qe me de][m]? = some v → X.cell? ⟨lb, lo + n * 5 + m, none⟩ = some v := fun m v h => by
         have := hcells m v h
         rw [Nat.zero_add] at this
         exact (World.cell?_of_block (a := ⟨lb, lo + n * 5 + m, none⟩) (hX.block lb (HOB.out lb hOb).1 (by unfold OneP; exact (HOB.out lb hOb).2))).trans this
        exact ⟨cc 0 _ rfl, cc 1 _ rfl, cc 2 _ rfl, cc 3 _ rfl, cc 4 _ rfl⟩
       have HB : Hid (∀ b, b = (bad || ((ks.zip ls).take n).any (badIn isU)) → (b || (!isU (ks.getD n nix) || !lvOk ke ie)) = (bad || ((ks.zip ls).take (n + 1)).any (badIn isU))) := fun b hb => by
        rw [hb, HT.out, List.any_append, Bool.or_assoc]
        simp only [List.any_cons, List.any_nil, Bool.or_false, badIn, HE.out.1, HE.out.2]
       have HL : Hid ((((ks.zip ls).take (n + 1)).map fun q => (q.1, q.2.nm)) = (((ks.zip ls).take n).map fun q => (q.1, q.2.nm)) ++ [(ks.getD n nix, ie)]) := by
        show _ = _
        rw [HT.out, List.map_append]
        simp only [List.map_cons, List.map_nil, HE.out.2]
       have HLN : Hid ((((ks.zip ls).take n).map fun q => (q.1, q.2.nm)).length ≤ 100000) := by
        show _ ≤ _
        simp only [List.length_map, List.length_take]
        omega
       have hlb := (HOB.out lb hOb).1
       generalize (((ks.zip ls).take n).map fun q => (q.1, q.2.nm)) = L at hown HL HLN
       obtain ⟨bn, hbn⟩ : ∃ b, b = (bad || ((ks.zip ls).take n).any (badIn isU)) := ⟨_, rfl⟩
       rw [← hbn] at hrd
       have HB2 := (show Hid _ from HB.out bn hbn)
       clear hbn HB hcells hyj hck1
       generalize ks.getD n nix = K at hkey hksz HB2 HL
       have hFt := isUser_any (w := wr) K hksz
       have hRl := (hown.lt)
       have HOwn : Hid (wr.ownsRow W1.heap.size 98 2 _ L.length (flatN L)) := hown
       have HRd : Hid (RdrIs wr Rb (.int .i64 k) (.int .i64 i) (.string t) (.slice pk nk ck) (.slice pl nl cl) bn) := hrd
       have HKp : Hid (Keep (OneP Rb) W1 wr) := hkp
       have hsx := hkp.size
       have hRbx : Rb < wr.heap.size := by omega
       clear hown hrd hkp hRl
       cases hft : isU K with
       | true =>
        rw [hft] at hFt HB2
        go_wp2_with (first
         | (go_at_call 93; refine hFt.mono ?_; rintro e w2 ⟨rfl, hb2⟩
            have hk2 : Keep (OneP Rb) wr w2 := Keep.of_below hb2
            have x4 := HF.out w2 (HKp.out.then hk2)
            obtain ⟨e0, e1, e2, e3, e4⟩ := HC.out w2 (HKp.out.then hk2)
            have hLv := level_any ((hb2.block Rb hRbx).trans HRd.out) ke ie te pe qe ne ce me de
            have HK2 : Hid (Keep (OneP Rb) wr w2) := hk2
            clear hk2 hb2)
         | (go_at_call 123; refine hLv.mono ?_; rintro e w4 ⟨rfl, hr4, hk4⟩
            have hkx : Keep (OneP Rb) wr w4 := HK2.out.then hk4
            have hownA := (own_keep HOwn.out hkx (fun q hq => by have := (HOwn.out.lt q hq).1; unfold OneP; omega)).alloc (.cells #[.string K, .int .i64 ie] 98)
            have hrdA : RdN (fun _ => True) (w4.alloc (.cells #[.string K, .int .i64 ie] 98)) (some ⟨w4.heap.size, 0, none⟩) 1 [(K, ie)] := rdN_flat (l := [(K, ie)]) trivial (newP _)
            have hsz4 : W1.heap.size ≤ (w4.alloc (.cells #[.string K, .int .i64 ie] 98)).heap.size := by have := hkx.size; simp; omega
            have HR4 := (show Hid _ from hr4)
            have HKX : Hid (Keep (OneP Rb) wr w4) := hkx
            clear hr4 hk4 hkx e0 e1 e2 e3 e4 x4 hLv)
         | (refine wpList_append_rdN rfl _ _ rfl W1.heap.size _ L rfl hownA hrdA rfl (by have := HLN.out; omega) (by simp) hsz4 ?_; intro v5 w5 hown5 hg5))
        go_roundw
        case rel =>
         have hkA : Keep (OneP Rb) W1 (w4.alloc (.cells #[.string K, .int .i64 ie] 98)) := (HKp.out.then HKX.out).alloc _
         have hlt4 := objP_lt HR4.out
         refine ⟨n + 1, by simp, by omega, by rw [HL.out]; exact hown5, ?_, hkA.grown hg5 (fun q hq => (hownA.lt q hq).1)⟩
         rw [← HB2.out]
         refine (hg5.block Rb (by simp; omega) (fun e => by have := (hownA.lt Rb e.symm).1; omega)).trans ?_
         rw [Below.heap_alloc _ _ _ hlt4]
         simpa using HR4.out
        case measure => simp [intOf]; omega
       | false =>
        rw [hft] at hFt HB2
        go_wp2_with (first
         | (go_at_call 93; refine hFt.mono ?_; rintro e w2 ⟨rfl, hb2⟩
            have hR2 : RdrIs w2 Rb _ _ _ _ _ bn := (hb2.block Rb hRbx).trans HRd.out
            have r5 := cellP hR2 5 _ rfl
            have rz := fzP hR2 5
            have hk3 : Keep (OneP Rb) wr (w2.setCell ⟨Rb, 5, none⟩ (.bool true)) := Keep.setCell (S := OneP Rb) (p := ⟨Rb, 5, none⟩) (Keep.of_below hb2) (fun _ => (rfl : Rb = Rb)) _
            have x4 := HF.out _ (HKp.out.then hk3)
            obtain ⟨e0, e1, e2, e3, e4⟩ := HC.out _ (HKp.out.then hk3)
            have hLv := level_any (hR2.set true) ke ie te pe qe ne ce me de
            have HK2 : Hid (Keep (OneP Rb) wr (w2.setCell ⟨Rb, 5, none⟩ (.bool true))) := hk3
            clear hk3 hb2 hR2)
         | (go_at_call 123; refine hLv.mono ?_; rintro e w4 ⟨rfl, hr4, hk4⟩
            have hkx : Keep (OneP Rb) wr w4 := HK2.out.then hk4
            have hownA := (own_keep HOwn.out hkx (fun q hq => by have := (HOwn.out.lt q hq).1; unfold OneP; omega)).alloc (.cells #[.string K, .int .i64 ie] 98)
            have hrdA : RdN (fun _ => True) (w4.alloc (.cells #[.string K, .int .i64 ie] 98)) (some ⟨w4.heap.size, 0, none⟩) 1 [(K, ie)] := rdN_flat (l := [(K, ie)]) trivial (newP _)
            have hsz4 : W1.heap.size ≤ (w4.alloc (.cells #[.string K, .int .i64 ie] 98)).heap.size := by have := hkx.size; simp; omega
            have HR4 := (show Hid _ from hr4)
            have HKX : Hid (Keep (OneP Rb) wr w4) := hkx
            clear hr4 hk4 hkx e0 e1 e2 e3 e4 x4 hLv r5 rz)
         | (refine wpList_append_rdN rfl _ _ rfl W1.heap.size _ L rfl hownA hrdA rfl (by have := HLN.out; omega) (by simp) hsz4 ?_; intro v5 w5 hown5 hg5))
        go_roundw
        case rel =>
         have hkA : Keep (OneP Rb) W1 (w4.alloc (.cells #[.string K, .int .i64 ie] 98)) := (HKp.out.then HKX.out).alloc _
         have hlt4 := objP_lt HR4.out
         refine ⟨n + 1, by simp, by omega, by rw [HL.out]; exact hown5, ?_, hkA.grown hg5 (fun q hq => (hownA.lt q hq).1)⟩
         rw [← HB2.out]
         refine (hg5.block Rb (by simp; omega) (fun e => by have := (hownA.lt Rb e.symm).1; omega)).trans ?_
         rw [Below.heap_alloc _ _ _ hlt4]
         simpa using HR4.out
        case measure => simp [intOf]; omega
     · obtain rfl : n = nv := by omega
       have htk : (ks.zip ls).take n = ks.zip ls := List.take_of_length_le (by rw [List.length_zip, HNV.out]; omega)
       rw [htk] at hown hrd
       have HOwn := (show Hid _ from hown)
       have HRd := (show Hid _ from hrd)
       clear hown hrd htk
       go_wp2
       go_ret
       obtain ⟨p', c', hv', hrd'⟩ := own_rdN HOwn.out
       refine ⟨⟨p', c', by first | (rw [hv']; rfl) | (simp only [] ; rw [← hv']; rfl), hrd'.carry fun q hq => ⟨⟨by have := hbW.size; omega, hq.2⟩, rfl⟩⟩, ?_, (Keep.of_below hbW).then hkp⟩
       simpa [rowT, J.kd, J.ks, J.ls] using HRd.out
  · have hks := HNE.out hk5
    have hnv0 : nv = 0 := by rw [← HNV.out, hks]; rfl
    subst hnv0
    have HRS : Hid (RdrIs (W1.setCell ⟨Rb, 5, none⟩ (.bool true)) Rb (.int .i64 k) (.int .i64 i) (.string t) (.slice pk nk ck) (.slice pl nl cl) true) := HRW.out.set true
    have HKS2 : Hid (Keep (OneP Rb) w (W1.setCell ⟨Rb, 5, none⟩ (.bool true))) := Keep.setCell (S := OneP Rb) (p := ⟨Rb, 5, none⟩) (Keep.of_below hbW) (fun _ => (rfl : Rb = Rb)) _
    have HBX : Hid (W1.heap[w1.heap.size]? = some (.cells #[.int .i64 kv', .int .i64 iv', .string tv', .slice pv 0 cv, .slice qv mv dv] 36 (0, 0))) := hX
    have b3' : (W1.setCell ⟨Rb, 5, none⟩ (.bool true)).cell? ⟨w1.heap.size, 3, none⟩ = some (.slice pv 0 cv) := by
     rw [World.cell?_of_block (Below.heap_setCell W1 ⟨Rb, 5, none⟩ _ w1.heap.size (by simp; omega))]; exact b3
    have HRO : Hid (rowT isU (some (.mk kv' iv' tv' ks ls)) = ([], true)) := by
     show _ = _
     simp [rowT, rowsOf, J.kd, J.ks, J.ls, hks, hk5]
    clear hX hks
    go_wp2
    go_loopw [9, 29] (fun v x wx => v = .slice none 0 0 ∧ x = .int .i64 0 ∧ Hid (wx = W1.setCell ⟨Rb, 5, none⟩ (.bool true))) (fun _ _ _ => 0)
    case atStart => exact ⟨rfl, rfl, rfl⟩
    case round =>
     obtain ⟨rfl, rfl, hwr⟩ := hrel
     go_wp2
     go_ret
     rw [HRO.out, hwr.out]
     exact ⟨⟨none, 0, rfl, RdN.nil _ _ _ _ fun _ => rfl⟩, by simpa using HRS.out, HKS2.out⟩
theorem row_types {O : Nat → Prop} {w : World} {Rb d : Nat} {j : J} {k i : Int} {t : ByteArray} {pk pl : Option Addr} {nk ck nl cl : Nat} {bad : Bool} (hR : RdrIs w Rb (.int .i64 k) (.int .i64 i) (.string t) (.slice pk nk ck) (.slice pl nl cl) bad)
    (hj : isJ O w j [.int .i64 k, .int .i64 i, .string t, .slice pk nk ck, .slice pl nl cl]) (hO : ∀ x, O x → x < w.heap.size ∧ x ≠ Rb) (hok : OkJ (d + 2) j) (s : ByteArray) :
    Calls Tryz.prog 92 #[.pointer (some ⟨Rb, 0, none⟩), .string s, .func (.func 94) #[] #[]] w fun e w' => (∃ p c, e = .returned (.slice p (rowT isT (lookV j.ks j.ls s)).1.length c) ∧ RdN (fun b => w.heap.size ≤ b ∧ b < w'.heap.size) w' p c (rowT isT (lookV j.ks j.ls s)).1) ∧ RdrIs w' Rb (.int .i64 k) (.int .i64 i) (.string t) (.slice pk nk ck) (.slice pl nl cl) (bad || (rowT isT (lookV j.ks j.ls s)).2) ∧ Keep (OneP Rb) w w' := by
 have hU := under_any hR hj (fun x hx => (hO x hx).1) hok s
 have HR : Hid (∀ X, Below w.heap.size w X → RdrIs X Rb (.int .i64 k) (.int .i64 i) (.string t) (.slice pk nk ck) (.slice pl nl cl) bad) := fun X hX => (hX.block Rb (objP_lt hR)).trans hR
 have hlt := objP_lt hR
 have HOK : Hid (∀ v, lookV j.ks j.ls s = some v → OkJ (d + 1) v) := fun v hv => by
  obtain ⟨_, _, _, _, _⟩ := j
  exact hok.parts.2.2.2.2.2 v (lookJ_mem hv)
 clear hR hj hok
 generalize lookV j.ks j.ls s = o at hU HOK
 cases o with
 | none =>
  go_enter Tryz.func92, Tryz.ntmps92
  go_wp2_with (go_at_call 122; refine hU.mono ?_; rintro e w1 ⟨he, hb1⟩; replace he : e = _ := he; subst he)
  go_ret
  have hbE := belowP hb1 ((Below.refl _ _).alloc (Nat.le_refl _) (.cells #[.int .i64 0, .int .i64 0, .string ⟨#[]⟩, .slice none 0 0, .slice none 0 0] 36))
  refine ⟨⟨none, 0, rfl, RdN.nil _ _ _ _ fun _ => rfl⟩, ?_, Keep.of_below hbE⟩
  simp only [rowT, Bool.or_false]
  exact HR.out _ hbE
 | some v =>
  have hokv := HOK.out v rfl
  obtain ⟨kv, iv, tv, ks, ls⟩ := v
  have hkn := hokv.parts.2.2.2.1
  have HKS : Hid (∀ x ∈ ks, x.size ≤ 1000000000) := hokv.parts.2.2.2.2.1
  have HLE : Hid (ks.length ≤ ls.length) := hokv.lens
  have HNE : Hid (kv ≠ 5 → ks = []) := hokv.parts.2.2.1
  clear hokv HOK
  obtain ⟨nv, hnv⟩ : ∃ n, ks.length = n := ⟨_, rfl⟩
  obtain ⟨mv, hmv⟩ : ∃ n, ls.length = n := ⟨_, rfl⟩
  have HNV : Hid (ks.length = nv) := hnv
  have HMV : Hid (ls.length = mv) := hmv
  rw [hnv] at hkn
  clear hnv hmv
  go_enter Tryz.func92, Tryz.ntmps92
  go_upto_region 2 with (go_at_call 122; refine hU.mono ?_; rintro e w1 ⟨⟨kv', iv', tv', pv, nv', cv, qv, mv', dv, rfl, hv⟩, hb1⟩; obtain ⟨rfl, rfl, rfl, rfl, rfl, hvk, hvc, hvs⟩ := isJP_parts hv; rw [HNV.out, HMV.out]; rw [HMV.out] at hvc; clear hv)
  obtain ⟨W1, hW1⟩ : ∃ W1, W1 = w1.alloc (.cells #[.int .i64 kv', .int .i64 iv', .string tv', .slice pv nv cv, .slice qv mv dv] 36) := ⟨_, rfl⟩
  have hbW : Below w.heap.size w W1 := by rw [hW1]; exact belowP hb1 ((Below.refl _ _).alloc (Nat.le_refl _) _)
  have hs1 := hb1.size
  have hX : W1.heap[w1.heap.size]? = some (.cells #[.int .i64 kv', .int .i64 iv', .string tv', .slice pv nv cv, .slice qv mv dv] 36 (0, 0)) := by rw [hW1]; exact newP _
  have hsW : w1.heap.size < W1.heap.size := objP_lt hX
  have HRW : Hid (RdrIs W1 Rb (.int .i64 k) (.int .i64 i) (.string t) (.slice pk nk ck) (.slice pl nl cl) bad) := HR.out W1 hbW
  have HOB : Hid (∀ x, O x → x < W1.heap.size ∧ x ≠ Rb) := fun x hx => ⟨Nat.lt_of_lt_of_le (hO x hx).1 hbW.size, (hO x hx).2⟩
  have HVK : Hid (RdK O W1 pv cv ks) := hvk.carry fun x hx => ⟨hx, (by rw [hW1]; exact Below.heap_alloc _ _ _ (Nat.lt_of_lt_of_le (hO x hx).1 hb1.size))⟩
  have HVS : Hid (isJs O W1 qv 0 ls) := isJs.carry (fun x hx => ⟨hx, (by rw [hW1]; exact Below.heap_alloc _ _ _ (Nat.lt_of_lt_of_le (hO x hx).1 hb1.size))⟩) qv 0 ls hvs
  have hck := hvk.1
  rw [HNV.out] at hck
  have b0 := cellP hX 0 _ rfl; have b3 := cellP hX 3 _ rfl
  have r5 := cellP HRW.out 5 _ rfl
  have rz := fzP HRW.out 5
  rw [← hW1]
  clear hvk hvs hU hW1 hb1
  by_cases hk5 : kv' = 5
  · subst hk5
    go_wp2
    have HBX : Hid (W1.heap[w1.heap.size]? = some (.cells #[.int .i64 5, .int .i64 iv', .string tv', .slice pv nv cv, .slice qv mv dv] 36 (0, 0))) := hX
    clear r5 rz b0 b3 hX
    go_loopw [9, 29] (fun v x wx => ∃ n : Nat, x = .int .i64 n ∧ n ≤ nv ∧ wx.ownsRow W1.heap.size 98 2 v (((ks.zip ls).take n).map fun q => (q.1, q.2.nm)).length (flatN (((ks.zip ls).take n).map fun q => (q.1, q.2.nm))) ∧ RdrIs wx Rb (.int .i64 k) (.int .i64 i) (.string t) (.slice pk nk ck) (.slice pl nl cl) (bad || ((ks.zip ls).take n).any (badIn isT)) ∧ Keep (OneP Rb) W1 wx) (fun _ x _ => nv - (intOf x).toNat)
    case atStart => exact ⟨0, rfl, Nat.zero_le _, World.ownsRow_nil _ _ _ _, by simpa using HRW.out, Keep.refl _ _⟩
    case round =>
     obtain ⟨n, rfl, hn, hown, hrd, hkp⟩ := hrel
     have HF : Hid (∀ X, Keep (OneP Rb) W1 X → X.cell? ⟨w1.heap.size, 4, none⟩ = some (.slice qv mv dv)) := fun X hX => (World.cell?_of_block (a := ⟨w1.heap.size, 4, none⟩) (hX.block w1.heap.size hsW (by unfold OneP; omega))).trans (cellP HBX.out 4 _ rfl)
     by_cases hnv : n < nv
     · have hnk : n < ks.length := by rw [HNV.out]; exact hnv
       have hnm : n < mv := by have := HLE.out; rw [HNV.out, HMV.out] at this; omega
       have HT : Hid ((ks.zip ls).take (n + 1) = (ks.zip ls).take n ++ [(ks.getD n nix, ls.getD n J.zero)]) := zip_at hnk HLE.out
       obtain ⟨ad, rfl, hOa, hck1⟩ := HVK.out.2 n hnk
       have hkey : wr.cell? (ad.add n) = some (.string (ks.getD n nix)) := (World.cell?_of_block (by rw [add_block]; exact hkp.block _ (HOB.out _ hOa).1 (by unfold OneP; exact (HOB.out _ hOa).2))).trans hck1
       have hksz : (ks.getD n nix).size ≤ 1000000000 := by rw [List.getD_eq_getElem?_getD, List.getElem?_eq_getElem hnk]; exact HKS.out _ (List.getElem_mem hnk)
       obtain ⟨lb, lo, cs, hpl, hOb, hcells, hyj⟩ := isJs.at ls 0 n HVS.out (by rw [HMV.out]; exact hnm)
       subst hpl
       obtain ⟨ke, ie, te, pe, ne, ce, qe, me, de, rfl⟩ := isJ_shape hyj
       have HE : Hid ((ls.getD n J.zero).kd = ke ∧ (ls.getD n J.zero).nm = ie) := by
        generalize ls.getD n J.zero = y at hyj
        obtain ⟨_, _, _, _, _⟩ := y
        obtain ⟨rfl, rfl, _⟩ := isJP_parts hyj
        exact ⟨rfl, rfl⟩
       have HC : Hid (∀ X, Keep (OneP Rb) W1 X → X.cell? ⟨lb, lo + n * 5, none⟩ = some (.int .i64 ke) ∧ X.cell? ⟨lb, lo + n * 5 + 1, none⟩ = some (.int .i64 ie) ∧ X.cell? ⟨lb, lo + n * 5 + 2, none⟩ = some (.string te) ∧ X.cell? ⟨lb, lo + n * 5 + 3, none⟩ = some (.slice pe ne ce) ∧ X.cell? ⟨lb, lo + n * 5 + 4, none⟩ = some (.slice qe me de)) := fun X hX => by
        have cc : ∀ m v, [Value.int .i64 ke, .int .i64 ie, .string te, .slice pe ne ce, .slice qe me de][m]? = some v → X.cell? ⟨lb, lo + n * 5 + m, none⟩ = some v := fun m v h => by
         have := hcells m v h
         rw [Nat.zero_add] at this
         exact (World.cell?_of_block (a := ⟨lb, lo + n * 5 + m, none⟩) (hX.block lb (HOB.out lb hOb).1 (by unfold OneP; exact (HOB.out lb hOb).2))).trans this
        exact ⟨cc 0 _ rfl, cc 1 _ rfl, cc 2 _ rfl, cc 3 _ rfl, cc 4 _ rfl⟩
       have HB : Hid (∀ b, b = (bad || ((ks.zip ls).take n).any (badIn isT)) → (b || (!isT (ks.getD n nix) || !lvOk ke ie)) = (bad || ((ks.zip ls).take (n + 1)).any (badIn isT))) := fun b hb => by
        rw [hb, HT.out, List.any_append, Bool.or_assoc]
        simp only [List.any_cons, List.any_nil, Bool.or_false, badIn, HE.out.1, HE.out.2]
       have HL : Hid ((((ks.zip ls).take (n + 1)).map fun q => (q.1, q.2.nm)) = (((ks.zip ls).take n).map fun q => (q.1, q.2.nm)) ++ [(ks.getD n nix, ie)]) := by
        show _ = _
        rw [HT.out, List.map_append]
        simp only [List.map_cons, List.map_nil, HE.out.2]
       have HLN : Hid ((((ks.zip ls).take n).map fun q => (q.1, q.2.nm)).length ≤ 100000) := by
        show _ ≤ _
        simp only [List.length_map, List.length_take]
        omega
       have hlb := (HOB.out lb hOb).1
       generalize (((ks.zip ls).take n).map fun q => (q.1, q.2.nm)) = L at hown HL HLN
       obtain ⟨bn, hbn⟩ : ∃ b, b = (bad || ((ks.zip ls).take n).any (badIn isT)) := ⟨_, rfl⟩
       rw [← hbn] at hrd
       have HB2 := (show Hid _ from HB.out bn hbn)
       clear hbn HB hcells hyj hck1
       generalize ks.getD n nix = K at hkey hksz HB2 HL
       have hFt := isType_any (w := wr) K hksz
       have hRl := (hown.lt)
       have HOwn : Hid (wr.ownsRow W1.heap.size 98 2 _ L.length (flatN L)) := hown
       have HRd : Hid (RdrIs wr Rb (.int .i64 k) (.int .i64 i) (.string t) (.slice pk nk ck) (.slice pl nl cl) bn) := hrd
       have HKp : Hid (Keep (OneP Rb) W1 wr) := hkp
       have hsx := hkp.size
       have hRbx : Rb < wr.heap.size := by omega
       clear hown hrd hkp hRl
       cases hft : isT K with
       | true =>
        rw [hft] at hFt HB2
        go_wp2_with (first
         | (go_at_call 94; refine hFt.mono ?_; rintro e w2 ⟨rfl, hb2⟩
            have hk2 : Keep (OneP Rb) wr w2 := Keep.of_below hb2
            have x4 := HF.out w2 (HKp.out.then hk2)
            obtain ⟨e0, e1, e2, e3, e4⟩ := HC.out w2 (HKp.out.then hk2)
            have hLv := level_any ((hb2.block Rb hRbx).trans HRd.out) ke ie te pe qe ne ce me de
            have HK2 : Hid (Keep (OneP Rb) wr w2) := hk2
            clear hk2 hb2)
         | (go_at_call 123; refine hLv.mono ?_; rintro e w4 ⟨rfl, hr4, hk4⟩
            have hkx : Keep (OneP Rb) wr w4 := HK2.out.then hk4
            have hownA := (own_keep HOwn.out hkx (fun q hq => by have := (HOwn.out.lt q hq).1; unfold OneP; omega)).alloc (.cells #[.string K, .int .i64 ie] 98)
            have hrdA : RdN (fun _ => True) (w4.alloc (.cells #[.string K, .int .i64 ie] 98)) (some ⟨w4.heap.size, 0, none⟩) 1 [(K, ie)] := rdN_flat (l := [(K, ie)]) trivial (newP _)
            have hsz4 : W1.heap.size ≤ (w4.alloc (.cells #[.string K, .int .i64 ie] 98)).heap.size := by have := hkx.size; simp; omega
            have HR4 := (show Hid _ from hr4)
            have HKX : Hid (Keep (OneP Rb) wr w4) := hkx
            clear hr4 hk4 hkx e0 e1 e2 e3 e4 x4 hLv)
         | (refine wpList_append_rdN rfl _ _ rfl W1.heap.size _ L rfl hownA hrdA rfl (by have := HLN.out; omega) (by simp) hsz4 ?_; intro v5 w5 hown5 hg5))
        go_roundw
        case rel =>
         have hkA : Keep (OneP Rb) W1 (w4.alloc (.cells #[.string K, .int .i64 ie] 98)) := (HKp.out.then HKX.out).alloc _
         have hlt4 := objP_lt HR4.out
         refine ⟨n + 1, by simp, by omega, by rw [HL.out]; exact hown5, ?_, hkA.grown hg5 (fun q hq => (hownA.lt q hq).1)⟩
         rw [← HB2.out]
         refine (hg5.block Rb (by simp; omega) (fun e => by have := (hownA.lt Rb e.symm).1; omega)).trans ?_
         rw [Below.heap_alloc _ _ _ hlt4]
         simpa using HR4.out
        case measure => simp [intOf]; omega
       | false =>
        rw [hft] at hFt HB2
        go_wp2_with (first
         | (go_at_call 94; refine hFt.mono ?_; rintro e w2 ⟨rfl, hb2⟩
            have hR2 : RdrIs w2 Rb _ _ _ _ _ bn := (hb2.block Rb hRbx).trans HRd.out
            have r5 := cellP hR2 5 _ rfl
            have rz := fzP hR2 5
            have hk3 : Keep (OneP Rb) wr (w2.setCell ⟨Rb, 5, none⟩ (.bool true)) := Keep.setCell (S := OneP Rb) (p := ⟨Rb, 5, none⟩) (Keep.of_below hb2) (fun _ => (rfl : Rb = Rb)) _
            have x4 := HF.out _ (HKp.out.then hk3)
            obtain ⟨e0, e1, e2, e3, e4⟩ := HC.out _ (HKp.out.then hk3)
            have hLv := level_any (hR2.set true) ke ie te pe qe ne ce me de
            have HK2 : Hid (Keep (OneP Rb) wr (w2.setCell ⟨Rb, 5, none⟩ (.bool true))) := hk3
            clear hk3 hb2 hR2)
         | (go_at_call 123; refine hLv.mono ?_; rintro e w4 ⟨rfl, hr4, hk4⟩
            have hkx : Keep (OneP Rb) wr w4 := HK2.out.then hk4
            have hownA := (own_keep HOwn.out hkx (fun q hq => by have := (HOwn.out.lt q hq).1; unfold OneP; omega)).alloc (.cells #[.string K, .int .i64 ie] 98)
            have hrdA : RdN (fun _ => True) (w4.alloc (.cells #[.string K, .int .i64 ie] 98)) (some ⟨w4.heap.size, 0, none⟩) 1 [(K, ie)] := rdN_flat (l := [(K, ie)]) trivial (newP _)
            have hsz4 : W1.heap.size ≤ (w4.alloc (.cells #[.string K, .int .i64 ie] 98)).heap.size := by have := hkx.size; simp; omega
            have HR4 := (show Hid _ from hr4)
            have HKX : Hid (Keep (OneP Rb) wr w4) := hkx
            clear hr4 hk4 hkx e0 e1 e2 e3 e4 x4 hLv r5 rz)
         | (refine wpList_append_rdN rfl _ _ rfl W1.heap.size _ L rfl hownA hrdA rfl (by have := HLN.out; omega) (by simp) hsz4 ?_; intro v5 w5 hown5 hg5))
        go_roundw
        case rel =>
         have hkA : Keep (OneP Rb) W1 (w4.alloc (.cells #[.string K, .int .i64 ie] 98)) := (HKp.out.then HKX.out).alloc _
         have hlt4 := objP_lt HR4.out
         refine ⟨n + 1, by simp, by omega, by rw [HL.out]; exact hown5, ?_, hkA.grown hg5 (fun q hq => (hownA.lt q hq).1)⟩
         rw [← HB2.out]
         refine (hg5.block Rb (by simp; omega) (fun e => by have := (hownA.lt Rb e.symm).1; omega)).trans ?_
         rw [Below.heap_alloc _ _ _ hlt4]
         simpa using HR4.out
        case measure => simp [intOf]; omega
     · obtain rfl : n = nv := by omega
       have htk : (ks.zip ls).take n = ks.zip ls := List.take_of_length_le (by rw [List.length_zip, HNV.out]; omega)
       rw [htk] at hown hrd
       have HOwn := (show Hid _ from hown)
       have HRd := (show Hid _ from hrd)
       clear hown hrd htk
       go_wp2
       go_ret
       obtain ⟨p', c', hv', hrd'⟩ := own_rdN HOwn.out
       refine ⟨⟨p', c', by first | (rw [hv']; rfl) | (simp only [] ; rw [← hv']; rfl), hrd'.carry fun q hq => ⟨⟨by have := hbW.size; omega, hq.2⟩, rfl⟩⟩, ?_, (Keep.of_below hbW).then hkp⟩
       simpa [rowT, J.kd, J.ks, J.ls] using HRd.out
  · have hks := HNE.out hk5
    have hnv0 : nv = 0 := by rw [← HNV.out, hks]; rfl
    subst hnv0
    have HRS : Hid (RdrIs (W1.setCell ⟨Rb, 5, none⟩ (.bool true)) Rb (.int .i64 k) (.int .i64 i) (.string t) (.slice pk nk ck) (.slice pl nl cl) true) := HRW.out.set true
    have HKS2 : Hid (Keep (OneP Rb) w (W1.setCell ⟨Rb, 5, none⟩ (.bool true))) := Keep.setCell (S := OneP Rb) (p := ⟨Rb, 5, none⟩) (Keep.of_below hbW) (fun _ => (rfl : Rb = Rb)) _
    have HBX : Hid (W1.heap[w1.heap.size]? = some (.cells #[.int .i64 kv', .int .i64 iv', .string tv', .slice pv 0 cv, .slice qv mv dv] 36 (0, 0))) := hX
    have b3' : (W1.setCell ⟨Rb, 5, none⟩ (.bool true)).cell? ⟨w1.heap.size, 3, none⟩ = some (.slice pv 0 cv) := by
     rw [World.cell?_of_block (Below.heap_setCell W1 ⟨Rb, 5, none⟩ _ w1.heap.size (by simp; omega))]; exact b3
    have HRO : Hid (rowT isT (some (.mk kv' iv' tv' ks ls)) = ([], true)) := by
     show _ = _
     simp [rowT, rowsOf, J.kd, J.ks, J.ls, hks, hk5]
    clear hX hks
    go_wp2
    go_loopw [9, 29] (fun v x wx => v = .slice none 0 0 ∧ x = .int .i64 0 ∧ Hid (wx = W1.setCell ⟨Rb, 5, none⟩ (.bool true))) (fun _ _ _ => 0)
    case atStart => exact ⟨rfl, rfl, rfl⟩
    case round =>
     obtain ⟨rfl, rfl, hwr⟩ := hrel
     go_wp2
     go_ret
     rw [HRO.out, hwr.out]
     exact ⟨⟨none, 0, rfl, RdN.nil _ _ _ _ fun _ => rfl⟩, by simpa using HRS.out, HKS2.out⟩
def parseL (j : J) : Lv := ⟨(numT 50 (lookV j.ks j.ls kBan)).1, (numT 50 (lookV j.ks j.ls kKick)).1, (numT 0 (lookV j.ks j.ls kInvite)).1, (numT 50 (lookV j.ks j.ls kRedact)).1, (numT 50 (lookV j.ks j.ls kState)).1, (numT 0 (lookV j.ks j.ls kEvents)).1, (numT 0 (lookV j.ks j.ls kUsers)).1, (rowT isU (lookV j.ks j.ls kByUser)).1, (rowT isT (lookV j.ks j.ls kByType)).1⟩
def parseB (j : J) : Bool := ((((((((!decide (j.kd = 5) || (numT 50 (lookV j.ks j.ls kBan)).2) || (numT 50 (lookV j.ks j.ls kKick)).2) || (numT 0 (lookV j.ks j.ls kInvite)).2) || (numT 50 (lookV j.ks j.ls kRedact)).2) || (numT 50 (lookV j.ks j.ls kState)).2) || (numT 0 (lookV j.ks j.ls kEvents)).2) || (numT 0 (lookV j.ks j.ls kUsers)).2) || (rowT isU (lookV j.ks j.ls kByUser)).2) || (rowT isT (lookV j.ks j.ls kByType)).2
abbrev zeroL : Lv := ⟨0, 0, 0, 0, 0, 0, 0, [], []⟩
def parseT (j : J) : Lv × Int := if parseB j then (zeroL, 1) else (parseL j, 0)
theorem parse_any {O : Nat → Prop} {w : World} {c : J} {k i : Int} {t : ByteArray} {pk pl : Option Addr} {nk ck nl cl : Nat} (hj : isJ O w c [.int .i64 k, .int .i64 i, .string t, .slice pk nk ck, .slice pl nl cl]) (hO : ∀ x, O x → x < w.heap.size) (hsz : szJ 12 c = true) :
    Calls Tryz.prog 63 #[.agg #[.int .i64 k, .int .i64 i, .string t, .slice pk nk ck, .slice pl nl cl]] w fun e w' => (∃ p, e = .returned (.tuple #[valL (parseT (ordT c)).1 p, .int .i64 (parseT (ordT c)).2]) ∧ IsL (fun b => w.heap.size ≤ b ∧ b < w'.heap.size) w' (parseT (ordT c)).1 p) ∧ Below w.heap.size w w' := by
 obtain ⟨wA, hwA⟩ : ∃ wA, wA = (w.alloc (.cells #[.int .i64 k, .int .i64 i, .string t, .slice pk nk ck, .slice pl nl cl] 36)).alloc (.cells #[.int .i64 0, .int .i64 0, .int .i64 0, .int .i64 0, .int .i64 0, .int .i64 0, .int .i64 0, .slice none 0 0, .slice none 0 0] 60) := ⟨_, rfl⟩
 have hbA : Below w.heap.size w wA := by rw [hwA]; exact ((Below.refl _ _).alloc (Nat.le_refl _) _).alloc (by simp) _
 have hsA : wA.heap.size = w.heap.size + 2 := by rw [hwA]; simp
 have hA0 : wA.heap[w.heap.size]? = some (.cells #[.int .i64 k, .int .i64 i, .string t, .slice pk nk ck, .slice pl nl cl] 36 (0, 0)) := by rw [hwA, Below.heap_alloc _ _ _ (by simp)]; exact newP _
 have hA1 : wA.heap[w.heap.size + 1]? = some (.cells #[.int .i64 0, .int .i64 0, .int .i64 0, .int .i64 0, .int .i64 0, .int .i64 0, .int .i64 0, .slice none 0 0, .slice none 0 0] 60 (0, 0)) := by
  rw [hwA]
  have := newP (w := w.alloc (.cells #[.int .i64 k, .int .i64 i, .string t, .slice pk nk ck, .slice pl nl cl] 36)) (.cells #[.int .i64 0, .int .i64 0, .int .i64 0, .int .i64 0, .int .i64 0, .int .i64 0, .int .i64 0, .slice none 0 0, .slice none 0 0] 60)
  rw [World.size_alloc] at this
  exact this
 have hOr := order_any (fun x hx => Nat.lt_of_lt_of_le (hO x hx) hbA.size) hsz (hj.carry (O' := O) (w' := wA) fun x hx => ⟨hx, hbA.block x (hO x hx)⟩)
 have HOK : Hid (OkJ 12 (ordT c)) := ordT_okJ hsz
 have b0 := cellP hA0 0 _ rfl; have b1 := cellP hA0 1 _ rfl; have b2 := cellP hA0 2 _ rfl; have b3 := cellP hA0 3 _ rfl; have b4 := cellP hA0 4 _ rfl
 generalize ordT c = j at hOr HOK
 have HA1 : Hid (∀ X, Below wA.heap.size wA X → X.heap[w.heap.size + 1]? = some (.cells #[.int .i64 0, .int .i64 0, .int .i64 0, .int .i64 0, .int .i64 0, .int .i64 0, .int .i64 0, .slice none 0 0, .slice none 0 0] 60 (0, 0))) := fun X hX => (hX.block _ (by omega)).trans hA1
 clear hj hO hsz hA0 hA1
 go_enter Tryz.func63, Tryz.ntmps63
 go_upto_region 1 with fail
 rw [← hwA]
 clear hwA
 go_upto_region 2 with (go_at_call 90; refine hOr.mono ?_; rintro e w1 ⟨⟨kr, ir, tr, pr, nr, cr, qr, mr, dr, rfl, hjr⟩, hb1⟩)
 go_upto_region 3 with fail
 have hs1 := hb1.size
 obtain ⟨W2, hW2⟩ : ∃ W2, W2 = (w1.alloc (.cells #[.int .i64 kr, .int .i64 ir, .string tr, .slice pr nr cr, .slice qr mr dr] 36)).alloc (.cells #[.int .i64 kr, .int .i64 ir, .string tr, .slice pr nr cr, .slice qr mr dr, .bool (kr != 5)] 120) := ⟨_, rfl⟩
 have hb2 : Below w1.heap.size w1 W2 := by rw [hW2]; exact ((Below.refl _ _).alloc (Nat.le_refl _) _).alloc (by simp) _
 have hs2 : W2.heap.size = w1.heap.size + 2 := by rw [hW2]; simp
 have hr0 : RdrIs W2 (w1.heap.size + 1) (.int .i64 kr) (.int .i64 ir) (.string tr) (.slice pr nr cr) (.slice qr mr dr) (kr != 5) := by
  rw [hW2]
  have := newP (w := w1.alloc (.cells #[.int .i64 kr, .int .i64 ir, .string tr, .slice pr nr cr, .slice qr mr dr] 36)) (.cells #[.int .i64 kr, .int .i64 ir, .string tr, .slice pr nr cr, .slice qr mr dr, .bool (kr != 5)] 120)
  rw [World.size_alloc] at this
  exact this
 have HB0 : Hid ((kr != 5) = !decide (j.kd = 5)) := by
  show _ = _
  obtain ⟨_, _, _, _, _⟩ := j
  obtain ⟨rfl, _⟩ := isJP_parts hjr
  show (kr != 5) = !decide (kr = 5)
  by_cases h : kr = 5 <;> simp [h]
 have hj2 : isJ (fun b => b < w1.heap.size) W2 j [.int .i64 kr, .int .i64 ir, .string tr, .slice pr nr cr, .slice qr mr dr] := hjr.carry fun x hx => ⟨hx, hb2.block x hx⟩
 have HNum : Hid (∀ X bad s z, Keep (OneP (w1.heap.size + 1)) W2 X → RdrIs X (w1.heap.size + 1) (.int .i64 kr) (.int .i64 ir) (.string tr) (.slice pr nr cr) (.slice qr mr dr) bad → Calls Tryz.prog 91 #[.pointer (some ⟨w1.heap.size + 1, 0, none⟩), .string s, .int .i64 z] X fun e w' => e = .returned (.int .i64 (numT z (lookV j.ks j.ls s)).1) ∧ RdrIs w' (w1.heap.size + 1) (.int .i64 kr) (.int .i64 ir) (.string tr) (.slice pr nr cr) (.slice qr mr dr) (bad || (numT z (lookV j.ks j.ls s)).2) ∧ Keep (OneP (w1.heap.size + 1)) X w') := fun X bad s z hX hR =>
  numberP_any (d := 11) hR (hj2.carry (O' := fun b => b < w1.heap.size) fun x hx => ⟨hx, hX.block x (by omega) (by unfold OneP; omega)⟩) (fun x hx => by have := hX.size; omega) HOK.out s z
 have HRowU : Hid (∀ X bad, Keep (OneP (w1.heap.size + 1)) W2 X → RdrIs X (w1.heap.size + 1) (.int .i64 kr) (.int .i64 ir) (.string tr) (.slice pr nr cr) (.slice qr mr dr) bad → Calls Tryz.prog 92 #[.pointer (some ⟨w1.heap.size + 1, 0, none⟩), .string kByUser, .func (.func 93) #[] #[]] X fun e w' => (∃ p c, e = .returned (.slice p (rowT isU (lookV j.ks j.ls kByUser)).1.length c) ∧ RdN (fun b => X.heap.size ≤ b ∧ b < w'.heap.size) w' p c (rowT isU (lookV j.ks j.ls kByUser)).1) ∧ RdrIs w' (w1.heap.size + 1) (.int .i64 kr) (.int .i64 ir) (.string tr) (.slice pr nr cr) (.slice qr mr dr) (bad || (rowT isU (lookV j.ks j.ls kByUser)).2) ∧ Keep (OneP (w1.heap.size + 1)) X w') := fun X bad hX hR =>
  row_users (d := 10) hR (hj2.carry (O' := fun b => b < w1.heap.size) fun x hx => ⟨hx, hX.block x (by omega) (by unfold OneP; omega)⟩) (fun x hx => ⟨by have := hX.size; omega, by omega⟩) HOK.out kByUser
 have HRowT : Hid (∀ X bad, Keep (OneP (w1.heap.size + 1)) W2 X → RdrIs X (w1.heap.size + 1) (.int .i64 kr) (.int .i64 ir) (.string tr) (.slice pr nr cr) (.slice qr mr dr) bad → Calls Tryz.prog 92 #[.pointer (some ⟨w1.heap.size + 1, 0, none⟩), .string kByType, .func (.func 94) #[] #[]] X fun e w' => (∃ p c, e = .returned (.slice p (rowT isT (lookV j.ks j.ls kByType)).1.length c) ∧ RdN (fun b => X.heap.size ≤ b ∧ b < w'.heap.size) w' p c (rowT isT (lookV j.ks j.ls kByType)).1) ∧ RdrIs w' (w1.heap.size + 1) (.int .i64 kr) (.int .i64 ir) (.string tr) (.slice pr nr cr) (.slice qr mr dr) (bad || (rowT isT (lookV j.ks j.ls kByType)).2) ∧ Keep (OneP (w1.heap.size + 1)) X w') := fun X bad hX hR =>
  row_types (d := 10) hR (hj2.carry (O' := fun b => b < w1.heap.size) fun x hx => ⟨hx, hX.block x (by omega) (by unfold OneP; omega)⟩) (fun x hx => ⟨by have := hX.size; omega, by omega⟩) HOK.out kByType
 rw [← hW2]
 have HBW : Hid (Below w.heap.size w W2) := belowP hbA (belowP hb1 hb2)
 have HBA : Hid (Below wA.heap.size wA W2) := belowP hb1 hb2
 clear hjr hj2 hOr hW2 b0 b1 b2 b3 b4
 have HPB : Hid (parseB j = ((((((((((kr != 5) || (numT 50 (lookV j.ks j.ls kBan)).2) || (numT 50 (lookV j.ks j.ls kKick)).2) || (numT 0 (lookV j.ks j.ls kInvite)).2) || (numT 50 (lookV j.ks j.ls kRedact)).2) || (numT 50 (lookV j.ks j.ls kState)).2) || (numT 0 (lookV j.ks j.ls kEvents)).2) || (numT 0 (lookV j.ks j.ls kUsers)).2) || (rowT isU (lookV j.ks j.ls kByUser)).2) || (rowT isT (lookV j.ks j.ls kByType)).2)) := by show _ = _; unfold parseB; rw [HB0.out]
 generalize (kr != 5) = bad0 at hr0 HPB ⊢
 have hN1 := HNum.out W2 bad0 kBan 50 (Keep.refl _ _) hr0
 go_upto_region 4 with (first
  | (go_at_call 91; refine hN1.mono ?_; rintro e v1 ⟨rfl, hr1, hk1⟩
     have HK1 : Hid (Keep (OneP (w1.heap.size + 1)) W2 v1) := hk1
     have hN2 := HNum.out v1 _ kKick 50 HK1.out hr1
     clear hN1 hk1 hr1)
  | (go_at_call 91; refine hN2.mono ?_; rintro e v2 ⟨rfl, hr2, hk2⟩
     have HK2 : Hid (Keep (OneP (w1.heap.size + 1)) W2 v2) := HK1.out.then hk2
     have hN3 := HNum.out v2 _ kInvite 0 HK2.out hr2
     clear hN2 hk2 hr2)
  | (go_at_call 91; refine hN3.mono ?_; rintro e v3 ⟨rfl, hr3, hk3⟩
     have HK3 : Hid (Keep (OneP (w1.heap.size + 1)) W2 v3) := HK2.out.then hk3
     have hN4 := HNum.out v3 _ kRedact 50 HK3.out hr3
     clear hN3 hk3 hr3)
  | (go_at_call 91; refine hN4.mono ?_; rintro e v4 ⟨rfl, hr4, hk4⟩
     have HK4 : Hid (Keep (OneP (w1.heap.size + 1)) W2 v4) := HK3.out.then hk4
     have hN5 := HNum.out v4 _ kState 50 HK4.out hr4
     clear hN4 hk4 hr4)
  | (go_at_call 91; refine hN5.mono ?_; rintro e v5 ⟨rfl, hr5, hk5⟩
     have HK5 : Hid (Keep (OneP (w1.heap.size + 1)) W2 v5) := HK4.out.then hk5
     have hN6 := HNum.out v5 _ kEvents 0 HK5.out hr5
     clear hN5 hk5 hr5)
  | (go_at_call 91; refine hN6.mono ?_; rintro e v6 ⟨rfl, hr6, hk6⟩
     have HK6 : Hid (Keep (OneP (w1.heap.size + 1)) W2 v6) := HK5.out.then hk6
     have hN7 := HNum.out v6 _ kUsers 0 HK6.out hr6
     clear hN6 hk6 hr6)
  | (go_at_call 91; refine hN7.mono ?_; rintro e v7 ⟨rfl, hr7, hk7⟩
     have HK7 : Hid (Keep (OneP (w1.heap.size + 1)) W2 v7) := HK6.out.then hk7
     have hN8 := HRowU.out v7 _ HK7.out hr7
     clear hN7 hk7 hr7)
  | (go_at_call 92; refine hN8.mono ?_; rintro e v8 ⟨⟨pu, cu, rfl, hru⟩, hr8, hk8⟩
     have HK8 : Hid (Keep (OneP (w1.heap.size + 1)) W2 v8) := HK7.out.then hk8
     have HRU := (show Hid _ from hru)
     have hN9 := HRowT.out v8 _ HK8.out hr8
     clear hN8 hk8 hr8 hru)
  | (go_at_call 92; refine hN9.mono ?_; rintro e v9 ⟨⟨pt, ct, rfl, hrt⟩, hr9, hk9⟩
     have HK9 : Hid (Keep (OneP (w1.heap.size + 1)) W2 v9) := HK8.out.then hk9
     have HK89 : Hid (Keep (OneP (w1.heap.size + 1)) v8 v9) := hk9
     have HRT := (show Hid _ from hrt)
     have HR9 := (show Hid _ from hr9)
     clear hN9 hk9 hr9 hrt))
 have hR9 := HR9.out
 rw [← HPB.out] at hR9
 obtain ⟨WE, hWE⟩ : ∃ WE, WE = v9.alloc (.cells (cellsL (parseL j) ⟨pu, cu, pt, ct⟩).toArray 60) := ⟨_, rfl⟩
 have hbE : Below v9.heap.size v9 WE := by rw [hWE]; exact (Below.refl _ _).alloc (Nat.le_refl _) _
 have hL : WE.heap[v9.heap.size]? = some (.cells (cellsL (parseL j) ⟨pu, cu, pt, ct⟩).toArray 60 (0, 0)) := by rw [hWE]; exact newP _
 have hRE : RdrIs WE (w1.heap.size + 1) (.int .i64 kr) (.int .i64 ir) (.string tr) (.slice pr nr cr) (.slice qr mr dr) (parseB j) := (hbE.block _ (objP_lt hR9)).trans hR9
 have h9s := HK9.out.size
 have hZ : WE.heap[w.heap.size + 1]? = some (.cells #[.int .i64 0, .int .i64 0, .int .i64 0, .int .i64 0, .int .i64 0, .int .i64 0, .int .i64 0, .slice none 0 0, .slice none 0 0] 60 (0, 0)) :=
  (hbE.block _ (by omega)).trans ((HK9.out.block _ (by omega) (by unfold OneP; omega)).trans (HA1.out W2 HBA.out))
 have hbF : Below w.heap.size w WE := belowP (HBW.out.trans (HK9.out.below HBW.out.size fun q hq e => by unfold OneP at e; omega)) hbE
 have HIS : Hid (IsL (fun b => w.heap.size ≤ b ∧ b < WE.heap.size ∧ b ≠ w.heap.size + 1) WE (parseL j) ⟨pu, cu, pt, ct⟩) := by
  have h8 := HK8.out.size
  have h89 := HK89.out.size
  have hE := hbE.size
  refine ⟨RdN.carry HRU.out fun b hb => ⟨⟨by have := hb.1; have := HK7.out.size; omega, by omega, by have := hb.1; have := HK7.out.size; omega⟩, (hbE.block b (by omega)).trans (HK89.out.block b hb.2 (by have := hb.1; have := HK7.out.size; unfold OneP; omega))⟩, RdN.carry HRT.out fun b hb => ⟨⟨by have := hb.1; omega, by omega, by have := hb.1; omega⟩, hbE.block b hb.2⟩⟩
 have r5 := cellP hRE 5 _ rfl
 have g0 := cellP hZ 0 _ rfl; have g1 := cellP hZ 1 _ rfl; have g2 := cellP hZ 2 _ rfl; have g3 := cellP hZ 3 _ rfl; have g4 := cellP hZ 4 _ rfl; have g5 := cellP hZ 5 _ rfl; have g6 := cellP hZ 6 _ rfl; have g7 := cellP hZ 7 _ rfl; have g8 := cellP hZ 8 _ rfl
 have z0 := fzP hZ 0; have z1 := fzP hZ 1; have z2 := fzP hZ 2; have z3 := fzP hZ 3; have z4 := fzP hZ 4; have z5 := fzP hZ 5; have z6 := fzP hZ 6; have z7 := fzP hZ 7; have z8 := fzP hZ 8
 have HZ := (show Hid _ from hZ)
 have HPT : Hid (parseT j = if parseB j then (zeroL, 1) else (parseL j, 0)) := rfl
 have hltZ := objP_lt hZ
 change Code.wp _ _ _ _ (v9.alloc (.cells (cellsL (parseL j) ⟨pu, cu, pt, ct⟩).toArray 60))
 rw [← hWE]
 cases hpb : parseB j with
 | true =>
  rw [hpb] at r5 HPT
  clear hWE hL hRE hR9 HR9 HPB hZ
  go_wp2
  have h9 := setL_all (b := w.heap.size + 1) [.int .i64 0, .int .i64 0, .int .i64 0, .int .i64 0, .int .i64 0, .int .i64 0, .int .i64 0, .slice none 0 0, .slice none 0 0] HZ.out rfl
  have HK := setL_keep (w.heap.size + 1) [.int .i64 0, .int .i64 0, .int .i64 0, .int .i64 0, .int .i64 0, .int .i64 0, .int .i64 0, .slice none 0 0, .slice none 0 0] WE 0
  simp only [setL, Nat.zero_add, Nat.reduceAdd] at h9 HK
  refine bodyPost_ret (resultsP_cell_tmp rfl _ _ _ rfl (loadL9 h9)) rfl ?_
  rw [HPT.out]
  exact ⟨⟨⟨none, 0, none, 0⟩, rfl, RdN.nil _ _ _ _ fun _ => rfl, RdN.nil _ _ _ _ fun _ => rfl⟩, hbF.trans (HK.below hbF.size fun q hq e => by unfold OneP at e; omega)⟩
 | false =>
  rw [hpb] at r5 HPT
  have c0 := cellP hL 0 _ rfl; have c1 := cellP hL 1 _ rfl; have c2 := cellP hL 2 _ rfl; have c3 := cellP hL 3 _ rfl; have c4 := cellP hL 4 _ rfl; have c5 := cellP hL 5 _ rfl; have c6 := cellP hL 6 _ rfl; have c7 := cellP hL 7 _ rfl; have c8 := cellP hL 8 _ rfl
  clear hWE hRE hR9 HR9 HPB hZ hL
  generalize parseL j = PL at c0 c1 c2 c3 c4 c5 c6 c7 c8 HIS HPT
  go_wp2
  have h9 := setL_all (b := w.heap.size + 1) [.int .i64 PL.ban, .int .i64 PL.kick, .int .i64 PL.invite, .int .i64 PL.redact, .int .i64 PL.state, .int .i64 PL.events, .int .i64 PL.users, .slice pu PL.byUser.length cu, .slice pt PL.byType.length ct] HZ.out rfl
  have HK := setL_keep (w.heap.size + 1) [.int .i64 PL.ban, .int .i64 PL.kick, .int .i64 PL.invite, .int .i64 PL.redact, .int .i64 PL.state, .int .i64 PL.events, .int .i64 PL.users, .slice pu PL.byUser.length cu, .slice pt PL.byType.length ct] WE 0
  simp only [setL, Nat.zero_add, Nat.reduceAdd] at h9 HK
  refine bodyPost_ret (resultsP_cell_tmp rfl _ _ _ rfl (loadL9 h9)) rfl ?_
  rw [HPT.out]
  refine ⟨⟨⟨pu, cu, pt, ct⟩, rfl, HIS.out.carry fun b hb => ⟨⟨hb.1, Nat.lt_of_lt_of_le hb.2.1 HK.size⟩, HK.block b hb.2.1 (by unfold OneP; exact hb.2.2)⟩⟩, hbF.trans (HK.below hbF.size fun q hq e => by unfold OneP at e; omega)⟩
theorem lookJ_find : ∀ (ks : List ByteArray) (l : List J) (s : ByteArray), lookV ks l s = ((ks.zip l).find? fun q => q.1.toList == s.toList).map (·.2)
 | [], _, _ => by simp [lookV]
 | _ :: _, [], _ => by simp [lookV]
 | k :: ks, v :: l, s => by
  unfold lookV
  rw [List.zip_cons_cons, List.find?_cons]
  cases k.toList == s.toList with
  | true => rfl
  | false => exact lookJ_find ks l s
theorem find_perm {q r : List (ByteArray × J)} (h : q.Perm r) (s : ByteArray) (hp : q.Pairwise fun a b => a.1 ≠ b.1) : q.find? (fun x => x.1.toList == s.toList) = r.find? (fun x => x.1.toList == s.toList) := by
 induction h with
 | nil => rfl
 | cons x _ ih => rw [List.find?_cons, List.find?_cons, ih (List.pairwise_cons.1 hp).2]
 | swap x y l =>
  simp only [List.find?_cons]
  cases hy : y.1.toList == s.toList <;> cases hx : x.1.toList == s.toList <;> try rfl
  exact absurd ((bytes_eq.1 hy).trans (bytes_eq.1 hx).symm) ((List.pairwise_cons.1 hp).1 x (by simp))
 | trans h1 _ ih1 ih2 => exact (ih1 hp).trans (ih2 (h1.pairwise hp fun h => h.symm))
theorem zip_parts : ∀ q : List (ByteArray × J), (q.map (·.1)).zip (q.map (·.2)) = q
 | [] => rfl
 | x :: q => by rw [List.map_cons, List.map_cons, List.zip_cons_cons, zip_parts q]
theorem look_ordL : ∀ (ks : List ByteArray) (l : List J) (s : ByteArray), lookV ks (ordL l) s = (lookV ks l s).map ord
 | [], _, _ => by unfold lookV; rfl
 | _ :: _, [], _ => by rw [ordL]; unfold lookV; rfl
 | k :: ks, v :: l, s => by
  rw [ordL]
  unfold lookV
  split
  · rfl
  · exact look_ordL ks l s
theorem look_ord {d : Nat} {j : J} (hg : goodJ (d + 1) j = true) (s : ByteArray) : lookV (ord j).ks (ord j).ls s = (lookV j.ks j.ls s).map ord := by
 obtain ⟨k, i, t, ks, l⟩ := j
 obtain ⟨_, hg5, hgn⟩ := good_sub hg
 rw [ord]
 by_cases k5 : k = 5
 · obtain ⟨hlen, hp⟩ := hg5 k5
   rw [if_pos k5]
   unfold mapOf
   simp only [J.ks, J.ls]
   have hpz : (ks.zip (ordL l)).Pairwise fun a b => a.1 ≠ b.1 := by
    have : ((ks.zip (ordL l)).map (·.1)).Pairwise (· ≠ ·) := by rw [List.map_fst_zip (by rw [ordL_length]; omega)]; exact hp
    exact List.pairwise_map.1 this
   rw [lookJ_find, zip_parts, ← find_perm (sortK_perm (ks.zip (ordL l))).symm s hpz, ← lookJ_find, look_ordL]
 · rw [if_neg k5, hgn k5]
   simp only [J.ks, J.ls]
   unfold lookV
   rfl
theorem kd_ord (v : J) : (ord v).kd = v.kd := by
 obtain ⟨k, i, t, ks, l⟩ := v
 rw [ord]
 split
 · rename_i h; simp only [mapOf, J.kd, h]
 · rfl
theorem nm_ord {d : Nat} {v : J} (hg : goodJ (d + 1) v = true) : (ord v).nm = v.nm := by
 obtain ⟨k, i, t, ks, l⟩ := v
 rw [ord]
 split
 · rename_i h
   rw [goodJ, Bool.and_eq_true] at hg
   have hb := hg.1
   unfold bare at hb
   simp only [Bool.and_eq_true, Bool.or_eq_true, decide_eq_true_eq] at hb
   simp only [mapOf, J.nm]
   omega
 · rfl
theorem good_up : ∀ (d : Nat) (j : J), goodJ d j = true → goodJ (d + 1) j = true
 | 0, _, h => by unfold goodJ at h; cases h
 | d + 1, .mk k i t ks l, h => by
  have hl : l.all (goodJ d) = true → l.all (goodJ (d + 1)) = true := fun h => List.all_eq_true.2 fun x hx => good_up d x (List.all_eq_true.1 h x hx)
  rw [goodJ, Bool.and_eq_true] at h
  rw [goodJ, Bool.and_eq_true]
  refine ⟨h.1, ?_⟩
  have h2 := h.2
  by_cases k0 : k = 0
  · rw [if_pos k0]
  rw [if_neg k0] at h2 ⊢
  by_cases k1 : k = 1
  · rw [if_pos k1] at h2 ⊢; exact h2
  rw [if_neg k1] at h2 ⊢
  by_cases k2 : k = 2
  · rw [if_pos k2] at h2 ⊢; exact h2
  rw [if_neg k2] at h2 ⊢
  by_cases k3 : k = 3
  · rw [if_pos k3] at h2 ⊢; exact h2
  rw [if_neg k3] at h2 ⊢
  by_cases k4 : k = 4
  · rw [if_pos k4] at h2 ⊢; exact hl h2
  rw [if_neg k4] at h2 ⊢
  by_cases k5 : k = 5
  · rw [if_pos k5, Bool.and_eq_true] at h2 ⊢
    exact ⟨h2.1, hl h2.2⟩
  rw [if_neg k5] at h2
  cases h2
theorem good_in {d : Nat} {j v : J} (hg : goodJ (d + 1) j = true) (h : v ∈ j.ls) : goodJ d v = true := by
 obtain ⟨k, i, t, ks, l⟩ := j
 exact List.all_eq_true.1 (good_sub hg).1 v h
theorem numT_ord {d : Nat} {j : J} (hg : goodJ (d + 2) j = true) (z : Int) (s : ByteArray) : numT z (lookV (ord j).ks (ord j).ls s) = numT z (lookV j.ks j.ls s) := by
 rw [look_ord hg]
 cases h : lookV j.ks j.ls s with
 | none => rfl
 | some v =>
  have hv := good_in hg (lookJ_mem h)
  simp only [Option.map_some, numT, kd_ord, nm_ord hv]
def getT (j : J) (s : ByteArray) : Option J := if j.kd = 5 then lookV j.ks j.ls s else none
def namT (fit : ByteArray → Bool) : Option J → Nms × Bool
 | none => ([], false)
 | some v => if v.kd = 5 then (if ((ordT v).ks.zip (ordT v).ls).any (badIn fit) then ([], true) else (rowsOf (ordT v), false)) else ([], true)
theorem namT_bad (fit : ByteArray → Bool) {j : J} (hg : goodJ 12 j = true) (s : ByteArray) : (namT fit (lookV j.ks j.ls s)).2 = (rowT fit (lookV (ord j).ks (ord j).ls s)).2 ∧ ((namT fit (lookV j.ks j.ls s)).2 = false → (namT fit (lookV j.ks j.ls s)).1 = (rowT fit (lookV (ord j).ks (ord j).ls s)).1) := by
 rw [look_ord hg]
 cases h : lookV j.ks j.ls s with
 | none => exact ⟨rfl, fun _ => rfl⟩
 | some v =>
  have hv : goodJ 12 v = true := good_up 11 v (good_in hg (lookJ_mem h))
  have e : ordT v = ord v := by unfold ordT; rw [if_pos hv]
  simp only [Option.map_some, namT, rowT, kd_ord, e]
  by_cases k5 : v.kd = 5
  · rw [if_pos k5]
    cases hb : ((ord v).ks.zip (ord v).ls).any (badIn fit) with
    | true => exact ⟨by simp, fun h => by simp at h⟩
    | false => exact ⟨by simp [k5], fun _ => by simp⟩
  · rw [if_neg k5]
    exact ⟨by simp [k5], fun h => by simp at h⟩
def rparB (c : J) : Bool := ((((((((numT 50 (getT c kBan)).2 || (numT 50 (getT c kKick)).2) || (numT 0 (getT c kInvite)).2) || (numT 50 (getT c kRedact)).2) || (numT 50 (getT c kState)).2) || (numT 0 (getT c kEvents)).2) || (numT 0 (getT c kUsers)).2) || (namT isU (getT c kByUser)).2) || (namT isT (getT c kByType)).2
def rparL (c : J) : Lv := ⟨(numT 50 (getT c kBan)).1, (numT 50 (getT c kKick)).1, (numT 0 (getT c kInvite)).1, (numT 50 (getT c kRedact)).1, (numT 50 (getT c kState)).1, (numT 0 (getT c kEvents)).1, (numT 0 (getT c kUsers)).1, (namT isU (getT c kByUser)).1, (namT isT (getT c kByType)).1⟩
def rparseT (c : J) : Lv × Int := if (decide (c.kd = 5) && goodJ 12 c) = true then (if rparB c then (zeroL, 1) else (rparL c, 0)) else (zeroL, 1)
theorem parse_zero : parseT J.zero = (zeroL, 1) := by
 unfold parseT
 rw [show parseB J.zero = true from by kernel_rfl]
 rfl
theorem parse_off {j : J} (h : j.kd ≠ 5) : parseT j = (zeroL, 1) := by
 unfold parseT
 rw [show parseB j = true from by simp [parseB, h]]
 rfl
theorem parse_same (c : J) : parseT (ordT c) = rparseT c := by
 unfold rparseT ordT
 cases hg : goodJ 12 c with
 | false => simp [parse_zero]
 | true =>
  by_cases k5 : c.kd = 5
  · simp only [k5, decide_true, Bool.and_self, if_true]
    have gt : ∀ s, getT c s = lookV c.ks c.ls s := fun s => by unfold getT; rw [if_pos k5]
    have hu := namT_bad isU hg kByUser
    have hy := namT_bad isT hg kByType
    have hk : (ord c).kd = 5 := by rw [kd_ord, k5]
    have eb : parseB (ord c) = rparB c := by
     unfold parseB rparB
     simp only [gt, numT_ord (d := 10) hg, hk, decide_true, Bool.not_true, Bool.false_or, hu.1, hy.1]
    unfold parseT
    rw [eb]
    cases hb : rparB c with
    | true => rfl
    | false =>
     simp only [Bool.false_eq_true, if_false]
     unfold rparB at hb
     simp only [Bool.or_eq_false_iff, gt] at hb
     unfold parseL rparL
     simp only [gt, numT_ord (d := 10) hg, hu.2 hb.1.2, hy.2 hb.2]
  · simp only [k5, decide_false, Bool.false_and, if_true]
    exact parse_off (by rw [kd_ord]; exact k5)
theorem lookJ_step : ∀ {ks : List ByteArray} {l : List J} {s : ByteArray} {n : Nat}, n < ks.length → n < l.length → (∀ m, m < n → ((ks.getD m nix).toList == s.toList) = false) → ((ks.getD n nix).toList == s.toList) = true → lookV ks l s = some (l.getD n J.zero)
 | [], _, _, _, h, _, _, _ => absurd h (by simp)
 | _ :: _, [], _, _, _, h, _, _ => absurd h (by simp)
 | k :: ks, v :: l, s, 0, _, _, _, he => by
  have he : (k.toList == s.toList) = true := by simpa using he
  unfold lookV
  rw [if_pos he]
  simp
 | k :: ks, v :: l, s, n + 1, h1, h2, hm, he => by
  have h0 : (k.toList == s.toList) = false := by have := hm 0 (by omega); simpa using this
  unfold lookV
  rw [h0, if_neg (by decide), lookJ_step (n := n) (by simpa using h1) (by simpa using h2) (fun m h => by have := hm (m + 1) (by omega); simpa using this) (by simpa using he)]
  simp
theorem lookJ_miss : ∀ {ks : List ByteArray} {l : List J} {s : ByteArray}, (∀ m, m < ks.length → m < l.length → ((ks.getD m nix).toList == s.toList) = false) → lookV ks l s = none
 | [], _, _, _ => by unfold lookV; rfl
 | _ :: _, [], _, _ => by unfold lookV; rfl
 | k :: ks, v :: l, s, h => by
  have h0 : (k.toList == s.toList) = false := by have := h 0 (by simp) (by simp); simpa using this
  unfold lookV
  rw [h0, if_neg (by decide)]
  exact lookJ_miss fun m h1 h2 => by have := h (m + 1) (by simpa using h1) (by simpa using h2); simpa using this
theorem get_any {O : Nat → Prop} {w : World} {j : J} {k i : Int} {t : ByteArray} {pk pl : Option Addr} {nk ck nl cl : Nat} (hj : isJ O w j [.int .i64 k, .int .i64 i, .string t, .slice pk nk ck, .slice pl nl cl]) (hO : ∀ b, O b → b < w.heap.size) (hz : j.ks.length ≤ 100000) (s : ByteArray) :
    Calls Tryz.prog 61 #[.agg #[.int .i64 k, .int .i64 i, .string t, .slice pk nk ck, .slice pl nl cl], .string s] w fun e w' => UnderT O w' (getT j s) e ∧ Below w.heap.size w w' := by
 obtain ⟨kx, ix, tx, ks, l⟩ := j
 obtain ⟨rfl, rfl, rfl, rfl, rfl, hk, hcl, hjs⟩ := isJP_parts hj
 clear hj
 obtain ⟨o, ho⟩ : ∃ o, getT (.mk k i t ks l) s = o := ⟨_, rfl⟩
 rw [ho]
 have HO5 : Hid (k = 5 → o = lookV ks l s) := fun h => by rw [← ho]; unfold getT; exact if_pos h
 have HON : Hid (¬ k = 5 → o = none) := fun h => by rw [← ho]; unfold getT; exact if_neg h
 clear ho
 simp only [J.ks] at hz
 obtain ⟨W0, hW0⟩ : ∃ W0, W0 = (w.alloc (.cells #[.int .i64 k, .int .i64 i, .string t, .slice pk ks.length ck, .slice pl l.length cl] 36)).alloc (.cells #[.int .i64 0, .int .i64 0, .string ⟨#[]⟩, .slice none 0 0, .slice none 0 0] 36) := ⟨_, rfl⟩
 have hb0 : Below w.heap.size w W0 := by rw [hW0]; exact ((Below.refl _ _).alloc (Nat.le_refl _) _).alloc (by simp) _
 have hx0 : W0.heap[w.heap.size]? = some (.cells #[.int .i64 k, .int .i64 i, .string t, .slice pk ks.length ck, .slice pl l.length cl] 36 (0, 0)) := by rw [hW0, Below.heap_alloc _ _ _ (by simp)]; exact newP _
 have hR : W0.heap[w.heap.size + 1]? = some (.cells #[.int .i64 0, .int .i64 0, .string ⟨#[]⟩, .slice none 0 0, .slice none 0 0] 36 (0, 0)) := by
  rw [hW0]
  have := newP (w := w.alloc (.cells #[.int .i64 k, .int .i64 i, .string t, .slice pk ks.length ck, .slice pl l.length cl] 36)) (.cells #[.int .i64 0, .int .i64 0, .string ⟨#[]⟩, .slice none 0 0, .slice none 0 0] 36)
  rw [World.size_alloc] at this
  exact this
 obtain ⟨nk, hnk⟩ : ∃ n, ks.length = n := ⟨_, rfl⟩
 obtain ⟨nl, hnl⟩ : ∃ n, l.length = n := ⟨_, rfl⟩
 have HNK : Hid (ks.length = nk) := hnk
 have HNL : Hid (l.length = nl) := hnl
 have hck := hk.1
 rw [hnk] at hz hck hx0 hW0 ⊢
 rw [hnl] at hcl hx0 hW0 ⊢
 clear hnk hnl
 have c0 := cellP hx0 0 _ rfl; have c3 := cellP hx0 3 _ rfl; have c4 := cellP hx0 4 _ rfl
 have i0 := cellP hR 0 _ rfl; have i1 := cellP hR 1 _ rfl; have i2 := cellP hR 2 _ rfl; have i3 := cellP hR 3 _ rfl; have i4 := cellP hR 4 _ rfl
 have z0 := fzP hR 0; have z1 := fzP hR 1; have z2 := fzP hR 2; have z3 := fzP hR 3; have z4 := fzP hR 4
 have HR : Hid (W0.heap[w.heap.size + 1]? = some (.cells #[.int .i64 0, .int .i64 0, .string ⟨#[]⟩, .slice none 0 0, .slice none 0 0] 36 (0, 0))) := hR
 have HN : Hid (∀ X, Keep (OneP (w.heap.size + 1)) W0 X → Below w.heap.size w X) := fun X hX => hb0.trans (hX.below hb0.size fun q hq e => by unfold OneP at e; omega)
 clear hR hx0
 by_cases k5 : k = 5
 · subst k5
   have HOL := (show Hid _ from HO5.out rfl)
   clear HO5 HON
   go_enter Tryz.func61, Tryz.ntmps61
   go_upto_region 1 with fail
   rw [← hW0]
   clear hW0
   go_wp2
   go_loopw [6] (fun v wr => ∃ m : Nat, v = .int .i64 m ∧ m ≤ nk ∧ m ≤ nl ∧ Hid (∀ y, y < m → ((ks.getD y nix).toList == s.toList) = false) ∧ wr = W0) (fun v _ => nk - (intOf v).toNat)
   case atStart => exact ⟨0, rfl, Nat.zero_le _, Nat.zero_le _, fun m hm => absurd hm (by omega), rfl⟩
   case round =>
    obtain ⟨m, rfl, hm, hml, HX, rfl⟩ := hrel
    by_cases hlt : m < nk
    · by_cases hlt2 : m < nl
      · have hmi : (m : Int) < (nk : Int) := by omega
        have hmi2 : (m : Int) < (nl : Int) := by omega
        obtain ⟨a, rfl, hOa, hca0⟩ := hk.2 m (by rw [HNK.out]; exact hlt)
        have hca : wr.cell? (a.add m) = some (.string (ks.getD m nix)) := (World.cell?_of_block (by rw [add_block]; exact hb0.block _ (hO _ hOa))).trans hca0
        obtain ⟨lb, lo, cs, hpl, hOb, hcells, hyj⟩ := isJs.at l 0 m hjs (by rw [HNL.out]; exact hlt2)
        subst hpl
        obtain ⟨kv, iv, tv, pv, nv, cv, qv, mv, dv, rfl⟩ := isJ_shape hyj
        have cc : ∀ n v, [Value.int .i64 kv, .int .i64 iv, .string tv, .slice pv nv cv, .slice qv mv dv][n]? = some v → wr.cell? ⟨lb, lo + m * 5 + n, none⟩ = some v := fun n v h => by
         have := hcells n v h
         rw [Nat.zero_add] at this
         exact (World.cell?_of_block (a := ⟨lb, lo + m * 5 + n, none⟩) (hb0.block lb (hO lb hOb))).trans this
        have y0 : wr.cell? ⟨lb, lo + m * 5, none⟩ = some (.int .i64 kv) := cc 0 _ rfl
        have y1 := cc 1 _ rfl
        have y2 := cc 2 _ rfl
        have y3 := cc 3 _ rfl
        have y4 := cc 4 _ rfl
        have HYJ : Hid (isJ O w (l.getD m J.zero) [Value.int .i64 kv, .int .i64 iv, .string tv, .slice pv nv cv, .slice qv mv dv]) := hyj
        have hlb := hO lb hOb
        have HLK : Hid (((ks.getD m nix).toList == s.toList) = true → lookV ks l s = some (l.getD m J.zero)) := fun h => lookJ_step (by rw [HNK.out]; exact hlt) (by rw [HNL.out]; exact hlt2) HX.out h
        have HST : Hid (((ks.getD m nix).toList == s.toList) = false → ∀ y, y < m + 1 → ((ks.getD y nix).toList == s.toList) = false) := fun h y hy => (Nat.lt_succ_iff_lt_or_eq.1 hy).elim (HX.out y) fun e => by rw [e]; exact h
        clear cc hcells hyj hca0
        generalize ks.getD m nix = u at hca HLK HST
        cases he : (u.toList == s.toList) with
        | true =>
         have HL := (show Hid _ from HLK.out he)
         clear HLK HST
         go_wp2
         have h5 := setL_all (b := w.heap.size + 1) [.int .i64 kv, .int .i64 iv, .string tv, .slice pv nv cv, .slice qv mv dv] HR.out rfl
         have HK5 := setL_keep (w.heap.size + 1) [.int .i64 kv, .int .i64 iv, .string tv, .slice pv nv cv, .slice qv mv dv] wr 0
         simp only [setL, Nat.zero_add, Nat.reduceAdd] at h5 HK5
         refine bodyPost_ret (resultsP_cell_tmp rfl _ _ _ rfl (loadJP h5)) rfl ?_
         rw [HOL.out, HL.out]
         have hbE := HN.out _ HK5
         exact ⟨⟨_, _, _, _, _, _, _, _, _, rfl, HYJ.out.carry fun x hx => ⟨hx, hbE.block x (hO x hx)⟩⟩, hbE⟩
        | false =>
         have HS := (show Hid _ from HST.out he)
         clear HLK HST
         go_wp2
         go_roundw
         case rel => exact ⟨m + 1, by go_num, hlt, hlt2, HS, trivial⟩
         case measure => simp [intOf]; omega
      · obtain rfl : m = nl := by omega
        have HLK : Hid (lookV ks l s = none) := lookJ_miss fun y h1 h2 => HX.out y (by rw [← HNL.out]; exact h2)
        have hmi : (m : Int) < (nk : Int) := by omega
        go_wp2
        have h5 := setL_all (b := w.heap.size + 1) [.int .i64 0, .int .i64 0, .string ⟨#[]⟩, .slice none 0 0, .slice none 0 0] HR.out rfl
        have HK5 := setL_keep (w.heap.size + 1) [.int .i64 0, .int .i64 0, .string ⟨#[]⟩, .slice none 0 0, .slice none 0 0] wr 0
        simp only [setL, Nat.zero_add, Nat.reduceAdd] at h5 HK5
        refine bodyPost_ret (resultsP_cell_tmp rfl _ _ _ rfl (loadJP h5)) rfl ?_
        rw [HOL.out, HLK.out]
        exact ⟨rfl, HN.out _ HK5⟩
    · obtain rfl : m = nk := by omega
      have HLK : Hid (lookV ks l s = none) := lookJ_miss fun y h1 h2 => HX.out y (by rw [← HNK.out]; exact h1)
      go_wp2
      have h5 := setL_all (b := w.heap.size + 1) [.int .i64 0, .int .i64 0, .string ⟨#[]⟩, .slice none 0 0, .slice none 0 0] HR.out rfl
      have HK5 := setL_keep (w.heap.size + 1) [.int .i64 0, .int .i64 0, .string ⟨#[]⟩, .slice none 0 0, .slice none 0 0] wr 0
      simp only [setL, Nat.zero_add, Nat.reduceAdd] at h5 HK5
      refine bodyPost_ret (resultsP_cell_tmp rfl _ _ _ rfl (loadJP h5)) rfl ?_
      rw [HOL.out, HLK.out]
      exact ⟨rfl, HN.out _ HK5⟩
 · have HOL := (show Hid _ from HON.out k5)
   clear HO5 HON
   go_enter Tryz.func61, Tryz.ntmps61
   go_upto_region 1 with fail
   rw [← hW0]
   clear hW0
   go_wp2
   have h5 := setL_all (b := w.heap.size + 1) [.int .i64 0, .int .i64 0, .string ⟨#[]⟩, .slice none 0 0, .slice none 0 0] HR.out rfl
   have HK5 := setL_keep (w.heap.size + 1) [.int .i64 0, .int .i64 0, .string ⟨#[]⟩, .slice none 0 0, .slice none 0 0] W0 0
   simp only [setL, Nat.zero_add, Nat.reduceAdd] at h5 HK5
   refine bodyPost_ret (resultsP_cell_tmp rfl _ _ _ rfl (loadJP h5)) rfl ?_
   rw [HOL.out]
   exact ⟨rfl, HN.out _ HK5⟩
theorem szP_in {d : Nat} {j v : J} (h : szJ (d + 1) j = true) (hv : v ∈ j.ls) : szJ d v = true := by
 obtain ⟨k, i, t, ks, l⟩ := j
 unfold szJ at h
 simp only [Bool.and_eq_true] at h
 exact List.all_eq_true.1 h.2.2.2.2 v hv
theorem szP_keys {d : Nat} {j : J} (h : szJ (d + 1) j = true) : j.ks.length ≤ 100000 := by
 obtain ⟨k, i, t, ks, l⟩ := j
 unfold szJ at h
 simp only [Bool.and_eq_true, decide_eq_true_eq] at h
 exact h.2.1
theorem getT_mem {j v : J} {s : ByteArray} (h : getT j s = some v) : v ∈ j.ls := by
 unfold getT at h
 split at h
 · exact lookJ_mem h
 · cases h
theorem row_sz {d : Nat} {j : J} (hok : OkJ (d + 2) j) (fit : ByteArray → Bool) (s : ByteArray) : SzN (rowT fit (lookV j.ks j.ls s)).1 := by
 cases h : lookV j.ks j.ls s with
 | none => exact ⟨by simp [rowT], fun p hp => by simp [rowT] at hp⟩
 | some v =>
  have hv : OkJ (d + 1) v := by
   obtain ⟨_, _, _, _, _⟩ := j
   exact hok.parts.2.2.2.2.2 v (lookJ_mem h)
  obtain ⟨k, i, t, ks, l⟩ := v
  have hp := hv.parts
  simp only [rowT, rowsOf, J.ks, J.ls]
  refine ⟨by rw [List.length_map, List.length_zip]; omega, fun p hm => ?_⟩
  obtain ⟨q, hq, rfl⟩ := List.mem_map.1 hm
  exact hp.2.2.2.2.1 q.1 (List.of_mem_zip hq).1
theorem parse_sz {c : J} (hs : szJ 12 c = true) : SzL (parseT (ordT c)).1 := by
 have hok := ordT_okJ hs
 unfold parseT
 split
 · exact ⟨⟨by simp, fun p hp => by simp at hp⟩, ⟨by simp, fun p hp => by simp at hp⟩⟩
 · exact ⟨row_sz (d := 10) hok isU kByUser, row_sz (d := 10) hok isT kByType⟩
theorem parse_err (j : J) : (parseT j).2 = 0 ∨ (parseT j).2 = 1 := by
 unfold parseT
 split
 · exact .inr rfl
 · exact .inl rfl
abbrev tCreate : ByteArray := ⟨#[109, 46, 114, 111, 111, 109, 46, 99, 114, 101, 97, 116, 101]⟩
abbrev tMember : ByteArray := ⟨#[109, 46, 114, 111, 111, 109, 46, 109, 101, 109, 98, 101, 114]⟩
abbrev tPower : ByteArray := ⟨#[109, 46, 114, 111, 111, 109, 46, 112, 111, 119, 101, 114, 95, 108, 101, 118, 101, 108, 115]⟩
abbrev tRules : ByteArray := ⟨#[109, 46, 114, 111, 111, 109, 46, 106, 111, 105, 110, 95, 114, 117, 108, 101, 115]⟩
abbrev nMemb : ByteArray := ⟨#[109, 101, 109, 98, 101, 114, 115, 104, 105, 112]⟩
abbrev vLeave : ByteArray := ⟨#[108, 101, 97, 118, 101]⟩
abbrev vBan : ByteArray := ⟨#[98, 97, 110]⟩
abbrev eqT (a b : ByteArray) : Bool := a.toList == b.toList
def J.tx : J → ByteArray
 | .mk _ _ t _ _ => t
def txtT : Option J → ByteArray
 | some v => if v.kd = 3 then v.tx else nix
 | none => nix
def textT (c : J) (s : ByteArray) : ByteArray := txtT (getT c s)
structure SzE (e : Ev) : Prop where
 room : e.room.size ≤ 1000000000
 typ : e.typ.size ≤ 1000000000
 sender : e.sender.size ≤ 1000000000
 key : e.key.size ≤ 1000000000
 hash : e.hash.size ≤ 1000000000
 cont : szJ 12 e.content = true
 prev : e.prev.length ≤ 100000
 prevs : ∀ x ∈ e.prev, x.size ≤ 1000000000
 auth : e.auth.length ≤ 100000
 auths : ∀ x ∈ e.auth, x.size ≤ 1000000000
 sigs : e.sigs.length ≤ 100000
 sigss : ∀ x ∈ e.sigs, x.1.size ≤ 1000000000 ∧ x.2.size ≤ 1000000000
end Go.Proofs.YtimhpglfolbomaaGreat

/-
  The document's Order, by a contract.
  The document's rows of levels: by contracts.
-/
import Derived.Test.YtimhpglfolbomaaGreatRY21
set_option maxRecDepth 100000
set_option maxHeartbeats 16000000
namespace Go.Proofs.YtimhpglfolbomaaGreat
open Go.RowKit
theorem rord_zero : Rords 0 := fun _ _ j _ _ _ _ _ _ _ _ _ _ hg => by unfold goodJ at hg; cases hg
theorem rords : ∀ d, Rords d
 | 0 => rord_zero
 | d + 1 => rord_step (rords d)
def ordR (j : J) : J := if goodJ 12 j = true then ord j else J.zero
theorem two_new2 {w : World} (o1 o2 : Obj) : ((w.alloc o1).alloc o2).heap[w.heap.size + 1]? = some o2 := by
 have := heap_alloc_new (w.alloc o1) o2
 simpa using this
theorem below_then3 {w w2 w3 : World} (h : Below w.heap.size w w2) (hk : Keep (One (w.heap.size + 1)) w2 w3) : Below w.heap.size w w3 :=
 h.trans (hk.below h.size fun k hk' e => by unfold One at e; omega)
theorem rOrder_new {w : World} {O : Nat → Prop} {j : J} {k i : Int} {t : ByteArray} {pk pl : Option Addr} {nk ck nl cl : Nat} (hO : ∀ x, O x → x < w.heap.size) (hsz : szJ 12 j = true)
    (hj : isJ O w j [.int .i64 k, .int .i64 i, .string t, .slice pk nk ck, .slice pl nl cl]) :
    Calls Tryz.prog 98 #[.agg #[.int .i64 k, .int .i64 i, .string t, .slice pk nk ck, .slice pl nl cl]] w fun x w' => (∃ kr ir tr pr nr cr qr mr dr, x = .returned (.agg #[.int .i64 kr, .int .i64 ir, .string tr, .slice pr nr cr, .slice qr mr dr]) ∧ isJ (fun b => O b ∨ (w.heap.size ≤ b ∧ b < w'.heap.size)) w' (ordR j) [.int .i64 kr, .int .i64 ir, .string tr, .slice pr nr cr, .slice qr mr dr]) ∧ Below w.heap.size w w' := by
 have hbB : Below w.heap.size w ((w.alloc (.cells #[.int .i64 k, .int .i64 i, .string t, .slice pk nk ck, .slice pl nl cl] 36)).alloc (.cells #[.int .i64 0, .int .i64 0, .string ⟨#[]⟩, .slice none 0 0, .slice none 0 0] 36)) := ((Below.refl _ _).alloc (Nat.le_refl _) _).alloc (by simp) _
 obtain ⟨wB, hwB⟩ : ∃ wB, wB = ((w.alloc (.cells #[.int .i64 k, .int .i64 i, .string t, .slice pk nk ck, .slice pl nl cl] 36)).alloc (.cells #[.int .i64 0, .int .i64 0, .string ⟨#[]⟩, .slice none 0 0, .slice none 0 0] 36)) := ⟨_, rfl⟩
 have hA : wB.heap[w.heap.size]? = some (.cells #[.int .i64 k, .int .i64 i, .string t, .slice pk nk ck, .slice pl nl cl] 36 (0, 0)) := by
  rw [hwB, Below.heap_alloc _ _ _ (by simp)]
  exact heap_alloc_new _ _
 have hR : wB.heap[w.heap.size + 1]? = some (.cells #[.int .i64 0, .int .i64 0, .string ⟨#[]⟩, .slice none 0 0, .slice none 0 0] 36 (0, 0)) := by rw [hwB]; exact two_new2 _ _
 rw [← hwB] at hbB
 have hOB : ∀ x, O x → x < wB.heap.size := fun x hx => Nat.lt_of_lt_of_le (hO x hx) hbB.size
 have hjB := hj.carry (O' := O) (w' := wB) fun x hx => ⟨hx, hbB.block x (hO x hx)⟩
 have hG := rGood_any hOB hsz hjB
 have hsA : w.heap.size < wB.heap.size := (Array.getElem?_eq_some_iff.1 hA).1
 have hsR : w.heap.size + 1 < wB.heap.size := (Array.getElem?_eq_some_iff.1 hR).1
 have c0 := five_c0 hA
 cases hg : goodJ 12 j with
 | false =>
  have HZ : Hid (ordR j = J.zero) := by show _ = _; unfold ordR; rw [hg]; rfl
  rw [hg] at hG
  rw [hwB] at hG
  clear hj hjB c0
  go_enter Tryz.func98, Tryz.ntmps98
  go_wp2_with (go_at_call 66; refine hG.mono ?_; rintro x w2 ⟨rfl, hb2⟩
               rw [← hwB] at hb2
               have hres := (hb2.block _ hsR).trans hR
               have i0 := five_c0 hres; have i1 := five_c1 hres; have i2 := five_c2 hres; have i3 := five_c3 hres; have i4 := five_c4 hres
               have z0 := five_fz hres 0; have z1 := five_fz hres 1; have z2 := five_fz hres 2; have z3 := five_fz hres 3; have z4 := five_fz hres 4)
  have h5 := set5_heap hres (.int .i64 0) (.int .i64 0) (.string ⟨#[]⟩) (.slice none 0 0) (.slice none 0 0)
  have HK5 : Keep (One (w.heap.size + 1)) w2 _ := set5_keep w2 (w.heap.size + 1) (.int .i64 0) (.int .i64 0) (.string ⟨#[]⟩) (.slice none 0 0) (.slice none 0 0)
  unfold set5 at h5 HK5
  have k0 := five_c0 h5; have k1 := five_c1 h5; have k2 := five_c2 h5; have k3 := five_c3 h5; have k4 := five_c4 h5
  refine bodyPost_ret (v := .agg #[.int .i64 0, .int .i64 0, .string ⟨#[]⟩, .slice none 0 0, .slice none 0 0]) (by simp [results, Tryz.results98, go_sem, k0, k1, k2, k3, k4]) rfl ?_
  refine ⟨⟨_, _, _, _, _, _, _, _, _, rfl, ?_⟩, below_then3 (below_in hbB hb2) HK5⟩
  rw [HZ.out]
  exact isJ_zero _ _
 | true =>
  have HZ : Hid (ordR j = ord j) := by show _ = _; unfold ordR; rw [hg]; rfl
  have HGG : Hid (goodJ 12 j = true) := hg
  have HJ : Hid (isJ O wB j [.int .i64 k, .int .i64 i, .string t, .slice pk nk ck, .slice pl nl cl]) := hjB
  rw [hg] at hG
  rw [hwB] at hG
  clear hj hjB hg c0
  go_enter Tryz.func98, Tryz.ntmps98
  go_wp2_with (first
   | (go_at_call 66; refine hG.mono ?_; rintro x w2 ⟨rfl, hb2⟩
      rw [← hwB] at hb2
      have hA2 := (hb2.block _ hsA).trans hA
      have c0 := five_c0 hA2; have c1 := five_c1 hA2; have c2 := five_c2 hA2; have c3 := five_c3 hA2; have c4 := five_c4 hA2
      have hArr := rords 12 w2 O j k i t pk pl nk ck nl cl (fun x hx => Nat.lt_of_lt_of_le (hOB x hx) hb2.size) HGG.out hsz (HJ.out.carry fun x hx => ⟨hx, hb2.block x (hOB x hx)⟩))
   | (go_at_call 128; refine hArr.mono ?_; rintro x w4 ⟨⟨kr, ir, tr, pr, nr, cr, qr, mr, dr, rfl, hjr⟩, hb4⟩
      have hB4 := below_in hb2 hb4
      have hres := (hB4.block _ hsR).trans hR
      have i0 := five_c0 hres; have i1 := five_c1 hres; have i2 := five_c2 hres; have i3 := five_c3 hres; have i4 := five_c4 hres
      have z0 := five_fz hres 0; have z1 := five_fz hres 1; have z2 := five_fz hres 2; have z3 := five_fz hres 3; have z4 := five_fz hres 4))
  have h5 := set5_heap hres (.int .i64 kr) (.int .i64 ir) (.string tr) (.slice pr nr cr) (.slice qr mr dr)
  have HK5 : Keep (One (w.heap.size + 1)) w4 _ := set5_keep w4 (w.heap.size + 1) (.int .i64 kr) (.int .i64 ir) (.string tr) (.slice pr nr cr) (.slice qr mr dr)
  unfold set5 at h5 HK5
  have k0 := five_c0 h5; have k1 := five_c1 h5; have k2 := five_c2 h5; have k3 := five_c3 h5; have k4 := five_c4 h5
  refine bodyPost_ret (v := .agg #[.int .i64 kr, .int .i64 ir, .string tr, .slice pr nr cr, .slice qr mr dr]) (by simp [results, Tryz.results98, go_sem, k0, k1, k2, k3, k4]) rfl ?_
  refine ⟨⟨_, _, _, _, _, _, _, _, _, rfl, ?_⟩, below_then3 (below_in hbB hB4) HK5⟩
  rw [HZ.out]
  refine hjr.carry fun x hx => ?_
  have s2 := hb2.size
  have s4 := hb4.size
  rcases hx with hx | hx
  · have := hO x hx
    exact ⟨.inl hx, HK5.block x (by have := hbB.size; omega) (by unfold One; omega)⟩
  · have := hx.1
    exact ⟨.inr ⟨by omega, Nat.lt_of_lt_of_le hx.2 HK5.size⟩, HK5.block x hx.2 (by unfold One; omega)⟩
theorem any_zip_bad {ks : List ByteArray} {l : List J} {n : Nat} {fit : ByteArray → Bool} (h : ((ks.zip l).take n).any (badIn fit) = true) : (ks.zip l).any (badIn fit) = true := by
 rw [List.any_eq_true] at h ⊢
 obtain ⟨x, hx, hb⟩ := h
 exact ⟨x, List.mem_of_mem_take hx, hb⟩
def NamP (fit : ByteArray → Bool) (w w' : World) (o : Option J) (e : Ending) : Prop := (∃ p c, e = .returned (.tuple #[.slice p (namT fit o).1.length c, .bool (!(namT fit o).2)]) ∧ RdN (fun b => w.heap.size ≤ b ∧ b < w'.heap.size) w' p c (namT fit o).1) ∧ Below w.heap.size w w'
theorem NamP.off {fit : ByteArray → Bool} {w w' : World} {o : Option J} {b : Bool} (h1 : (namT fit o).1 = []) (h2 : (namT fit o).2 = !b) (hb : Below w.heap.size w w') : NamP fit w w' o (.returned (.tuple #[.slice none 0 0, .bool b])) :=
 ⟨⟨none, 0, by rw [h1, h2, Bool.not_not]; rfl, by rw [h1]; exact RdN.nil _ _ _ _ fun _ => rfl⟩, hb⟩
theorem rNamed_users {O : Nat → Prop} {w : World} {j : J} {k i : Int} {t : ByteArray} {pk pl : Option Addr} {nk ck nl cl : Nat} (hj : isJ O w j [.int .i64 k, .int .i64 i, .string t, .slice pk nk ck, .slice pl nl cl]) (hO : ∀ b, O b → b < w.heap.size) (hz : szJ 13 j = true) (s : ByteArray) :
    Calls Tryz.prog 68 #[.agg #[.int .i64 k, .int .i64 i, .string t, .slice pk nk ck, .slice pl nl cl], .string s, .bool true] w fun e w' => NamP isU w w' (getT j s) e := by
 obtain ⟨wA, hwA⟩ : ∃ wA, wA = w.alloc (.cells #[.int .i64 k, .int .i64 i, .string t, .slice pk nk ck, .slice pl nl cl] 36) := ⟨_, rfl⟩
 have hbA : Below w.heap.size w wA := by rw [hwA]; exact (Below.refl _ _).alloc (Nat.le_refl _) _
 have hA : wA.heap[w.heap.size]? = some (.cells #[.int .i64 k, .int .i64 i, .string t, .slice pk nk ck, .slice pl nl cl] 36 (0, 0)) := by rw [hwA]; exact newP _
 have hOA : ∀ b, O b → b < wA.heap.size := fun b hb => Nat.lt_of_lt_of_le (hO b hb) hbA.size
 have hG := get_any (hj.carry (O' := O) (w' := wA) fun x hx => ⟨hx, hbA.block x (hO x hx)⟩) hOA (szP_keys hz) s
 have i0 := cellP hA 0 _ rfl; have i1 := cellP hA 1 _ rfl; have i2 := cellP hA 2 _ rfl; have i3 := cellP hA 3 _ rfl; have i4 := cellP hA 4 _ rfl
 have HZ : Hid (∀ v, getT j s = some v → szJ 12 v = true) := fun v hv => szP_in hz (getT_mem hv)
 clear hj hO hA hz
 generalize getT j s = o at hG HZ
 cases o with
 | none =>
  go_enter Tryz.func68, Tryz.ntmps68
  go_upto_region 1 with fail
  rw [← hwA]
  clear hwA
  go_wp2_with (go_at_call 61; refine hG.mono ?_; rintro e w1 ⟨he, hb1⟩; replace he : e = _ := he; subst he)
  go_ret2
  exact NamP.off rfl rfl (belowP hbA (belowP hb1 ((Below.refl _ _).alloc (Nat.le_refl _) _)))
 | some v =>
  have hzv := HZ.out v rfl
  have HV : Hid (∀ O w' (k i : Int) (t : ByteArray) (p q : Option Addr) (n c m d : Nat), isJ O w' v [.int .i64 k, .int .i64 i, .string t, .slice p n c, .slice q m d] → v.kd = k) := fun O w' k i t p q n c m d h => by
   obtain ⟨_, _, _, _, _⟩ := v
   obtain ⟨rfl, _⟩ := isJP_parts h
   rfl
  by_cases k5 : v.kd = 5
  · have HOR : Hid (∀ X kv iv tv pv nv cv qv mv dv, (∀ b, O b → b < X.heap.size) → isJ O X v [.int .i64 kv, .int .i64 iv, .string tv, .slice pv nv cv, .slice qv mv dv] → Calls Tryz.prog 98 #[.agg #[.int .i64 kv, .int .i64 iv, .string tv, .slice pv nv cv, .slice qv mv dv]] X fun x w' => (∃ kr ir tr pr nr cr qr mr dr, x = .returned (.agg #[.int .i64 kr, .int .i64 ir, .string tr, .slice pr nr cr, .slice qr mr dr]) ∧ isJ (fun b => O b ∨ (X.heap.size ≤ b ∧ b < w'.heap.size)) w' (ordT v) [.int .i64 kr, .int .i64 ir, .string tr, .slice pr nr cr, .slice qr mr dr]) ∧ Below X.heap.size X w') := fun X _ _ _ _ _ _ _ _ _ hO hv => rOrder_new hO hzv hv
    have hok := ordT_okJ hzv
    have HT : Hid ((((ordT v).ks.zip (ordT v).ls).any (badIn isU) = true → namT isU (some v) = ([], true)) ∧ (((ordT v).ks.zip (ordT v).ls).any (badIn isU) = false → namT isU (some v) = (rowsOf (ordT v), false))) := by
     show _ ∧ _
     unfold namT
     simp only []
     rw [if_pos k5]
     exact ⟨fun h => by rw [if_pos h], fun h => by rw [if_neg (by rw [h]; decide)]⟩
    generalize ordT v = r at HOR hok HT
    obtain ⟨kr, ir, tr, ks, ls⟩ := r
    simp only [rowsOf, J.ks, J.ls] at HT
    have hkn := hok.parts.2.2.2.1
    have HKS : Hid (∀ x ∈ ks, x.size ≤ 1000000000) := hok.parts.2.2.2.2.1
    have HLE : Hid (ks.length ≤ ls.length) := hok.lens
    clear hok
    go_enter Tryz.func68, Tryz.ntmps68
    go_upto_region 1 with fail
    rw [← hwA]
    clear hwA
    go_upto_region 7 with (first
     | (go_at_call 61; refine hG.mono ?_; rintro e w1 ⟨⟨kv, iv, tv, pv, nv, cv, qv, mv, dv, rfl, hv⟩, hb1⟩
        obtain ⟨rfl⟩ : kv = 5 := (HV.out _ _ _ _ _ _ _ _ _ _ _ hv).symm.trans k5
        obtain ⟨W1, hW1⟩ : ∃ W1, W1 = w1.alloc (.cells #[.int .i64 5, .int .i64 iv, .string tv, .slice pv nv cv, .slice qv mv dv] 36) := ⟨_, rfl⟩
        have hb2 : Below w1.heap.size w1 W1 := by rw [hW1]; exact (Below.refl _ _).alloc (Nat.le_refl _) _
        have hOr := HOR.out W1 5 iv tv pv nv cv qv mv dv (fun b hb => Nat.lt_of_lt_of_le (hOA b hb) (Nat.le_trans hb1.size hb2.size)) (hv.carry fun x hx => ⟨hx, hb2.block x (Nat.lt_of_lt_of_le (hOA x hx) hb1.size)⟩)
        have HX1 : Hid (W1.heap[w1.heap.size]? = some (.cells #[.int .i64 5, .int .i64 iv, .string tv, .slice pv nv cv, .slice qv mv dv] 36 (0, 0))) := by show _ = _; rw [hW1]; exact newP _
        have HB2 : Hid (Below w1.heap.size w1 W1) := hb2
        have HW1 := (show Hid _ from hW1)
        clear hv hb2 hW1)
     | (rw [← HW1.out]; go_at_call 98; refine hOr.mono ?_; rintro e w3 ⟨⟨kr', ir', tr', pr, nr, cr, qr, mr, dr, rfl, hr⟩, hb3⟩
        have hX3 := (hb3.block w1.heap.size (objP_lt HX1.out)).trans HX1.out
        have o0 := cellP hX3 0 _ rfl; have o1 := cellP hX3 1 _ rfl; have o2 := cellP hX3 2 _ rfl; have o3 := cellP hX3 3 _ rfl; have o4 := cellP hX3 4 _ rfl
        have z0 := fzP hX3 0; have z1 := fzP hX3 1; have z2 := fzP hX3 2; have z3 := fzP hX3 3; have z4 := fzP hX3 4
        have HX3 := (show Hid _ from hX3)
        clear hX3))
    clear hOr HOR hG i0 i1 i2 i3 i4
    obtain ⟨rfl, rfl, rfl, rfl, rfl, hrk, hrc, hrs⟩ := isJP_parts hr
    clear hr
    obtain ⟨W4, hW4⟩ : ∃ W4, W4 = setL w3 w1.heap.size 0 [.int .i64 kr', .int .i64 ir', .string tr', .slice pr ks.length cr, .slice qr ls.length dr] := ⟨_, rfl⟩
    have hX4 : W4.heap[w1.heap.size]? = some (.cells #[.int .i64 kr', .int .i64 ir', .string tr', .slice pr ks.length cr, .slice qr ls.length dr] 36 (0, 0)) := by rw [hW4]; exact setL_all (b := w1.heap.size) _ HX3.out rfl
    have hK4 : Keep (OneP w1.heap.size) w3 W4 := by rw [hW4]; exact setL_keep _ _ _ _
    have hb4 : Below w.heap.size w W4 := by
     have h13 : Below w.heap.size w w3 := belowP hbA (belowP hb1 (belowP HB2.out hb3))
     refine h13.trans (hK4.below h13.size fun q hq e => ?_)
     unfold OneP at e
     have := hbA.size; have := hb1.size
     omega
    simp only [setL, Nat.zero_add, Nat.reduceAdd] at hW4
    rw [← hW4]
    obtain ⟨nv, hnv⟩ : ∃ n, ks.length = n := ⟨_, rfl⟩
    obtain ⟨mv', hmv⟩ : ∃ n, ls.length = n := ⟨_, rfl⟩
    have HNV : Hid (ks.length = nv) := hnv
    have HMV : Hid (ls.length = mv') := hmv
    have hck := hrk.1
    rw [hnv] at hkn hX4 hck
    rw [hmv] at hX4 hrc
    have hlt4 := objP_lt hX4
    have hCA : ∀ x, (O x ∨ (W1.heap.size ≤ x ∧ x < w3.heap.size)) → x < W4.heap.size ∧ W4.heap[x]? = w3.heap[x]? := fun x hx => by
     have s1 := hb1.size; have s3 := hb3.size; have sx := objP_lt HX1.out; have s4 := hK4.size; have sB := HB2.out.size
     have hx3 : x < w3.heap.size ∧ x ≠ w1.heap.size := hx.elim (fun h => by have := hOA x h; omega) (fun h => by omega)
     exact ⟨by omega, hK4.block x hx3.1 (by unfold OneP; exact hx3.2)⟩
    have HVK : Hid (RdK (fun b => b < W4.heap.size) W4 pr cr ks) := hrk.carry hCA
    have HVS : Hid (isJs (fun b => b < W4.heap.size) W4 qr 0 ls) := isJs.carry hCA qr 0 ls hrs
    clear hnv hmv hrk hrs hW4
    have HX4 := (show Hid _ from hX4)
    have HB4 : Hid (Below w.heap.size w W4) := hb4
    have x3 := cellP hX4 3 _ rfl
    clear o0 o1 o2 o3 o4 z0 z1 z2 z3 z4 HX3 HX1 HB2 hb1 hb3 hK4 hCA hOA hbA hb4 hX4 HW1
    go_wp2_with fail
    go_loopw [10, 11] (fun v x wx => ∃ n : Nat, x = .int .i64 n ∧ n ≤ nv ∧ wx.ownsRow W4.heap.size 98 2 v (((ks.zip ls).take n).map fun q => (q.1, q.2.nm)).length (flatN (((ks.zip ls).take n).map fun q => (q.1, q.2.nm))) ∧ Hid (((ks.zip ls).take n).any (badIn isU) = false) ∧ Below W4.heap.size W4 wx) (fun _ x _ => nv - (intOf x).toNat)
    case atStart => exact ⟨0, rfl, Nat.zero_le _, World.ownsRow_nil _ _ _ _, rfl, Below.refl _ _⟩
    case round =>
     obtain ⟨n, rfl, hn, hown, HAny, hbr⟩ := hrel
     have hxr := fun j v hj => (hbr.cell (p := ⟨w1.heap.size, j, none⟩) hlt4).trans (cellP HX4.out j v hj)
     have r3 := hxr 3 _ rfl
     have hsr := hbr.size
     by_cases hnv : n < nv
     · have hnk : n < ks.length := by rw [HNV.out]; exact hnv
       have hnm : n < mv' := by have := HLE.out; rw [HNV.out, HMV.out] at this; omega
       have HT2 : Hid ((ks.zip ls).take (n + 1) = (ks.zip ls).take n ++ [(ks.getD n nix, ls.getD n J.zero)]) := zip_at hnk HLE.out
       obtain ⟨ad, rfl, hOa, hck1⟩ := HVK.out.2 n hnk
       have HKY : Hid (∀ X, Below W4.heap.size W4 X → X.cell? (ad.add n) = some (.string (ks.getD n nix))) := fun X hX => (World.cell?_of_block (by rw [add_block]; exact hX.block _ hOa)).trans hck1
       have hksz : (ks.getD n nix).size ≤ 1000000000 := by rw [List.getD_eq_getElem?_getD, List.getElem?_eq_getElem hnk]; exact HKS.out _ (List.getElem_mem hnk)
       obtain ⟨lb, lo, cs, hpl, hOb, hcells, hyj⟩ := isJs.at ls 0 n HVS.out (by rw [HMV.out]; exact hnm)
       subst hpl
       obtain ⟨ke, ie, te, pe, ne, ce, qe, me, de, rfl⟩ := isJ_shape hyj
       have HE : Hid ((ls.getD n J.zero).kd = ke ∧ (ls.getD n J.zero).nm = ie) := by
        generalize ls.getD n J.zero = y at hyj
        obtain ⟨_, _, _, _, _⟩ := y
        obtain ⟨rfl, rfl, _⟩ := isJP_parts hyj
        exact ⟨rfl, rfl⟩
       have cc : ∀ m v, [Value.int .i64 ke, .int .i64 ie, .string te, .slice pe ne ce, .slice qe me de][m]? = some v → wr.cell? ⟨lb, lo + n * 5 + m, none⟩ = some v := fun m v h => by
        have := hcells m v h
        rw [Nat.zero_add] at this
        exact (hbr.cell (p := ⟨lb, lo + n * 5 + m, none⟩) hOb).trans this
       have y0 : wr.cell? ⟨lb, lo + n * 5, none⟩ = some (.int .i64 ke) := cc 0 _ rfl
       have y1 := cc 1 _ rfl
       have y2 := cc 2 _ rfl
       have y3 := cc 3 _ rfl
       have y4 := cc 4 _ rfl
       have r4 := hxr 4 _ rfl
       have HXR : Hid (∀ X, Below wr.heap.size wr X → X.cell? ⟨w1.heap.size, 3, none⟩ = some (.slice (some ad) nv cr) ∧ X.cell? (ad.add n) = some (.string (ks.getD n nix))) := fun X hX => ⟨((belowP hbr hX).cell (p := ⟨w1.heap.size, 3, none⟩) hlt4).trans (cellP HX4.out 3 _ rfl), HKY.out X (belowP hbr hX)⟩
       have HBAD : Hid (badIn isU (ks.getD n nix, ls.getD n J.zero) = (!isU (ks.getD n nix) || !lvOk ke ie)) := by show _ = _; simp only [badIn, HE.out.1, HE.out.2]
       have HANY2 : Hid ((!isU (ks.getD n nix) || !lvOk ke ie) = true → (ks.zip ls).any (badIn isU) = true) := fun h => any_zip_bad (n := n + 1) (by rw [HT2.out, List.any_append, List.any_cons, HBAD.out, h]; simp)
       have HANY3 : Hid ((!isU (ks.getD n nix) || !lvOk ke ie) = false → ((ks.zip ls).take (n + 1)).any (badIn isU) = false) := fun h => by rw [HT2.out, List.any_append, HAny.out, List.any_cons, HBAD.out, h]; rfl
       have HL : Hid ((((ks.zip ls).take (n + 1)).map fun q => (q.1, q.2.nm)) = (((ks.zip ls).take n).map fun q => (q.1, q.2.nm)) ++ [(ks.getD n nix, ie)]) := by
        show _ = _
        rw [HT2.out, List.map_append]
        simp only [List.map_cons, List.map_nil, HE.out.2]
       have HLN : Hid ((((ks.zip ls).take n).map fun q => (q.1, q.2.nm)).length ≤ 100000) := by
        show _ ≤ _
        simp only [List.length_map, List.length_take]
        omega
       generalize (((ks.zip ls).take n).map fun q => (q.1, q.2.nm)) = L at hown HL HLN
       have HOwn : Hid (wr.ownsRow W4.heap.size 98 2 _ L.length (flatN L)) := hown
       have HBr : Hid (Below W4.heap.size W4 wr) := hbr
       clear cc hcells hyj hck1 hxr HKY HBAD HE hown HAny HT2 x3
       generalize ks.getD n nix = K at hksz HXR HANY2 HANY3 HL
       have hNb := rNumber_any (w := wr) ke ie te pe qe ne ce me de
       have hni : (n : Int) < (nv : Int) := by omega
       have hnm' : (n : Int) < (mv' : Int) := by omega
       cases hlv : lvOk ke ie with
       | false =>
        rw [hlv] at hNb HANY2
        have HTT : Hid ((namT isU (some v)).1 = [] ∧ (namT isU (some v)).2 = !false) := by
         show _ ∧ _
         rw [HT.out.1 (HANY2.out (by simp))]
         exact ⟨rfl, rfl⟩
        go_wp2_with (go_at_call 97; refine hNb.mono ?_; rintro e w5 ⟨rfl, hb5⟩)
        go_ret2
        exact NamP.off HTT.out.1 HTT.out.2 (belowP HB4.out (belowP HBr.out hb5))
       | true =>
        rw [hlv] at hNb HANY2 HANY3
        have HFT : Hid (∀ X, Calls Tryz.prog 99 #[.string K] X fun x w' => x = .returned (.bool (isU K)) ∧ Below X.heap.size X w') := fun X => rIsU_any K X hksz
        cases hft : isU K with
        | false =>
         rw [hft] at HFT HANY2
         have HTT : Hid ((namT isU (some v)).1 = [] ∧ (namT isU (some v)).2 = !false) := by
          show _ ∧ _
          rw [HT.out.1 (HANY2.out (by simp))]
          exact ⟨rfl, rfl⟩
         go_wp2_with (first
          | (go_at_call 97; refine hNb.mono ?_; rintro e w5 ⟨rfl, hb5⟩; obtain ⟨s3, sk⟩ := HXR.out w5 hb5)
          | (go_at_call 99; refine (HFT.out _).mono ?_; rintro e w6 ⟨rfl, hb6⟩))
         go_ret2
         exact NamP.off HTT.out.1 HTT.out.2 (belowP HB4.out (belowP HBr.out (belowP hb5 hb6)))
        | true =>
         rw [hft] at HFT HANY3
         have HA3 := (show Hid _ from HANY3.out (by simp))
         go_wp2_with (first
          | (go_at_call 97; refine hNb.mono ?_; rintro e w5 ⟨rfl, hb5⟩; obtain ⟨s3, sk⟩ := HXR.out w5 hb5)
          | (go_at_call 99; refine (HFT.out _).mono ?_; rintro e w6 ⟨rfl, hb6⟩
             have hb56 := belowP hb5 hb6
             obtain ⟨t3, tk⟩ := HXR.out w6 hb56
             have hownA := (own_keep HOwn.out (Keep.of_below (S := fun _ => False) hb56) (fun _ _ h => h)).alloc (.cells #[.string K, .int .i64 ie] 98)
             have hrdA : RdN (fun _ => True) (w6.alloc (.cells #[.string K, .int .i64 ie] 98)) (some ⟨w6.heap.size, 0, none⟩) 1 [(K, ie)] := rdN_flat (l := [(K, ie)]) trivial (newP _)
             have hsz6 : W4.heap.size ≤ (w6.alloc (.cells #[.string K, .int .i64 ie] 98)).heap.size := by have := hb56.size; simp; omega
             have HB6 : Hid (Below W4.heap.size W4 (w6.alloc (.cells #[.string K, .int .i64 ie] 98))) := (belowP HBr.out hb56).alloc (by have := hb56.size; omega) _
             clear hb56 s3 sk)
          | (refine wpList_append_rdN rfl _ _ rfl W4.heap.size _ L rfl hownA hrdA rfl (by have := HLN.out; omega) (by simp) hsz6 ?_; intro v5 w7 hown7 hg7))
         go_roundw
         case rel => exact ⟨n + 1, by go_num, by omega, by rw [HL.out]; exact hown7, HA3, HB6.out.grown hg7 hsz6 (fun q hq => (hownA.lt q hq).1)⟩
         case measure => simp [intOf]; omega
     · obtain rfl : n = nv := by omega
       have htk : (ks.zip ls).take n = ks.zip ls := List.take_of_length_le (by rw [List.length_zip, HNV.out]; omega)
       rw [htk] at hown HAny
       have HOwn := (show Hid _ from hown)
       have HTT : Hid (namT isU (some v) = ((ks.zip ls).map (fun q => (q.1, q.2.nm)), false)) := by
        exact HT.out.2 HAny.out
       clear hown htk x3
       go_wp2
       go_ret2
       obtain ⟨p', c', hv', hrd'⟩ := own_rdN HOwn.out
       unfold NamP
       rw [HTT.out]
       refine ⟨⟨p', c', by first | (rw [hv']; rfl) | (simp only [] ; rw [← hv']; rfl), hrd'.carry fun q hq => ⟨⟨by have := HB4.out.size; omega, hq.2⟩, rfl⟩⟩, belowP HB4.out hbr⟩
  · have HT : Hid ((namT isU (some v)).1 = [] ∧ (namT isU (some v)).2 = !false) := by
      show _ ∧ _
      unfold namT
      simp only []
      rw [if_neg k5]
      exact ⟨rfl, rfl⟩
    go_enter Tryz.func68, Tryz.ntmps68
    go_upto_region 1 with fail
    rw [← hwA]
    clear hwA
    go_wp2_with (go_at_call 61; refine hG.mono ?_; rintro e w1 ⟨⟨kv, iv, tv, pv, nv, cv, qv, mv, dv, rfl, hv⟩, hb1⟩; have hk5 : ¬ kv = 5 := fun h => k5 ((HV.out _ _ _ _ _ _ _ _ _ _ _ hv).trans h); clear hv)
    go_ret2
    exact NamP.off HT.out.1 HT.out.2 (belowP hbA (belowP hb1 ((Below.refl _ _).alloc (Nat.le_refl _) _)))
theorem rNamed_types {O : Nat → Prop} {w : World} {j : J} {k i : Int} {t : ByteArray} {pk pl : Option Addr} {nk ck nl cl : Nat} (hj : isJ O w j [.int .i64 k, .int .i64 i, .string t, .slice pk nk ck, .slice pl nl cl]) (hO : ∀ b, O b → b < w.heap.size) (hz : szJ 13 j = true) (s : ByteArray) :
    Calls Tryz.prog 68 #[.agg #[.int .i64 k, .int .i64 i, .string t, .slice pk nk ck, .slice pl nl cl], .string s, .bool false] w fun e w' => NamP isT w w' (getT j s) e := by
 obtain ⟨wA, hwA⟩ : ∃ wA, wA = w.alloc (.cells #[.int .i64 k, .int .i64 i, .string t, .slice pk nk ck, .slice pl nl cl] 36) := ⟨_, rfl⟩
 have hbA : Below w.heap.size w wA := by rw [hwA]; exact (Below.refl _ _).alloc (Nat.le_refl _) _
 have hA : wA.heap[w.heap.size]? = some (.cells #[.int .i64 k, .int .i64 i, .string t, .slice pk nk ck, .slice pl nl cl] 36 (0, 0)) := by rw [hwA]; exact newP _
 have hOA : ∀ b, O b → b < wA.heap.size := fun b hb => Nat.lt_of_lt_of_le (hO b hb) hbA.size
 have hG := get_any (hj.carry (O' := O) (w' := wA) fun x hx => ⟨hx, hbA.block x (hO x hx)⟩) hOA (szP_keys hz) s
 have i0 := cellP hA 0 _ rfl; have i1 := cellP hA 1 _ rfl; have i2 := cellP hA 2 _ rfl; have i3 := cellP hA 3 _ rfl; have i4 := cellP hA 4 _ rfl
 have HZ : Hid (∀ v, getT j s = some v → szJ 12 v = true) := fun v hv => szP_in hz (getT_mem hv)
 clear hj hO hA hz
 generalize getT j s = o at hG HZ
 cases o with
 | none =>
  go_enter Tryz.func68, Tryz.ntmps68
  go_upto_region 1 with fail
  rw [← hwA]
  clear hwA
  go_wp2_with (go_at_call 61; refine hG.mono ?_; rintro e w1 ⟨he, hb1⟩; replace he : e = _ := he; subst he)
  go_ret2
  exact NamP.off rfl rfl (belowP hbA (belowP hb1 ((Below.refl _ _).alloc (Nat.le_refl _) _)))
 | some v =>
  have hzv := HZ.out v rfl
  have HV : Hid (∀ O w' (k i : Int) (t : ByteArray) (p q : Option Addr) (n c m d : Nat), isJ O w' v [.int .i64 k, .int .i64 i, .string t, .slice p n c, .slice q m d] → v.kd = k) := fun O w' k i t p q n c m d h => by
   obtain ⟨_, _, _, _, _⟩ := v
   obtain ⟨rfl, _⟩ := isJP_parts h
   rfl
  by_cases k5 : v.kd = 5
  · have HOR : Hid (∀ X kv iv tv pv nv cv qv mv dv, (∀ b, O b → b < X.heap.size) → isJ O X v [.int .i64 kv, .int .i64 iv, .string tv, .slice pv nv cv, .slice qv mv dv] → Calls Tryz.prog 98 #[.agg #[.int .i64 kv, .int .i64 iv, .string tv, .slice pv nv cv, .slice qv mv dv]] X fun x w' => (∃ kr ir tr pr nr cr qr mr dr, x = .returned (.agg #[.int .i64 kr, .int .i64 ir, .string tr, .slice pr nr cr, .slice qr mr dr]) ∧ isJ (fun b => O b ∨ (X.heap.size ≤ b ∧ b < w'.heap.size)) w' (ordT v) [.int .i64 kr, .int .i64 ir, .string tr, .slice pr nr cr, .slice qr mr dr]) ∧ Below X.heap.size X w') := fun X _ _ _ _ _ _ _ _ _ hO hv => rOrder_new hO hzv hv
    have hok := ordT_okJ hzv
    have HT : Hid ((((ordT v).ks.zip (ordT v).ls).any (badIn isT) = true → namT isT (some v) = ([], true)) ∧ (((ordT v).ks.zip (ordT v).ls).any (badIn isT) = false → namT isT (some v) = (rowsOf (ordT v), false))) := by
     show _ ∧ _
     unfold namT
     simp only []
     rw [if_pos k5]
     exact ⟨fun h => by rw [if_pos h], fun h => by rw [if_neg (by rw [h]; decide)]⟩
    generalize ordT v = r at HOR hok HT
    obtain ⟨kr, ir, tr, ks, ls⟩ := r
    simp only [rowsOf, J.ks, J.ls] at HT
    have hkn := hok.parts.2.2.2.1
    have HKS : Hid (∀ x ∈ ks, x.size ≤ 1000000000) := hok.parts.2.2.2.2.1
    have HLE : Hid (ks.length ≤ ls.length) := hok.lens
    clear hok
    go_enter Tryz.func68, Tryz.ntmps68
    go_upto_region 1 with fail
    rw [← hwA]
    clear hwA
    go_upto_region 7 with (first
     | (go_at_call 61; refine hG.mono ?_; rintro e w1 ⟨⟨kv, iv, tv, pv, nv, cv, qv, mv, dv, rfl, hv⟩, hb1⟩
        obtain ⟨rfl⟩ : kv = 5 := (HV.out _ _ _ _ _ _ _ _ _ _ _ hv).symm.trans k5
        obtain ⟨W1, hW1⟩ : ∃ W1, W1 = w1.alloc (.cells #[.int .i64 5, .int .i64 iv, .string tv, .slice pv nv cv, .slice qv mv dv] 36) := ⟨_, rfl⟩
        have hb2 : Below w1.heap.size w1 W1 := by rw [hW1]; exact (Below.refl _ _).alloc (Nat.le_refl _) _
        have hOr := HOR.out W1 5 iv tv pv nv cv qv mv dv (fun b hb => Nat.lt_of_lt_of_le (hOA b hb) (Nat.le_trans hb1.size hb2.size)) (hv.carry fun x hx => ⟨hx, hb2.block x (Nat.lt_of_lt_of_le (hOA x hx) hb1.size)⟩)
        have HX1 : Hid (W1.heap[w1.heap.size]? = some (.cells #[.int .i64 5, .int .i64 iv, .string tv, .slice pv nv cv, .slice qv mv dv] 36 (0, 0))) := by show _ = _; rw [hW1]; exact newP _
        have HB2 : Hid (Below w1.heap.size w1 W1) := hb2
        have HW1 := (show Hid _ from hW1)
        clear hv hb2 hW1)
     | (rw [← HW1.out]; go_at_call 98; refine hOr.mono ?_; rintro e w3 ⟨⟨kr', ir', tr', pr, nr, cr, qr, mr, dr, rfl, hr⟩, hb3⟩
        have hX3 := (hb3.block w1.heap.size (objP_lt HX1.out)).trans HX1.out
        have o0 := cellP hX3 0 _ rfl; have o1 := cellP hX3 1 _ rfl; have o2 := cellP hX3 2 _ rfl; have o3 := cellP hX3 3 _ rfl; have o4 := cellP hX3 4 _ rfl
        have z0 := fzP hX3 0; have z1 := fzP hX3 1; have z2 := fzP hX3 2; have z3 := fzP hX3 3; have z4 := fzP hX3 4
        have HX3 := (show Hid _ from hX3)
        clear hX3))
    clear hOr HOR hG i0 i1 i2 i3 i4
    obtain ⟨rfl, rfl, rfl, rfl, rfl, hrk, hrc, hrs⟩ := isJP_parts hr
    clear hr
    obtain ⟨W4, hW4⟩ : ∃ W4, W4 = setL w3 w1.heap.size 0 [.int .i64 kr', .int .i64 ir', .string tr', .slice pr ks.length cr, .slice qr ls.length dr] := ⟨_, rfl⟩
    have hX4 : W4.heap[w1.heap.size]? = some (.cells #[.int .i64 kr', .int .i64 ir', .string tr', .slice pr ks.length cr, .slice qr ls.length dr] 36 (0, 0)) := by rw [hW4]; exact setL_all (b := w1.heap.size) _ HX3.out rfl
    have hK4 : Keep (OneP w1.heap.size) w3 W4 := by rw [hW4]; exact setL_keep _ _ _ _
    have hb4 : Below w.heap.size w W4 := by
     have h13 : Below w.heap.size w w3 := belowP hbA (belowP hb1 (belowP HB2.out hb3))
     refine h13.trans (hK4.below h13.size fun q hq e => ?_)
     unfold OneP at e
     have := hbA.size; have := hb1.size
     omega
    simp only [setL, Nat.zero_add, Nat.reduceAdd] at hW4
    rw [← hW4]
    obtain ⟨nv, hnv⟩ : ∃ n, ks.length = n := ⟨_, rfl⟩
    obtain ⟨mv', hmv⟩ : ∃ n, ls.length = n := ⟨_, rfl⟩
    have HNV : Hid (ks.length = nv) := hnv
    have HMV : Hid (ls.length = mv') := hmv
    have hck := hrk.1
    rw [hnv] at hkn hX4 hck
    rw [hmv] at hX4 hrc
    have hlt4 := objP_lt hX4
    have hCA : ∀ x, (O x ∨ (W1.heap.size ≤ x ∧ x < w3.heap.size)) → x < W4.heap.size ∧ W4.heap[x]? = w3.heap[x]? := fun x hx => by
     have s1 := hb1.size; have s3 := hb3.size; have sx := objP_lt HX1.out; have s4 := hK4.size; have sB := HB2.out.size
     have hx3 : x < w3.heap.size ∧ x ≠ w1.heap.size := hx.elim (fun h => by have := hOA x h; omega) (fun h => by omega)
     exact ⟨by omega, hK4.block x hx3.1 (by unfold OneP; exact hx3.2)⟩
    have HVK : Hid (RdK (fun b => b < W4.heap.size) W4 pr cr ks) := hrk.carry hCA
    have HVS : Hid (isJs (fun b => b < W4.heap.size) W4 qr 0 ls) := isJs.carry hCA qr 0 ls hrs
    clear hnv hmv hrk hrs hW4
    have HX4 := (show Hid _ from hX4)
    have HB4 : Hid (Below w.heap.size w W4) := hb4
    have x3 := cellP hX4 3 _ rfl
    clear o0 o1 o2 o3 o4 z0 z1 z2 z3 z4 HX3 HX1 HB2 hb1 hb3 hK4 hCA hOA hbA hb4 hX4 HW1
    go_wp2_with fail
    go_loopw [10, 11] (fun v x wx => ∃ n : Nat, x = .int .i64 n ∧ n ≤ nv ∧ wx.ownsRow W4.heap.size 98 2 v (((ks.zip ls).take n).map fun q => (q.1, q.2.nm)).length (flatN (((ks.zip ls).take n).map fun q => (q.1, q.2.nm))) ∧ Hid (((ks.zip ls).take n).any (badIn isT) = false) ∧ Below W4.heap.size W4 wx) (fun _ x _ => nv - (intOf x).toNat)
    case atStart => exact ⟨0, rfl, Nat.zero_le _, World.ownsRow_nil _ _ _ _, rfl, Below.refl _ _⟩
    case round =>
     obtain ⟨n, rfl, hn, hown, HAny, hbr⟩ := hrel
     have hxr := fun j v hj => (hbr.cell (p := ⟨w1.heap.size, j, none⟩) hlt4).trans (cellP HX4.out j v hj)
     have r3 := hxr 3 _ rfl
     have hsr := hbr.size
     by_cases hnv : n < nv
     · have hnk : n < ks.length := by rw [HNV.out]; exact hnv
       have hnm : n < mv' := by have := HLE.out; rw [HNV.out, HMV.out] at this; omega
       have HT2 : Hid ((ks.zip ls).take (n + 1) = (ks.zip ls).take n ++ [(ks.getD n nix, ls.getD n J.zero)]) := zip_at hnk HLE.out
       obtain ⟨ad, rfl, hOa, hck1⟩ := HVK.out.2 n hnk
       have HKY : Hid (∀ X, Below W4.heap.size W4 X → X.cell? (ad.add n) = some (.string (ks.getD n nix))) := fun X hX => (World.cell?_of_block (by rw [add_block]; exact hX.block _ hOa)).trans hck1
       have hksz : (ks.getD n nix).size ≤ 1000000000 := by rw [List.getD_eq_getElem?_getD, List.getElem?_eq_getElem hnk]; exact HKS.out _ (List.getElem_mem hnk)
       obtain ⟨lb, lo, cs, hpl, hOb, hcells, hyj⟩ := isJs.at ls 0 n HVS.out (by rw [HMV.out]; exact hnm)
       subst hpl
       obtain ⟨ke, ie, te, pe, ne, ce, qe, me, de, rfl⟩ := isJ_shape hyj
       have HE : Hid ((ls.getD n J.zero).kd = ke ∧ (ls.getD n J.zero).nm = ie) := by
        generalize ls.getD n J.zero = y at hyj
        obtain ⟨_, _, _, _, _⟩ := y
        obtain ⟨rfl, rfl, _⟩ := isJP_parts hyj
        exact ⟨rfl, rfl⟩
       have cc : ∀ m v, [Value.int .i64 ke, .int .i64 ie, .string te, .slice pe ne ce, .slice qe me de][m]? = some v → wr.cell? ⟨lb, lo + n * 5 + m, none⟩ = some v := fun m v h => by
        have := hcells m v h
        rw [Nat.zero_add] at this
        exact (hbr.cell (p := ⟨lb, lo + n * 5 + m, none⟩) hOb).trans this
       have y0 : wr.cell? ⟨lb, lo + n * 5, none⟩ = some (.int .i64 ke) := cc 0 _ rfl
       have y1 := cc 1 _ rfl
       have y2 := cc 2 _ rfl
       have y3 := cc 3 _ rfl
       have y4 := cc 4 _ rfl
       have r4 := hxr 4 _ rfl
       have HXR : Hid (∀ X, Below wr.heap.size wr X → X.cell? ⟨w1.heap.size, 3, none⟩ = some (.slice (some ad) nv cr) ∧ X.cell? (ad.add n) = some (.string (ks.getD n nix))) := fun X hX => ⟨((belowP hbr hX).cell (p := ⟨w1.heap.size, 3, none⟩) hlt4).trans (cellP HX4.out 3 _ rfl), HKY.out X (belowP hbr hX)⟩
       have HBAD : Hid (badIn isT (ks.getD n nix, ls.getD n J.zero) = (!isT (ks.getD n nix) || !lvOk ke ie)) := by show _ = _; simp only [badIn, HE.out.1, HE.out.2]
       have HANY2 : Hid ((!isT (ks.getD n nix) || !lvOk ke ie) = true → (ks.zip ls).any (badIn isT) = true) := fun h => any_zip_bad (n := n + 1) (by rw [HT2.out, List.any_append, List.any_cons, HBAD.out, h]; simp)
       have HANY3 : Hid ((!isT (ks.getD n nix) || !lvOk ke ie) = false → ((ks.zip ls).take (n + 1)).any (badIn isT) = false) := fun h => by rw [HT2.out, List.any_append, HAny.out, List.any_cons, HBAD.out, h]; rfl
       have HL : Hid ((((ks.zip ls).take (n + 1)).map fun q => (q.1, q.2.nm)) = (((ks.zip ls).take n).map fun q => (q.1, q.2.nm)) ++ [(ks.getD n nix, ie)]) := by
        show _ = _
        rw [HT2.out, List.map_append]
        simp only [List.map_cons, List.map_nil, HE.out.2]
       have HLN : Hid ((((ks.zip ls).take n).map fun q => (q.1, q.2.nm)).length ≤ 100000) := by
        show _ ≤ _
        simp only [List.length_map, List.length_take]
        omega
       generalize (((ks.zip ls).take n).map fun q => (q.1, q.2.nm)) = L at hown HL HLN
       have HOwn : Hid (wr.ownsRow W4.heap.size 98 2 _ L.length (flatN L)) := hown
       have HBr : Hid (Below W4.heap.size W4 wr) := hbr
       clear cc hcells hyj hck1 hxr HKY HBAD HE hown HAny HT2 x3
       generalize ks.getD n nix = K at hksz HXR HANY2 HANY3 HL
       have hNb := rNumber_any (w := wr) ke ie te pe qe ne ce me de
       have hni : (n : Int) < (nv : Int) := by omega
       have hnm' : (n : Int) < (mv' : Int) := by omega
       cases hlv : lvOk ke ie with
       | false =>
        rw [hlv] at hNb HANY2
        have HTT : Hid ((namT isT (some v)).1 = [] ∧ (namT isT (some v)).2 = !false) := by
         show _ ∧ _
         rw [HT.out.1 (HANY2.out (by simp))]
         exact ⟨rfl, rfl⟩
        go_wp2_with (go_at_call 97; refine hNb.mono ?_; rintro e w5 ⟨rfl, hb5⟩)
        go_ret2
        exact NamP.off HTT.out.1 HTT.out.2 (belowP HB4.out (belowP HBr.out hb5))
       | true =>
        rw [hlv] at hNb HANY2 HANY3
        have HFT : Hid (∀ X, Calls Tryz.prog 100 #[.string K] X fun x w' => x = .returned (.bool (isT K)) ∧ Below X.heap.size X w') := fun X => rIsT_any K X hksz
        cases hft : isT K with
        | false =>
         rw [hft] at HFT HANY2
         have HTT : Hid ((namT isT (some v)).1 = [] ∧ (namT isT (some v)).2 = !false) := by
          show _ ∧ _
          rw [HT.out.1 (HANY2.out (by simp))]
          exact ⟨rfl, rfl⟩
         go_wp2_with (first
          | (go_at_call 97; refine hNb.mono ?_; rintro e w5 ⟨rfl, hb5⟩; obtain ⟨s3, sk⟩ := HXR.out w5 hb5)
          | (go_at_call 100; refine (HFT.out _).mono ?_; rintro e w6 ⟨rfl, hb6⟩))
         go_ret2
         exact NamP.off HTT.out.1 HTT.out.2 (belowP HB4.out (belowP HBr.out (belowP hb5 hb6)))
        | true =>
         rw [hft] at HFT HANY3
         have HA3 := (show Hid _ from HANY3.out (by simp))
         go_wp2_with (first
          | (go_at_call 97; refine hNb.mono ?_; rintro e w5 ⟨rfl, hb5⟩; obtain ⟨s3, sk⟩ := HXR.out w5 hb5)
          | (go_at_call 100; refine (HFT.out _).mono ?_; rintro e w6 ⟨rfl, hb6⟩
             have hb56 := belowP hb5 hb6
             obtain ⟨t3, tk⟩ := HXR.out w6 hb56
             have hownA := (own_keep HOwn.out (Keep.of_below (S := fun _ => False) hb56) (fun _ _ h => h)).alloc (.cells #[.string K, .int .i64 ie] 98)
             have hrdA : RdN (fun _ => True) (w6.alloc (.cells #[.string K, .int .i64 ie] 98)) (some ⟨w6.heap.size, 0, none⟩) 1 [(K, ie)] := rdN_flat (l := [(K, ie)]) trivial (newP _)
             have hsz6 : W4.heap.size ≤ (w6.alloc (.cells #[.string K, .int .i64 ie] 98)).heap.size := by have := hb56.size; simp; omega
             have HB6 : Hid (Below W4.heap.size W4 (w6.alloc (.cells #[.string K, .int .i64 ie] 98))) := (belowP HBr.out hb56).alloc (by have := hb56.size; omega) _
             clear hb56 s3 sk)
          | (refine wpList_append_rdN rfl _ _ rfl W4.heap.size _ L rfl hownA hrdA rfl (by have := HLN.out; omega) (by simp) hsz6 ?_; intro v5 w7 hown7 hg7))
         go_roundw
         case rel => exact ⟨n + 1, by go_num, by omega, by rw [HL.out]; exact hown7, HA3, HB6.out.grown hg7 hsz6 (fun q hq => (hownA.lt q hq).1)⟩
         case measure => simp [intOf]; omega
     · obtain rfl : n = nv := by omega
       have htk : (ks.zip ls).take n = ks.zip ls := List.take_of_length_le (by rw [List.length_zip, HNV.out]; omega)
       rw [htk] at hown HAny
       have HOwn := (show Hid _ from hown)
       have HTT : Hid (namT isT (some v) = ((ks.zip ls).map (fun q => (q.1, q.2.nm)), false)) := by
        exact HT.out.2 HAny.out
       clear hown htk x3
       go_wp2
       go_ret2
       obtain ⟨p', c', hv', hrd'⟩ := own_rdN HOwn.out
       unfold NamP
       rw [HTT.out]
       refine ⟨⟨p', c', by first | (rw [hv']; rfl) | (simp only [] ; rw [← hv']; rfl), hrd'.carry fun q hq => ⟨⟨by have := HB4.out.size; omega, hq.2⟩, rfl⟩⟩, belowP HB4.out hbr⟩
  · have HT : Hid ((namT isT (some v)).1 = [] ∧ (namT isT (some v)).2 = !false) := by
      show _ ∧ _
      unfold namT
      simp only []
      rw [if_neg k5]
      exact ⟨rfl, rfl⟩
    go_enter Tryz.func68, Tryz.ntmps68
    go_upto_region 1 with fail
    rw [← hwA]
    clear hwA
    go_wp2_with (go_at_call 61; refine hG.mono ?_; rintro e w1 ⟨⟨kv, iv, tv, pv, nv, cv, qv, mv, dv, rfl, hv⟩, hb1⟩; have hk5 : ¬ kv = 5 := fun h => k5 ((HV.out _ _ _ _ _ _ _ _ _ _ _ hv).trans h); clear hv)
    go_ret2
    exact NamP.off HT.out.1 HT.out.2 (belowP hbA (belowP hb1 ((Below.refl _ _).alloc (Nat.le_refl _) _)))
end Go.Proofs.YtimhpglfolbomaaGreat

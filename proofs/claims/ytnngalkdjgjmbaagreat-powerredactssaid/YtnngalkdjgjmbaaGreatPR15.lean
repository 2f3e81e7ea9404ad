/-
  The document's Order, by a contract.
  An event's JSON, and an event with its content in order: by contracts.
  The document's Put, by a contract: a map with a key and a value more.
  The document's Put, by a contract: a map with a key and a value more.
  The document's own shape of an event: its rows of names, its signatures: by contracts.
  The document's look at signatures, by a contract.
  The document's IsUser, a number, a text and a content one level deeper: by contracts.
  The contents and the events of the examples: by contracts.
  Where a text stands in a row; the text under a key of a content: by contracts.
  The event of a type and a key in a state; the text under a key of it: by contracts.
  The text under a key of the event of a type and a key: by a contract.
  A loop over changes that ends at the first that is bad: as one law.
-/
import Derived.Test.YtnngalkdjgjmbaaGreatPR14
import Derived.Deep.QuietTactic
set_option maxRecDepth 100000
set_option maxHeartbeats 16000000
namespace Go.Proofs.YtnngalkdjgjmbaaGreat
open Go.RowKit
theorem rord_zero : Rords 0 := fun _ _ j _ _ _ _ _ _ _ _ _ _ hg => by unfold goodJ at hg; cases hg
theorem rords : ∀ d, Rords d
 | 0 => rord_zero
 | d + 1 => rord_step (rords d)
def ordR (j : J) : J := if goodJ 12 j = true then ord j else J.zero
theorem two_new2 {w : World} (o1 o2 : Obj) : ((w.alloc o1).alloc o2).heap[w.heap.size + 1]? = some o2 := by
 have := heap_alloc_new (w.alloc o1) o2
 simpa using this
theorem below_then3 {w w2 w3 : World} (h : Below w.heap.size w w2) (hk : Keep (One (w.heap.size + 1)) w2 w3) : Below w.heap.size w w3 :=
 h.trans (hk.below h.size fun k hk' e => by unfold One at e; omega)
theorem rOrder_new {w : World} {O : Nat → Prop} {j : J} {k i : Int} {t : ByteArray} {pk pl : Option Addr} {nk ck nl cl : Nat} (hO : ∀ x, O x → x < w.heap.size) (hsz : szJ 12 j = true)
    (hj : isJ O w j [.int .i64 k, .int .i64 i, .string t, .slice pk nk ck, .slice pl nl cl]) :
    Calls Tryz.prog 31 #[.agg #[.int .i64 k, .int .i64 i, .string t, .slice pk nk ck, .slice pl nl cl]] w fun x w' => (∃ kr ir tr pr nr cr qr mr dr, x = .returned (.agg #[.int .i64 kr, .int .i64 ir, .string tr, .slice pr nr cr, .slice qr mr dr]) ∧ isJ (fun b => O b ∨ (w.heap.size ≤ b ∧ b < w'.heap.size)) w' (ordR j) [.int .i64 kr, .int .i64 ir, .string tr, .slice pr nr cr, .slice qr mr dr]) ∧ Below w.heap.size w w' := by
 have hbB : Below w.heap.size w ((w.alloc (.cells #[.int .i64 k, .int .i64 i, .string t, .slice pk nk ck, .slice pl nl cl] 25)).alloc (.cells #[.int .i64 0, .int .i64 0, .string ⟨#[]⟩, .slice none 0 0, .slice none 0 0] 25)) := ((Below.refl _ _).alloc (Nat.le_refl _) _).alloc (by simp) _
 obtain ⟨wB, hwB⟩ : ∃ wB, wB = ((w.alloc (.cells #[.int .i64 k, .int .i64 i, .string t, .slice pk nk ck, .slice pl nl cl] 25)).alloc (.cells #[.int .i64 0, .int .i64 0, .string ⟨#[]⟩, .slice none 0 0, .slice none 0 0] 25)) := ⟨_, rfl⟩
 have hA : wB.heap[w.heap.size]? = some (.cells #[.int .i64 k, .int .i64 i, .string t, .slice pk nk ck, .slice pl nl cl] 25 (0, 0)) := by
  rw [hwB, Below.heap_alloc _ _ _ (by simp)]
  exact heap_alloc_new _ _
 have hR : wB.heap[w.heap.size + 1]? = some (.cells #[.int .i64 0, .int .i64 0, .string ⟨#[]⟩, .slice none 0 0, .slice none 0 0] 25 (0, 0)) := by rw [hwB]; exact two_new2 _ _
 rw [← hwB] at hbB
 have hOB : ∀ x, O x → x < wB.heap.size := fun x hx => Nat.lt_of_lt_of_le (hO x hx) hbB.size
 have hjB := hj.carry (O' := O) (w' := wB) fun x hx => ⟨hx, hbB.block x (hO x hx)⟩
 have hG := rGood_any hOB hsz hjB
 have hsA : w.heap.size < wB.heap.size := (Array.getElem?_eq_some_iff.1 hA).1
 have hsR : w.heap.size + 1 < wB.heap.size := (Array.getElem?_eq_some_iff.1 hR).1
 have c0 := five_c0 hA
 cases hg : goodJ 12 j with
 | false =>
  have HZ : Hid (ordR j = J.zero) := by show _ = _; unfold ordR; rw [hg]; rfl
  rw [hg] at hG
  rw [hwB] at hG
  clear hj hjB c0
  go_enter Tryz.func31, Tryz.ntmps31
  go_wp2_with (go_at_call 15; refine hG.mono ?_; rintro x w2 ⟨rfl, hb2⟩
               rw [← hwB] at hb2
               have hres := (hb2.block _ hsR).trans hR
               have i0 := five_c0 hres; have i1 := five_c1 hres; have i2 := five_c2 hres; have i3 := five_c3 hres; have i4 := five_c4 hres
               have z0 := five_fz hres 0; have z1 := five_fz hres 1; have z2 := five_fz hres 2; have z3 := five_fz hres 3; have z4 := five_fz hres 4)
  have h5 := set5_heap hres (.int .i64 0) (.int .i64 0) (.string ⟨#[]⟩) (.slice none 0 0) (.slice none 0 0)
  have HK5 : Keep (One (w.heap.size + 1)) w2 _ := set5_keep w2 (w.heap.size + 1) (.int .i64 0) (.int .i64 0) (.string ⟨#[]⟩) (.slice none 0 0) (.slice none 0 0)
  unfold set5 at h5 HK5
  have k0 := five_c0 h5; have k1 := five_c1 h5; have k2 := five_c2 h5; have k3 := five_c3 h5; have k4 := five_c4 h5
  refine bodyPost_ret (v := .agg #[.int .i64 0, .int .i64 0, .string ⟨#[]⟩, .slice none 0 0, .slice none 0 0]) (by simp [results, Tryz.results31, go_sem, k0, k1, k2, k3, k4]) rfl ?_
  refine ⟨⟨_, _, _, _, _, _, _, _, _, rfl, ?_⟩, below_then3 (below_in hbB hb2) HK5⟩
  rw [HZ.out]
  exact isJ_zero _ _
 | true =>
  have HZ : Hid (ordR j = ord j) := by show _ = _; unfold ordR; rw [hg]; rfl
  have HGG : Hid (goodJ 12 j = true) := hg
  have HJ : Hid (isJ O wB j [.int .i64 k, .int .i64 i, .string t, .slice pk nk ck, .slice pl nl cl]) := hjB
  rw [hg] at hG
  rw [hwB] at hG
  clear hj hjB hg c0
  go_enter Tryz.func31, Tryz.ntmps31
  go_wp2_with (first
   | (go_at_call 15; refine hG.mono ?_; rintro x w2 ⟨rfl, hb2⟩
      rw [← hwB] at hb2
      have hA2 := (hb2.block _ hsA).trans hA
      have c0 := five_c0 hA2; have c1 := five_c1 hA2; have c2 := five_c2 hA2; have c3 := five_c3 hA2; have c4 := five_c4 hA2
      have hArr := rords 12 w2 O j k i t pk pl nk ck nl cl (fun x hx => Nat.lt_of_lt_of_le (hOB x hx) hb2.size) HGG.out hsz (HJ.out.carry fun x hx => ⟨hx, hb2.block x (hOB x hx)⟩))
   | (go_at_call 53; refine hArr.mono ?_; rintro x w4 ⟨⟨kr, ir, tr, pr, nr, cr, qr, mr, dr, rfl, hjr⟩, hb4⟩
      have hB4 := below_in hb2 hb4
      have hres := (hB4.block _ hsR).trans hR
      have i0 := five_c0 hres; have i1 := five_c1 hres; have i2 := five_c2 hres; have i3 := five_c3 hres; have i4 := five_c4 hres
      have z0 := five_fz hres 0; have z1 := five_fz hres 1; have z2 := five_fz hres 2; have z3 := five_fz hres 3; have z4 := five_fz hres 4))
  have h5 := set5_heap hres (.int .i64 kr) (.int .i64 ir) (.string tr) (.slice pr nr cr) (.slice qr mr dr)
  have HK5 : Keep (One (w.heap.size + 1)) w4 _ := set5_keep w4 (w.heap.size + 1) (.int .i64 kr) (.int .i64 ir) (.string tr) (.slice pr nr cr) (.slice qr mr dr)
  unfold set5 at h5 HK5
  have k0 := five_c0 h5; have k1 := five_c1 h5; have k2 := five_c2 h5; have k3 := five_c3 h5; have k4 := five_c4 h5
  refine bodyPost_ret (v := .agg #[.int .i64 kr, .int .i64 ir, .string tr, .slice pr nr cr, .slice qr mr dr]) (by simp [results, Tryz.results31, go_sem, k0, k1, k2, k3, k4]) rfl ?_
  refine ⟨⟨_, _, _, _, _, _, _, _, _, rfl, ?_⟩, below_then3 (below_in hbB hB4) HK5⟩
  rw [HZ.out]
  refine hjr.carry fun x hx => ?_
  have s2 := hb2.size
  have s4 := hb4.size
  rcases hx with hx | hx
  · have := hO x hx
    exact ⟨.inl hx, HK5.block x (by have := hbB.size; omega) (by unfold One; omega)⟩
  · have := hx.1
    exact ⟨.inr ⟨by omega, Nat.lt_of_lt_of_le hx.2 HK5.size⟩, HK5.block x hx.2 (by unfold One; omega)⟩
end Go.Proofs.YtnngalkdjgjmbaaGreat
namespace Go.Proofs.YtnngalkdjgjmbaaGreat
open Go.RowKit Go.Maps
theorem loadJ5 {w : World} {b : Nat} {t : TypeId} {a0 a1 a2 a3 a4 : Value} (h : w.heap[b]? = some (.cells #[a0, a1, a2, a3, a4] t (0, 0))) : (loadVar 25 ⟨b, 0, none⟩).run Tryz.prog w = .ok (.agg #[a0, a1, a2, a3, a4]) w := by
 have k0 := five_c0 h; have k1 := five_c1 h; have k2 := five_c2 h; have k3 := five_c3 h; have k4 := five_c4 h
 simp [loadVar, go_sem, k0, k1, k2, k3, k4]
end Go.Proofs.YtnngalkdjgjmbaaGreat
namespace Go.Proofs.YtnngalkdjgjmbaaGreat
open Go Go.RowKit Go.Maps
theorem oneCells {O : Nat → Prop} {w : World} {j : J} {cs : List Value} (h : isJ O w j cs) : ∀ u ∈ cs, u.oneCell' = true := by
 obtain ⟨k, i, t, pk, nk, ck, pl, nl, cl, rfl⟩ := isJ_shape h
 intro u hu
 simp only [List.mem_cons, List.not_mem_nil, or_false] at hu
 rcases hu with rfl | rfl | rfl | rfl | rfl <;> rfl
theorem row_of_js {O : Nat → Prop} {w : World} {p : Option Addr} : ∀ (l : List J) (n : Nat), isJs O w p n l → ∃ xs, isRow O w l xs ∧ xs.length = l.length * 5 ∧ (∀ u ∈ xs, u.oneCell' = true) ∧ ∀ ad, p = some ad → ∀ (m : Nat) u, xs[m]? = some u → O ad.block ∧ w.cell? (ad.add (n * 5 + m)) = some u
 | [], n, _ => ⟨[], by unfold isRow; rfl, rfl, (fun u hu => absurd hu (by simp)), (fun ad _ m u h => absurd h (by simp))⟩
 | j :: r, n, h => by
  unfold isJs at h
  obtain ⟨⟨b, o, cs, rfl, hO, hc, hj⟩, hr⟩ := h
  obtain ⟨xs, h1, h2, h3, h4⟩ := row_of_js r (n + 1) hr
  have h5 := hj.five
  refine ⟨cs ++ xs, ?_, by rw [List.length_append, h5, h2, List.length_cons]; omega, fun u hu => ?_, fun ad e m u hm => ?_⟩
  · unfold isRow
    exact ⟨cs, xs, rfl, h5, hj, h1⟩
  · rcases List.mem_append.1 hu with hu | hu
    · exact oneCells hj u hu
    · exact h3 u hu
  · cases e
    have hadd : ∀ m, (⟨b, o, none⟩ : Addr).add m = ⟨b, o + m, none⟩ := fun m => by unfold Addr.add; split <;> simp_all
    refine ⟨hO, ?_⟩
    by_cases hlt : m < 5
    · rw [List.getElem?_append_left (by omega)] at hm
      have := hc m u hm
      rw [hadd]
      rwa [Nat.add_assoc] at this
    · rw [List.getElem?_append_right (by omega), h5] at hm
      have := (h4 _ rfl (m - 5) u hm).2
      rw [hadd] at this ⊢
      rw [show n * 5 + m = (n + 1) * 5 + (m - 5) by omega]
      exact this
theorem rPut_any {O : Nat → Prop} {w : World} {j v : J} {k i vk vi : Int} {t vt : ByteArray} {pk pl vpk vpl : Option Addr} {nk ck nl cl vnk vck vnl vcl : Nat} (key : ByteArray) (hO : ∀ b, O b → b < w.heap.size)
    (hj : isJ O w j [.int .i64 k, .int .i64 i, .string t, .slice pk nk ck, .slice pl nl cl]) (hv : isJ O w v [.int .i64 vk, .int .i64 vi, .string vt, .slice vpk vnk vck, .slice vpl vnl vcl]) (hkp : pk = none → ck = 0) (hlp : pl = none → cl = 0) (hnk : nk ≤ 100000) (hnl : nl ≤ 100000) :
    Calls Tryz.prog 30 #[.agg #[.int .i64 k, .int .i64 i, .string t, .slice pk nk ck, .slice pl nl cl], .string key, .agg #[.int .i64 vk, .int .i64 vi, .string vt, .slice vpk vnk vck, .slice vpl vnl vcl]] w fun x w' => (∃ b1 c1 b2 c2, x = .returned (.agg #[.int .i64 5, .int .i64 0, .string ⟨#[]⟩, .slice (some ⟨b1, 0, none⟩) (nk + 1) c1, .slice (some ⟨b2, 0, none⟩) (nl + 1) c2]) ∧ isJ (fun b => O b ∨ New w w' b) w' (.mk 5 0 nix (j.keys ++ [key]) (j.list ++ [v])) [.int .i64 5, .int .i64 0, .string ⟨#[]⟩, .slice (some ⟨b1, 0, none⟩) (nk + 1) c1, .slice (some ⟨b2, 0, none⟩) (nl + 1) c2]) ∧ Below w.heap.size w w' := by
 obtain ⟨W0, hW0⟩ : ∃ W0, W0 = ((w.alloc (.cells #[.int .i64 k, .int .i64 i, .string t, .slice pk nk ck, .slice pl nl cl] 25)).alloc (.cells #[.int .i64 vk, .int .i64 vi, .string vt, .slice vpk vnk vck, .slice vpl vnl vcl] 25)).alloc (.cells #[.int .i64 0, .int .i64 0, .string ⟨#[]⟩, .slice none 0 0, .slice none 0 0] 25) := ⟨_, rfl⟩
 have hbw : Below w.heap.size w W0 := by rw [hW0]; exact (((Below.refl _ _).alloc (Nat.le_refl _) _).alloc (by simp) _).alloc (by simp; omega) _
 have hx0 : W0.heap[w.heap.size]? = some (.cells #[.int .i64 k, .int .i64 i, .string t, .slice pk nk ck, .slice pl nl cl] 25 (0, 0)) := by rw [hW0, Below.heap_alloc _ _ _ (by simp; omega)]; exact one_of _ _
 have hx1 : W0.heap[w.heap.size + 1]? = some (.cells #[.int .i64 vk, .int .i64 vi, .string vt, .slice vpk vnk vck, .slice vpl vnl vcl] 25 (0, 0)) := by rw [hW0, Below.heap_alloc _ _ _ (by simp)]; exact two_at _ _
 have hr : W0.heap[w.heap.size + 1 + 1]? = some (.cells #[.int .i64 0, .int .i64 0, .string ⟨#[]⟩, .slice none 0 0, .slice none 0 0] 25 (0, 0)) := by
  have h := heap_alloc_new ((w.alloc (.cells #[.int .i64 k, .int .i64 i, .string t, .slice pk nk ck, .slice pl nl cl] 25)).alloc (.cells #[.int .i64 vk, .int .i64 vi, .string vt, .slice vpk vnk vck, .slice vpl vnl vcl] 25)) (.cells #[.int .i64 0, .int .i64 0, .string ⟨#[]⟩, .slice none 0 0, .slice none 0 0] 25)
  rw [hW0]
  simpa using h
 have hs0 : w.heap.size + 3 = W0.heap.size := by rw [hW0]; simp
 have hjB := hj.carry (O' := O) (w' := W0) fun b hb => ⟨hb, hbw.block b (hO b hb)⟩
 have hvB := hv.carry (O' := O) (w' := W0) fun b hb => ⟨hb, hbw.block b (hO b hb)⟩
 have hat := isJ_at hjB
 have e4 := hat.2.2.2.1
 have e5 := hat.2.2.2.2.1
 have hrk := hat.2.2.2.2.2.1
 have hlc := hat.2.2.2.2.2.2.1
 have hjs := hat.2.2.2.2.2.2.2
 clear hat
 obtain ⟨xs, r1, r2, r3, r4⟩ := row_of_js j.list 0 hjs
 have HP : Hid (PutC W0 (w.heap.size + 1 + 1) key j.keys pk pl nk ck nl cl xs (.int .i64 vk) (.int .i64 vi) (.string vt) (.slice vpk vnk vck) (.slice vpl vnl vcl)) := by
  have hz : ∀ {l : List ByteArray} {p : Option Addr} {c : Nat}, RdK O W0 p c l → p = none → l.length = 0 := fun {l p c} h hp => by
   cases l with
   | nil => rfl
   | cons a r => obtain ⟨ad, e, _⟩ := h.2 0 (by simp); rw [hp] at e; cases e
  refine ⟨by omega, e4.symm, by rw [r2, e5], hnk, hnl, fun hp => ⟨by rw [e4]; exact hz hrk hp, hkp hp⟩, fun hp => ⟨?_, hlp hp⟩, fun ad e m u hm => ?_, fun ad e m u hm => ?_, r3, oneCells hv⟩
  · rw [e5]
    cases hl : j.list with
    | nil => rfl
    | cons a r =>
     rw [hl] at hjs
     unfold isJs at hjs
     obtain ⟨⟨b, o, cs, e, _⟩, _⟩ := hjs
     rw [hp] at e
     cases e
  · have hm1 : m < j.keys.length := by
      have := (List.getElem?_eq_some_iff.1 hm).1
      simpa using this
    obtain ⟨ad', e', hOa, hc⟩ := hrk.2 m hm1
    rw [e] at e'
    cases e'
    rw [List.getElem?_map, List.getElem?_eq_getElem hm1] at hm
    cases hm
    refine ⟨by rw [add_block]; exact Nat.lt_of_lt_of_le (hO _ hOa) hbw.size, ?_⟩
    rw [hc, List.getD_eq_getElem?_getD, List.getElem?_eq_getElem hm1]
    rfl
  · obtain ⟨h1, h2⟩ := r4 ad e m u hm
    refine ⟨by rw [add_block]; exact Nat.lt_of_lt_of_le (hO _ h1) hbw.size, ?_⟩
    rw [Nat.zero_mul, Nat.zero_add] at h2
    exact h2
 have hQ : Hid (∀ wq, Below (w.heap.size + 1 + 1) W0 wq → wq.cell? ⟨w.heap.size, 3, none⟩ = some (.slice pk nk ck) ∧ wq.cell? ⟨w.heap.size, 4, none⟩ = some (.slice pl nl cl) ∧ wq.cell? ⟨w.heap.size + 1, 0, none⟩ = some (.int .i64 vk) ∧ wq.cell? ⟨w.heap.size + 1, 1, none⟩ = some (.int .i64 vi) ∧ wq.cell? ⟨w.heap.size + 1, 2, none⟩ = some (.string vt) ∧ wq.cell? ⟨w.heap.size + 1, 3, none⟩ = some (.slice vpk vnk vck) ∧ wq.cell? ⟨w.heap.size + 1, 4, none⟩ = some (.slice vpl vnl vcl)) := fun wq h => by
  have h0 := (h.block w.heap.size (by omega)).trans hx0
  have h1 := (h.block (w.heap.size + 1) (by omega)).trans hx1
  exact ⟨five_c3 h0, five_c4 h0, five_c0 h1, five_c1 h1, five_c2 h1, five_c3 h1, five_c4 h1⟩
 have HR : Hid (∀ wq, Below W0.heap.size W0 wq → wq.heap[w.heap.size + 1 + 1]? = some (.cells #[.int .i64 0, .int .i64 0, .string ⟨#[]⟩, .slice none 0 0, .slice none 0 0] 25 (0, 0))) := fun wq h => (h.block _ (by omega)).trans hr
 have HS : Hid (w.heap.size + 3 = W0.heap.size) := hs0
 have HBW : Hid (Below w.heap.size w W0) := hbw
 have HRW : Hid (isRow O W0 j.list xs) := r1
 have HVB : Hid (isJ O W0 v [.int .i64 vk, .int .i64 vi, .string vt, .slice vpk vnk vck, .slice vpl vnl vcl]) := hvB
 have HO : Hid (∀ b, O b → b < w.heap.size) := hO
 have HE : Hid (nk = j.keys.length ∧ nl = j.list.length) := ⟨e4, e5⟩
 clear hj hv hjB hvB hrk hlc hjs r1 r2 r3 r4 e4 e5 hx0 hx1 hr hkp hlp hs0 hbw hO
 go_enter Tryz.func30, Tryz.ntmps30
 go_wp2
 rw [← hW0]
 clear hW0
 have hC0 : Below W0.heap.size W0 W0.drew := (Below.refl _ _).drew
 refine wp_region_in (by kernel_rfl) (fun w' => Below (w.heap.size + 1 + 1) W0 w') ?_
 change wpIn _ _ _ _ _ _ _ _ (World.drew _)
 refine wpIn_tk (i := 1) (d := some 8) rfl ?_
 refine wpIn_tp (i := 2) (d := some 9) rfl (by (intro wq hq; obtain ⟨q3, q4, q5, q6, q7, q8, q9⟩ := hQ.out wq hq; go_simp; first | done | with_reducible rfl)) ?_
 refine wpIn_tk (i := 4) (d := some 11) rfl ?_
 refine wpIn_tk (i := 8) (d := some 15) rfl ?_
 refine wpIn_tp (i := 9) (d := some 16) rfl (by (intro wq hq; obtain ⟨q3, q4, q5, q6, q7, q8, q9⟩ := hQ.out wq hq; go_simp; first | done | with_reducible rfl)) ?_
 refine wpIn_tp (i := 11) (d := some 18) rfl (by (intro wq hq; obtain ⟨q3, q4, q5, q6, q7, q8, q9⟩ := hQ.out wq hq; go_simp; first | done | with_reducible rfl)) ?_
 refine pst_0_n (r := w.heap.size + 1 + 1) ?_ HP.out _ hC0
 intro w2 hb2 x7 x10 x12 q13 c13 o13 x14 x17 x19 q20 c20 o20
 unfold putOps
 refine wpIn_tk (i := 14) (d := some 21) rfl ?_
 have hres := HR.out w2 hb2
 have i0 := five_c0 hres; have i1 := five_c1 hres; have i2 := five_c2 hres; have i3 := five_c3 hres; have i4 := five_c4 hres
 have z0 := five_fz hres 0; have z1 := five_fz hres 1; have z2 := five_fz hres 2; have z3 := five_fz hres 3; have z4 := five_fz hres 4
 refine wpIn_do (i := 15) (hb2.mono HP.out.rle) (by kernel_rfl) rfl (by rfl) ?_
 intro K hK
 go_simp
 refine hK _ _ ?_
 clear hK K
 have h5 := set5_heap hres (.int .i64 5) (.int .i64 0) (.string ⟨#[]⟩) (.slice q13 (nk + 1) c13) (.slice q20 (nl + 1) c20)
 have HK5 : Keep (One (w.heap.size + 1 + 1)) w2 _ := set5_keep w2 (w.heap.size + 1 + 1) (.int .i64 5) (.int .i64 0) (.string ⟨#[]⟩) (.slice q13 (nk + 1) c13) (.slice q20 (nl + 1) c20)
 obtain ⟨WE, hWE⟩ : ∃ WE, WE = set5 w2 (w.heap.size + 1 + 1) (.int .i64 5) (.int .i64 0) (.string ⟨#[]⟩) (.slice q13 (nk + 1) c13) (.slice q20 (nl + 1) c20) := ⟨_, rfl⟩
 rw [← hWE] at h5 HK5
 unfold set5 at hWE
 rw [← hWE]
 have hS := HS.out
 have hB := HBW.out.size
 have s2 := hb2.size
 have sE := HK5.size
 have hbE : Below (w.heap.size + 1 + 1) W0 WE := (hb2.mono HP.out.rle).trans (HK5.below (by omega) fun q hq => by unfold One; omega)
 refine wpIn_done hbE (by kernel_rfl) ?_ _
 clear i0 i1 i2 i3 i4 z0 z1 z2 z3 z4 hWE
 go_wp2
 refine bodyPost_ret (results_cell rfl _ _ _ rfl (loadJ5 h5)) rfl ?_
 obtain ⟨b1, c1', e1⟩ := own_some o13
 obtain ⟨b2, c2', e2⟩ := own_some o20
 cases e1
 cases e2
 have g13 := own_ge o13 b1 rfl
 have g20 := own_ge o20 b2 rfl
 have o13' : w2.ownsRow W0.heap.size 9 1 (.slice (some ⟨b1, 0, none⟩) (nk + 1) c13) (j.keys ++ [key]).length ((j.keys ++ [key]).map Value.string) := by
  rw [List.length_append, List.map_append, ← HE.out.1]
  exact o13
 have o20' : w2.ownsRow W0.heap.size 25 5 (.slice (some ⟨b2, 0, none⟩) (nl + 1) c20) (j.list ++ [v]).length (xs ++ [.int .i64 vk, .int .i64 vi, .string vt, .slice vpk vnk vck, .slice vpl vnl vcl]) := by
  rw [List.length_append, ← HE.out.2]
  exact o20
 have carO : ∀ q, O q → O q ∧ w2.heap[q]? = W0.heap[q]? := fun q hq => ⟨hq, hb2.block q (by have := HO.out q hq; omega)⟩
 have hrow : isRow O w2 (j.list ++ [v]) (xs ++ [.int .i64 vk, .int .i64 vi, .string vt, .slice vpk vnk vck, .slice vpl vnl vcl]) := isRow.snoc rfl (HVB.out.carry carO) _ _ (isRow.carry carO _ _ HRW.out)
 obtain ⟨qk, cqk, ek, hk⟩ := own_rdK o13'
 obtain ⟨ql, cql, el, hcl, hl⟩ := own_js o20' hrow
 simp only [Value.slice.injEq] at ek el
 obtain ⟨rfl, hk1, rfl⟩ := ek
 obtain ⟨rfl, hl1, rfl⟩ := el
 have old : ∀ q, q < w2.heap.size → q ≠ w.heap.size + 1 + 1 → WE.heap[q]? = w2.heap[q]? := fun q h1 h2 => HK5.block q h1 (by unfold One; omega)
 have bE : Below w.heap.size w WE := HBW.out.trans (hbE.mono (by omega))
 refine ⟨⟨b1, c13, b2, c20, rfl, ?_⟩, bE⟩
 unfold isJ
 refine ⟨some ⟨b1, 0, none⟩, c13, some ⟨b2, 0, none⟩, c20, ?_, hk.carry fun q hq => ?_, hcl, hl.carry fun q hq => ?_⟩
 · rw [← hk1, ← hl1]
   rfl
 · exact ⟨.inr ⟨by have := hq.1; omega, by have := hq.2; omega⟩, old q hq.2 (by have := hq.1; omega)⟩
 · rcases hq with hq | hq
   · have := HO.out q hq
     exact ⟨.inl hq, old q (by omega) (by omega)⟩
   · exact ⟨.inr ⟨by have := hq.1; omega, by have := hq.2; omega⟩, old q hq.2 (by have := hq.1; omega)⟩
end Go.Proofs.YtnngalkdjgjmbaaGreat
namespace Go.Proofs.YtnngalkdjgjmbaaGreat
open Go.RowKit
theorem named_iff {most : Nat} {l : List ByteArray} : namedE most l = true ↔ l.length ≤ most ∧ l.Pairwise (· ≠ ·) ∧ ∀ x ∈ l, Id.evt x = true := by
 unfold namedE
 rw [Bool.and_eq_true, Bool.and_eq_true, decide_eq_true_eq, List.all_eq_true]
 exact ⟨fun h => ⟨h.1.1, noTwice_pair h.1.2, h.2⟩, fun h => ⟨⟨h.1, pair_noTwice h.2.1⟩, h.2.2⟩⟩
theorem take_oneE {α : Type} (l : List α) (k : Nat) (d : α) (hk : k < l.length) : l.take (k + 1) = l.take k ++ [l.getD k d] := by
 rw [List.take_succ_eq_append_getElem hk, List.getD_eq_getElem?_getD, List.getElem?_eq_getElem hk]; rfl
theorem getD_inl {α : Type} {l : List α} {k : Nat} {d : α} (h : k < l.length) : l.getD k d ∈ l := by
 rw [List.getD_eq_getElem?_getD, List.getElem?_eq_getElem h]; exact List.getElem_mem _
theorem beqB (s t : ByteArray) : (s.toList == t.toList) = decide (s = t) := by
 rw [Bool.eq_iff_iff, beq_iff_eq, decide_eq_true_eq]
 constructor
 · intro h
   rw [ByteArray.toList_eq, ByteArray.toList_eq] at h
   exact ByteArray.ext (Array.toList_inj.1 h)
 · rintro rfl; rfl
theorem revents_any {O : Nat → Prop} {l : List ByteArray} {p : Option Addr} {c : Nat} {w : World} (most : Nat) (hrd : RdK O w p c l) (hO : ∀ k, O k → k < w.heap.size) (_hl : l.length ≤ 100000) (hm : most ≤ 1000) :
    Calls Tryz.prog 17 #[.slice p l.length c, .int .i64 most] w fun x w' => x = .returned (.bool (namedE most l)) ∧ Below w.heap.size w w' := by
 by_cases hlm : l.length ≤ most
 · have HLM : Hid (l.length ≤ most) := hlm
   have hdm : decide (most < l.length) = false := by simp; omega
   go_enter Tryz.func17, Tryz.ntmps17
   go_wp2
   go_loopw [5] (fun i wr => ∃ k : Nat, k ≤ l.length ∧ i = .int .i64 k ∧ (∀ x ∈ l.take k, Id.evt x = true) ∧ (l.take k).Pairwise (· ≠ ·) ∧ Below w.heap.size w wr) (fun i _ => l.length - (intOf i).toNat)
   case atStart => exact ⟨0, Nat.zero_le _, rfl, by simp, by simp, Below.refl _ _⟩
   case round =>
    obtain ⟨k, hk, rfl, hall, hpw, hb⟩ := hrel
    have HA : Hid (∀ x ∈ l.take k, Id.evt x = true) := hall
    have HP : Hid ((l.take k).Pairwise (· ≠ ·)) := hpw
    clear hall hpw
    by_cases hlt : k < l.length
    · obtain ⟨a, rfl, hOa, hca⟩ := hrd.2 k hlt
      have HC : Hid (∀ j, j < l.length → ∀ wx, Below w.heap.size w wx → wx.cell? (a.add j) = some (.string (l.getD j nix))) := fun j hj wx hx => by
       obtain ⟨a', e, hO', hc'⟩ := hrd.2 j hj
       cases e
       exact (World.cell?_of_block (by rw [add_block]; exact hx.block _ (hO _ hO'))).trans hc'
      have hcell := HC.out k hlt wr hb
      have HT : Hid (l.take (k + 1) = l.take k ++ [l.getD k nix]) := take_oneE l k _ hlt
      have HM : Hid (l.getD k nix ∈ l) := getD_inl hlt
      have HX2 : Hid (∀ wx, Below w.heap.size w wx → wx.cell? (a.add k) = some (.string (l.getD k nix))) := HC.out k hlt
      have HTW : Hid (∀ m, m < k → l.getD m nix = l.getD k nix → namedE most l = false) := by
       intro m hmk e
       cases hn : namedE most l with
       | false => rfl
       | true =>
        have hp := (named_iff.1 hn).2.1
        have := List.pairwise_iff_getElem.1 hp m k (by omega) hlt hmk
        rw [List.getD_eq_getElem?_getD, List.getD_eq_getElem?_getD, List.getElem?_eq_getElem hlt, List.getElem?_eq_getElem (show m < l.length by omega)] at e
        exact absurd e this
      clear hca
      generalize l.getD k nix = x at *
      have hev := Id.refEvent_any x wr
      cases hx : Id.evt x with
      | false =>
       rw [hx] at hev
       have HE : Hid (namedE most l = false) := by
        show _ = _
        cases hn : namedE most l with
        | false => rfl
        | true => have := (named_iff.1 hn).2.2 x HM.out; rw [hx] at this; cases this
       clear hx
       go_wp2_with (first
        | (go_at_call 19; refine hev.mono ?_; rintro e w1 ⟨rfl, hb1⟩))
       go_ret
       exact ⟨ret_bool HE.out.symm, hb.trans (hb1.mono hb.size)⟩
      | true =>
       rw [hx] at hev
       have HX : Hid (Id.evt x = true) := hx
       clear hx
       go_wp2_with (first
        | (go_at_call 19; refine hev.mono ?_; rintro e w1 ⟨rfl, hb1⟩
           have hbw := hb.trans (hb1.mono hb.size)))
       clear hev hcell hb1
       go_loopw [6] (fun i wx => ∃ m : Nat, m ≤ k ∧ i = .int .i64 m ∧ x ∉ l.take m ∧ Below w.heap.size w wx) (fun i _ => k - (intOf i).toNat)
       case atStart => exact ⟨0, Nat.zero_le _, rfl, by simp, hbw⟩
       case round =>
        clear hbw
        obtain ⟨m, hm', rfl, hnx, hby⟩ := hrel
        have HNX : Hid (x ∉ l.take m) := hnx
        clear hnx
        by_cases hlt2 : m < k
        · have hml : m < l.length := by omega
          have c1 := HC.out m hml wr hby
          have c2 := HX2.out wr hby
          have HT2 : Hid (l.take (m + 1) = l.take m ++ [l.getD m nix]) := take_oneE l m _ hml
          have HTM := HTW.out m hlt2
          have HTMM : Hid (l.getD m nix = x → namedE most l = false) := HTM
          clear HTM
          generalize l.getD m nix = y at *
          by_cases hxy : y = x
          · have hbb : (x.toList == y.toList) = true := by rw [beqB]; simpa using hxy.symm
            have HE : Hid (namedE most l = false) := HTMM.out hxy
            go_wp2
            go_quiet (fail)
            go_wp2
            go_ret
            exact ⟨ret_bool HE.out.symm, below_drewN hby _⟩
          · have hbb : (x.toList == y.toList) = false := by rw [beqB]; simpa using fun e => hxy e.symm
            have HN2 : Hid (x ∉ l.take (m + 1)) := by
             show x ∉ l.take (m + 1)
             rw [HT2.out, List.mem_append, List.mem_singleton]
             rintro (h | h)
             · exact HNX.out h
             · exact hxy h.symm
            go_wp2
            go_quiet (fail)
            go_wp2
            go_roundw
            case rel => exact ⟨m + 1, by omega, by go_num, HN2.out, below_drewN hby _⟩
            case measure => simp [intOf]; omega
        · obtain rfl : k = m := by omega
          go_wp2
          go_roundw
          case rel =>
           refine ⟨k + 1, by omega, by go_num, fun y hy => ?_, ?_, hby⟩
           · rw [HT.out, List.mem_append, List.mem_singleton] at hy
             rcases hy with hy | rfl
             · exact HA.out y hy
             · exact HX.out
           · rw [HT.out, List.pairwise_append]
             refine ⟨HP.out, by simp, fun y hy z hz e => ?_⟩
             rw [List.mem_singleton.1 hz] at e
             exact HNX.out (e ▸ hy)
          case measure => simp [intOf]; omega
    · obtain rfl : k = l.length := by omega
      have HE : Hid (namedE most l = true) := by
       have h1 := HA.out
       have h2 := HP.out
       rw [List.take_length] at h1 h2
       exact named_iff.2 ⟨HLM.out, h2, h1⟩
      go_wp2
      go_ret
      exact ⟨ret_bool HE.out.symm, hb⟩
 · have HE : Hid (namedE most l = false) := by
     show _ = _
     cases hn : namedE most l with
     | false => rfl
     | true => exact absurd (named_iff.1 hn).1 hlm
   go_enter Tryz.func17, Tryz.ntmps17
   go_wp2
   go_ret
   exact ⟨ret_bool HE.out.symm, Below.refl _ _⟩
theorem wrap_in {n : Int} (h0 : 0 ≤ n) (h1 : n < 9223372036854775808) : IntKind.i64.wrap n = n := by
 first | (rw [IntKind.wrap_i64]; omega) | (unfold IntKind.wrap; simp; omega)
theorem rFitSigs_any {O : Nat → Prop} {l : List (ByteArray × ByteArray)} {p : Option Addr} {c : Nat} {w : World} (hrd : RdS O w p c l) (hO : ∀ k, O k → k < w.heap.size) (hl : l.length ≤ 100000) (hz : ∀ x ∈ l, x.1.size ≤ 1000000000 ∧ x.2.size ≤ 1000000000) :
    Calls Tryz.prog 18 #[.slice p l.length c] w fun x w' => x = .returned (.bool (signedE l)) ∧ Below w.heap.size w w' := by
 have hcc := hrd.1
 by_cases h4 : l.length ≤ 4
 · have HL4 : Hid (l.length ≤ 4) := h4
   have hd4 : decide (4 < (l.length : Int)) = false := by simp; omega
   go_enter Tryz.func18, Tryz.ntmps18
   go_wp2
   go_loopw [3] (fun i wr => ∃ k : Nat, k ≤ l.length ∧ i = .int .i64 k ∧ (∀ j, j < k → sigOk (l.getD j (nix, nix)) = true ∧ (0 < j → ltK (l.getD (j - 1) (nix, nix)).1 (l.getD j (nix, nix)).1 = true)) ∧ Below w.heap.size w wr) (fun i _ => l.length - (intOf i).toNat)
   case atStart => exact ⟨0, Nat.zero_le _, rfl, fun j hj => absurd hj (by omega), Below.refl _ _⟩
   case round =>
    obtain ⟨k, hk, rfl, hg, hb⟩ := hrel
    have HG : Hid (∀ j, j < k → sigOk (l.getD j (nix, nix)) = true ∧ (0 < j → ltK (l.getD (j - 1) (nix, nix)).1 (l.getD j (nix, nix)).1 = true)) := hg
    clear hg
    by_cases hlt : k < l.length
    · obtain ⟨b, o, rfl, hOb, hc1, hc2⟩ := hrd.2 k hlt
      have HCP : Hid (∀ j, j < l.length → ∀ W : World, Below w.heap.size w W → W.cell? ⟨b, o + j * 2, none⟩ = some (.string (l.getD j (nix, nix)).1)) := by
       intro j hj W hW
       obtain ⟨b', o', hp', hO', h1', h2'⟩ := hrd.2 j hj
       cases hp'
       exact (World.cell?_of_block (a := ⟨b, o + j * 2, none⟩) (hW.block _ (hO _ hO'))).trans h1'
      have hx := hz (l.getD k (nix, nix)) (getD_inl hlt)
      have HC1 : Hid (∀ W : World, Below w.heap.size w W → W.cell? ⟨b, o + k * 2, none⟩ = some (.string (l.getD k (nix, nix)).1)) := HCP.out k hlt
      have HC2 : Hid (∀ W : World, Below w.heap.size w W → W.cell? ⟨b, o + k * 2 + 1, none⟩ = some (.string (l.getD k (nix, nix)).2)) := fun W hW => (World.cell?_of_block (a := ⟨b, o + k * 2 + 1, none⟩) (hW.block _ (hO _ hOb))).trans hc2
      have HOK : Hid (sigOk (l.getD k (nix, nix)) = (Id.srv (l.getD k (nix, nix)).1 && Id.evt (dol (l.getD k (nix, nix)).2))) := rfl
      obtain ⟨x1, hx1⟩ : ∃ x, (l.getD k (nix, nix)).1 = x := ⟨_, rfl⟩
      obtain ⟨x2, hx2⟩ : ∃ x, (l.getD k (nix, nix)).2 = x := ⟨_, rfl⟩
      have HX1 : Hid ((l.getD k (nix, nix)).1 = x1) := hx1
      rw [hx1] at hx HOK HC1
      rw [hx2] at hx HOK HC2
      clear hc1 hc2 hx1 hx2
      have hbd : Below w.heap.size w wr.drew := hb.drew
      have hS := Id.refServer_any x1 wr.drew (by omega)
      have hD := fun W => Id.refEvent_any (dol x2) W
      unfold dol at hD
      have HLT : Hid (k < l.length) := hlt
      cases hs : Id.srv x1 with
      | false =>
       have HF : Hid (signedE l = false) := signed_bad hlt (by rw [HOK.out, hs]; rfl)
       rw [hs] at hS
       clear hs
       go_wp2
       refine wp_region_in (by kernel_rfl) (fun w' => Below w.heap.size w w') ?_
       change wpIn _ _ _ _ _ _ _ _ (World.drew _)
       refine wpIn_tk (i := 0) (d := some 13) rfl ?_
       refine wpIn_tk (i := 1) (d := some 14) rfl ?_
       refine wpIn_tk (i := 2) (d := some 15) rfl ?_
       refine wpIn_tk (i := 3) (d := some 16) rfl ?_
       refine wpIn_tp (i := 4) (d := some 17) rfl (by (intro wq hq; have z1 := HC1.out wq hq; have z2 := HC2.out wq hq; go_simp; first | done | with_reducible rfl)) ?_
       refine wpIn_do (i := 5) hbd (by kernel_rfl) rfl (by rfl) ?_
       intro K hK
       go_simp
       go_wp2_with (go_at_call 39; refine hS.mono ?_; rintro e w1 ⟨rfl, rfl⟩)
       refine wpIn_tk (i := 6) (d := some 19) rfl ?_
       refine wpIn_tk (i := 7) (d := some 20) rfl ?_
       refine wpIn_take (i := 8) (d := (some 21)) (v := undef) (a' := ?aqaq8) rfl rfl (by kernel_rfl) (by kernel_rfl) (by kernel_rfl) (fun _ _ _ h => h) (Or.inr ⟨by rfl, rfl⟩) ?fqaq8 ?_
       case fqaq8 => (go_frame; rfl)
       refine wpIn_take (i := 9) (d := (some 22)) (v := undef) (a' := ?aqaq9) rfl rfl (by kernel_rfl) (by kernel_rfl) (by kernel_rfl) (fun _ _ _ h => h) (Or.inr ⟨by rfl, rfl⟩) ?fqaq9 ?_
       case fqaq9 => (go_frame; rfl)
       refine wpIn_take (i := 10) (d := (some 23)) (v := undef) (a' := ?aqaq10) rfl rfl (by kernel_rfl) (by kernel_rfl) (by kernel_rfl) (fun _ _ _ h => h) (Or.inr ⟨by rfl, rfl⟩) ?fqaq10 ?_
       case fqaq10 => (go_frame; rfl)
       refine wpIn_take (i := 11) (d := (some 24)) (v := undef) (a' := ?aqaq11) rfl rfl (by kernel_rfl) (by kernel_rfl) (by kernel_rfl) (fun _ _ _ h => h) (Or.inr ⟨by rfl, rfl⟩) ?fqaq11 ?_
       case fqaq11 => (go_frame; rfl)
       refine wpIn_take (i := 12) (d := (some 25)) (v := undef) (a' := ?aqaq12) rfl rfl (by kernel_rfl) (by kernel_rfl) (by kernel_rfl) (fun _ _ _ h => h) (Or.inr ⟨by rfl, rfl⟩) ?fqaq12 ?_
       case fqaq12 => (go_frame; rfl)
       refine wpIn_take (i := 13) (d := (some 26)) (v := undef) (a' := ?aqaq13) rfl rfl (by kernel_rfl) (by kernel_rfl) (by kernel_rfl) (fun _ _ _ h => h) (Or.inr ⟨by rfl, rfl⟩) ?fqaq13 ?_
       case fqaq13 => (go_frame; rfl)
       refine wpIn_take (i := 14) (d := (some 27)) (v := undef) (a' := ?aqaq14) rfl rfl (by kernel_rfl) (by kernel_rfl) (by kernel_rfl) (fun _ _ _ h => h) (Or.inr ⟨by rfl, rfl⟩) ?fqaq14 ?_
       case fqaq14 => (go_frame; rfl)
       refine wpIn_take (i := 15) (d := (some 28)) (v := undef) (a' := ?aqaq15) rfl rfl (by kernel_rfl) (by kernel_rfl) (by kernel_rfl) (fun _ _ _ h => h) (Or.inr ⟨by rfl, rfl⟩) ?fqaq15 ?_
       case fqaq15 => (go_frame; rfl)
       refine wpIn_tk (i := 16) (d := some 29) rfl ?_
       refine wpIn_tk (i := 17) (d := some 30) rfl ?_
       refine wpIn_take (i := 18) (d := (some 31)) (v := undef) (a' := ?aqaq18) rfl rfl (by kernel_rfl) (by kernel_rfl) (by kernel_rfl) (fun _ _ _ h => h) (Or.inr ⟨by rfl, rfl⟩) ?fqaq18 ?_
       case fqaq18 => (go_frame; rfl)
       refine wpIn_take (i := 19) (d := (some 32)) (v := undef) (a' := ?aqaq19) rfl rfl (by kernel_rfl) (by kernel_rfl) (by kernel_rfl) (fun _ _ _ h => h) (Or.inr ⟨by rfl, rfl⟩) ?fqaq19 ?_
       case fqaq19 => (go_frame; rfl)
       refine wpIn_take (i := 20) (d := (some 33)) (v := undef) (a' := ?aqaq20) rfl rfl (by kernel_rfl) (by kernel_rfl) (by kernel_rfl) (fun _ _ _ h => h) (Or.inr ⟨by rfl, rfl⟩) ?fqaq20 ?_
       case fqaq20 => (go_frame; rfl)
       refine wpIn_take (i := 21) (d := (some 34)) (v := undef) (a' := ?aqaq21) rfl rfl (by kernel_rfl) (by kernel_rfl) (by kernel_rfl) (fun _ _ _ h => h) (Or.inr ⟨by rfl, rfl⟩) ?fqaq21 ?_
       case fqaq21 => (go_frame; rfl)
       refine wpIn_take (i := 22) (d := (some 35)) (v := undef) (a' := ?aqaq22) rfl rfl (by kernel_rfl) (by kernel_rfl) (by kernel_rfl) (fun _ _ _ h => h) (Or.inr ⟨by rfl, rfl⟩) ?fqaq22 ?_
       case fqaq22 => (go_frame; rfl)
       refine wpIn_take (i := 23) (d := (some 36)) (v := undef) (a' := ?aqaq23) rfl rfl (by kernel_rfl) (by kernel_rfl) (by kernel_rfl) (fun _ _ _ h => h) (Or.inr ⟨by rfl, rfl⟩) ?fqaq23 ?_
       case fqaq23 => (go_frame; rfl)
       refine wpIn_take (i := 24) (d := (some 37)) (v := undef) (a' := ?aqaq24) rfl rfl (by kernel_rfl) (by kernel_rfl) (by kernel_rfl) (fun _ _ _ h => h) (Or.inr ⟨by rfl, rfl⟩) ?fqaq24 ?_
       case fqaq24 => (go_frame; rfl)
       refine wpIn_take (i := 25) (d := (some 38)) (v := undef) (a' := ?aqaq25) rfl rfl (by kernel_rfl) (by kernel_rfl) (by kernel_rfl) (fun _ _ _ h => h) (Or.inr ⟨by rfl, rfl⟩) ?fqaq25 ?_
       case fqaq25 => (go_frame; rfl)
       refine wpIn_take (i := 26) (d := (some 39)) (v := undef) (a' := ?aqaq26) rfl rfl (by kernel_rfl) (by kernel_rfl) (by kernel_rfl) (fun _ _ _ h => h) (Or.inr ⟨by rfl, rfl⟩) ?fqaq26 ?_
       case fqaq26 => (go_frame; rfl)
       refine wpIn_take (i := 27) (d := (some 40)) (v := undef) (a' := ?aqaq27) rfl rfl (by kernel_rfl) (by kernel_rfl) (by kernel_rfl) (fun _ _ _ h => h) (Or.inr ⟨by rfl, rfl⟩) ?fqaq27 ?_
       case fqaq27 => (go_frame; rfl)
       refine wpIn_take (i := 28) (d := (some 41)) (v := undef) (a' := ?aqaq28) rfl rfl (by kernel_rfl) (by kernel_rfl) (by kernel_rfl) (fun _ _ _ h => h) (Or.inr ⟨by rfl, rfl⟩) ?fqaq28 ?_
       case fqaq28 => (go_frame; rfl)
       refine wpIn_take (i := 29) (d := (some 42)) (v := undef) (a' := ?aqaq29) rfl rfl (by kernel_rfl) (by kernel_rfl) (by kernel_rfl) (fun _ _ _ h => h) (Or.inr ⟨by rfl, rfl⟩) ?fqaq29 ?_
       case fqaq29 => (go_frame; rfl)
       refine wpIn_take (i := 30) (d := (some 43)) (v := undef) (a' := ?aqaq30) rfl rfl (by kernel_rfl) (by kernel_rfl) (by kernel_rfl) (fun _ _ _ h => h) (Or.inr ⟨by rfl, rfl⟩) ?fqaq30 ?_
       case fqaq30 => (go_frame; rfl)
       refine wpIn_take (i := 31) (d := (some 44)) (v := undef) (a' := ?aqaq31) rfl rfl (by kernel_rfl) (by kernel_rfl) (by kernel_rfl) (fun _ _ _ h => h) (Or.inr ⟨by rfl, rfl⟩) ?fqaq31 ?_
       case fqaq31 => (go_frame; rfl)
       refine wpIn_take (i := 32) (d := (some 45)) (v := undef) (a' := ?aqaq32) rfl rfl (by kernel_rfl) (by kernel_rfl) (by kernel_rfl) (fun _ _ _ h => h) (Or.inr ⟨by rfl, rfl⟩) ?fqaq32 ?_
       case fqaq32 => (go_frame; rfl)
       refine wpIn_take (i := 33) (d := (some 46)) (v := undef) (a' := ?aqaq33) rfl rfl (by kernel_rfl) (by kernel_rfl) (by kernel_rfl) (fun _ _ _ h => h) (Or.inr ⟨by rfl, rfl⟩) ?fqaq33 ?_
       case fqaq33 => (go_frame; rfl)
       refine wpIn_tk (i := 34) (d := some 47) rfl ?_
       refine wpIn_done hbd (by kernel_rfl) ?_ _
       go_wp2
       go_ret
       exact ⟨ret_bool HF.out.symm, hbd⟩
      | true =>
       rw [hs] at hS
       cases hd : Id.evt (dol x2) with
       | false =>
        have HF : Hid (signedE l = false) := signed_bad hlt (by rw [HOK.out, hs, hd]; rfl)
        unfold dol at hd
        rw [hd] at hD
        clear hs hd
        go_wp2
        refine wp_region_in (by kernel_rfl) (fun w' => Below w.heap.size w w') ?_
        change wpIn _ _ _ _ _ _ _ _ (World.drew _)
        refine wpIn_tk (i := 0) (d := some 13) rfl ?_
        refine wpIn_tk (i := 1) (d := some 14) rfl ?_
        refine wpIn_tk (i := 2) (d := some 15) rfl ?_
        refine wpIn_tk (i := 3) (d := some 16) rfl ?_
        refine wpIn_tp (i := 4) (d := some 17) rfl (by (intro wq hq; have z1 := HC1.out wq hq; have z2 := HC2.out wq hq; go_simp; first | done | with_reducible rfl)) ?_
        refine wpIn_do (i := 5) hbd (by kernel_rfl) rfl (by rfl) ?_
        intro K hK
        go_simp
        go_wp2_with (go_at_call 39; refine hS.mono ?_; rintro e w1 ⟨rfl, rfl⟩)
        refine wpIn_tk (i := 6) (d := some 19) rfl ?_
        refine wpIn_tk (i := 7) (d := some 20) rfl ?_
        refine wpIn_tk (i := 8) (d := some 21) rfl ?_
        refine wpIn_tk (i := 9) (d := some 22) rfl ?_
        refine wpIn_tk (i := 10) (d := some 23) rfl ?_
        refine wpIn_tk (i := 11) (d := some 24) rfl ?_
        refine wpIn_tp (i := 12) (d := some 25) rfl (by (intro wq hq; have z1 := HC1.out wq hq; have z2 := HC2.out wq hq; go_simp; first | done | with_reducible rfl)) ?_
        refine wpIn_tp (i := 13) (d := some 26) rfl (by (intro wq hq; have hcat : ¬ 9223372036854775807 < 1 + x2.size := (by omega); go_simp; first | done | with_reducible rfl)) ?_
        refine wpIn_do (i := 14) hbd (by kernel_rfl) rfl (by rfl) ?_
        intro K hK
        go_simp
        go_wp2_with (go_at_call 19; refine (hD _).mono ?_; rintro e w2 ⟨rfl, hb2⟩; have hbd2 := hbd.trans (hb2.mono hbd.size))
        refine wpIn_tk (i := 15) (d := some 28) rfl ?_
        refine wpIn_tk (i := 16) (d := some 29) rfl ?_
        refine wpIn_tk (i := 17) (d := some 30) rfl ?_
        refine wpIn_take (i := 18) (d := (some 31)) (v := undef) (a' := ?aqbq18) rfl rfl (by kernel_rfl) (by kernel_rfl) (by kernel_rfl) (fun _ _ _ h => h) (Or.inr ⟨by rfl, rfl⟩) ?fqbq18 ?_
        case fqbq18 => (go_frame; rfl)
        refine wpIn_take (i := 19) (d := (some 32)) (v := undef) (a' := ?aqbq19) rfl rfl (by kernel_rfl) (by kernel_rfl) (by kernel_rfl) (fun _ _ _ h => h) (Or.inr ⟨by rfl, rfl⟩) ?fqbq19 ?_
        case fqbq19 => (go_frame; rfl)
        refine wpIn_take (i := 20) (d := (some 33)) (v := undef) (a' := ?aqbq20) rfl rfl (by kernel_rfl) (by kernel_rfl) (by kernel_rfl) (fun _ _ _ h => h) (Or.inr ⟨by rfl, rfl⟩) ?fqbq20 ?_
        case fqbq20 => (go_frame; rfl)
        refine wpIn_take (i := 21) (d := (some 34)) (v := undef) (a' := ?aqbq21) rfl rfl (by kernel_rfl) (by kernel_rfl) (by kernel_rfl) (fun _ _ _ h => h) (Or.inr ⟨by rfl, rfl⟩) ?fqbq21 ?_
        case fqbq21 => (go_frame; rfl)
        refine wpIn_take (i := 22) (d := (some 35)) (v := undef) (a' := ?aqbq22) rfl rfl (by kernel_rfl) (by kernel_rfl) (by kernel_rfl) (fun _ _ _ h => h) (Or.inr ⟨by rfl, rfl⟩) ?fqbq22 ?_
        case fqbq22 => (go_frame; rfl)
        refine wpIn_take (i := 23) (d := (some 36)) (v := undef) (a' := ?aqbq23) rfl rfl (by kernel_rfl) (by kernel_rfl) (by kernel_rfl) (fun _ _ _ h => h) (Or.inr ⟨by rfl, rfl⟩) ?fqbq23 ?_
        case fqbq23 => (go_frame; rfl)
        refine wpIn_take (i := 24) (d := (some 37)) (v := undef) (a' := ?aqbq24) rfl rfl (by kernel_rfl) (by kernel_rfl) (by kernel_rfl) (fun _ _ _ h => h) (Or.inr ⟨by rfl, rfl⟩) ?fqbq24 ?_
        case fqbq24 => (go_frame; rfl)
        refine wpIn_take (i := 25) (d := (some 38)) (v := undef) (a' := ?aqbq25) rfl rfl (by kernel_rfl) (by kernel_rfl) (by kernel_rfl) (fun _ _ _ h => h) (Or.inr ⟨by rfl, rfl⟩) ?fqbq25 ?_
        case fqbq25 => (go_frame; rfl)
        refine wpIn_take (i := 26) (d := (some 39)) (v := undef) (a' := ?aqbq26) rfl rfl (by kernel_rfl) (by kernel_rfl) (by kernel_rfl) (fun _ _ _ h => h) (Or.inr ⟨by rfl, rfl⟩) ?fqbq26 ?_
        case fqbq26 => (go_frame; rfl)
        refine wpIn_take (i := 27) (d := (some 40)) (v := undef) (a' := ?aqbq27) rfl rfl (by kernel_rfl) (by kernel_rfl) (by kernel_rfl) (fun _ _ _ h => h) (Or.inr ⟨by rfl, rfl⟩) ?fqbq27 ?_
        case fqbq27 => (go_frame; rfl)
        refine wpIn_take (i := 28) (d := (some 41)) (v := undef) (a' := ?aqbq28) rfl rfl (by kernel_rfl) (by kernel_rfl) (by kernel_rfl) (fun _ _ _ h => h) (Or.inr ⟨by rfl, rfl⟩) ?fqbq28 ?_
        case fqbq28 => (go_frame; rfl)
        refine wpIn_take (i := 29) (d := (some 42)) (v := undef) (a' := ?aqbq29) rfl rfl (by kernel_rfl) (by kernel_rfl) (by kernel_rfl) (fun _ _ _ h => h) (Or.inr ⟨by rfl, rfl⟩) ?fqbq29 ?_
        case fqbq29 => (go_frame; rfl)
        refine wpIn_take (i := 30) (d := (some 43)) (v := undef) (a' := ?aqbq30) rfl rfl (by kernel_rfl) (by kernel_rfl) (by kernel_rfl) (fun _ _ _ h => h) (Or.inr ⟨by rfl, rfl⟩) ?fqbq30 ?_
        case fqbq30 => (go_frame; rfl)
        refine wpIn_take (i := 31) (d := (some 44)) (v := undef) (a' := ?aqbq31) rfl rfl (by kernel_rfl) (by kernel_rfl) (by kernel_rfl) (fun _ _ _ h => h) (Or.inr ⟨by rfl, rfl⟩) ?fqbq31 ?_
        case fqbq31 => (go_frame; rfl)
        refine wpIn_take (i := 32) (d := (some 45)) (v := undef) (a' := ?aqbq32) rfl rfl (by kernel_rfl) (by kernel_rfl) (by kernel_rfl) (fun _ _ _ h => h) (Or.inr ⟨by rfl, rfl⟩) ?fqbq32 ?_
        case fqbq32 => (go_frame; rfl)
        refine wpIn_take (i := 33) (d := (some 46)) (v := undef) (a' := ?aqbq33) rfl rfl (by kernel_rfl) (by kernel_rfl) (by kernel_rfl) (fun _ _ _ h => h) (Or.inr ⟨by rfl, rfl⟩) ?fqbq33 ?_
        case fqbq33 => (go_frame; rfl)
        refine wpIn_tk (i := 34) (d := some 47) rfl ?_
        refine wpIn_done hbd2 (by kernel_rfl) ?_ _
        go_wp2
        go_ret
        exact ⟨ret_bool HF.out.symm, hbd2⟩
       | true =>
        have HOK1 : Hid (sigOk (l.getD k (nix, nix)) = true) := by show _ = _; rw [HOK.out, hs, hd]; rfl
        unfold dol at hd
        rw [hd] at hD
        clear hs hd HOK
        by_cases hk0 : k = 0
        · subst hk0
          simp only [Nat.zero_mul, Nat.add_zero] at HC1 HC2
          go_wp2
          refine wp_region_in (by kernel_rfl) (fun w' => Below w.heap.size w w') ?_
          change wpIn _ _ _ _ _ _ _ _ (World.drew _)
          refine wpIn_tk (i := 0) (d := some 13) rfl ?_
          refine wpIn_tk (i := 1) (d := some 14) rfl ?_
          refine wpIn_tk (i := 2) (d := some 15) rfl ?_
          refine wpIn_tk (i := 3) (d := some 16) rfl ?_
          refine wpIn_tp (i := 4) (d := some 17) rfl (by (intro wq hq; have z1 := HC1.out wq hq; have z2 := HC2.out wq hq; go_simp; first | done | with_reducible rfl)) ?_
          refine wpIn_do (i := 5) hbd (by kernel_rfl) rfl (by rfl) ?_
          intro K hK
          go_simp
          go_wp2_with (go_at_call 39; refine hS.mono ?_; rintro e w1 ⟨rfl, rfl⟩)
          refine wpIn_tk (i := 6) (d := some 19) rfl ?_
          refine wpIn_tk (i := 7) (d := some 20) rfl ?_
          refine wpIn_tk (i := 8) (d := some 21) rfl ?_
          refine wpIn_tk (i := 9) (d := some 22) rfl ?_
          refine wpIn_tk (i := 10) (d := some 23) rfl ?_
          refine wpIn_tk (i := 11) (d := some 24) rfl ?_
          refine wpIn_tp (i := 12) (d := some 25) rfl (by (intro wq hq; have z1 := HC1.out wq hq; have z2 := HC2.out wq hq; go_simp; first | done | with_reducible rfl)) ?_
          refine wpIn_tp (i := 13) (d := some 26) rfl (by (intro wq hq; have hcat : ¬ 9223372036854775807 < 1 + x2.size := (by omega); go_simp; first | done | with_reducible rfl)) ?_
          refine wpIn_do (i := 14) hbd (by kernel_rfl) rfl (by rfl) ?_
          intro K hK
          go_simp
          go_wp2_with (go_at_call 19; refine (hD _).mono ?_; rintro e w2 ⟨rfl, hb2⟩; have hbd2 := hbd.trans (hb2.mono hbd.size))
          refine wpIn_tk (i := 15) (d := some 28) rfl ?_
          refine wpIn_tk (i := 16) (d := some 29) rfl ?_
          refine wpIn_tk (i := 17) (d := some 30) rfl ?_
          refine wpIn_tk (i := 18) (d := some 31) rfl ?_
          refine wpIn_tk (i := 19) (d := some 32) rfl ?_
          refine wpIn_tk (i := 20) (d := some 33) rfl ?_
          refine wpIn_take (i := 21) (d := (some 34)) (v := undef) (a' := ?aqcq21) rfl rfl (by kernel_rfl) (by kernel_rfl) (by kernel_rfl) (fun _ _ _ h => h) (Or.inr ⟨by rfl, rfl⟩) ?fqcq21 ?_
          case fqcq21 => (go_frame; rfl)
          refine wpIn_take (i := 22) (d := (some 35)) (v := undef) (a' := ?aqcq22) rfl rfl (by kernel_rfl) (by kernel_rfl) (by kernel_rfl) (fun _ _ _ h => h) (Or.inr ⟨by rfl, rfl⟩) ?fqcq22 ?_
          case fqcq22 => (go_frame; rfl)
          refine wpIn_take (i := 23) (d := (some 36)) (v := undef) (a' := ?aqcq23) rfl rfl (by kernel_rfl) (by kernel_rfl) (by kernel_rfl) (fun _ _ _ h => h) (Or.inr ⟨by rfl, rfl⟩) ?fqcq23 ?_
          case fqcq23 => (go_frame; rfl)
          refine wpIn_take (i := 24) (d := (some 37)) (v := undef) (a' := ?aqcq24) rfl rfl (by kernel_rfl) (by kernel_rfl) (by kernel_rfl) (fun _ _ _ h => h) (Or.inr ⟨by rfl, rfl⟩) ?fqcq24 ?_
          case fqcq24 => (go_frame; rfl)
          refine wpIn_take (i := 25) (d := (some 38)) (v := undef) (a' := ?aqcq25) rfl rfl (by kernel_rfl) (by kernel_rfl) (by kernel_rfl) (fun _ _ _ h => h) (Or.inr ⟨by rfl, rfl⟩) ?fqcq25 ?_
          case fqcq25 => (go_frame; rfl)
          refine wpIn_take (i := 26) (d := (some 39)) (v := undef) (a' := ?aqcq26) rfl rfl (by kernel_rfl) (by kernel_rfl) (by kernel_rfl) (fun _ _ _ h => h) (Or.inr ⟨by rfl, rfl⟩) ?fqcq26 ?_
          case fqcq26 => (go_frame; rfl)
          refine wpIn_take (i := 27) (d := (some 40)) (v := undef) (a' := ?aqcq27) rfl rfl (by kernel_rfl) (by kernel_rfl) (by kernel_rfl) (fun _ _ _ h => h) (Or.inr ⟨by rfl, rfl⟩) ?fqcq27 ?_
          case fqcq27 => (go_frame; rfl)
          refine wpIn_take (i := 28) (d := (some 41)) (v := undef) (a' := ?aqcq28) rfl rfl (by kernel_rfl) (by kernel_rfl) (by kernel_rfl) (fun _ _ _ h => h) (Or.inr ⟨by rfl, rfl⟩) ?fqcq28 ?_
          case fqcq28 => (go_frame; rfl)
          refine wpIn_take (i := 29) (d := (some 42)) (v := undef) (a' := ?aqcq29) rfl rfl (by kernel_rfl) (by kernel_rfl) (by kernel_rfl) (fun _ _ _ h => h) (Or.inr ⟨by rfl, rfl⟩) ?fqcq29 ?_
          case fqcq29 => (go_frame; rfl)
          refine wpIn_take (i := 30) (d := (some 43)) (v := undef) (a' := ?aqcq30) rfl rfl (by kernel_rfl) (by kernel_rfl) (by kernel_rfl) (fun _ _ _ h => h) (Or.inr ⟨by rfl, rfl⟩) ?fqcq30 ?_
          case fqcq30 => (go_frame; rfl)
          refine wpIn_take (i := 31) (d := (some 44)) (v := undef) (a' := ?aqcq31) rfl rfl (by kernel_rfl) (by kernel_rfl) (by kernel_rfl) (fun _ _ _ h => h) (Or.inr ⟨by rfl, rfl⟩) ?fqcq31 ?_
          case fqcq31 => (go_frame; rfl)
          refine wpIn_take (i := 32) (d := (some 45)) (v := undef) (a' := ?aqcq32) rfl rfl (by kernel_rfl) (by kernel_rfl) (by kernel_rfl) (fun _ _ _ h => h) (Or.inr ⟨by rfl, rfl⟩) ?fqcq32 ?_
          case fqcq32 => (go_frame; rfl)
          refine wpIn_tk (i := 33) (d := some 46) rfl ?_
          refine wpIn_tk (i := 34) (d := some 47) rfl ?_
          refine wpIn_done hbd2 (by kernel_rfl) ?_ _
          go_wp2
          go_roundw
          case rel => exact ⟨1, by omega, by go_num, fun j hj => (by
              obtain rfl : j = 0 := (by omega)
              exact ⟨HOK1.out, fun h => absurd h (by omega)⟩), hbd2⟩
          case measure => simp [intOf]; omega
        · obtain ⟨m, hm⟩ : ∃ m, m = k - 1 := ⟨_, rfl⟩
          have HKM : Hid (k = m + 1) := by show _ = _; omega
          have hml : m < l.length := by omega
          have em : (k : Int) - 1 = (m : Int) := by omega
          have hwm : IntKind.i64.wrap (m : Int) = (m : Int) := wrap_in (by omega) (by omega)
          have hd2 : decide (0 < k) = true := by simp; omega
          have hd1 : decide (0 < (k : Int)) = true := by simp; omega
          have hmp : (m : Int) < (l.length : Int) := by omega
          obtain ⟨y1, hy1⟩ : ∃ x, (l.getD m (nix, nix)).1 = x := ⟨_, rfl⟩
          have HY1 : Hid ((l.getD m (nix, nix)).1 = y1) := hy1
          have HCY : Hid (∀ W : World, Below w.heap.size w W → W.cell? ⟨b, o + m * 2, none⟩ = some (.string y1)) := by rw [← hy1]; exact HCP.out m hml
          clear hy1 hm
          have hge := geL_lt y1 x1
          cases hlk : ltK y1 x1 with
          | true =>
           rw [hlk] at hge
           have HLK : Hid (ltK y1 x1 = true) := hlk
           clear hlk
           go_wp2
           refine wp_region_in (by kernel_rfl) (fun w' => Below w.heap.size w w') ?_
           change wpIn _ _ _ _ _ _ _ _ (World.drew _)
           refine wpIn_tk (i := 0) (d := some 13) rfl ?_
           refine wpIn_tk (i := 1) (d := some 14) rfl ?_
           refine wpIn_tk (i := 2) (d := some 15) rfl ?_
           refine wpIn_tk (i := 3) (d := some 16) rfl ?_
           refine wpIn_tp (i := 4) (d := some 17) rfl (by (intro wq hq; have z1 := HC1.out wq hq; have z2 := HC2.out wq hq; go_simp; first | done | with_reducible rfl)) ?_
           refine wpIn_do (i := 5) hbd (by kernel_rfl) rfl (by rfl) ?_
           intro K hK
           go_simp
           go_wp2_with (go_at_call 39; refine hS.mono ?_; rintro e w1 ⟨rfl, rfl⟩)
           refine wpIn_tk (i := 6) (d := some 19) rfl ?_
           refine wpIn_tk (i := 7) (d := some 20) rfl ?_
           refine wpIn_tk (i := 8) (d := some 21) rfl ?_
           refine wpIn_tk (i := 9) (d := some 22) rfl ?_
           refine wpIn_tk (i := 10) (d := some 23) rfl ?_
           refine wpIn_tk (i := 11) (d := some 24) rfl ?_
           refine wpIn_tp (i := 12) (d := some 25) rfl (by (intro wq hq; have z1 := HC1.out wq hq; have z2 := HC2.out wq hq; go_simp; first | done | with_reducible rfl)) ?_
           refine wpIn_tp (i := 13) (d := some 26) rfl (by (intro wq hq; have hcat : ¬ 9223372036854775807 < 1 + x2.size := (by omega); go_simp; first | done | with_reducible rfl)) ?_
           refine wpIn_do (i := 14) hbd (by kernel_rfl) rfl (by rfl) ?_
           intro K hK
           go_simp
           go_wp2_with (go_at_call 19; refine (hD _).mono ?_; rintro e w2 ⟨rfl, hb2⟩; have hbd2 := hbd.trans (hb2.mono hbd.size))
           refine wpIn_tk (i := 15) (d := some 28) rfl ?_
           refine wpIn_tk (i := 16) (d := some 29) rfl ?_
           refine wpIn_tk (i := 17) (d := some 30) rfl ?_
           refine wpIn_tk (i := 18) (d := some 31) rfl ?_
           refine wpIn_tk (i := 19) (d := some 32) rfl ?_
           refine wpIn_tk (i := 20) (d := some 33) rfl ?_
           refine wpIn_tk (i := 21) (d := some 34) rfl ?_
           refine wpIn_tk (i := 22) (d := some 35) rfl ?_
           refine wpIn_tk (i := 23) (d := some 36) rfl ?_
           refine wpIn_tk (i := 24) (d := some 37) rfl ?_
           refine wpIn_tk (i := 25) (d := some 38) rfl ?_
           refine wpIn_tp (i := 26) (d := some 39) rfl (by (intro wq hq; have z1 := HC1.out wq hq; have z3 := HCY.out wq hq; go_simp; first | done | with_reducible rfl)) ?_
           refine wpIn_tk (i := 27) (d := some 40) rfl ?_
           refine wpIn_tk (i := 28) (d := some 41) rfl ?_
           refine wpIn_tk (i := 29) (d := some 42) rfl ?_
           refine wpIn_tk (i := 30) (d := some 43) rfl ?_
           refine wpIn_tp (i := 31) (d := some 44) rfl (by (intro wq hq; have z1 := HC1.out wq hq; have z3 := HCY.out wq hq; go_simp; first | done | with_reducible rfl)) ?_
           refine wpIn_tk (i := 32) (d := some 45) rfl ?_
           refine wpIn_tk (i := 33) (d := some 46) rfl ?_
           refine wpIn_tk (i := 34) (d := some 47) rfl ?_
           refine wpIn_done hbd2 (by kernel_rfl) ?_ _
           go_wp2
           go_roundw
           case rel =>
            refine ⟨k + 1, by omega, by go_num, fun j hj => ?_, hbd2⟩
            by_cases e : j = k
            · subst e
              refine ⟨HOK1.out, fun _ => ?_⟩
              rw [show j - 1 = m by have := HKM.out; omega, HY1.out, HX1.out]
              exact HLK.out
            · exact HG.out j (by omega)
           case measure => simp [intOf]; omega
          | false =>
           rw [hlk] at hge
           have HF : Hid (signedE l = false) := signed_unrise (j := k) (by omega) HLT.out (by rw [show k - 1 = m by have := HKM.out; omega, HY1.out, HX1.out]; exact hlk)
           clear hlk
           go_wp2
           refine wp_region_in (by kernel_rfl) (fun w' => Below w.heap.size w w') ?_
           change wpIn _ _ _ _ _ _ _ _ (World.drew _)
           refine wpIn_tk (i := 0) (d := some 13) rfl ?_
           refine wpIn_tk (i := 1) (d := some 14) rfl ?_
           refine wpIn_tk (i := 2) (d := some 15) rfl ?_
           refine wpIn_tk (i := 3) (d := some 16) rfl ?_
           refine wpIn_tp (i := 4) (d := some 17) rfl (by (intro wq hq; have z1 := HC1.out wq hq; have z2 := HC2.out wq hq; go_simp; first | done | with_reducible rfl)) ?_
           refine wpIn_do (i := 5) hbd (by kernel_rfl) rfl (by rfl) ?_
           intro K hK
           go_simp
           go_wp2_with (go_at_call 39; refine hS.mono ?_; rintro e w1 ⟨rfl, rfl⟩)
           refine wpIn_tk (i := 6) (d := some 19) rfl ?_
           refine wpIn_tk (i := 7) (d := some 20) rfl ?_
           refine wpIn_tk (i := 8) (d := some 21) rfl ?_
           refine wpIn_tk (i := 9) (d := some 22) rfl ?_
           refine wpIn_tk (i := 10) (d := some 23) rfl ?_
           refine wpIn_tk (i := 11) (d := some 24) rfl ?_
           refine wpIn_tp (i := 12) (d := some 25) rfl (by (intro wq hq; have z1 := HC1.out wq hq; have z2 := HC2.out wq hq; go_simp; first | done | with_reducible rfl)) ?_
           refine wpIn_tp (i := 13) (d := some 26) rfl (by (intro wq hq; have hcat : ¬ 9223372036854775807 < 1 + x2.size := (by omega); go_simp; first | done | with_reducible rfl)) ?_
           refine wpIn_do (i := 14) hbd (by kernel_rfl) rfl (by rfl) ?_
           intro K hK
           go_simp
           go_wp2_with (go_at_call 19; refine (hD _).mono ?_; rintro e w2 ⟨rfl, hb2⟩; have hbd2 := hbd.trans (hb2.mono hbd.size))
           refine wpIn_tk (i := 15) (d := some 28) rfl ?_
           refine wpIn_tk (i := 16) (d := some 29) rfl ?_
           refine wpIn_tk (i := 17) (d := some 30) rfl ?_
           refine wpIn_tk (i := 18) (d := some 31) rfl ?_
           refine wpIn_tk (i := 19) (d := some 32) rfl ?_
           refine wpIn_tk (i := 20) (d := some 33) rfl ?_
           refine wpIn_tk (i := 21) (d := some 34) rfl ?_
           refine wpIn_tk (i := 22) (d := some 35) rfl ?_
           refine wpIn_tk (i := 23) (d := some 36) rfl ?_
           refine wpIn_tk (i := 24) (d := some 37) rfl ?_
           refine wpIn_tk (i := 25) (d := some 38) rfl ?_
           refine wpIn_tp (i := 26) (d := some 39) rfl (by (intro wq hq; have z1 := HC1.out wq hq; have z3 := HCY.out wq hq; go_simp; first | done | with_reducible rfl)) ?_
           refine wpIn_tk (i := 27) (d := some 40) rfl ?_
           refine wpIn_tk (i := 28) (d := some 41) rfl ?_
           refine wpIn_tk (i := 29) (d := some 42) rfl ?_
           refine wpIn_tk (i := 30) (d := some 43) rfl ?_
           refine wpIn_tp (i := 31) (d := some 44) rfl (by (intro wq hq; have z1 := HC1.out wq hq; have z3 := HCY.out wq hq; go_simp; first | done | with_reducible rfl)) ?_
           refine wpIn_tk (i := 32) (d := some 45) rfl ?_
           refine wpIn_tk (i := 33) (d := some 46) rfl ?_
           refine wpIn_tk (i := 34) (d := some 47) rfl ?_
           refine wpIn_done hbd2 (by kernel_rfl) ?_ _
           go_wp2
           go_ret
           exact ⟨ret_bool HF.out.symm, hbd2⟩
    · obtain rfl : k = l.length := by omega
      have HF : Hid (signedE l = true) := signed_true HL4.out HG.out
      go_wp2
      go_ret
      exact ⟨ret_bool HF.out.symm, hb⟩
 · have HF : Hid (signedE l = false) := by
     show _ = _
     unfold signedE
     rw [decide_eq_false h4, Bool.false_and, Bool.false_and]
   go_enter Tryz.func18, Tryz.ntmps18
   go_wp2
   go_ret
   exact ⟨ret_bool HF.out.symm, Below.refl _ _⟩
end Go.Proofs.YtnngalkdjgjmbaaGreat
namespace Go.Proofs.YtnngalkdjgjmbaaGreat
open Go.RowKit Go.Maps
theorem rIsUser_any (s : ByteArray) (w : World) (hs : s.size ≤ 1000000) :
    Calls Tryz.prog 13 #[.string s] w fun x w' => x = .returned (.bool (Id.parts 64 s).2.2) ∧ Below w.heap.size w w' := by
 go_enter Tryz.func13, Tryz.ntmps13
 go_wp2_with (go_at_call 36; refine (Id.refUser_any s _ (by omega)).mono ?_; rintro e w1 ⟨rfl, hb1⟩; unfold Id.told)
 go_ret
 exact ⟨rfl, hb1⟩
end Go.Proofs.YtnngalkdjgjmbaaGreat
namespace Go.Proofs.YtnngalkdjgjmbaaGreat
open Go.RowKit
theorem infoJ5 : (Tryz.prog.info? 25).map (·.size) = some 5 := by kernel_rfl
theorem loadE_at {w : World} {b o : Nat} {e : Ev} {p : Pt} (h : w.rangeAt b o (cellsE e p)) : (loadVar 29 ⟨b, o, none⟩).run Tryz.prog w = .ok (valE e p) w := run_loadVar_mid w b o 29 (cellsE e p) _ h Tryz.underlying29 rfl infoE
end Go.Proofs.YtnngalkdjgjmbaaGreat
namespace Go.Proofs.YtnngalkdjgjmbaaGreat
open Go.RowKit Go.Maps Go.Shelf
theorem ownFrom_keep {β : Type} {S : Nat → Prop} {B : Nat} {w₀ : World} (hB : w₀.heap.size ≤ B) : OwnFrom B (fun (_ : β) W => Keep S w₀ W) :=
 fun _ _ _ _ hs hg hr => ⟨hg.os.trans hs.os, hg.tape.trans hs.tape, hg.output.trans hs.output, Nat.le_trans hs.size hg.size, fun k hk hS => (hg.block k (Nat.lt_of_lt_of_le hk hs.size) (fun e => by have := (hr k e.symm).1; omega)).trans (hs.block k hk hS)⟩
theorem keepsFrom_below {B : Nat} {W W' : World} (h : Below W.heap.size W W') : KeepsFrom B W W' := ⟨h.size, fun k _ _ hk _ => (h.block k (objP_lt hk)).trans hk⟩
theorem any_snoc (f : Chg → Bool) (l : List Chg) (x : Chg) : (l ++ [x]).any f = (l.any f || f x) := by rw [List.any_append]; simp
theorem any_pre {f : Chg → Bool} {a b : List Chg} (h : a <+: b) (ha : a.any f = true) : b.any f = true := by
 obtain ⟨t, rfl⟩ := h
 rw [List.any_append, ha]; rfl
def chgPost (f : Chg → Bool) (R : Nat) (x : Chg) (W : World) : Exit → Act → World → Prop
 | .normal, _, W' => f x = false ∧ Below W.heap.size W W'
 | .ret, _, W' => f x = true ∧ ∃ W4, Below W.heap.size W W4 ∧ W' = W4.setCell ⟨R, 0, none⟩ (.bool false)
 | _, _, _ => False
theorem wp_chg {n : Nat} (h1 : 2 ≤ n) {g : Operand} {sp sb : Tmp} {assign body : Code} {Q : Exit → Act → World → Prop} {a : Act} {w : World} {B1 B2 R : Nat} (f : Chg → Bool)
    (hg : a.eval g = .func (.func 58) #[] #[.pointer (some ⟨B1, 0, none⟩), .pointer (some ⟨B2, 0, none⟩)])
    {O : Nat → Prop} {xa xb : Nms} {p q : Option Addr} {c d : Nat} (ha : RdN O w p c xa) (hb : RdN O w q d xb) (hO : ∀ k, O k → k < w.heap.size) (hza : SzN xa) (hzb : SzN xb)
    (hc1 : w.cell? ⟨B1, 0, none⟩ = some (.slice p xa.length c)) (hc2 : w.cell? ⟨B2, 0, none⟩ = some (.slice q xb.length d)) (hB1 : B1 < w.heap.size) (hB2 : B2 < w.heap.size)
    (hR : w.heap[R]? = some (.cells #[.bool false] 4 (0, 0)))
    (hassign : ∀ (l : Nat) (x : Chg) (W : World) (K : Act → World → Prop), K { tmps := (a.tmps.setIfInBounds sp (valC x)).setIfInBounds sb (.pointer (some ⟨W.heap.size, 0, none⟩)), defers := [] } (W.alloc (.cells (cellsC x).toArray 83)) →
     assign.wpIn (Fence.wide.inRound l) (n - 1 - 1) Tryz.prog (Exit.then K (fun _ _ _ => False)) { tmps := a.tmps.setIfInBounds sp (valC x), defers := [] } W)
    (hbody : ∀ (l : Nat) (x : Chg) (W : World) (Bx : Nat), Below w.heap.size w W → W.heap[Bx]? = some (.cells (cellsC x).toArray 83 (0, 0)) → w.heap.size ≤ Bx →
     body.wpIn (Fence.wide.inRound l) (n - 1 - 1) Tryz.prog (chgPost f R x W) { tmps := (a.tmps.setIfInBounds sp (valC x)).setIfInBounds sb (.pointer (some ⟨Bx, 0, none⟩)), defers := [] } W)
    (hdone : ∀ (D : Nat) (W : World), w.heap.size ≤ D → quiet f xa xb = true → Below w.heap.size w W → W.heap[D]? = some (.deferred (some [])) → Q .normal { a with defers := { target := .collected D, args := #[] } :: a.defers } W)
    (hstop : ∀ (D : Nat) (W : World), w.heap.size ≤ D → quiet f xa xb = false → Keep (OneP R) w W → W.cell? ⟨R, 0, none⟩ = some (.bool false) → W.heap[D]? = some (.deferred (some [])) → Q .ret { a with defers := { target := .collected D, args := #[] } :: a.defers } W) :
    (Code.rangeFunc g #[sp] assign body).wp Tryz.prog Q a w := by
 refine (wpIn_wide (n := n)).1 ?_
 refine wpIn_rangeFunc_ownH rfl (by omega) (gf := 58) (lb := #[.pointer (some ⟨B1, 0, none⟩), .pointer (some ⟨B2, 0, none⟩)]) hg trivial (enters_of Tryz.func58 (by kernel_rfl) rfl)
  (changes_seq (n - 1) B1 B2 (by omega) ha hb hO hza hzb hc1 hc2 hB1 hB2) Lay.trans (fun W l o o' _ h hc hw => Lay.putObj W l o o' h hc hw) (Below.refl _ _) (fun _ => rfl)
  (fun pre W => (pre.any f = false) ∧ Below w.heap.size w W)
  (fun cd pre W => (cd = .ret ∧ pre.any f = true ∧ W.cell? ⟨R, 0, none⟩ = some (.bool false)) ∧ Keep (OneP R) w W)
  (OwnFrom.and (ownFrom_pure _ (fun pre : List Chg => pre.any f = false)) (ownFrom_below (Nat.le_refl _) (Nat.le_refl _)))
  (fun cd => OwnFrom.and (Own.from (fun s A B row hs hg hr => ⟨hs.1, hs.2.1, cell_kept hs.2.2 hg hr⟩) _) (ownFrom_keep (Nat.le_refl _)))
  ⟨rfl, Below.refl _ _⟩
  (fun x a' W => ∃ Bx, w.heap.size ≤ Bx ∧ W.heap[Bx]? = some (.cells (cellsC x).toArray 83 (0, 0)) ∧ a' = { tmps := (a.tmps.setIfInBounds sp (valC x)).setIfInBounds sb (.pointer (some ⟨Bx, 0, none⟩)), defers := [] })
  ?hAx ?assign ?body ?done ?stop
 case hAx =>
  rintro x a' s A B row ⟨Bx, hB, hh, e⟩ hg hr
  refine ⟨Bx, hB, ?_, e⟩
  exact (hg.block Bx (objP_lt hh) (fun er => by
   obtain ⟨_, o, ho, hc⟩ := hr Bx er.symm
   rw [hh] at ho
   cases ho
   cases hc)).trans hh
 case assign =>
  rintro l pre x W K ⟨hp, hB⟩ hK
  have hal : Below W.heap.size W (W.alloc (.cells (cellsC x).toArray 83)) := (Below.refl _ _).alloc (Nat.le_refl _) _
  have hfold : (Array.foldl (fun (t : Array Value) (y : Tmp × Value) => match y with | (p, v) => t.setIfInBounds p v) a.tmps (#[sp].zip #[valC x])) = a.tmps.setIfInBounds sp (valC x) := by simp
  rw [hfold]
  exact hassign l x W K (hK _ _ (keepsFrom_below hal) (Lay.of_below hal) ⟨hp, belowP hB hal⟩ ⟨W.heap.size, hB.size, newP _, rfl⟩)
 case body =>
  rintro l pre x a' W _ _ ⟨hp, hB⟩ ⟨Bx, hBx, hh, rfl⟩ _
  refine wpIn_mono (hbody l x W Bx hB hh hBx) ?_
  intro e a2 W2 h
  cases e with
  | normal =>
   obtain ⟨hf, hb2⟩ := h
   exact ⟨keepsFrom_below hb2, Lay.of_below hb2, by rw [any_snoc, hp, hf]; rfl, belowP hB hb2⟩
  | ret =>
   obtain ⟨hf, W4, hb4, rfl⟩ := h
   refine ⟨(keepsFrom_below hb4).trans ((KeepsOthers.setCell _ _ _).from _), ⟨rfl, by rw [any_snoc, hf, Bool.or_true], ?_⟩, ?_⟩
   · have hR4 := ((belowP hB hb4).block R (objP_lt hR)).trans hR
     exact World.cell?_setCell_same' _ _ _ (by rw [cellP hR4 0 _ rfl]; rfl)
   · exact Keep.setCell (S := OneP R) (p := ⟨R, 0, none⟩) (Keep.of_below (belowP hB hb4)) (fun _ => (rfl : R = R)) _
  | exit id => exact h.elim
  | goto t => exact h.elim
  | panic ch => exact h.elim
  | outgrown => exact h.elim
 case done =>
  rintro D ys W hD rfl ⟨hp, hB⟩ hK
  exact hdone D W hD (by unfold quiet; rw [hp]; rfl) hB hK
 case stop =>
  rintro D cd pre W hD hpre ⟨⟨rfl, hp, hcl⟩, hk⟩ hK
  refine wpIn_wide.2 ?_
  exact wp_ret (hstop D W hD (by unfold quiet; rw [any_pre hpre hp]; rfl) hk hcl hK)
end Go.Proofs.YtnngalkdjgjmbaaGreat

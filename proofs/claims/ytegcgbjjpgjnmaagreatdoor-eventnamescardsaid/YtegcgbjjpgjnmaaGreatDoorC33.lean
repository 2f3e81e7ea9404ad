/-
  The document's Put, by a contract: a map with a key and a value more.
  The document's Put, by a contract: a map with a key and a value more.
  The document's Get of a map, by a contract.
  What is read of a map with a name more, or one less.
  A map that is made without one name, pair by pair.
-/
import Derived.Test.YtegcgbjjpgjnmaaGreatDoorC32
set_option maxRecDepth 100000
set_option maxHeartbeats 16000000
namespace Go.Proofs.YtegcgbjjpgjnmaaGreatDoor
open Go Go.RowKit Go.Maps
theorem oneCells {O : Nat → Prop} {w : World} {j : J} {cs : List Value} (h : isJ O w j cs) : ∀ u ∈ cs, u.oneCell' = true := by
 obtain ⟨k, i, t, pk, nk, ck, pl, nl, cl, rfl⟩ := isJ_shape h
 intro u hu
 simp only [List.mem_cons, List.not_mem_nil, or_false] at hu
 rcases hu with rfl | rfl | rfl | rfl | rfl <;> rfl
theorem row_of_js {O : Nat → Prop} {w : World} {p : Option Addr} : ∀ (l : List J) (n : Nat), isJs O w p n l → ∃ xs, isRow O w l xs ∧ xs.length = l.length * 5 ∧ (∀ u ∈ xs, u.oneCell' = true) ∧ ∀ ad, p = some ad → ∀ (m : Nat) u, xs[m]? = some u → O ad.block ∧ w.cell? (ad.add (n * 5 + m)) = some u
 | [], n, _ => ⟨[], by unfold isRow; rfl, rfl, (fun u hu => absurd hu (by simp)), (fun ad _ m u h => absurd h (by simp))⟩
 | j :: r, n, h => by
  unfold isJs at h
  obtain ⟨⟨b, o, cs, rfl, hO, hc, hj⟩, hr⟩ := h
  obtain ⟨xs, h1, h2, h3, h4⟩ := row_of_js r (n + 1) hr
  have h5 := hj.five
  refine ⟨cs ++ xs, ?_, by rw [List.length_append, h5, h2, List.length_cons]; omega, fun u hu => ?_, fun ad e m u hm => ?_⟩
  · unfold isRow
    exact ⟨cs, xs, rfl, h5, hj, h1⟩
  · rcases List.mem_append.1 hu with hu | hu
    · exact oneCells hj u hu
    · exact h3 u hu
  · cases e
    have hadd : ∀ m, (⟨b, o, none⟩ : Addr).add m = ⟨b, o + m, none⟩ := fun m => by unfold Addr.add; split <;> simp_all
    refine ⟨hO, ?_⟩
    by_cases hlt : m < 5
    · rw [List.getElem?_append_left (by omega)] at hm
      have := hc m u hm
      rw [hadd]
      rwa [Nat.add_assoc] at this
    · rw [List.getElem?_append_right (by omega), h5] at hm
      have := (h4 _ rfl (m - 5) u hm).2
      rw [hadd] at this ⊢
      rw [show n * 5 + m = (n + 1) * 5 + (m - 5) by omega]
      exact this
theorem rPut_any {O : Nat → Prop} {w : World} {j v : J} {k i vk vi : Int} {t vt : ByteArray} {pk pl vpk vpl : Option Addr} {nk ck nl cl vnk vck vnl vcl : Nat} (key : ByteArray) (hO : ∀ b, O b → b < w.heap.size)
    (hj : isJ O w j [.int .i64 k, .int .i64 i, .string t, .slice pk nk ck, .slice pl nl cl]) (hv : isJ O w v [.int .i64 vk, .int .i64 vi, .string vt, .slice vpk vnk vck, .slice vpl vnl vcl]) (hkp : pk = none → ck = 0) (hlp : pl = none → cl = 0) (hnk : nk ≤ 100000) (hnl : nl ≤ 100000) :
    Calls Tryz.prog 25 #[.agg #[.int .i64 k, .int .i64 i, .string t, .slice pk nk ck, .slice pl nl cl], .string key, .agg #[.int .i64 vk, .int .i64 vi, .string vt, .slice vpk vnk vck, .slice vpl vnl vcl]] w fun x w' => (∃ b1 c1 b2 c2, x = .returned (.agg #[.int .i64 5, .int .i64 0, .string ⟨#[]⟩, .slice (some ⟨b1, 0, none⟩) (nk + 1) c1, .slice (some ⟨b2, 0, none⟩) (nl + 1) c2]) ∧ isJ (fun b => O b ∨ New w w' b) w' (.mk 5 0 nix (j.keys ++ [key]) (j.list ++ [v])) [.int .i64 5, .int .i64 0, .string ⟨#[]⟩, .slice (some ⟨b1, 0, none⟩) (nk + 1) c1, .slice (some ⟨b2, 0, none⟩) (nl + 1) c2]) ∧ Below w.heap.size w w' := by
 obtain ⟨W0, hW0⟩ : ∃ W0, W0 = ((w.alloc (.cells #[.int .i64 k, .int .i64 i, .string t, .slice pk nk ck, .slice pl nl cl] 25)).alloc (.cells #[.int .i64 vk, .int .i64 vi, .string vt, .slice vpk vnk vck, .slice vpl vnl vcl] 25)).alloc (.cells #[.int .i64 0, .int .i64 0, .string ⟨#[]⟩, .slice none 0 0, .slice none 0 0] 25) := ⟨_, rfl⟩
 have hbw : Below w.heap.size w W0 := by rw [hW0]; exact (((Below.refl _ _).alloc (Nat.le_refl _) _).alloc (by simp) _).alloc (by simp; omega) _
 have hx0 : W0.heap[w.heap.size]? = some (.cells #[.int .i64 k, .int .i64 i, .string t, .slice pk nk ck, .slice pl nl cl] 25 (0, 0)) := by rw [hW0, Below.heap_alloc _ _ _ (by simp; omega)]; exact one_of _ _
 have hx1 : W0.heap[w.heap.size + 1]? = some (.cells #[.int .i64 vk, .int .i64 vi, .string vt, .slice vpk vnk vck, .slice vpl vnl vcl] 25 (0, 0)) := by rw [hW0, Below.heap_alloc _ _ _ (by simp)]; exact two_at _ _
 have hr : W0.heap[w.heap.size + 1 + 1]? = some (.cells #[.int .i64 0, .int .i64 0, .string ⟨#[]⟩, .slice none 0 0, .slice none 0 0] 25 (0, 0)) := by
  have h := heap_alloc_new ((w.alloc (.cells #[.int .i64 k, .int .i64 i, .string t, .slice pk nk ck, .slice pl nl cl] 25)).alloc (.cells #[.int .i64 vk, .int .i64 vi, .string vt, .slice vpk vnk vck, .slice vpl vnl vcl] 25)) (.cells #[.int .i64 0, .int .i64 0, .string ⟨#[]⟩, .slice none 0 0, .slice none 0 0] 25)
  rw [hW0]
  simpa using h
 have hs0 : w.heap.size + 3 = W0.heap.size := by rw [hW0]; simp
 have hjB := hj.carry (O' := O) (w' := W0) fun b hb => ⟨hb, hbw.block b (hO b hb)⟩
 have hvB := hv.carry (O' := O) (w' := W0) fun b hb => ⟨hb, hbw.block b (hO b hb)⟩
 have hat := isJ_at hjB
 have e4 := hat.2.2.2.1
 have e5 := hat.2.2.2.2.1
 have hrk := hat.2.2.2.2.2.1
 have hlc := hat.2.2.2.2.2.2.1
 have hjs := hat.2.2.2.2.2.2.2
 clear hat
 obtain ⟨xs, r1, r2, r3, r4⟩ := row_of_js j.list 0 hjs
 have HP : Hid (PutC W0 (w.heap.size + 1 + 1) key j.keys pk pl nk ck nl cl xs (.int .i64 vk) (.int .i64 vi) (.string vt) (.slice vpk vnk vck) (.slice vpl vnl vcl)) := by
  have hz : ∀ {l : List ByteArray} {p : Option Addr} {c : Nat}, RdK O W0 p c l → p = none → l.length = 0 := fun {l p c} h hp => by
   cases l with
   | nil => rfl
   | cons a r => obtain ⟨ad, e, _⟩ := h.2 0 (by simp); rw [hp] at e; cases e
  refine ⟨by omega, e4.symm, by rw [r2, e5], hnk, hnl, fun hp => ⟨by rw [e4]; exact hz hrk hp, hkp hp⟩, fun hp => ⟨?_, hlp hp⟩, fun ad e m u hm => ?_, fun ad e m u hm => ?_, r3, oneCells hv⟩
  · rw [e5]
    cases hl : j.list with
    | nil => rfl
    | cons a r =>
     rw [hl] at hjs
     unfold isJs at hjs
     obtain ⟨⟨b, o, cs, e, _⟩, _⟩ := hjs
     rw [hp] at e
     cases e
  · have hm1 : m < j.keys.length := by
      have := (List.getElem?_eq_some_iff.1 hm).1
      simpa using this
    obtain ⟨ad', e', hOa, hc⟩ := hrk.2 m hm1
    rw [e] at e'
    cases e'
    rw [List.getElem?_map, List.getElem?_eq_getElem hm1] at hm
    cases hm
    refine ⟨by rw [add_block]; exact Nat.lt_of_lt_of_le (hO _ hOa) hbw.size, ?_⟩
    rw [hc, List.getD_eq_getElem?_getD, List.getElem?_eq_getElem hm1]
    rfl
  · obtain ⟨h1, h2⟩ := r4 ad e m u hm
    refine ⟨by rw [add_block]; exact Nat.lt_of_lt_of_le (hO _ h1) hbw.size, ?_⟩
    rw [Nat.zero_mul, Nat.zero_add] at h2
    exact h2
 have hQ : Hid (∀ wq, Below (w.heap.size + 1 + 1) W0 wq → wq.cell? ⟨w.heap.size, 3, none⟩ = some (.slice pk nk ck) ∧ wq.cell? ⟨w.heap.size, 4, none⟩ = some (.slice pl nl cl) ∧ wq.cell? ⟨w.heap.size + 1, 0, none⟩ = some (.int .i64 vk) ∧ wq.cell? ⟨w.heap.size + 1, 1, none⟩ = some (.int .i64 vi) ∧ wq.cell? ⟨w.heap.size + 1, 2, none⟩ = some (.string vt) ∧ wq.cell? ⟨w.heap.size + 1, 3, none⟩ = some (.slice vpk vnk vck) ∧ wq.cell? ⟨w.heap.size + 1, 4, none⟩ = some (.slice vpl vnl vcl)) := fun wq h => by
  have h0 := (h.block w.heap.size (by omega)).trans hx0
  have h1 := (h.block (w.heap.size + 1) (by omega)).trans hx1
  exact ⟨five_c3 h0, five_c4 h0, five_c0 h1, five_c1 h1, five_c2 h1, five_c3 h1, five_c4 h1⟩
 have HR : Hid (∀ wq, Below W0.heap.size W0 wq → wq.heap[w.heap.size + 1 + 1]? = some (.cells #[.int .i64 0, .int .i64 0, .string ⟨#[]⟩, .slice none 0 0, .slice none 0 0] 25 (0, 0))) := fun wq h => (h.block _ (by omega)).trans hr
 have HS : Hid (w.heap.size + 3 = W0.heap.size) := hs0
 have HBW : Hid (Below w.heap.size w W0) := hbw
 have HRW : Hid (isRow O W0 j.list xs) := r1
 have HVB : Hid (isJ O W0 v [.int .i64 vk, .int .i64 vi, .string vt, .slice vpk vnk vck, .slice vpl vnl vcl]) := hvB
 have HO : Hid (∀ b, O b → b < w.heap.size) := hO
 have HE : Hid (nk = j.keys.length ∧ nl = j.list.length) := ⟨e4, e5⟩
 clear hj hv hjB hvB hrk hlc hjs r1 r2 r3 r4 e4 e5 hx0 hx1 hr hkp hlp hs0 hbw hO
 go_enter Tryz.func25, Tryz.ntmps25
 go_wp2
 rw [← hW0]
 clear hW0
 have hC0 : Below W0.heap.size W0 W0.drew := (Below.refl _ _).drew
 refine wp_region_in (by kernel_rfl) (fun w' => Below (w.heap.size + 1 + 1) W0 w') ?_
 change wpIn _ _ _ _ _ _ _ _ (World.drew _)
 refine wpIn_tk (i := 1) (d := some 8) rfl ?_
 refine wpIn_tp (i := 2) (d := some 9) rfl (by (intro wq hq; obtain ⟨q3, q4, q5, q6, q7, q8, q9⟩ := hQ.out wq hq; go_simp; first | done | with_reducible rfl)) ?_
 refine wpIn_tk (i := 4) (d := some 11) rfl ?_
 refine wpIn_tk (i := 8) (d := some 15) rfl ?_
 refine wpIn_tp (i := 9) (d := some 16) rfl (by (intro wq hq; obtain ⟨q3, q4, q5, q6, q7, q8, q9⟩ := hQ.out wq hq; go_simp; first | done | with_reducible rfl)) ?_
 refine wpIn_tp (i := 11) (d := some 18) rfl (by (intro wq hq; obtain ⟨q3, q4, q5, q6, q7, q8, q9⟩ := hQ.out wq hq; go_simp; first | done | with_reducible rfl)) ?_
 refine pst_0_n (r := w.heap.size + 1 + 1) ?_ HP.out _ hC0
 intro w2 hb2 x7 x10 x12 q13 c13 o13 x14 x17 x19 q20 c20 o20
 unfold putOps
 refine wpIn_tk (i := 14) (d := some 21) rfl ?_
 have hres := HR.out w2 hb2
 have i0 := five_c0 hres; have i1 := five_c1 hres; have i2 := five_c2 hres; have i3 := five_c3 hres; have i4 := five_c4 hres
 have z0 := five_fz hres 0; have z1 := five_fz hres 1; have z2 := five_fz hres 2; have z3 := five_fz hres 3; have z4 := five_fz hres 4
 refine wpIn_do (i := 15) (hb2.mono HP.out.rle) (by kernel_rfl) rfl (by rfl) ?_
 intro K hK
 go_simp
 refine hK _ _ ?_
 clear hK K
 have h5 := set5_heap hres (.int .i64 5) (.int .i64 0) (.string ⟨#[]⟩) (.slice q13 (nk + 1) c13) (.slice q20 (nl + 1) c20)
 have HK5 : Keep (One (w.heap.size + 1 + 1)) w2 _ := set5_keep w2 (w.heap.size + 1 + 1) (.int .i64 5) (.int .i64 0) (.string ⟨#[]⟩) (.slice q13 (nk + 1) c13) (.slice q20 (nl + 1) c20)
 obtain ⟨WE, hWE⟩ : ∃ WE, WE = set5 w2 (w.heap.size + 1 + 1) (.int .i64 5) (.int .i64 0) (.string ⟨#[]⟩) (.slice q13 (nk + 1) c13) (.slice q20 (nl + 1) c20) := ⟨_, rfl⟩
 rw [← hWE] at h5 HK5
 unfold set5 at hWE
 rw [← hWE]
 have hS := HS.out
 have hB := HBW.out.size
 have s2 := hb2.size
 have sE := HK5.size
 have hbE : Below (w.heap.size + 1 + 1) W0 WE := (hb2.mono HP.out.rle).trans (HK5.below (by omega) fun q hq => by unfold One; omega)
 refine wpIn_done hbE (by kernel_rfl) ?_ _
 clear i0 i1 i2 i3 i4 z0 z1 z2 z3 z4 hWE
 go_wp2
 refine bodyPost_ret (results_cell rfl _ _ _ rfl (loadJ5 h5)) rfl ?_
 obtain ⟨b1, c1', e1⟩ := own_some o13
 obtain ⟨b2, c2', e2⟩ := own_some o20
 cases e1
 cases e2
 have g13 := own_ge o13 b1 rfl
 have g20 := own_ge o20 b2 rfl
 have o13' : w2.ownsRow W0.heap.size 9 1 (.slice (some ⟨b1, 0, none⟩) (nk + 1) c13) (j.keys ++ [key]).length ((j.keys ++ [key]).map Value.string) := by
  rw [List.length_append, List.map_append, ← HE.out.1]
  exact o13
 have o20' : w2.ownsRow W0.heap.size 25 5 (.slice (some ⟨b2, 0, none⟩) (nl + 1) c20) (j.list ++ [v]).length (xs ++ [.int .i64 vk, .int .i64 vi, .string vt, .slice vpk vnk vck, .slice vpl vnl vcl]) := by
  rw [List.length_append, ← HE.out.2]
  exact o20
 have carO : ∀ q, O q → O q ∧ w2.heap[q]? = W0.heap[q]? := fun q hq => ⟨hq, hb2.block q (by have := HO.out q hq; omega)⟩
 have hrow : isRow O w2 (j.list ++ [v]) (xs ++ [.int .i64 vk, .int .i64 vi, .string vt, .slice vpk vnk vck, .slice vpl vnl vcl]) := isRow.snoc rfl (HVB.out.carry carO) _ _ (isRow.carry carO _ _ HRW.out)
 obtain ⟨qk, cqk, ek, hk⟩ := own_rdK o13'
 obtain ⟨ql, cql, el, hcl, hl⟩ := own_js o20' hrow
 simp only [Value.slice.injEq] at ek el
 obtain ⟨rfl, hk1, rfl⟩ := ek
 obtain ⟨rfl, hl1, rfl⟩ := el
 have old : ∀ q, q < w2.heap.size → q ≠ w.heap.size + 1 + 1 → WE.heap[q]? = w2.heap[q]? := fun q h1 h2 => HK5.block q h1 (by unfold One; omega)
 have bE : Below w.heap.size w WE := HBW.out.trans (hbE.mono (by omega))
 refine ⟨⟨b1, c13, b2, c20, rfl, ?_⟩, bE⟩
 unfold isJ
 refine ⟨some ⟨b1, 0, none⟩, c13, some ⟨b2, 0, none⟩, c20, ?_, hk.carry fun q hq => ?_, hcl, hl.carry fun q hq => ?_⟩
 · rw [← hk1, ← hl1]
   rfl
 · exact ⟨.inr ⟨by have := hq.1; omega, by have := hq.2; omega⟩, old q hq.2 (by have := hq.1; omega)⟩
 · rcases hq with hq | hq
   · have := HO.out q hq
     exact ⟨.inl hq, old q (by omega) (by omega)⟩
   · exact ⟨.inr ⟨by have := hq.1; omega, by have := hq.2; omega⟩, old q hq.2 (by have := hq.1; omega)⟩
theorem str_ne {a b : ByteArray} (h : a ≠ b) : (a.toList == b.toList) = false := by
 rw [beq_eq_false_iff_ne]
 exact fun e => h (toList_inj e)
def GetP (w w' : World) (ks : List ByteArray) (key : ByteArray) (x : Ending) : Prop :=
 (∃ k i t pk nk ck pl nl cl, (x = .returned (.tuple #[.agg #[.int .i64 k, .int .i64 i, .string t, .slice pk nk ck, .slice pl nl cl], .bool true]) ∧ key ∈ ks) ∨ (x = .returned (.tuple #[.agg #[.int .i64 k, .int .i64 i, .string t, .slice pk nk ck, .slice pl nl cl], .bool false]) ∧ key ∉ ks)) ∧ Below w.heap.size w w'
theorem rGet_any {O : Nat → Prop} {w : World} {j : J} {i : Int} {t : ByteArray} {pk pl : Option Addr} {n ck cl : Nat} (key : ByteArray) (hO : ∀ b, O b → b < w.heap.size)
    (hj : isJ O w j [.int .i64 5, .int .i64 i, .string t, .slice pk n ck, .slice pl n cl]) (hn : n ≤ 100000) :
    Calls Tryz.prog 24 #[.agg #[.int .i64 5, .int .i64 i, .string t, .slice pk n ck, .slice pl n cl], .string key] w fun x w' => GetP w w' j.keys key x := by
 obtain ⟨W0, hW0⟩ : ∃ W0, W0 = (w.alloc (.cells #[.int .i64 5, .int .i64 i, .string t, .slice pk n ck, .slice pl n cl] 25)).alloc (.cells #[.int .i64 0, .int .i64 0, .string ⟨#[]⟩, .slice none 0 0, .slice none 0 0] 25) := ⟨_, rfl⟩
 have hbw : Below w.heap.size w W0 := by rw [hW0]; exact ((Below.refl _ _).alloc (Nat.le_refl _) _).alloc (by simp) _
 have hx0 : W0.heap[w.heap.size]? = some (.cells #[.int .i64 5, .int .i64 i, .string t, .slice pk n ck, .slice pl n cl] 25 (0, 0)) := by rw [hW0]; exact one_of _ _
 have hres : W0.heap[w.heap.size + 1]? = some (.cells #[.int .i64 0, .int .i64 0, .string ⟨#[]⟩, .slice none 0 0, .slice none 0 0] 25 (0, 0)) := by rw [hW0]; exact two_at _ _
 have hjB := hj.carry (O' := O) (w' := W0) fun b hb => ⟨hb, hbw.block b (hO b hb)⟩
 have hat := isJ_at hjB
 have HE4 : Hid (n = j.keys.length) := hat.2.2.2.1
 have HE5 : Hid (n = j.list.length) := hat.2.2.2.2.1
 have hrk := hat.2.2.2.2.2.1
 have hlc := hat.2.2.2.2.2.2.1
 have hjs := hat.2.2.2.2.2.2.2
 have hck : n ≤ ck := by have := hrk.1; rw [← HE4.out] at this; exact this
 have hcl : n ≤ cl := by rw [HE5.out]; exact hlc
 have HK : Hid (∀ m, m < n → ∃ a, pk = some a ∧ W0.cell? (a.add m) = some (.string (j.keys.getD m nix))) := fun m hm => by
  obtain ⟨a, e, _, hc⟩ := hrk.2 m (by rw [← HE4.out]; exact hm)
  exact ⟨a, e, hc⟩
 have HL : Hid (∀ m, m < n → ∃ b o x0 x1 x2 p3 n3 c3 p4 n4 c4, pl = some ⟨b, o, none⟩ ∧ W0.cell? ⟨b, o + m * 5, none⟩ = some (.int .i64 x0) ∧ W0.cell? ⟨b, o + m * 5 + 1, none⟩ = some (.int .i64 x1) ∧ W0.cell? ⟨b, o + m * 5 + 2, none⟩ = some (.string x2) ∧ W0.cell? ⟨b, o + m * 5 + 3, none⟩ = some (.slice p3 n3 c3) ∧ W0.cell? ⟨b, o + m * 5 + 4, none⟩ = some (.slice p4 n4 c4)) := fun m hm => by
  obtain ⟨lb, lo, cs, hpl, _, hcells, hyj⟩ := isJs.at j.list 0 m hjs (by rw [← HE5.out]; exact hm)
  obtain ⟨x0, x1, x2, p3, n3, c3, p4, n4, c4, rfl⟩ := isJ_shape hyj
  rw [Nat.zero_add] at hcells
  exact ⟨lb, lo, x0, x1, x2, p3, n3, c3, p4, n4, c4, hpl, hcells 0 _ rfl, hcells 1 _ rfl, hcells 2 _ rfl, hcells 3 _ rfl, hcells 4 _ rfl⟩
 have HBW : Hid (Below w.heap.size w W0) := hbw
 have HM : Hid (∀ m, m < n → j.keys.getD m nix = key → key ∈ j.keys) := fun m hm e => by
  have h1 : m < j.keys.length := by rw [← HE4.out]; exact hm
  rw [← e, key_getD h1]
  exact List.getElem_mem _
 have HNM : Hid ((∀ m, m < n → j.keys.getD m nix ≠ key) → key ∉ j.keys) := fun h hm => by
  obtain ⟨y, hy, e⟩ := List.getElem_of_mem hm
  exact h y (by rw [HE4.out]; exact hy) (by rw [key_getD hy]; exact e)
 clear hj hjB hat hrk hlc hjs hO hbw
 have c0 := five_c0 hx0; have c3 := five_c3 hx0; have c4 := five_c4 hx0
 go_enter Tryz.func24, Tryz.ntmps24
 go_wp2
 rw [← hW0]
 clear hW0
 have i0 := five_c0 hres; have i1 := five_c1 hres; have i2 := five_c2 hres; have i3 := five_c3 hres; have i4 := five_c4 hres
 have z0 := five_fz hres 0; have z1 := five_fz hres 1; have z2 := five_fz hres 2; have z3 := five_fz hres 3; have z4 := five_fz hres 4
 go_loopw [6] (fun v wr => ∃ m : Nat, v = .int .i64 m ∧ m ≤ n ∧ Hid (∀ y, y < m → j.keys.getD y nix ≠ key) ∧ wr = W0) (fun v _ => n - (intOf v).toNat)
 case atStart => exact ⟨0, rfl, Nat.zero_le _, fun m hm => absurd hm (by omega), rfl⟩
 case round =>
  obtain ⟨m, rfl, hm, HX, rfl⟩ := hrel
  by_cases hlt : m < n
  · have hmi : (m : Int) < (n : Int) := by omega
    obtain ⟨a, rfl, hca⟩ := HK.out m hlt
    obtain ⟨b, o, x0, x1, x2, p3, n3, c3', p4, n4, c4', rfl, y0, y1, y2, y3, y4⟩ := HL.out m hlt
    obtain ⟨u, hu⟩ : ∃ u, j.keys.getD m nix = u := ⟨_, rfl⟩
    have HU : Hid (j.keys.getD m nix = u) := hu
    rw [hu] at hca
    clear hu
    by_cases hk : u = key
    · subst hk
      have hs := str_eq u
      go_wp2
      have h5 := set5_heap hres (.int .i64 x0) (.int .i64 x1) (.string x2) (.slice p3 n3 c3') (.slice p4 n4 c4')
      have HK5 : Keep (One (w.heap.size + 1)) wr _ := set5_keep wr (w.heap.size + 1) (.int .i64 x0) (.int .i64 x1) (.string x2) (.slice p3 n3 c3') (.slice p4 n4 c4')
      unfold set5 at h5 HK5
      refine bodyPost_ret (results_cell_tmp rfl _ _ _ rfl (loadJ5 h5)) rfl ?_
      exact ⟨⟨_, _, _, _, _, _, _, _, _, .inl ⟨rfl, HM.out m hlt HU.out⟩⟩, HBW.out.trans (HK5.below HBW.out.size fun q hq => by unfold One; omega)⟩
    · have hs := str_ne hk
      go_wp2
      go_roundw
      case rel => exact ⟨m + 1, by go_num, hlt, fun y hy => (Nat.lt_succ_iff_lt_or_eq.1 hy).elim (HX.out y) fun e => by rw [e, HU.out]; exact hk, trivial⟩
      case measure => simp [intOf]; omega
  · obtain rfl : m = n := by omega
    go_wp2
    have h5 := set5_heap hres (.int .i64 0) (.int .i64 0) (.string ⟨#[]⟩) (.slice none 0 0) (.slice none 0 0)
    have HK5 : Keep (One (w.heap.size + 1)) wr _ := set5_keep wr (w.heap.size + 1) (.int .i64 0) (.int .i64 0) (.string ⟨#[]⟩) (.slice none 0 0) (.slice none 0 0)
    unfold set5 at h5 HK5
    refine bodyPost_ret (results_cell_tmp rfl _ _ _ rfl (loadJ5 h5)) rfl ?_
    exact ⟨⟨_, _, _, _, _, _, _, _, _, .inr ⟨rfl, HNM.out HX.out⟩⟩, HBW.out.trans (HK5.below HBW.out.size fun q hq => by unfold One; omega)⟩
end Go.Proofs.YtegcgbjjpgjnmaaGreatDoor
namespace Go.Proofs.YtegcgbjjpgjnmaaGreatDoor
open Go.RowKit Go.Maps
theorem look_del_none {n : ByteArray} : ∀ {ps : List (ByteArray × J)} {s : ByteArray}, lookJ ps n = none → lookJ (delJ ps s) n = none
 | [], _, _ => rfl
 | p :: r, s, h => by
  unfold lookJ at h
  split at h
  · cases h
  · unfold delJ
    split
    · exact look_del_none h
    · unfold lookJ
      rw [if_neg ‹_›]
      exact look_del_none h
theorem get_none {ps : List (ByteArray × J)} {n : ByteArray} (h : lookJ ps n = none) : (getJ ps n).kind = 0 := by
 unfold getJ
 rw [h]
 rfl
theorem look_no {n : ByteArray} : ∀ {ps : List (ByteArray × J)}, (∀ p ∈ ps, p.1 ≠ n) → lookJ ps n = none
 | [], _ => rfl
 | p :: r, h => by
  unfold lookJ
  rw [if_neg fun e => h p List.mem_cons_self (data_inj e)]
  exact look_no fun q hq => h q (List.mem_cons_of_mem _ hq)
theorem del_keeps {p : ByteArray × J} {s : ByteArray} (hs : p.1 ≠ s) : ∀ {ps : List (ByteArray × J)}, p ∈ ps → p ∈ delJ ps s
 | [], h => by cases h
 | q :: r, h => by
  unfold delJ
  rcases List.mem_cons.1 h with rfl | h
  · rw [if_neg fun e => hs (data_inj e)]
    exact List.mem_cons_self
  · split
    · exact del_keeps hs h
    · exact List.mem_cons_of_mem _ (del_keeps hs h)
def names10 : List ByteArray := [nRoom, nType, nSender, nContent, nPrev, nAuth, nDepth, nTs, nHash, nSigs]
theorem read_lacks {j : J} {n : ByteArray} (hn : n ∈ names10) (h : lookJ (rP0 j) n = none) : readOk j = false := by
 have h1 : lookJ (rP1 j) n = none := look_del_none h
 have h2 : lookJ (rP2 j) n = none := look_del_none h1
 have h3 : lookJ (rP3 j) n = none := look_del_none h2
 have h4 : lookJ (rP4 j) n = none := look_del_none h3
 have h5 : lookJ (rP5 j) n = none := look_del_none h4
 have h6 : lookJ (rP6 j) n = none := look_del_none h5
 have h7 : lookJ (rP7 j) n = none := look_del_none h6
 have h8 : lookJ (rP8 j) n = none := look_del_none h7
 have h9 : lookJ (rP9 j) n = none := look_del_none h8
 have hb : rB10 j = true := by
  unfold names10 at hn
  simp only [List.mem_cons, List.not_mem_nil, or_false] at hn
  rcases hn with rfl | rfl | rfl | rfl | rfl | rfl | rfl | rfl | rfl | rfl
  · have e : (rG0 j).kind = 0 := get_none h
    simp [rB10, rB9, rB8, rB7, rB6, rB5, rB4, rB3, rB2, rB1, e]
  · have e : (rG1 j).kind = 0 := get_none h1
    simp [rB10, rB9, rB8, rB7, rB6, rB5, rB4, rB3, rB2, e]
  · have e : (rG2 j).kind = 0 := get_none h2
    simp [rB10, rB9, rB8, rB7, rB6, rB5, rB4, rB3, e]
  · have e : (rG3 j).kind = 0 := get_none h3
    simp [rB10, rB9, rB8, rB7, rB6, rB5, rB4, e]
  · have e : (rG4 j).kind = 0 := get_none h4
    simp [rB10, rB9, rB8, rB7, rB6, rB5, e]
  · have e : (rG5 j).kind = 0 := get_none h5
    simp [rB10, rB9, rB8, rB7, rB6, e]
  · have e : (rG6 j).kind = 0 := get_none h6
    simp [rB10, rB9, rB8, rB7, e]
  · have e : (rG7 j).kind = 0 := get_none h7
    simp [rB10, rB9, rB8, e]
  · have e : (rG8 j).kind = 0 := get_none h8
    simp [rB10, rB9, e]
  · have e : (rG9 j).kind = 0 := get_none h9
    simp [rB10, e]
 unfold readOk rB11
 rw [hb]
 simp
theorem read_more {j : J} {p : ByteArray × J} (hp : p ∈ rP0 j) (hn : p.1 ∉ names10) (hk : p.1 ≠ nKey) : readOk j = false := by
 unfold names10 at hn
 simp only [List.mem_cons, List.not_mem_nil, or_false, not_or] at hn
 obtain ⟨n0, n1, n2, n3, n4, n5, n6, n7, n8, n9⟩ := hn
 have h10 : p ∈ rP10 j := del_keeps n9 (del_keeps n8 (del_keeps n7 (del_keeps n6 (del_keeps n5 (del_keeps n4 (del_keeps n3 (del_keeps n2 (del_keeps n1 (del_keeps n0 hp)))))))))
 have h11 : p ∈ rP11 j := del_keeps hk h10
 have l10 : (rP10 j).length ≠ 0 := fun e => by rw [List.eq_nil_of_length_eq_zero e] at h10; cases h10
 have l11 : (rP11 j).length ≠ 0 := fun e => by rw [List.eq_nil_of_length_eq_zero e] at h11; cases h11
 unfold readOk
 rw [decide_eq_false l10, decide_eq_false l11]
 simp
theorem read_zero : readOk J.zero = false := by kernel_rfl
theorem from_bad2 {j : J} (h : readOk j = false) : fromE j = (Ev.zero, 50) := by
 unfold fromE
 rw [h]
 rfl
theorem rP0_ord {j : J} (hk : j.kind = 5) : rP0 (ord j) = sortK (j.keys.zip (ordL j.list)) := by
 obtain ⟨k, i, t, ks, l⟩ := j
 obtain rfl : k = 5 := hk
 show ((sortK (ks.zip (ordL l))).map (·.1)).zip ((sortK (ks.zip (ordL l))).map (·.2)) = sortK (ks.zip (ordL l))
 generalize sortK (ks.zip (ordL l)) = z
 induction z with
 | nil => rfl
 | cons a r ih => rw [List.map_cons, List.map_cons, List.zip_cons_cons, ih]
theorem zip_has {x : ByteArray} : ∀ {ks : List ByteArray} {l : List J}, ks.length ≤ l.length → x ∈ ks → ∃ p ∈ ks.zip l, p.1 = x
 | [], _, _, h => by cases h
 | k :: ks, [], hl, _ => by simp at hl
 | k :: ks, a :: l, hl, h => by
  rcases List.mem_cons.1 h with rfl | h
  · exact ⟨(x, a), by rw [List.zip_cons_cons]; exact List.mem_cons_self, rfl⟩
  · obtain ⟨p, hp, e⟩ := zip_has (l := l) (by simpa using hl) h
    exact ⟨p, by rw [List.zip_cons_cons]; exact List.mem_cons_of_mem _ hp, e⟩
theorem ordL_len : ∀ l : List J, (ordL l).length = l.length
 | [] => rfl
 | a :: r => by rw [ordL, List.length_cons, List.length_cons, ordL_len r]
theorem from_more {j : J} {x : ByteArray} (hk : j.kind = 5) (hl : j.keys.length ≤ j.list.length) (hx : x ∈ j.keys) (hn : x ∉ names10) (hK : x ≠ nKey) : (fromE (ordT j)).2 ≠ 0 := by
 have h : readOk (ordT j) = false := by
  unfold ordT
  split
  · obtain ⟨p, hp, rfl⟩ := zip_has (l := ordL j.list) (by rw [ordL_len]; exact hl) hx
    exact read_more (p := p) (by rw [rP0_ord hk, mem_sortK]; exact hp) hn hK
  · exact read_zero
 rw [from_bad2 h]
 decide
theorem mem_zip_fst {p : ByteArray × J} : ∀ {ks : List ByteArray} {l : List J}, p ∈ ks.zip l → p.1 ∈ ks
 | [], _, h => by simp at h
 | _ :: _, [], h => by simp at h
 | k :: ks, a :: l, h => by
  rw [List.zip_cons_cons] at h
  rcases List.mem_cons.1 h with rfl | h
  · exact List.mem_cons_self
  · exact List.mem_cons_of_mem _ (mem_zip_fst h)
theorem look_lacks {j : J} {x : ByteArray} (hk : j.kind = 5) (hx : x ∉ j.keys) : lookJ (rP0 (ordT j)) x = none := by
 unfold ordT
 split
 · refine look_no fun p hp e => hx ?_
   rw [rP0_ord hk, mem_sortK] at hp
   rw [← e]
   exact mem_zip_fst hp
 · rfl
theorem from_less {j : J} {x : ByteArray} (hk : j.kind = 5) (hx : x ∉ j.keys) (hn : x ∈ names10 ∨ x = nKey) : (fromE (ordT j)).2 ≠ 0 ∨ (x = nKey ∧ (fromE (ordT j)).1.st = false) := by
 have hl := look_lacks hk hx
 rcases hn with hn | rfl
 · left
   rw [from_bad2 (read_lacks hn hl)]
   decide
 · right
   refine ⟨rfl, ?_⟩
   unfold fromE
   split
   · split
     · show rSt (ordT j) = false
       unfold rSt
       rw [hl]
       rfl
     · rfl
   · rfl
theorem ordT_keys {j : J} {N : Nat} (h : j.keys.length ≤ N) (hk : j.kind = 5) : (ordT j).keys.length ≤ N := by
 unfold ordT
 split
 · obtain ⟨k, i, t, ks, l⟩ := j
   obtain rfl : k = 5 := hk
   show ((sortK (ks.zip (ordL l))).map (·.1)).length ≤ N
   rw [List.length_map, sortK_length, List.length_zip]
   exact Nat.le_trans (Nat.min_le_left _ _) h
 · exact Nat.zero_le _
theorem told_names {e : Ev} {x : ByteArray} (h : x ∈ (pairsE e).map (·.1)) : x ∈ names10 ∨ x = nKey := by
 rw [keys_told] at h
 unfold names10
 split at h <;> simp only [List.mem_cons, List.not_mem_nil, or_false] at h ⊢ <;> grind
theorem names_told {e : Ev} {x : ByteArray} (h : x ∈ names10) : x ∈ (pairsE e).map (·.1) := by
 rw [keys_told]
 unfold names10 at h
 split <;> simp only [List.mem_cons, List.not_mem_nil, or_false] at h ⊢ <;> grind
end Go.Proofs.YtegcgbjjpgjnmaaGreatDoor
namespace Go.Proofs.YtegcgbjjpgjnmaaGreatDoor
open Go Go.RowKit Go.Maps
def lessZ (tj : J) (key : ByteArray) (m : Nat) : List (ByteArray × J) := ((tj.keys.zip tj.list).take m).filter fun p => decide (p.1 ≠ key)
def lessJ (tj : J) (key : ByteArray) (m : Nat) : J := .mk 5 0 nix ((lessZ tj key m).map (·.1)) ((lessZ tj key m).map (·.2))
theorem lessZ_succ {tj : J} {key : ByteArray} {m n : Nat} (hk : tj.keys.length = n) (hl : tj.list.length = n) (hm : m < n) : lessZ tj key (m + 1) = lessZ tj key m ++ (if tj.keys.getD m nix = key then [] else [(tj.keys.getD m nix, tj.list.getD m J.zero)]) := by
 have h1 : m < (tj.keys.zip tj.list).length := by rw [List.length_zip]; omega
 have h2 : m < tj.keys.length := by omega
 have h3 : m < tj.list.length := by omega
 unfold lessZ
 rw [List.take_add_one, List.getElem?_eq_getElem h1, List.filter_append]
 congr 1
 rw [List.getElem_zip, List.getD_eq_getElem?_getD, List.getElem?_eq_getElem h2, List.getD_eq_getElem?_getD, List.getElem?_eq_getElem h3]
 show List.filter _ [(tj.keys[m], tj.list[m])] = if tj.keys[m] = key then [] else [(tj.keys[m], tj.list[m])]
 by_cases h : tj.keys[m] = key
 · simp [h]
 · simp [h]
theorem lessZ_mem {tj : J} {key : ByteArray} {m : Nat} {p : ByteArray × J} (h : p ∈ lessZ tj key m) : p.1 ∈ tj.keys ∧ p.2 ∈ tj.list ∧ p.1 ≠ key := by
 unfold lessZ at h
 obtain ⟨h1, h2⟩ := List.mem_filter.1 h
 have h3 := List.mem_of_mem_take h1
 exact ⟨(List.of_mem_zip h3).1, (List.of_mem_zip h3).2, of_decide_eq_true h2⟩
theorem lessZ_len (tj : J) (key : ByteArray) (m : Nat) : (lessZ tj key m).length ≤ m := by
 unfold lessZ
 exact Nat.le_trans (List.length_filter_le _ _) (by rw [List.length_take]; omega)
theorem less_no {tj : J} {key : ByteArray} {m : Nat} : key ∉ (lessJ tj key m).keys := fun h => by
 obtain ⟨p, hp, e⟩ := List.mem_map.1 (show key ∈ (lessZ tj key m).map (·.1) from h)
 exact (lessZ_mem hp).2.2 e
theorem less_sz {tj : J} {key : ByteArray} {m : Nat} (h : szJ 12 tj = true) (hm : m ≤ 100000) : szJ 12 (lessJ tj key m) = true := by
 obtain ⟨_, _, p3, _, p5⟩ := sz_parts h
 have hl := lessZ_len tj key m
 unfold lessJ szJ
 simp only [Bool.and_eq_true, decide_eq_true_eq, List.all_eq_true, List.length_map]
 refine ⟨by decide, by omega, fun x hx => ?_, by omega, fun x hx => ?_⟩
 · obtain ⟨p, hp, rfl⟩ := List.mem_map.1 hx
   exact p3 _ (lessZ_mem hp).1
 · obtain ⟨p, hp, rfl⟩ := List.mem_map.1 hx
   exact p5 _ (lessZ_mem hp).2.1
theorem less_keys (tj : J) (key : ByteArray) {m : Nat} (hm : m ≤ 80000) : (ordT (lessJ tj key m)).keys.length ≤ 80000 :=
 ordT_keys (by show ((lessZ tj key m).map (·.1)).length ≤ 80000; rw [List.length_map]; have := lessZ_len tj key m; omega) rfl
structure LessI (tj : J) (key : ByteArray) (W8 : World) (L m : Nat) (q1 : Option Addr) (c1 : Nat) (q2 : Option Addr) (c2 k : Nat) (wr : World) : Prop where
 obj : wr.heap[L]? = some (.cells #[.int .i64 5, .int .i64 0, .string ⟨#[]⟩, .slice q1 k c1, .slice q2 k c2] 25 (0, 0))
 isj : isJ (fun b => b < wr.heap.size ∧ b ≠ L) wr (lessJ tj key m) [.int .i64 5, .int .i64 0, .string ⟨#[]⟩, .slice q1 k c1, .slice q2 k c2]
 n1 : q1 = none → c1 = 0
 n2 : q2 = none → c2 = 0
 keep : Keep (One L) W8 wr
 kl : k ≤ m
theorem LessI.start (tj : J) (key : ByteArray) {W8 : World} {L : Nat} (h : W8.heap[L]? = some (.cells #[.int .i64 5, .int .i64 0, .string ⟨#[]⟩, .slice none 0 0, .slice none 0 0] 25 (0, 0))) : LessI tj key W8 L 0 none 0 none 0 0 W8 := by
 refine ⟨h, ?_, fun _ => rfl, fun _ => rfl, Keep.refl _ _, Nat.le_refl _⟩
 have e : lessJ tj key 0 = .mk 5 0 nix [] [] := by unfold lessJ lessZ; rw [List.take_zero]; rfl
 rw [e]
 unfold isJ
 exact ⟨none, 0, none, 0, rfl, RdK.nil _ _, Nat.le_refl _, by unfold isJs; trivial⟩
theorem LessI.skip {tj : J} {key : ByteArray} {W8 wr : World} {L m n k c1 c2 : Nat} {q1 q2 : Option Addr} (h : LessI tj key W8 L m q1 c1 q2 c2 k wr) (hk : tj.keys.length = n) (hl : tj.list.length = n) (hm : m < n) (hu : tj.keys.getD m nix = key) : LessI tj key W8 L (m + 1) q1 c1 q2 c2 k wr := by
 refine ⟨h.obj, ?_, h.n1, h.n2, h.keep, Nat.le_succ_of_le h.kl⟩
 have e : lessJ tj key (m + 1) = lessJ tj key m := by
  unfold lessJ
  rw [lessZ_succ hk hl hm, if_pos hu, List.append_nil]
 rw [e]
 exact h.isj
theorem LessI.put {tj : J} {key : ByteArray} {W8 wr w' W2 : World} {L m n k c1 c2 b1 d1 b2 d2 : Nat} {q1 q2 : Option Addr} (h : LessI tj key W8 L m q1 c1 q2 c2 k wr) (hL : L < wr.heap.size) (hk : tj.keys.length = n) (hl : tj.list.length = n) (hm : m < n) (hu : tj.keys.getD m nix ≠ key) (hb : Below wr.heap.size wr w')
    (hj : isJ (fun b => (b < wr.heap.size ∧ b ≠ L) ∨ New wr w' b) w' (.mk 5 0 nix ((lessJ tj key m).keys ++ [tj.keys.getD m nix]) ((lessJ tj key m).list ++ [tj.list.getD m J.zero])) [.int .i64 5, .int .i64 0, .string ⟨#[]⟩, .slice (some ⟨b1, 0, none⟩) (k + 1) d1, .slice (some ⟨b2, 0, none⟩) (k + 1) d2])
    (ho : W2.heap[L]? = some (.cells #[.int .i64 5, .int .i64 0, .string ⟨#[]⟩, .slice (some ⟨b1, 0, none⟩) (k + 1) d1, .slice (some ⟨b2, 0, none⟩) (k + 1) d2] 25 (0, 0))) (hK : Keep (One L) w' W2) : LessI tj key W8 L (m + 1) (some ⟨b1, 0, none⟩) d1 (some ⟨b2, 0, none⟩) d2 (k + 1) W2 := by
 have s1 := hb.size
 have s2 := hK.size
 refine ⟨ho, ?_, (fun h => by cases h), (fun h => by cases h), (h.keep.then (Keep.of_below hb)).then hK, Nat.succ_le_succ h.kl⟩
 have e : lessJ tj key (m + 1) = .mk 5 0 nix ((lessJ tj key m).keys ++ [tj.keys.getD m nix]) ((lessJ tj key m).list ++ [tj.list.getD m J.zero]) := by
  unfold lessJ
  rw [lessZ_succ hk hl hm, if_neg hu, List.map_append, List.map_append]
  rfl
 rw [e]
 refine hj.carry fun b hb' => ?_
 have hlt : b < w'.heap.size ∧ b ≠ L := by
  rcases hb' with h1 | h1
  · exact ⟨by omega, h1.2⟩
  · exact ⟨h1.2, by have := h1.1; omega⟩
 exact ⟨⟨by omega, hlt.2⟩, hK.block b hlt.1 hlt.2⟩
end Go.Proofs.YtegcgbjjpgjnmaaGreatDoor

/-
  The reader of events: rows of texts, and signatures: by contracts.
  The reader of events: signatures: by a contract.
  What event a value says: plain.
  What event a value says: how its names and values are laid into the reader's map.
  What event a value says: by a contract.
  What event a value says: by a contract.
  What event a value says: by a contract.
  What event a value says: by a contract.
  What is decoded is good, and in order.
  Order, by a contract that tells where the value lies.
  The event of a value, of bytes: by contracts.
  An event's JSON, read: the event, its content in order.
  An event that is loaded, or stored, as one operation.
  Whether two values are the same, by a contract.
  Rows that are the same, and events that are: by contracts.
  Events that are the same, without signatures: by a contract.
  The events of the law's examples.
  The event of a value: by a contract.
  The event of a value: by a contract.
  The event of a value: by a contract.
  The event of a value, and of bytes: by contracts.
  The law's sample, by a contract.
  Bits of a letter's bytes, as sums and rests.
  Rune, by a contract.
  The document's good values, by contracts.
  Choosing the least key again and again puts keys in order.
  A value that is put in order, as it is being made: its memory.
  The document's order, by contracts.
  The document's Order, by a contract.
  An event's JSON, and an event with its content in order: by contracts.
  The document's Put, by a contract: a map with a key and a value more.
  The document's Put, by a contract: a map with a key and a value more.
  The document's own shape of an event: its rows of names, its signatures: by contracts.
  The document's look at signatures, by a contract.
  The document's IsUser, a number, a text and a content one level deeper: by contracts.
  The contents and the events of the examples: by contracts.
  The examples: what is judged of them.
  Events with their names that are built, rows of them, and rows that are appended to.
  A value of JSON that came in, as the walks read it.
-/
import Derived.Test.YtldegjjaknelgaaGreatDoorAY28
import Derived.Laws.BitsAllLaws
import Derived.Laws.Append
import Derived.OwnWalk
import Derived.Test.YtldegjjaknelgaaGreatDoorChecked
import Derived.ProofKit
import Derived.SizedLaws
import Derived.SliceStrings
set_option maxRecDepth 100000
set_option maxHeartbeats 16000000
namespace Go.Proofs.YtldegjjaknelgaaGreatDoor
open Go.RowKit Go.Maps
theorem isJ_at {O : Nat → Prop} {w : World} {j : J} {k i : Int} {t : ByteArray} {pk pl : Option Addr} {nk ck nl cl : Nat} (h : isJ O w j [.int .i64 k, .int .i64 i, .string t, .slice pk nk ck, .slice pl nl cl]) :
    j.kind = k ∧ j.int = i ∧ j.text = t ∧ nk = j.keys.length ∧ nl = j.list.length ∧ RdK O w pk ck j.keys ∧ j.list.length ≤ cl ∧ isJs O w pl 0 j.list := by
 cases j with
 | mk k' i' t' ks l =>
  unfold isJ at h
  obtain ⟨pk', ck', pl', cl', e, h1, h2, h3⟩ := h
  cases e
  exact ⟨rfl, rfl, rfl, rfl, rfl, h1, h2, h3⟩
theorem results_cell {fn : Func} {a : Tmp} {t : TypeId} (h : fn.results = #[.cell a t]) (tmps : Array Value) (P : Program) (w : World) {ad : Addr} {v : Value} (hp : tmps.getD a undef = .pointer (some ad)) (hl : (loadVar t ad).run P w = .ok v w) :
    (results fn tmps).run P w = .ok v w := by
 rw [Array.getD_eq_getD_getElem?] at hp
 simp [results, h, hp, hl, asAddr]
theorem loadJ5 {w : World} {b : Nat} {t : TypeId} {a0 a1 a2 a3 a4 : Value} (h : w.heap[b]? = some (.cells #[a0, a1, a2, a3, a4] t (0, 0))) : (loadVar 25 ⟨b, 0, none⟩).run Tryz.prog w = .ok (.agg #[a0, a1, a2, a3, a4]) w := by
 have k0 := five_c0 h; have k1 := five_c1 h; have k2 := five_c2 h; have k3 := five_c3 h; have k4 := five_c4 h
 simp [loadVar, go_sem, k0, k1, k2, k3, k4]
end Go.Proofs.YtldegjjaknelgaaGreatDoor
namespace Go.Proofs.YtldegjjaknelgaaGreatDoor
open Go Go.RowKit Go.Maps
theorem oneCells {O : Nat → Prop} {w : World} {j : J} {cs : List Value} (h : isJ O w j cs) : ∀ u ∈ cs, u.oneCell' = true := by
 obtain ⟨k, i, t, pk, nk, ck, pl, nl, cl, rfl⟩ := isJ_shape h
 intro u hu
 simp only [List.mem_cons, List.not_mem_nil, or_false] at hu
 rcases hu with rfl | rfl | rfl | rfl | rfl <;> rfl
theorem row_of_js {O : Nat → Prop} {w : World} {p : Option Addr} : ∀ (l : List J) (n : Nat), isJs O w p n l → ∃ xs, isRow O w l xs ∧ xs.length = l.length * 5 ∧ (∀ u ∈ xs, u.oneCell' = true) ∧ ∀ ad, p = some ad → ∀ (m : Nat) u, xs[m]? = some u → O ad.block ∧ w.cell? (ad.add (n * 5 + m)) = some u
 | [], n, _ => ⟨[], by unfold isRow; rfl, rfl, (fun u hu => absurd hu (by simp)), (fun ad _ m u h => absurd h (by simp))⟩
 | j :: r, n, h => by
  unfold isJs at h
  obtain ⟨⟨b, o, cs, rfl, hO, hc, hj⟩, hr⟩ := h
  obtain ⟨xs, h1, h2, h3, h4⟩ := row_of_js r (n + 1) hr
  have h5 := hj.five
  refine ⟨cs ++ xs, ?_, by rw [List.length_append, h5, h2, List.length_cons]; omega, fun u hu => ?_, fun ad e m u hm => ?_⟩
  · unfold isRow
    exact ⟨cs, xs, rfl, h5, hj, h1⟩
  · rcases List.mem_append.1 hu with hu | hu
    · exact oneCells hj u hu
    · exact h3 u hu
  · cases e
    have hadd : ∀ m, (⟨b, o, none⟩ : Addr).add m = ⟨b, o + m, none⟩ := fun m => by unfold Addr.add; split <;> simp_all
    refine ⟨hO, ?_⟩
    by_cases hlt : m < 5
    · rw [List.getElem?_append_left (by omega)] at hm
      have := hc m u hm
      rw [hadd]
      rwa [Nat.add_assoc] at this
    · rw [List.getElem?_append_right (by omega), h5] at hm
      have := (h4 _ rfl (m - 5) u hm).2
      rw [hadd] at this ⊢
      rw [show n * 5 + m = (n + 1) * 5 + (m - 5) by omega]
      exact this
theorem rPut_any {O : Nat → Prop} {w : World} {j v : J} {k i vk vi : Int} {t vt : ByteArray} {pk pl vpk vpl : Option Addr} {nk ck nl cl vnk vck vnl vcl : Nat} (key : ByteArray) (hO : ∀ b, O b → b < w.heap.size)
    (hj : isJ O w j [.int .i64 k, .int .i64 i, .string t, .slice pk nk ck, .slice pl nl cl]) (hv : isJ O w v [.int .i64 vk, .int .i64 vi, .string vt, .slice vpk vnk vck, .slice vpl vnl vcl]) (hkp : pk = none → ck = 0) (hlp : pl = none → cl = 0) (hnk : nk ≤ 100000) (hnl : nl ≤ 100000) :
    Calls Tryz.prog 44 #[.agg #[.int .i64 k, .int .i64 i, .string t, .slice pk nk ck, .slice pl nl cl], .string key, .agg #[.int .i64 vk, .int .i64 vi, .string vt, .slice vpk vnk vck, .slice vpl vnl vcl]] w fun x w' => (∃ b1 c1 b2 c2, x = .returned (.agg #[.int .i64 5, .int .i64 0, .string ⟨#[]⟩, .slice (some ⟨b1, 0, none⟩) (nk + 1) c1, .slice (some ⟨b2, 0, none⟩) (nl + 1) c2]) ∧ isJ (fun b => O b ∨ New w w' b) w' (.mk 5 0 nix (j.keys ++ [key]) (j.list ++ [v])) [.int .i64 5, .int .i64 0, .string ⟨#[]⟩, .slice (some ⟨b1, 0, none⟩) (nk + 1) c1, .slice (some ⟨b2, 0, none⟩) (nl + 1) c2]) ∧ Below w.heap.size w w' := by
 obtain ⟨W0, hW0⟩ : ∃ W0, W0 = ((w.alloc (.cells #[.int .i64 k, .int .i64 i, .string t, .slice pk nk ck, .slice pl nl cl] 25)).alloc (.cells #[.int .i64 vk, .int .i64 vi, .string vt, .slice vpk vnk vck, .slice vpl vnl vcl] 25)).alloc (.cells #[.int .i64 0, .int .i64 0, .string ⟨#[]⟩, .slice none 0 0, .slice none 0 0] 25) := ⟨_, rfl⟩
 have hbw : Below w.heap.size w W0 := by rw [hW0]; exact (((Below.refl _ _).alloc (Nat.le_refl _) _).alloc (by simp) _).alloc (by simp; omega) _
 have hx0 : W0.heap[w.heap.size]? = some (.cells #[.int .i64 k, .int .i64 i, .string t, .slice pk nk ck, .slice pl nl cl] 25 (0, 0)) := by rw [hW0, Below.heap_alloc _ _ _ (by simp; omega)]; exact one_of _ _
 have hx1 : W0.heap[w.heap.size + 1]? = some (.cells #[.int .i64 vk, .int .i64 vi, .string vt, .slice vpk vnk vck, .slice vpl vnl vcl] 25 (0, 0)) := by rw [hW0, Below.heap_alloc _ _ _ (by simp)]; exact two_at _ _
 have hr : W0.heap[w.heap.size + 1 + 1]? = some (.cells #[.int .i64 0, .int .i64 0, .string ⟨#[]⟩, .slice none 0 0, .slice none 0 0] 25 (0, 0)) := by
  have h := heap_alloc_new ((w.alloc (.cells #[.int .i64 k, .int .i64 i, .string t, .slice pk nk ck, .slice pl nl cl] 25)).alloc (.cells #[.int .i64 vk, .int .i64 vi, .string vt, .slice vpk vnk vck, .slice vpl vnl vcl] 25)) (.cells #[.int .i64 0, .int .i64 0, .string ⟨#[]⟩, .slice none 0 0, .slice none 0 0] 25)
  rw [hW0]
  simpa using h
 have hs0 : w.heap.size + 3 = W0.heap.size := by rw [hW0]; simp
 have hjB := hj.carry (O' := O) (w' := W0) fun b hb => ⟨hb, hbw.block b (hO b hb)⟩
 have hvB := hv.carry (O' := O) (w' := W0) fun b hb => ⟨hb, hbw.block b (hO b hb)⟩
 have hat := isJ_at hjB
 have e4 := hat.2.2.2.1
 have e5 := hat.2.2.2.2.1
 have hrk := hat.2.2.2.2.2.1
 have hlc := hat.2.2.2.2.2.2.1
 have hjs := hat.2.2.2.2.2.2.2
 clear hat
 obtain ⟨xs, r1, r2, r3, r4⟩ := row_of_js j.list 0 hjs
 have HP : Hid (PutC W0 (w.heap.size + 1 + 1) key j.keys pk pl nk ck nl cl xs (.int .i64 vk) (.int .i64 vi) (.string vt) (.slice vpk vnk vck) (.slice vpl vnl vcl)) := by
  have hz : ∀ {l : List ByteArray} {p : Option Addr} {c : Nat}, RdK O W0 p c l → p = none → l.length = 0 := fun {l p c} h hp => by
   cases l with
   | nil => rfl
   | cons a r => obtain ⟨ad, e, _⟩ := h.2 0 (by simp); rw [hp] at e; cases e
  refine ⟨by omega, e4.symm, by rw [r2, e5], hnk, hnl, fun hp => ⟨by rw [e4]; exact hz hrk hp, hkp hp⟩, fun hp => ⟨?_, hlp hp⟩, fun ad e m u hm => ?_, fun ad e m u hm => ?_, r3, oneCells hv⟩
  · rw [e5]
    cases hl : j.list with
    | nil => rfl
    | cons a r =>
     rw [hl] at hjs
     unfold isJs at hjs
     obtain ⟨⟨b, o, cs, e, _⟩, _⟩ := hjs
     rw [hp] at e
     cases e
  · have hm1 : m < j.keys.length := by
      have := (List.getElem?_eq_some_iff.1 hm).1
      simpa using this
    obtain ⟨ad', e', hOa, hc⟩ := hrk.2 m hm1
    rw [e] at e'
    cases e'
    rw [List.getElem?_map, List.getElem?_eq_getElem hm1] at hm
    cases hm
    refine ⟨by rw [add_block]; exact Nat.lt_of_lt_of_le (hO _ hOa) hbw.size, ?_⟩
    rw [hc, List.getD_eq_getElem?_getD, List.getElem?_eq_getElem hm1]
    rfl
  · obtain ⟨h1, h2⟩ := r4 ad e m u hm
    refine ⟨by rw [add_block]; exact Nat.lt_of_lt_of_le (hO _ h1) hbw.size, ?_⟩
    rw [Nat.zero_mul, Nat.zero_add] at h2
    exact h2
 have hQ : Hid (∀ wq, Below (w.heap.size + 1 + 1) W0 wq → wq.cell? ⟨w.heap.size, 3, none⟩ = some (.slice pk nk ck) ∧ wq.cell? ⟨w.heap.size, 4, none⟩ = some (.slice pl nl cl) ∧ wq.cell? ⟨w.heap.size + 1, 0, none⟩ = some (.int .i64 vk) ∧ wq.cell? ⟨w.heap.size + 1, 1, none⟩ = some (.int .i64 vi) ∧ wq.cell? ⟨w.heap.size + 1, 2, none⟩ = some (.string vt) ∧ wq.cell? ⟨w.heap.size + 1, 3, none⟩ = some (.slice vpk vnk vck) ∧ wq.cell? ⟨w.heap.size + 1, 4, none⟩ = some (.slice vpl vnl vcl)) := fun wq h => by
  have h0 := (h.block w.heap.size (by omega)).trans hx0
  have h1 := (h.block (w.heap.size + 1) (by omega)).trans hx1
  exact ⟨five_c3 h0, five_c4 h0, five_c0 h1, five_c1 h1, five_c2 h1, five_c3 h1, five_c4 h1⟩
 have HR : Hid (∀ wq, Below W0.heap.size W0 wq → wq.heap[w.heap.size + 1 + 1]? = some (.cells #[.int .i64 0, .int .i64 0, .string ⟨#[]⟩, .slice none 0 0, .slice none 0 0] 25 (0, 0))) := fun wq h => (h.block _ (by omega)).trans hr
 have HS : Hid (w.heap.size + 3 = W0.heap.size) := hs0
 have HBW : Hid (Below w.heap.size w W0) := hbw
 have HRW : Hid (isRow O W0 j.list xs) := r1
 have HVB : Hid (isJ O W0 v [.int .i64 vk, .int .i64 vi, .string vt, .slice vpk vnk vck, .slice vpl vnl vcl]) := hvB
 have HO : Hid (∀ b, O b → b < w.heap.size) := hO
 have HE : Hid (nk = j.keys.length ∧ nl = j.list.length) := ⟨e4, e5⟩
 clear hj hv hjB hvB hrk hlc hjs r1 r2 r3 r4 e4 e5 hx0 hx1 hr hkp hlp hs0 hbw hO
 go_enter Tryz.func44, Tryz.ntmps44
 go_wp2
 rw [← hW0]
 clear hW0
 have hC0 : Below W0.heap.size W0 W0.drew := (Below.refl _ _).drew
 refine wp_region_in (by kernel_rfl) (fun w' => Below (w.heap.size + 1 + 1) W0 w') ?_
 change wpIn _ _ _ _ _ _ _ _ (World.drew _)
 refine wpIn_tk (i := 1) (d := some 8) rfl ?_
 refine wpIn_tp (i := 2) (d := some 9) rfl (by (intro wq hq; obtain ⟨q3, q4, q5, q6, q7, q8, q9⟩ := hQ.out wq hq; go_simp; first | done | with_reducible rfl)) ?_
 refine wpIn_tk (i := 4) (d := some 11) rfl ?_
 refine wpIn_tk (i := 8) (d := some 15) rfl ?_
 refine wpIn_tp (i := 9) (d := some 16) rfl (by (intro wq hq; obtain ⟨q3, q4, q5, q6, q7, q8, q9⟩ := hQ.out wq hq; go_simp; first | done | with_reducible rfl)) ?_
 refine wpIn_tp (i := 11) (d := some 18) rfl (by (intro wq hq; obtain ⟨q3, q4, q5, q6, q7, q8, q9⟩ := hQ.out wq hq; go_simp; first | done | with_reducible rfl)) ?_
 refine pst_0_n (r := w.heap.size + 1 + 1) ?_ HP.out _ hC0
 intro w2 hb2 x7 x10 x12 q13 c13 o13 x14 x17 x19 q20 c20 o20
 unfold putOps
 refine wpIn_tk (i := 14) (d := some 21) rfl ?_
 have hres := HR.out w2 hb2
 have i0 := five_c0 hres; have i1 := five_c1 hres; have i2 := five_c2 hres; have i3 := five_c3 hres; have i4 := five_c4 hres
 have z0 := five_fz hres 0; have z1 := five_fz hres 1; have z2 := five_fz hres 2; have z3 := five_fz hres 3; have z4 := five_fz hres 4
 refine wpIn_do (i := 15) (hb2.mono HP.out.rle) (by kernel_rfl) rfl (by rfl) ?_
 intro K hK
 go_simp
 refine hK _ _ ?_
 clear hK K
 have h5 := set5_heap hres (.int .i64 5) (.int .i64 0) (.string ⟨#[]⟩) (.slice q13 (nk + 1) c13) (.slice q20 (nl + 1) c20)
 have HK5 : Keep (One (w.heap.size + 1 + 1)) w2 _ := set5_keep w2 (w.heap.size + 1 + 1) (.int .i64 5) (.int .i64 0) (.string ⟨#[]⟩) (.slice q13 (nk + 1) c13) (.slice q20 (nl + 1) c20)
 obtain ⟨WE, hWE⟩ : ∃ WE, WE = set5 w2 (w.heap.size + 1 + 1) (.int .i64 5) (.int .i64 0) (.string ⟨#[]⟩) (.slice q13 (nk + 1) c13) (.slice q20 (nl + 1) c20) := ⟨_, rfl⟩
 rw [← hWE] at h5 HK5
 unfold set5 at hWE
 rw [← hWE]
 have hS := HS.out
 have hB := HBW.out.size
 have s2 := hb2.size
 have sE := HK5.size
 have hbE : Below (w.heap.size + 1 + 1) W0 WE := (hb2.mono HP.out.rle).trans (HK5.below (by omega) fun q hq => by unfold One; omega)
 refine wpIn_done hbE (by kernel_rfl) ?_ _
 clear i0 i1 i2 i3 i4 z0 z1 z2 z3 z4 hWE
 go_wp2
 refine bodyPost_ret (results_cell rfl _ _ _ rfl (loadJ5 h5)) rfl ?_
 obtain ⟨b1, c1', e1⟩ := own_some o13
 obtain ⟨b2, c2', e2⟩ := own_some o20
 cases e1
 cases e2
 have g13 := own_ge o13 b1 rfl
 have g20 := own_ge o20 b2 rfl
 have o13' : w2.ownsRow W0.heap.size 9 1 (.slice (some ⟨b1, 0, none⟩) (nk + 1) c13) (j.keys ++ [key]).length ((j.keys ++ [key]).map Value.string) := by
  rw [List.length_append, List.map_append, ← HE.out.1]
  exact o13
 have o20' : w2.ownsRow W0.heap.size 25 5 (.slice (some ⟨b2, 0, none⟩) (nl + 1) c20) (j.list ++ [v]).length (xs ++ [.int .i64 vk, .int .i64 vi, .string vt, .slice vpk vnk vck, .slice vpl vnl vcl]) := by
  rw [List.length_append, ← HE.out.2]
  exact o20
 have carO : ∀ q, O q → O q ∧ w2.heap[q]? = W0.heap[q]? := fun q hq => ⟨hq, hb2.block q (by have := HO.out q hq; omega)⟩
 have hrow : isRow O w2 (j.list ++ [v]) (xs ++ [.int .i64 vk, .int .i64 vi, .string vt, .slice vpk vnk vck, .slice vpl vnl vcl]) := isRow.snoc rfl (HVB.out.carry carO) _ _ (isRow.carry carO _ _ HRW.out)
 obtain ⟨qk, cqk, ek, hk⟩ := own_rdK o13'
 obtain ⟨ql, cql, el, hcl, hl⟩ := own_js o20' hrow
 simp only [Value.slice.injEq] at ek el
 obtain ⟨rfl, hk1, rfl⟩ := ek
 obtain ⟨rfl, hl1, rfl⟩ := el
 have old : ∀ q, q < w2.heap.size → q ≠ w.heap.size + 1 + 1 → WE.heap[q]? = w2.heap[q]? := fun q h1 h2 => HK5.block q h1 (by unfold One; omega)
 have bE : Below w.heap.size w WE := HBW.out.trans (hbE.mono (by omega))
 refine ⟨⟨b1, c13, b2, c20, rfl, ?_⟩, bE⟩
 unfold isJ
 refine ⟨some ⟨b1, 0, none⟩, c13, some ⟨b2, 0, none⟩, c20, ?_, hk.carry fun q hq => ?_, hcl, hl.carry fun q hq => ?_⟩
 · rw [← hk1, ← hl1]
   rfl
 · exact ⟨.inr ⟨by have := hq.1; omega, by have := hq.2; omega⟩, old q hq.2 (by have := hq.1; omega)⟩
 · rcases hq with hq | hq
   · have := HO.out q hq
     exact ⟨.inl hq, old q (by omega) (by omega)⟩
   · exact ⟨.inr ⟨by have := hq.1; omega, by have := hq.2; omega⟩, old q hq.2 (by have := hq.1; omega)⟩
end Go.Proofs.YtldegjjaknelgaaGreatDoor
namespace Go.Proofs.YtldegjjaknelgaaGreatDoor
open Go.RowKit Go.Maps
theorem rStr_any (s : ByteArray) (w : World) :
    Calls Tryz.prog 65 #[.string s] w fun x w' => x = .returned (.agg #[.int .i64 3, .int .i64 0, .string s, .slice none 0 0, .slice none 0 0]) ∧ Below w.heap.size w w' := by
 have hr : (w.alloc (.cells #[.int .i64 0, .int .i64 0, .string ⟨#[]⟩, .slice none 0 0, .slice none 0 0] 25)).heap[w.heap.size]? = some (.cells #[.int .i64 0, .int .i64 0, .string ⟨#[]⟩, .slice none 0 0, .slice none 0 0] 25 (0, 0)) := heap_alloc_new _ _
 have hb : Below w.heap.size w (w.alloc (.cells #[.int .i64 0, .int .i64 0, .string ⟨#[]⟩, .slice none 0 0, .slice none 0 0] 25)) := (Below.refl _ _).alloc (Nat.le_refl _) _
 go_enter Tryz.func65, Tryz.ntmps65
 go_upto_region 1 with fail
 generalize w.alloc (.cells #[.int .i64 0, .int .i64 0, .string ⟨#[]⟩, .slice none 0 0, .slice none 0 0] 25) = WB at *
 have i0 := five_c0 hr; have i1 := five_c1 hr; have i2 := five_c2 hr; have i3 := five_c3 hr; have i4 := five_c4 hr
 have z0 := five_fz hr 0; have z1 := five_fz hr 1; have z2 := five_fz hr 2; have z3 := five_fz hr 3; have z4 := five_fz hr 4
 go_wp2
 have h5 := set5_heap hr (.int .i64 3) (.int .i64 0) (.string s) (.slice none 0 0) (.slice none 0 0)
 have HK5 : Keep (One w.heap.size) WB _ := set5_keep WB w.heap.size (.int .i64 3) (.int .i64 0) (.string s) (.slice none 0 0) (.slice none 0 0)
 obtain ⟨WE, hWE⟩ : ∃ WE, WE = set5 WB w.heap.size (.int .i64 3) (.int .i64 0) (.string s) (.slice none 0 0) (.slice none 0 0) := ⟨_, rfl⟩
 rw [← hWE] at h5 HK5
 unfold set5 at hWE
 rw [← hWE]
 refine bodyPost_ret (results_cell rfl _ _ _ rfl (loadJ5 h5)) rfl ?_
 exact ⟨rfl, hb.trans (HK5.below hb.size fun q hq => by unfold One; omega)⟩
end Go.Proofs.YtldegjjaknelgaaGreatDoor
namespace Go.Proofs.YtldegjjaknelgaaGreatDoor
open Go.RowKit
theorem isJ_bareA (O : Nat → Prop) (w : World) (k i : Int) (t : ByteArray) : isJ O w (.mk k i t [] []) [.int .i64 k, .int .i64 i, .string t, .slice none 0 0, .slice none 0 0] := by
 unfold isJ
 exact ⟨none, 0, none, 0, rfl, RdK.nil _ _, Nat.le_refl _, by unfold isJs; trivial⟩
theorem infoJ5 : (Tryz.prog.info? 25).map (·.size) = some 5 := by kernel_rfl
theorem loadE_at {w : World} {b o : Nat} {e : Ev} {p : Pt} (h : w.rangeAt b o (cellsE e p)) : (loadVar 28 ⟨b, o, none⟩).run Tryz.prog w = .ok (valE e p) w := run_loadVar_mid w b o 28 (cellsE e p) _ h Tryz.underlying28 rfl infoE
abbrev oneJ (key s : ByteArray) : J := .mk 5 0 nix [key] [.mk 3 0 s [] []]
def js1 (b1 c1 b2 c2 : Nat) : List Value := [.int .i64 5, .int .i64 0, .string nix, .slice (some ⟨b1, 0, none⟩) 1 c1, .slice (some ⟨b2, 0, none⟩) 1 c2]
theorem one_js1 (b1 c1 b2 c2 : Nat) : (js1 b1 c1 b2 c2).toArray.all (·.oneCell') = true := all_oneCell_toArray fun v hv => by
 simp only [js1, List.mem_cons, List.not_mem_nil, or_false] at hv
 rcases hv with rfl | rfl | rfl | rfl | rfl <;> rfl
theorem loadJ1_at {w : World} {b o b1 c1 b2 c2 : Nat} (h : w.rangeAt b o (js1 b1 c1 b2 c2)) : (loadVar 25 ⟨b, o, none⟩).run Tryz.prog w = .ok (.agg (js1 b1 c1 b2 c2).toArray) w := run_loadVar_mid w b o 25 (js1 b1 c1 b2 c2) _ h Tryz.underlying25 rfl infoJ5
theorem text11_any (key s : ByteArray) (w : World) : Calls Tryz.prog 30 #[.string key, .string s] w fun x w' =>
    (∃ pk ck pl cl, x = .returned (.agg #[.int .i64 5, .int .i64 0, .string nix, .slice pk 1 ck, .slice pl 1 cl]) ∧ isJ (· < w'.heap.size) w' (oneJ key s) [.int .i64 5, .int .i64 0, .string nix, .slice pk 1 ck, .slice pl 1 cl]) ∧ Below w.heap.size w w' := by
 obtain ⟨W, hW⟩ : ∃ W, W = w.alloc (.cells #[.int .i64 0, .int .i64 0, .string ⟨#[]⟩, .slice none 0 0, .slice none 0 0] 25) := ⟨_, rfl⟩
 have hb0 : Below w.heap.size w W := by rw [hW]; exact (Below.refl _ _).alloc (Nat.le_refl _) _
 have hX0 : W.heap[w.heap.size]? = some (.cells #[.int .i64 0, .int .i64 0, .string ⟨#[]⟩, .slice none 0 0, .slice none 0 0] 25 (0, 0)) := by rw [hW]; exact newP _
 have hS := rStr_any s W
 have HP : Hid (∀ X, Below W.heap.size W X → Calls Tryz.prog 44 #[.agg #[.int .i64 5, .int .i64 0, .string ⟨#[]⟩, .slice none 0 0, .slice none 0 0], .string key, .agg #[.int .i64 3, .int .i64 0, .string s, .slice none 0 0, .slice none 0 0]] X fun x w' => (∃ b1 c1 b2 c2, x = .returned (.agg (js1 b1 c1 b2 c2).toArray) ∧ isJ (fun b => b < w.heap.size ∨ New X w' b) w' (oneJ key s) [.int .i64 5, .int .i64 0, .string ⟨#[]⟩, .slice (some ⟨b1, 0, none⟩) 1 c1, .slice (some ⟨b2, 0, none⟩) 1 c2]) ∧ Below X.heap.size X w') := fun X hX => by
  refine (rPut_any (O := (· < w.heap.size)) (w := X) (j := .mk 5 0 nix [] []) (v := .mk 3 0 s [] []) (k := 5) (i := 0) (t := ⟨#[]⟩) (vk := 3) (vi := 0) (vt := s) (pk := none) (pl := none) (vpk := none) (vpl := none) (nk := 0) (ck := 0) (nl := 0) (cl := 0) (vnk := 0) (vck := 0) (vnl := 0) (vcl := 0) key (fun b hb => Nat.lt_of_lt_of_le hb (belowP hb0 hX).size) ?_ ?_ (fun _ => rfl) (fun _ => rfl) (by decide) (by decide)).mono fun x w' hh => hh
  · exact isJ_bareA _ _ _ _ _
  · exact isJ_bareA _ _ _ _ _
 go_enter Tryz.func30, Tryz.ntmps30
 go_upto_region 1 with fail
 rw [← hW]
 clear hW
 go_wp2_with (first
  | (go_at_call 65; refine hS.mono ?_; rintro x w1 ⟨rfl, hb1⟩; have hP1 := HP.out w1 hb1)
  | (go_at_call 44; refine hP1.mono ?_; rintro x w2 ⟨⟨b1, c1, b2, c2, rfl, hj⟩, hb2⟩
     have hX2 : w2.heap[w.heap.size]? = some (.cells #[.int .i64 0, .int .i64 0, .string ⟨#[]⟩, .slice none 0 0, .slice none 0 0] 25 (0, 0)) := ((belowP hb1 hb2).block _ (objP_lt hX0)).trans hX0
     have HX2 := (show Hid _ from hX2)
     clear hX2)
  | (refine wpList_store_row rfl 25 _ _ rfl w.heap.size 25 _ (js1 b1 c1 b2 c2).toArray rfl rfl HX2.out infoJ5 rfl (one_js1 _ _ _ _) ?_))
 have hk := keep_setRow w2 w.heap.size (js1 b1 c1 b2 c2).toArray
 refine bodyPost_ret (resultsP_cell rfl _ _ _ rfl (loadJ1_at (range_of (setRow_heap _ _ _ _ _ _ HX2.out)))) rfl ?_
 have hbW : Below w.heap.size w w2 := belowP hb0 (belowP hb1 hb2)
 have hlt := objP_lt hX0
 have s1 := hb1.size
 refine ⟨⟨some ⟨b1, 0, none⟩, c1, some ⟨b2, 0, none⟩, c2, rfl, hj.carry fun b hb => ?_⟩, hbW.trans (hk.below hbW.size fun k hk e => by unfold OneP at e; omega)⟩
 have h2 : b < w2.heap.size ∧ b ≠ w.heap.size := by
  rcases hb with hb | hb
  · exact ⟨Nat.lt_of_lt_of_le hb hbW.size, by omega⟩
  · unfold New at hb; exact ⟨by omega, by omega⟩
 exact ⟨Nat.lt_of_lt_of_le h2.1 hk.size, hk.block b h2.1 (by unfold OneP; exact h2.2)⟩
abbrev stE (kind key sender : ByteArray) (c : J) : Ev := ⟨⟨#[33, 114, 58, 115, 49]⟩, kind, sender, true, key, c, [], [], 0, 0, nix, []⟩
theorem state11_any (kind key sender kk s : ByteArray) (pk : Option Addr) (ck : Nat) (pl : Option Addr) (cl : Nat) (w : World) : Calls Tryz.prog 29 #[.string kind, .string key, .string sender, .agg #[.int .i64 5, .int .i64 0, .string nix, .slice pk 1 ck, .slice pl 1 cl]] w fun x w' =>
    x = .returned (valE (stE kind key sender (oneJ kk s)) ⟨pk, ck, pl, cl, none, 0, none, 0, none, 0⟩) ∧ Below w.heap.size w w' := by
 obtain ⟨W, hW⟩ : ∃ W, W = (w.alloc (.cells #[.int .i64 5, .int .i64 0, .string nix, .slice pk 1 ck, .slice pl 1 cl] 25)).alloc (.cells (cellsE Ev.zero Pt.zero).toArray 28) := ⟨_, rfl⟩
 have hb0 : Below w.heap.size w W := by rw [hW]; exact ((Below.refl _ _).alloc (Nat.le_refl _) _).alloc (by simp) _
 have hX0 : W.heap[w.heap.size]? = some (.cells #[.int .i64 5, .int .i64 0, .string nix, .slice pk 1 ck, .slice pl 1 cl] 25 (0, 0)) := by rw [hW, Below.heap_alloc _ _ _ (by simp)]; exact newP _
 have HX1 : Hid (W.heap[w.heap.size + 1]? = some (.cells (cellsE Ev.zero Pt.zero).toArray 28 (0, 0))) := by
  show _ = _
  rw [hW]
  have := newP (w := w.alloc (.cells #[.int .i64 5, .int .i64 0, .string nix, .slice pk 1 ck, .slice pl 1 cl] 25)) (.cells (cellsE Ev.zero Pt.zero).toArray 28)
  rw [World.size_alloc] at this
  exact this
 have HR : Hid (W.rangeAt w.heap.size 0 [.int .i64 5, .int .i64 0, .string nix, .slice pk 1 ck, .slice pl 1 cl]) := range_of hX0
 clear hX0
 go_enter Tryz.func29, Tryz.ntmps29
 go_upto_region 1 with fail
 change Code.wp _ _ _ _ ((w.alloc (.cells #[.int .i64 5, .int .i64 0, .string nix, .slice pk 1 ck, .slice pl 1 cl] 25)).alloc (.cells (cellsE Ev.zero Pt.zero).toArray 28))
 rw [← hW]
 clear hW
 go_wp2_with (first
  | (refine wpList_load_mid rfl 25 _ rfl w.heap.size 0 rfl _ _ HR.out Tryz.underlying25 rfl (by kernel_rfl) ?_)
  | (refine wpList_store_row rfl 28 _ _ rfl (w.heap.size + 1) 28 _ (cellsE (stE kind key sender (oneJ kk s)) ⟨pk, ck, pl, cl, none, 0, none, 0, none, 0⟩).toArray rfl rfl HX1.out infoE rfl (one_E _ _) ?_))
 refine bodyPost_ret (resultsP_cell rfl _ _ _ rfl (loadE_at (range_of (setRow_heap _ _ _ _ _ _ HX1.out)))) rfl ?_
 refine ⟨rfl, hb0.trans ((keep_setRow _ (w.heap.size + 1) _).below hb0.size fun k hk e => by unfold OneP at e; omega)⟩
abbrev uA : ByteArray := ⟨#[64, 97, 58, 115, 49]⟩
abbrev uB : ByteArray := ⟨#[64, 98, 58, 115, 50]⟩
abbrev nm1 : ByteArray := ⟨#[36, 65, 65, 65, 65, 65, 65, 65, 65, 65, 65, 69]⟩
abbrev nm2 : ByteArray := ⟨#[36, 65, 65, 65, 65, 65, 65, 65, 65, 65, 65, 73]⟩
abbrev exC : Ev := stE tCreate ⟨#[]⟩ uA (oneJ nCreator uA)
abbrev exJ0 : Ev := stE tMember uA uA (oneJ nMemb vJoin)
abbrev exJ : Ev := ⟨⟨#[33, 114, 58, 115, 49]⟩, tMember, uA, true, uA, oneJ nMemb vJoin, [nm1], [], 0, 0, nix, []⟩
abbrev exM : Ev := ⟨⟨#[33, 114, 58, 115, 49]⟩, ⟨#[109, 46, 114, 111, 111, 109, 46, 109, 101, 115, 115, 97, 103, 101]⟩, uB, false, ⟨#[]⟩, .mk 5 0 ⟨#[]⟩ [] [], [], [], 0, 0, ⟨#[]⟩, []⟩
abbrev exB : Ev := stE tMember uA uA (oneJ nMemb vBan)
theorem shaped_C : shapedE exC = true := by kernel_rfl
theorem shaped_J : shapedE exJ = true := by kernel_rfl
theorem shaped_M : shapedE exM = true := by kernel_rfl
theorem shaped_B : shapedE exB = true := by kernel_rfl
theorem ask_C : askT exC [] = true := by kernel_rfl
theorem ask_J : askT exJ [(nm1, exC)] = true := by kernel_rfl
theorem ask_M : askT exM [(nm1, exC), (nm2, exJ)] = false := by kernel_rfl
theorem ask_B : askT exB [(nm1, exC), (nm2, exJ)] = false := by kernel_rfl
theorem want_J : (wantT exJ).length = 4 := by kernel_rfl
theorem judge_C : judgeT exC [] = 0 := by unfold judgeT; rw [shaped_C, ask_C]; rfl
theorem judge_J : judgeT exJ [(nm1, exC)] = 0 := by unfold judgeT; rw [shaped_J, ask_J]; rfl
theorem judge_M : judgeT exM [(nm1, exC), (nm2, exJ)] = 110 := by unfold judgeT; rw [shaped_M, ask_M]; rfl
theorem judge_B : judgeT exB [(nm1, exC), (nm2, exJ)] = 110 := by unfold judgeT; rw [shaped_B, ask_B]; rfl
theorem run_buildK (w : World) (s : ByteArray) (e : Ev) (p : Pt) : (Instr.build 41 #[(0, .string s), (1, valE e p)]).run Tryz.prog w = .ok (valK (s, e) p) w := by kernel_rfl
theorem run_rowK (w : World) (k : Kn) (q : Pt) : (Instr.buildSlice 29 1 #[(0, valK k q)]).run Tryz.prog w = .ok (.slice (some ⟨w.heap.size, 0, none⟩) 1 1) (w.alloc (.cells (cellsK k q).toArray 41)) := by kernel_rfl
section
variable {ops : Array Oper} {rest : List Oper} {op : Oper} {a : Act} {w : World} {Q : Exit → Act → World → Prop}
theorem wpList_buildK (hgd : op.guard = none) (x y : Operand) (ho : op.op = .build 41 #[(0, x), (1, y)]) (s : ByteArray) (e : Ev) (p : Pt) (hx : a.eval x = .string s) (hy : a.eval y = valE e p)
    (h : wpList Tryz.prog ops Q rest (a.put op.dst (valK (s, e) p)) w) : wpList Tryz.prog ops Q (op :: rest) a w := by
 refine wpList_plain hgd fun K hK => ?_
 unfold Oper.wp
 simp [execOp, ho, hx, hy, run_buildK]
 exact hK _ _ h
theorem wpList_rowK (hgd : op.guard = none) (x : Operand) (ho : op.op = .buildSlice 29 1 #[(0, x)]) (k : Kn) (q : Pt) (hx : a.eval x = valK k q)
    (h : wpList Tryz.prog ops Q rest (a.put op.dst (.slice (some ⟨w.heap.size, 0, none⟩) 1 1)) (w.alloc (.cells (cellsK k q).toArray 41))) : wpList Tryz.prog ops Q (op :: rest) a w := by
 refine wpList_plain hgd fun K hK => ?_
 unfold Oper.wp
 simp [execOp, ho, hx, run_rowK]
 exact hK _ _ h
end
theorem wpList_buildKo {ops : Array Oper} {rest : List Oper} {op : Oper} {a : Act} {w : World} {Q : Exit → Act → World → Prop} (hgd : op.guard = none) (x y : Operand) (ho : op.op = .build 41 #[(0, x), (1, y)]) (s : ByteArray) (e : Ev) (p : Pt) (L : List Value) (hL : L = cellsE e p) (hx : a.eval x = .string s) (hy : a.eval y = .agg L.toArray)
    (h : ∀ M : List Value, Hid (M = cellsK (s, e) p) → wpList Tryz.prog ops Q rest (a.put op.dst (.agg M.toArray)) w) : wpList Tryz.prog ops Q (op :: rest) a w := by
 subst hL
 exact wpList_buildK hgd x y ho s e p hx hy (h _ rfl)
theorem wpList_rowKo {ops : Array Oper} {rest : List Oper} {op : Oper} {a : Act} {w : World} {Q : Exit → Act → World → Prop} (hgd : op.guard = none) (x : Operand) (ho : op.op = .buildSlice 29 1 #[(0, x)]) (k : Kn) (q : Pt) (M : List Value) (hM : M = cellsK k q) (hx : a.eval x = .agg M.toArray)
    (h : wpList Tryz.prog ops Q rest (a.put op.dst (.slice (some ⟨w.heap.size, 0, none⟩) 1 1)) (w.alloc (.cells M.toArray 41))) : wpList Tryz.prog ops Q (op :: rest) a w := by
 subst hM
 exact wpList_rowK hgd x ho k q hx h
theorem infoKn : (Tryz.prog.info? 41).map (fun i => (i.zero, i.size, i.bytes)) = some (some (valK zK Pt.zero), 17, 272) := by kernel_rfl
theorem wpList_twoK {ops : Array Oper} {rest : List Oper} {o : Oper} {a : Act} {w : World} {Q : Exit → Act → World → Prop} (hgd : o.guard = none) (s x : Operand)
    (ho : o.op = .call { callee := .builtin .append, args := #[s, x], argTypes := #[29, 29] })
    (b1 b2 : Nat) (k1 k2 : Kn) (q1 q2 : Pt) (hs : a.eval s = .slice (some ⟨b1, 0, none⟩) 1 1) (hx : a.eval x = .slice (some ⟨b2, 0, none⟩) 1 1)
    (h1 : w.heap[b1]? = some (.cells (cellsK k1 q1).toArray 41 (0, 0))) (h2 : w.heap[b2]? = some (.cells (cellsK k2 q2).toArray 41 (0, 0)))
    (h : ∀ c w', 2 ≤ c → Below w.heap.size w w' → (∀ n v, (cellsK k1 q1)[n]? = some v → w'.cell? ⟨w.heap.size, n, none⟩ = some v) → (∀ n v, (cellsK k2 q2)[n]? = some v → w'.cell? ⟨w.heap.size, 17 + n, none⟩ = some v) → wpList Tryz.prog ops Q rest (a.put o.dst (.slice (some ⟨w.heap.size, 0, none⟩) 2 c)) w') : wpList Tryz.prog ops Q (o :: rest) a w := by
 obtain ⟨i, hi, hz, hsz, hby⟩ := info_parts infoKn
 have hadd : ∀ b m, (⟨b, 0, none⟩ : Addr).add m = ⟨b, m, none⟩ := fun b m => by unfold Addr.add; split <;> simp_all
 have hr0 := run_append_grow (P := Tryz.prog) (w := w) 29 o.type 41 i _ Tryz.underlying29 hi hz ⟨b1, 0, none⟩ 1 1 (cellsK k1 q1) (by rw [hsz]; rfl) (fun j v hv => by rw [hadd]; exact cellP h1 j v (by simpa using hv)) ⟨b2, 0, none⟩ 1 1 (cellsK k2 q2) (by rw [hsz]; rfl) (fun j v hv => by rw [hadd]; exact cellP h2 j v (by simpa using hv)) (by decide) (by decide) (by rw [hby]; decide)
 obtain ⟨c, hc⟩ : ∃ c, c = grownCap w (1 + 1) 1 41 := ⟨_, rfl⟩
 have hc2 : 2 ≤ c := by rw [hc]; exact grownCap_ge w 2 1 41
 rw [← hc] at hr0
 obtain ⟨cur, hcur⟩ : ∃ cur, cur = (cellsK k1 q1).toArray ++ (cellsK k2 q2).toArray ++ Builtin.zeroCells (valK zK Pt.zero).cells (c - (1 + 1)) := ⟨_, rfl⟩
 rw [← hcur] at hr0
 have hr : (Builtin.append_ #[29, 29] o.type #[.slice (some ⟨b1, 0, none⟩) 1 1, .slice (some ⟨b2, 0, none⟩) 1 1]).run Tryz.prog w = .ok (.slice (some ⟨w.heap.size, 0, none⟩) 2 c) (w.drew.alloc (.cells cur 41)) := hr0
 have hN : (w.drew.alloc (.cells cur 41)).heap[w.heap.size]? = some (.cells cur 41 (0, 0)) := newP (w := w.drew) (.cells cur 41)
 have h17 : (cellsK k1 q1).length = 17 := rfl
 have hgo := h c (w.drew.alloc (.cells cur 41)) hc2 ((Below.refl _ _).drew.alloc (Nat.le_refl _) _) (fun n v hv => by
  refine cellP hN n v ?_
  have hn : n < (cellsK k1 q1).length := (List.getElem?_eq_some_iff.1 hv).1
  rw [hcur, Array.getElem?_append_left (by simp; omega), Array.getElem?_append_left (by simpa using hn)]
  simpa using hv) (fun n v hv => by
  refine cellP hN (17 + n) v ?_
  have hn : n < (cellsK k2 q2).length := (List.getElem?_eq_some_iff.1 hv).1
  rw [hcur, Array.getElem?_append_left (by simp; omega), Array.getElem?_append_right (by simp; omega)]
  simpa [h17] using hv)
 clear hr0 hcur hN h
 refine wpList_plain hgd fun K hK => ?_
 unfold Oper.wp
 simp [execOp, ho, resolve, invoke, builtin, hs, hx, hr, Result.andThen]
 exact hK _ _ hgo
end Go.Proofs.YtldegjjaknelgaaGreatDoor
namespace Go.Proofs.YtldegjjaknelgaaGreatDoor
open Go.ChangeShapes Go.WideShapes Go.ChangeAt Go.RowKit
theorem cellsJ : Tryz.prog.cellsOf 25 = 5 := by kernel_rfl
theorem cellsS : Tryz.prog.cellsOf 9 = 1 := by kernel_rfl
theorem cellsI3 : Tryz.prog.cellsOf 3 = 1 := by kernel_rfl
theorem cellsI2 : Tryz.prog.cellsOf 2 = 1 := by kernel_rfl
theorem cellsKs : Tryz.prog.cellsOf 22 = 1 := by kernel_rfl
theorem cellsLs : Tryz.prog.cellsOf 23 = 1 := by kernel_rfl
theorem cell_lt {w : World} {a : Addr} {v : Value} (h : w.cell? a = some v) : a.block < w.heap.size := by
 rcases Nat.lt_or_ge a.block w.heap.size with h' | h'
 · exact h'
 · simp [World.cell?, Array.getElem?_eq_none h'] at h
theorem cell_none {w : World} {b o : Nat} {sp : Option Nat} {v : Value} (h : w.cell? ⟨b, o, sp⟩ = some v) : sp = none := by
 cases sp with
 | none => rfl
 | some x =>
  unfold World.cell? at h
  split at h <;> simp at h
theorem isJs_of {O : Nat → Prop} {w : World} {b o : Nat} (hO : O b) : ∀ (l : List J) (n : Nat), (∀ i, i < l.length → ∃ cs, (∀ m v, cs[m]? = some v → w.cell? ⟨b, o + (n + i) * 5 + m, none⟩ = some v) ∧ isJ O w (l.getD i J.zero) cs) → isJs O w (some ⟨b, o, none⟩) n l
 | [], _, _ => by unfold isJs; trivial
 | j :: r, n, h => by
  unfold isJs
  obtain ⟨cs, h1, h2⟩ := h 0 (by simp)
  refine ⟨⟨b, o, cs, rfl, hO, fun m v hv => ?_, h2⟩, isJs_of hO r (n + 1) fun i hi => ?_⟩
  · have := h1 m v hv
    simpa using this
  · obtain ⟨cs, h1, h2⟩ := h (i + 1) (by simp; omega)
    refine ⟨cs, fun m v hv => ?_, h2⟩
    have := h1 m v hv
    rwa [show n + (i + 1) = n + 1 + i by omega] at this
theorem pick_list {α : Type} {z : α} {P : Nat → α → Prop} : ∀ n, (∀ i, i < n → ∃ x, P i x) → ∃ l : List α, l.length = n ∧ ∀ i, i < n → P i (l.getD i z)
 | 0, _ => ⟨[], rfl, fun i hi => absurd hi (by omega)⟩
 | n + 1, h => by
  obtain ⟨l, hl, hp⟩ := pick_list (z := z) n fun i hi => h i (by omega)
  obtain ⟨x, hx⟩ := h n (by omega)
  refine ⟨l ++ [x], by simp [hl], fun i hi => ?_⟩
  by_cases hin : i < n
  · have : (l ++ [x]).getD i z = l.getD i z := by
      rw [List.getD_eq_getElem?_getD, List.getD_eq_getElem?_getD, List.getElem?_append_left (by omega)]
    rw [this]
    exact hp i hin
  · obtain rfl : i = n := by omega
    have : (l ++ [x]).getD i z = x := by
     rw [List.getD_eq_getElem?_getD, List.getElem?_append_right (by omega), hl]
     simp
    rw [this]
    exact hx
theorem viewJ {H : Type} {enc : TypeId × Value → H} {W : World} : ∀ (fuel : Nat) (cs : List Value) (x : DataW H × List MemPlace), DataW.trod enc Tryz.prog W 0 (fun _ => true) true fuel 25 cs = some x → ∃ j, isJ (fun b => b < W.heap.size) W j cs
 | 0, cs, x, h => by
  obtain ⟨_, n, hf, _⟩ := DataW.trod_struct Tryz.underlying25 h
  omega
 | fuel + 1, cs, x, h => by
  obtain ⟨xs, n, hf, _, hl, hlen, hfs⟩ := DataW.trod_struct Tryz.underlying25 h
  obtain rfl : fuel = n := by omega
  rw [cellsJ] at hl
  match cs, hl with
  | [c0, c1, c2, c3, c4], _ =>
   match xs, hlen with
   | [y0, y1, y2, y3, y4], _ =>
    have g0 : DataW.trod enc Tryz.prog W 0 (fun _ => true) true fuel 3 (([c0, c1, c2, c3, c4].drop 0).take (Tryz.prog.cellsOf 3)) = some y0 := hfs 0 _ rfl
    rw [cellsI3] at g0
    have f0 : DataW.trod enc Tryz.prog W 0 (fun _ => true) true fuel 3 [c0] = some y0 := g0
    have g1 : DataW.trod enc Tryz.prog W 0 (fun _ => true) true fuel 2 (([c0, c1, c2, c3, c4].drop 1).take (Tryz.prog.cellsOf 2)) = some y1 := hfs 1 _ rfl
    rw [cellsI2] at g1
    have f1 : DataW.trod enc Tryz.prog W 0 (fun _ => true) true fuel 2 [c1] = some y1 := g1
    have g2 : DataW.trod enc Tryz.prog W 0 (fun _ => true) true fuel 9 (([c0, c1, c2, c3, c4].drop 2).take (Tryz.prog.cellsOf 9)) = some y2 := hfs 2 _ rfl
    rw [cellsS] at g2
    have f2 : DataW.trod enc Tryz.prog W 0 (fun _ => true) true fuel 9 [c2] = some y2 := g2
    have g3 : DataW.trod enc Tryz.prog W 0 (fun _ => true) true fuel 22 (([c0, c1, c2, c3, c4].drop 3).take (Tryz.prog.cellsOf 22)) = some y3 := hfs 3 _ rfl
    rw [cellsKs] at g3
    have f3 : DataW.trod enc Tryz.prog W 0 (fun _ => true) true fuel 22 [c3] = some y3 := g3
    have g4 : DataW.trod enc Tryz.prog W 0 (fun _ => true) true fuel 23 (([c0, c1, c2, c3, c4].drop 4).take (Tryz.prog.cellsOf 23)) = some y4 := hfs 4 _ rfl
    rw [cellsLs] at g4
    have f4 : DataW.trod enc Tryz.prog W 0 (fun _ => true) true fuel 23 [c4] = some y4 := g4
    obtain ⟨k, e0, _, _⟩ := DataW.trod_int Tryz.underlying3 f0
    obtain ⟨i, e1, _, _⟩ := DataW.trod_int Tryz.underlying2 f1
    obtain ⟨t, e2, _, _⟩ := DataW.trod_string Tryz.underlying9 f2
    simp only [List.cons.injEq, and_true] at e0 e1 e2
    subst e0 e1 e2
    have hkeys : ∃ pk nk ck ks, c3 = .slice pk nk ck ∧ nk = ks.length ∧ RdK (fun b => b < W.heap.size) W pk ck ks := by
     rcases open_strings Tryz.underlying22 Tryz.underlying9 cellsS f3 with ⟨e3, _⟩ | ⟨a, len, cap, ss, e3, _, hlc, _, hss, _, hcell, _⟩
     · simp only [List.cons.injEq, and_true] at e3
       exact ⟨none, 0, 0, [], e3, rfl, RdK.nil _ _⟩
     · simp only [List.cons.injEq, and_true] at e3
       simp only [if_true] at hss
       refine ⟨some a, len, cap, ss.take len, e3, by simp; omega, by simp; omega, fun j hj => ⟨a, rfl, ?_, ?_⟩⟩
       · have hj' : j < len := by simp at hj; omega
         have := cell_lt (hcell j (by omega))
         rwa [add_block] at this
       · have hj' : j < len := by simp at hj; omega
         rw [hcell j (by omega)]
         congr 2
         rw [List.getD_eq_getElem?_getD, List.getD_eq_getElem?_getD, List.getElem?_take, if_pos hj', List.getElem?_eq_getElem (by omega)]
         rfl
    have hlist : ∃ pl nl cl l, c4 = .slice pl nl cl ∧ nl = l.length ∧ l.length ≤ cl ∧ isJs (fun b => b < W.heap.size) W pl 0 l := by
     rcases DataW.trod_slice Tryz.underlying23 f4 with ⟨e4, _⟩ | ⟨a, len, cap, elems, rest, n', hn', e4, _, _, hlc, _, hel, hget, _, _⟩
     · simp only [List.cons.injEq, and_true] at e4
       exact ⟨none, 0, 0, [], e4, rfl, Nat.le_refl _, by unfold isJs; trivial⟩
     · simp only [List.cons.injEq, and_true] at e4
       rw [cellsJ] at hget
       cases len with
       | zero => exact ⟨some a, 0, cap, [], e4, rfl, Nat.zero_le _, by unfold isJs; trivial⟩
       | succ len =>
        obtain ⟨b, o, sp⟩ := a
        have hone : ∀ i, i < len + 1 → ∃ cs, W.cells? 0 ((⟨b, o, sp⟩ : Addr).add (i * 5)) 5 = some cs ∧ ∃ y, DataW.trod enc Tryz.prog W 0 (fun _ => true) true n' 25 cs = some y := fun i hi => by
         have h1 := hget i hi
         rw [List.getElem?_eq_getElem (by omega), Option.bind_eq_some_iff] at h1
         obtain ⟨cs, h2, h3⟩ := h1
         exact ⟨cs, h2, _, h3⟩
        have hsp : sp = none := by
         obtain ⟨cs, h2, _⟩ := hone 0 (by omega)
         have h3 := (World.cells?_some h2).2.2 0 (by omega)
         have h4 : (((⟨b, o, sp⟩ : Addr).add (0 * 5)).add 0) = ⟨b, o, sp⟩ := by
          unfold Addr.add
          simp
         rw [h4] at h3
         have hlen5 := (World.cells?_some h2).2.1
         rw [List.getElem?_eq_getElem (by omega)] at h3
         exact cell_none h3
        subst hsp
        have hadd : ∀ m, (⟨b, o, none⟩ : Addr).add m = ⟨b, o + m, none⟩ := fun m => by unfold Addr.add; split <;> simp_all
        have hadd2 : ∀ m m', ((⟨b, o + m, none⟩ : Addr)).add m' = ⟨b, o + m + m', none⟩ := fun m m' => by unfold Addr.add; split <;> simp_all
        have hb : b < W.heap.size := by
         obtain ⟨cs, h2, _⟩ := hone 0 (by omega)
         have := World.cells?_block h2 (by decide)
         rwa [hadd] at this
        obtain ⟨l, hl1, hl2⟩ := pick_list (z := J.zero) (P := fun i j => ∃ cs, (∀ m v, cs[m]? = some v → W.cell? ⟨b, o + (0 + i) * 5 + m, none⟩ = some v) ∧ isJ (fun b => b < W.heap.size) W j cs) (len + 1) fun i hi => by
         obtain ⟨cs, h2, y, h3⟩ := hone i hi
         obtain ⟨j, hj⟩ := viewJ n' cs y h3
         refine ⟨j, cs, fun m v hv => ?_, hj⟩
         have h5 := (World.cells?_some h2).2.2
         have hlen5 := (World.cells?_some h2).2.1
         have hm : m < 5 := by
          have := (List.getElem?_eq_some_iff.1 hv).1
          omega
         have h6 := h5 m hm
         rw [hadd, hadd2, hv] at h6
         rw [show o + (0 + i) * 5 + m = o + i * 5 + m by omega]
         exact h6
        exact ⟨some ⟨b, o, none⟩, len + 1, cap, l, e4, hl1.symm, by omega, isJs_of (O := fun b => b < W.heap.size) hb l 0 fun i hi => hl2 i (by omega)⟩
    obtain ⟨pk, nk, ck, ks, rfl, rfl, hk⟩ := hkeys
    obtain ⟨pl, nl, cl, l, rfl, rfl, hlc, hll⟩ := hlist
    exact ⟨.mk k i t ks l, by unfold isJ; exact ⟨pk, ck, pl, cl, rfl, hk, hlc, hll⟩⟩
end Go.Proofs.YtldegjjaknelgaaGreatDoor

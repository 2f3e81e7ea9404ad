/-
  The document's Put, by a contract: a map with a key and a value more.
  The document's own shape of an event: its rows of names, its signatures: by contracts.
  The document's look at signatures, by a contract.
  The document's IsUser, a number, a text and a content one level deeper: by contracts.
  The contents and the events of the examples: by contracts.
  The examples: what is judged of them.
  Events with their names that are built, rows of them, and rows that are appended to.
  What is heard of an event by a state: by a contract.
  open: the walk.
-/
import Derived.Test.YtldegjjaknelgaaGreatDoorAW20
import Derived.Deep.QuietTactic
import Derived.Laws.Append
import Derived.OwnWalk
set_option maxRecDepth 100000
set_option maxHeartbeats 16000000
namespace Go.Proofs.YtldegjjaknelgaaGreatDoor
open Go Go.RowKit Go.Maps
theorem rPut_any {O : Nat → Prop} {w : World} {j v : J} {k i vk vi : Int} {t vt : ByteArray} {pk pl vpk vpl : Option Addr} {nk ck nl cl vnk vck vnl vcl : Nat} (key : ByteArray) (hO : ∀ b, O b → b < w.heap.size)
    (hj : isJ O w j [.int .i64 k, .int .i64 i, .string t, .slice pk nk ck, .slice pl nl cl]) (hv : isJ O w v [.int .i64 vk, .int .i64 vi, .string vt, .slice vpk vnk vck, .slice vpl vnl vcl]) (hkp : pk = none → ck = 0) (hlp : pl = none → cl = 0) (hnk : nk ≤ 100000) (hnl : nl ≤ 100000) :
    Calls Tryz.prog 44 #[.agg #[.int .i64 k, .int .i64 i, .string t, .slice pk nk ck, .slice pl nl cl], .string key, .agg #[.int .i64 vk, .int .i64 vi, .string vt, .slice vpk vnk vck, .slice vpl vnl vcl]] w fun x w' => (∃ b1 c1 b2 c2, x = .returned (.agg #[.int .i64 5, .int .i64 0, .string ⟨#[]⟩, .slice (some ⟨b1, 0, none⟩) (nk + 1) c1, .slice (some ⟨b2, 0, none⟩) (nl + 1) c2]) ∧ isJ (fun b => O b ∨ New w w' b) w' (.mk 5 0 nix (j.keys ++ [key]) (j.list ++ [v])) [.int .i64 5, .int .i64 0, .string ⟨#[]⟩, .slice (some ⟨b1, 0, none⟩) (nk + 1) c1, .slice (some ⟨b2, 0, none⟩) (nl + 1) c2]) ∧ Below w.heap.size w w' := by
 obtain ⟨W0, hW0⟩ : ∃ W0, W0 = ((w.alloc (.cells #[.int .i64 k, .int .i64 i, .string t, .slice pk nk ck, .slice pl nl cl] 25)).alloc (.cells #[.int .i64 vk, .int .i64 vi, .string vt, .slice vpk vnk vck, .slice vpl vnl vcl] 25)).alloc (.cells #[.int .i64 0, .int .i64 0, .string ⟨#[]⟩, .slice none 0 0, .slice none 0 0] 25) := ⟨_, rfl⟩
 have hbw : Below w.heap.size w W0 := by rw [hW0]; exact (((Below.refl _ _).alloc (Nat.le_refl _) _).alloc (by simp) _).alloc (by simp; omega) _
 have hx0 : W0.heap[w.heap.size]? = some (.cells #[.int .i64 k, .int .i64 i, .string t, .slice pk nk ck, .slice pl nl cl] 25 (0, 0)) := by rw [hW0, Below.heap_alloc _ _ _ (by simp; omega)]; exact one_of _ _
 have hx1 : W0.heap[w.heap.size + 1]? = some (.cells #[.int .i64 vk, .int .i64 vi, .string vt, .slice vpk vnk vck, .slice vpl vnl vcl] 25 (0, 0)) := by rw [hW0, Below.heap_alloc _ _ _ (by simp)]; exact two_at _ _
 have hr : W0.heap[w.heap.size + 1 + 1]? = some (.cells #[.int .i64 0, .int .i64 0, .string ⟨#[]⟩, .slice none 0 0, .slice none 0 0] 25 (0, 0)) := by
  have h := heap_alloc_new ((w.alloc (.cells #[.int .i64 k, .int .i64 i, .string t, .slice pk nk ck, .slice pl nl cl] 25)).alloc (.cells #[.int .i64 vk, .int .i64 vi, .string vt, .slice vpk vnk vck, .slice vpl vnl vcl] 25)) (.cells #[.int .i64 0, .int .i64 0, .string ⟨#[]⟩, .slice none 0 0, .slice none 0 0] 25)
  rw [hW0]
  simpa using h
 have hs0 : w.heap.size + 3 = W0.heap.size := by rw [hW0]; simp
 have hjB := hj.carry (O' := O) (w' := W0) fun b hb => ⟨hb, hbw.block b (hO b hb)⟩
 have hvB := hv.carry (O' := O) (w' := W0) fun b hb => ⟨hb, hbw.block b (hO b hb)⟩
 have hat := isJ_at hjB
 have e4 := hat.2.2.2.1
 have e5 := hat.2.2.2.2.1
 have hrk := hat.2.2.2.2.2.1
 have hlc := hat.2.2.2.2.2.2.1
 have hjs := hat.2.2.2.2.2.2.2
 clear hat
 obtain ⟨xs, r1, r2, r3, r4⟩ := row_of_js j.list 0 hjs
 have HP : Hid (PutC W0 (w.heap.size + 1 + 1) key j.keys pk pl nk ck nl cl xs (.int .i64 vk) (.int .i64 vi) (.string vt) (.slice vpk vnk vck) (.slice vpl vnl vcl)) := by
  have hz : ∀ {l : List ByteArray} {p : Option Addr} {c : Nat}, RdK O W0 p c l → p = none → l.length = 0 := fun {l p c} h hp => by
   cases l with
   | nil => rfl
   | cons a r => obtain ⟨ad, e, _⟩ := h.2 0 (by simp); rw [hp] at e; cases e
  refine ⟨by omega, e4.symm, by rw [r2, e5], hnk, hnl, fun hp => ⟨by rw [e4]; exact hz hrk hp, hkp hp⟩, fun hp => ⟨?_, hlp hp⟩, fun ad e m u hm => ?_, fun ad e m u hm => ?_, r3, oneCells hv⟩
  · rw [e5]
    cases hl : j.list with
    | nil => rfl
    | cons a r =>
     rw [hl] at hjs
     unfold isJs at hjs
     obtain ⟨⟨b, o, cs, e, _⟩, _⟩ := hjs
     rw [hp] at e
     cases e
  · have hm1 : m < j.keys.length := by
      have := (List.getElem?_eq_some_iff.1 hm).1
      simpa using this
    obtain ⟨ad', e', hOa, hc⟩ := hrk.2 m hm1
    rw [e] at e'
    cases e'
    rw [List.getElem?_map, List.getElem?_eq_getElem hm1] at hm
    cases hm
    refine ⟨by rw [add_block]; exact Nat.lt_of_lt_of_le (hO _ hOa) hbw.size, ?_⟩
    rw [hc, List.getD_eq_getElem?_getD, List.getElem?_eq_getElem hm1]
    rfl
  · obtain ⟨h1, h2⟩ := r4 ad e m u hm
    refine ⟨by rw [add_block]; exact Nat.lt_of_lt_of_le (hO _ h1) hbw.size, ?_⟩
    rw [Nat.zero_mul, Nat.zero_add] at h2
    exact h2
 have hQ : Hid (∀ wq, Below (w.heap.size + 1 + 1) W0 wq → wq.cell? ⟨w.heap.size, 3, none⟩ = some (.slice pk nk ck) ∧ wq.cell? ⟨w.heap.size, 4, none⟩ = some (.slice pl nl cl) ∧ wq.cell? ⟨w.heap.size + 1, 0, none⟩ = some (.int .i64 vk) ∧ wq.cell? ⟨w.heap.size + 1, 1, none⟩ = some (.int .i64 vi) ∧ wq.cell? ⟨w.heap.size + 1, 2, none⟩ = some (.string vt) ∧ wq.cell? ⟨w.heap.size + 1, 3, none⟩ = some (.slice vpk vnk vck) ∧ wq.cell? ⟨w.heap.size + 1, 4, none⟩ = some (.slice vpl vnl vcl)) := fun wq h => by
  have h0 := (h.block w.heap.size (by omega)).trans hx0
  have h1 := (h.block (w.heap.size + 1) (by omega)).trans hx1
  exact ⟨five_c3 h0, five_c4 h0, five_c0 h1, five_c1 h1, five_c2 h1, five_c3 h1, five_c4 h1⟩
 have HR : Hid (∀ wq, Below W0.heap.size W0 wq → wq.heap[w.heap.size + 1 + 1]? = some (.cells #[.int .i64 0, .int .i64 0, .string ⟨#[]⟩, .slice none 0 0, .slice none 0 0] 25 (0, 0))) := fun wq h => (h.block _ (by omega)).trans hr
 have HS : Hid (w.heap.size + 3 = W0.heap.size) := hs0
 have HBW : Hid (Below w.heap.size w W0) := hbw
 have HRW : Hid (isRow O W0 j.list xs) := r1
 have HVB : Hid (isJ O W0 v [.int .i64 vk, .int .i64 vi, .string vt, .slice vpk vnk vck, .slice vpl vnl vcl]) := hvB
 have HO : Hid (∀ b, O b → b < w.heap.size) := hO
 have HE : Hid (nk = j.keys.length ∧ nl = j.list.length) := ⟨e4, e5⟩
 clear hj hv hjB hvB hrk hlc hjs r1 r2 r3 r4 e4 e5 hx0 hx1 hr hkp hlp hs0 hbw hO
 go_enter Tryz.func44, Tryz.ntmps44
 go_wp2
 rw [← hW0]
 clear hW0
 have hC0 : Below W0.heap.size W0 W0.drew := (Below.refl _ _).drew
 refine wp_region_in (by kernel_rfl) (fun w' => Below (w.heap.size + 1 + 1) W0 w') ?_
 change wpIn _ _ _ _ _ _ _ _ (World.drew _)
 refine wpIn_tk (i := 1) (d := some 8) rfl ?_
 refine wpIn_tp (i := 2) (d := some 9) rfl (by (intro wq hq; obtain ⟨q3, q4, q5, q6, q7, q8, q9⟩ := hQ.out wq hq; go_simp; first | done | with_reducible rfl)) ?_
 refine wpIn_tk (i := 4) (d := some 11) rfl ?_
 refine wpIn_tk (i := 8) (d := some 15) rfl ?_
 refine wpIn_tp (i := 9) (d := some 16) rfl (by (intro wq hq; obtain ⟨q3, q4, q5, q6, q7, q8, q9⟩ := hQ.out wq hq; go_simp; first | done | with_reducible rfl)) ?_
 refine wpIn_tp (i := 11) (d := some 18) rfl (by (intro wq hq; obtain ⟨q3, q4, q5, q6, q7, q8, q9⟩ := hQ.out wq hq; go_simp; first | done | with_reducible rfl)) ?_
 refine pst_0_n (r := w.heap.size + 1 + 1) ?_ HP.out _ hC0
 intro w2 hb2 x7 x10 x12 q13 c13 o13 x14 x17 x19 q20 c20 o20
 unfold putOps
 refine wpIn_tk (i := 14) (d := some 21) rfl ?_
 have hres := HR.out w2 hb2
 have i0 := five_c0 hres; have i1 := five_c1 hres; have i2 := five_c2 hres; have i3 := five_c3 hres; have i4 := five_c4 hres
 have z0 := five_fz hres 0; have z1 := five_fz hres 1; have z2 := five_fz hres 2; have z3 := five_fz hres 3; have z4 := five_fz hres 4
 refine wpIn_do (i := 15) (hb2.mono HP.out.rle) (by kernel_rfl) rfl (by rfl) ?_
 intro K hK
 go_simp
 refine hK _ _ ?_
 clear hK K
 have h5 := set5_heap hres (.int .i64 5) (.int .i64 0) (.string ⟨#[]⟩) (.slice q13 (nk + 1) c13) (.slice q20 (nl + 1) c20)
 have HK5 : Keep (One (w.heap.size + 1 + 1)) w2 _ := set5_keep w2 (w.heap.size + 1 + 1) (.int .i64 5) (.int .i64 0) (.string ⟨#[]⟩) (.slice q13 (nk + 1) c13) (.slice q20 (nl + 1) c20)
 obtain ⟨WE, hWE⟩ : ∃ WE, WE = set5 w2 (w.heap.size + 1 + 1) (.int .i64 5) (.int .i64 0) (.string ⟨#[]⟩) (.slice q13 (nk + 1) c13) (.slice q20 (nl + 1) c20) := ⟨_, rfl⟩
 rw [← hWE] at h5 HK5
 unfold set5 at hWE
 rw [← hWE]
 have hS := HS.out
 have hB := HBW.out.size
 have s2 := hb2.size
 have sE := HK5.size
 have hbE : Below (w.heap.size + 1 + 1) W0 WE := (hb2.mono HP.out.rle).trans (HK5.below (by omega) fun q hq => by unfold One; omega)
 refine wpIn_done hbE (by kernel_rfl) ?_ _
 clear i0 i1 i2 i3 i4 z0 z1 z2 z3 z4 hWE
 go_wp2
 refine bodyPost_ret (results_cell rfl _ _ _ rfl (loadJ5 h5)) rfl ?_
 obtain ⟨b1, c1', e1⟩ := own_some o13
 obtain ⟨b2, c2', e2⟩ := own_some o20
 cases e1
 cases e2
 have g13 := own_ge o13 b1 rfl
 have g20 := own_ge o20 b2 rfl
 have o13' : w2.ownsRow W0.heap.size 9 1 (.slice (some ⟨b1, 0, none⟩) (nk + 1) c13) (j.keys ++ [key]).length ((j.keys ++ [key]).map Value.string) := by
  rw [List.length_append, List.map_append, ← HE.out.1]
  exact o13
 have o20' : w2.ownsRow W0.heap.size 25 5 (.slice (some ⟨b2, 0, none⟩) (nl + 1) c20) (j.list ++ [v]).length (xs ++ [.int .i64 vk, .int .i64 vi, .string vt, .slice vpk vnk vck, .slice vpl vnl vcl]) := by
  rw [List.length_append, ← HE.out.2]
  exact o20
 have carO : ∀ q, O q → O q ∧ w2.heap[q]? = W0.heap[q]? := fun q hq => ⟨hq, hb2.block q (by have := HO.out q hq; omega)⟩
 have hrow : isRow O w2 (j.list ++ [v]) (xs ++ [.int .i64 vk, .int .i64 vi, .string vt, .slice vpk vnk vck, .slice vpl vnl vcl]) := isRow.snoc rfl (HVB.out.carry carO) _ _ (isRow.carry carO _ _ HRW.out)
 obtain ⟨qk, cqk, ek, hk⟩ := own_rdK o13'
 obtain ⟨ql, cql, el, hcl, hl⟩ := own_js o20' hrow
 simp only [Value.slice.injEq] at ek el
 obtain ⟨rfl, hk1, rfl⟩ := ek
 obtain ⟨rfl, hl1, rfl⟩ := el
 have old : ∀ q, q < w2.heap.size → q ≠ w.heap.size + 1 + 1 → WE.heap[q]? = w2.heap[q]? := fun q h1 h2 => HK5.block q h1 (by unfold One; omega)
 have bE : Below w.heap.size w WE := HBW.out.trans (hbE.mono (by omega))
 refine ⟨⟨b1, c13, b2, c20, rfl, ?_⟩, bE⟩
 unfold isJ
 refine ⟨some ⟨b1, 0, none⟩, c13, some ⟨b2, 0, none⟩, c20, ?_, hk.carry fun q hq => ?_, hcl, hl.carry fun q hq => ?_⟩
 · rw [← hk1, ← hl1]
   rfl
 · exact ⟨.inr ⟨by have := hq.1; omega, by have := hq.2; omega⟩, old q hq.2 (by have := hq.1; omega)⟩
 · rcases hq with hq | hq
   · have := HO.out q hq
     exact ⟨.inl hq, old q (by omega) (by omega)⟩
   · exact ⟨.inr ⟨by have := hq.1; omega, by have := hq.2; omega⟩, old q hq.2 (by have := hq.1; omega)⟩
end Go.Proofs.YtldegjjaknelgaaGreatDoor
namespace Go.Proofs.YtldegjjaknelgaaGreatDoor
open Go.RowKit Go.Maps
theorem rStr_any (s : ByteArray) (w : World) :
    Calls Tryz.prog 65 #[.string s] w fun x w' => x = .returned (.agg #[.int .i64 3, .int .i64 0, .string s, .slice none 0 0, .slice none 0 0]) ∧ Below w.heap.size w w' := by
 have hr : (w.alloc (.cells #[.int .i64 0, .int .i64 0, .string ⟨#[]⟩, .slice none 0 0, .slice none 0 0] 25)).heap[w.heap.size]? = some (.cells #[.int .i64 0, .int .i64 0, .string ⟨#[]⟩, .slice none 0 0, .slice none 0 0] 25 (0, 0)) := heap_alloc_new _ _
 have hb : Below w.heap.size w (w.alloc (.cells #[.int .i64 0, .int .i64 0, .string ⟨#[]⟩, .slice none 0 0, .slice none 0 0] 25)) := (Below.refl _ _).alloc (Nat.le_refl _) _
 go_enter Tryz.func65, Tryz.ntmps65
 go_upto_region 1 with fail
 generalize w.alloc (.cells #[.int .i64 0, .int .i64 0, .string ⟨#[]⟩, .slice none 0 0, .slice none 0 0] 25) = WB at *
 have i0 := five_c0 hr; have i1 := five_c1 hr; have i2 := five_c2 hr; have i3 := five_c3 hr; have i4 := five_c4 hr
 have z0 := five_fz hr 0; have z1 := five_fz hr 1; have z2 := five_fz hr 2; have z3 := five_fz hr 3; have z4 := five_fz hr 4
 go_wp2
 have h5 := set5_heap hr (.int .i64 3) (.int .i64 0) (.string s) (.slice none 0 0) (.slice none 0 0)
 have HK5 : Keep (One w.heap.size) WB _ := set5_keep WB w.heap.size (.int .i64 3) (.int .i64 0) (.string s) (.slice none 0 0) (.slice none 0 0)
 obtain ⟨WE, hWE⟩ : ∃ WE, WE = set5 WB w.heap.size (.int .i64 3) (.int .i64 0) (.string s) (.slice none 0 0) (.slice none 0 0) := ⟨_, rfl⟩
 rw [← hWE] at h5 HK5
 unfold set5 at hWE
 rw [← hWE]
 refine bodyPost_ret (results_cell rfl _ _ _ rfl (loadJ5 h5)) rfl ?_
 exact ⟨rfl, hb.trans (HK5.below hb.size fun q hq => by unfold One; omega)⟩
end Go.Proofs.YtldegjjaknelgaaGreatDoor
namespace Go.Proofs.YtldegjjaknelgaaGreatDoor
open Go.RowKit
theorem isJ_bareA (O : Nat → Prop) (w : World) (k i : Int) (t : ByteArray) : isJ O w (.mk k i t [] []) [.int .i64 k, .int .i64 i, .string t, .slice none 0 0, .slice none 0 0] := by
 unfold isJ
 exact ⟨none, 0, none, 0, rfl, RdK.nil _ _, Nat.le_refl _, by unfold isJs; trivial⟩
theorem infoJ5 : (Tryz.prog.info? 25).map (·.size) = some 5 := by kernel_rfl
theorem loadE_at {w : World} {b o : Nat} {e : Ev} {p : Pt} (h : w.rangeAt b o (cellsE e p)) : (loadVar 28 ⟨b, o, none⟩).run Tryz.prog w = .ok (valE e p) w := run_loadVar_mid w b o 28 (cellsE e p) _ h Tryz.underlying28 rfl infoE
abbrev oneJ (key s : ByteArray) : J := .mk 5 0 nix [key] [.mk 3 0 s [] []]
def js1 (b1 c1 b2 c2 : Nat) : List Value := [.int .i64 5, .int .i64 0, .string nix, .slice (some ⟨b1, 0, none⟩) 1 c1, .slice (some ⟨b2, 0, none⟩) 1 c2]
theorem one_js1 (b1 c1 b2 c2 : Nat) : (js1 b1 c1 b2 c2).toArray.all (·.oneCell') = true := all_oneCell_toArray fun v hv => by
 simp only [js1, List.mem_cons, List.not_mem_nil, or_false] at hv
 rcases hv with rfl | rfl | rfl | rfl | rfl <;> rfl
theorem loadJ1_at {w : World} {b o b1 c1 b2 c2 : Nat} (h : w.rangeAt b o (js1 b1 c1 b2 c2)) : (loadVar 25 ⟨b, o, none⟩).run Tryz.prog w = .ok (.agg (js1 b1 c1 b2 c2).toArray) w := run_loadVar_mid w b o 25 (js1 b1 c1 b2 c2) _ h Tryz.underlying25 rfl infoJ5
theorem text11_any (key s : ByteArray) (w : World) : Calls Tryz.prog 30 #[.string key, .string s] w fun x w' =>
    (∃ pk ck pl cl, x = .returned (.agg #[.int .i64 5, .int .i64 0, .string nix, .slice pk 1 ck, .slice pl 1 cl]) ∧ isJ (· < w'.heap.size) w' (oneJ key s) [.int .i64 5, .int .i64 0, .string nix, .slice pk 1 ck, .slice pl 1 cl]) ∧ Below w.heap.size w w' := by
 obtain ⟨W, hW⟩ : ∃ W, W = w.alloc (.cells #[.int .i64 0, .int .i64 0, .string ⟨#[]⟩, .slice none 0 0, .slice none 0 0] 25) := ⟨_, rfl⟩
 have hb0 : Below w.heap.size w W := by rw [hW]; exact (Below.refl _ _).alloc (Nat.le_refl _) _
 have hX0 : W.heap[w.heap.size]? = some (.cells #[.int .i64 0, .int .i64 0, .string ⟨#[]⟩, .slice none 0 0, .slice none 0 0] 25 (0, 0)) := by rw [hW]; exact newP _
 have hS := rStr_any s W
 have HP : Hid (∀ X, Below W.heap.size W X → Calls Tryz.prog 44 #[.agg #[.int .i64 5, .int .i64 0, .string ⟨#[]⟩, .slice none 0 0, .slice none 0 0], .string key, .agg #[.int .i64 3, .int .i64 0, .string s, .slice none 0 0, .slice none 0 0]] X fun x w' => (∃ b1 c1 b2 c2, x = .returned (.agg (js1 b1 c1 b2 c2).toArray) ∧ isJ (fun b => b < w.heap.size ∨ New X w' b) w' (oneJ key s) [.int .i64 5, .int .i64 0, .string ⟨#[]⟩, .slice (some ⟨b1, 0, none⟩) 1 c1, .slice (some ⟨b2, 0, none⟩) 1 c2]) ∧ Below X.heap.size X w') := fun X hX => by
  refine (rPut_any (O := (· < w.heap.size)) (w := X) (j := .mk 5 0 nix [] []) (v := .mk 3 0 s [] []) (k := 5) (i := 0) (t := ⟨#[]⟩) (vk := 3) (vi := 0) (vt := s) (pk := none) (pl := none) (vpk := none) (vpl := none) (nk := 0) (ck := 0) (nl := 0) (cl := 0) (vnk := 0) (vck := 0) (vnl := 0) (vcl := 0) key (fun b hb => Nat.lt_of_lt_of_le hb (belowP hb0 hX).size) ?_ ?_ (fun _ => rfl) (fun _ => rfl) (by decide) (by decide)).mono fun x w' hh => hh
  · exact isJ_bareA _ _ _ _ _
  · exact isJ_bareA _ _ _ _ _
 go_enter Tryz.func30, Tryz.ntmps30
 go_upto_region 1 with fail
 rw [← hW]
 clear hW
 go_wp2_with (first
  | (go_at_call 65; refine hS.mono ?_; rintro x w1 ⟨rfl, hb1⟩; have hP1 := HP.out w1 hb1)
  | (go_at_call 44; refine hP1.mono ?_; rintro x w2 ⟨⟨b1, c1, b2, c2, rfl, hj⟩, hb2⟩
     have hX2 : w2.heap[w.heap.size]? = some (.cells #[.int .i64 0, .int .i64 0, .string ⟨#[]⟩, .slice none 0 0, .slice none 0 0] 25 (0, 0)) := ((belowP hb1 hb2).block _ (objP_lt hX0)).trans hX0
     have HX2 := (show Hid _ from hX2)
     clear hX2)
  | (refine wpList_store_row rfl 25 _ _ rfl w.heap.size 25 _ (js1 b1 c1 b2 c2).toArray rfl rfl HX2.out infoJ5 rfl (one_js1 _ _ _ _) ?_))
 have hk := keep_setRow w2 w.heap.size (js1 b1 c1 b2 c2).toArray
 refine bodyPost_ret (resultsP_cell rfl _ _ _ rfl (loadJ1_at (range_of (setRow_heap _ _ _ _ _ _ HX2.out)))) rfl ?_
 have hbW : Below w.heap.size w w2 := belowP hb0 (belowP hb1 hb2)
 have hlt := objP_lt hX0
 have s1 := hb1.size
 refine ⟨⟨some ⟨b1, 0, none⟩, c1, some ⟨b2, 0, none⟩, c2, rfl, hj.carry fun b hb => ?_⟩, hbW.trans (hk.below hbW.size fun k hk e => by unfold OneP at e; omega)⟩
 have h2 : b < w2.heap.size ∧ b ≠ w.heap.size := by
  rcases hb with hb | hb
  · exact ⟨Nat.lt_of_lt_of_le hb hbW.size, by omega⟩
  · unfold New at hb; exact ⟨by omega, by omega⟩
 exact ⟨Nat.lt_of_lt_of_le h2.1 hk.size, hk.block b h2.1 (by unfold OneP; exact h2.2)⟩
abbrev stE (kind key sender : ByteArray) (c : J) : Ev := ⟨⟨#[33, 114, 58, 115, 49]⟩, kind, sender, true, key, c, [], [], 0, 0, nix, []⟩
theorem state11_any (kind key sender kk s : ByteArray) (pk : Option Addr) (ck : Nat) (pl : Option Addr) (cl : Nat) (w : World) : Calls Tryz.prog 29 #[.string kind, .string key, .string sender, .agg #[.int .i64 5, .int .i64 0, .string nix, .slice pk 1 ck, .slice pl 1 cl]] w fun x w' =>
    x = .returned (valE (stE kind key sender (oneJ kk s)) ⟨pk, ck, pl, cl, none, 0, none, 0, none, 0⟩) ∧ Below w.heap.size w w' := by
 obtain ⟨W, hW⟩ : ∃ W, W = (w.alloc (.cells #[.int .i64 5, .int .i64 0, .string nix, .slice pk 1 ck, .slice pl 1 cl] 25)).alloc (.cells (cellsE Ev.zero Pt.zero).toArray 28) := ⟨_, rfl⟩
 have hb0 : Below w.heap.size w W := by rw [hW]; exact ((Below.refl _ _).alloc (Nat.le_refl _) _).alloc (by simp) _
 have hX0 : W.heap[w.heap.size]? = some (.cells #[.int .i64 5, .int .i64 0, .string nix, .slice pk 1 ck, .slice pl 1 cl] 25 (0, 0)) := by rw [hW, Below.heap_alloc _ _ _ (by simp)]; exact newP _
 have HX1 : Hid (W.heap[w.heap.size + 1]? = some (.cells (cellsE Ev.zero Pt.zero).toArray 28 (0, 0))) := by
  show _ = _
  rw [hW]
  have := newP (w := w.alloc (.cells #[.int .i64 5, .int .i64 0, .string nix, .slice pk 1 ck, .slice pl 1 cl] 25)) (.cells (cellsE Ev.zero Pt.zero).toArray 28)
  rw [World.size_alloc] at this
  exact this
 have HR : Hid (W.rangeAt w.heap.size 0 [.int .i64 5, .int .i64 0, .string nix, .slice pk 1 ck, .slice pl 1 cl]) := range_of hX0
 clear hX0
 go_enter Tryz.func29, Tryz.ntmps29
 go_upto_region 1 with fail
 change Code.wp _ _ _ _ ((w.alloc (.cells #[.int .i64 5, .int .i64 0, .string nix, .slice pk 1 ck, .slice pl 1 cl] 25)).alloc (.cells (cellsE Ev.zero Pt.zero).toArray 28))
 rw [← hW]
 clear hW
 go_wp2_with (first
  | (refine wpList_load_mid rfl 25 _ rfl w.heap.size 0 rfl _ _ HR.out Tryz.underlying25 rfl (by kernel_rfl) ?_)
  | (refine wpList_store_row rfl 28 _ _ rfl (w.heap.size + 1) 28 _ (cellsE (stE kind key sender (oneJ kk s)) ⟨pk, ck, pl, cl, none, 0, none, 0, none, 0⟩).toArray rfl rfl HX1.out infoE rfl (one_E _ _) ?_))
 refine bodyPost_ret (resultsP_cell rfl _ _ _ rfl (loadE_at (range_of (setRow_heap _ _ _ _ _ _ HX1.out)))) rfl ?_
 refine ⟨rfl, hb0.trans ((keep_setRow _ (w.heap.size + 1) _).below hb0.size fun k hk e => by unfold OneP at e; omega)⟩
abbrev uA : ByteArray := ⟨#[64, 97, 58, 115, 49]⟩
abbrev uB : ByteArray := ⟨#[64, 98, 58, 115, 50]⟩
abbrev nm1 : ByteArray := ⟨#[36, 65, 65, 65, 65, 65, 65, 65, 65, 65, 65, 69]⟩
abbrev nm2 : ByteArray := ⟨#[36, 65, 65, 65, 65, 65, 65, 65, 65, 65, 65, 73]⟩
abbrev exC : Ev := stE tCreate ⟨#[]⟩ uA (oneJ nCreator uA)
abbrev exJ0 : Ev := stE tMember uA uA (oneJ nMemb vJoin)
abbrev exJ : Ev := ⟨⟨#[33, 114, 58, 115, 49]⟩, tMember, uA, true, uA, oneJ nMemb vJoin, [nm1], [], 0, 0, nix, []⟩
abbrev exM : Ev := ⟨⟨#[33, 114, 58, 115, 49]⟩, ⟨#[109, 46, 114, 111, 111, 109, 46, 109, 101, 115, 115, 97, 103, 101]⟩, uB, false, ⟨#[]⟩, .mk 5 0 ⟨#[]⟩ [] [], [], [], 0, 0, ⟨#[]⟩, []⟩
abbrev exB : Ev := stE tMember uA uA (oneJ nMemb vBan)
theorem shaped_C : shapedE exC = true := by kernel_rfl
theorem shaped_J : shapedE exJ = true := by kernel_rfl
theorem shaped_M : shapedE exM = true := by kernel_rfl
theorem shaped_B : shapedE exB = true := by kernel_rfl
theorem ask_C : askT exC [] = true := by kernel_rfl
theorem ask_J : askT exJ [(nm1, exC)] = true := by kernel_rfl
theorem ask_M : askT exM [(nm1, exC), (nm2, exJ)] = false := by kernel_rfl
theorem ask_B : askT exB [(nm1, exC), (nm2, exJ)] = false := by kernel_rfl
theorem want_J : (wantT exJ).length = 4 := by kernel_rfl
theorem judge_C : judgeT exC [] = 0 := by unfold judgeT; rw [shaped_C, ask_C]; rfl
theorem judge_J : judgeT exJ [(nm1, exC)] = 0 := by unfold judgeT; rw [shaped_J, ask_J]; rfl
theorem judge_M : judgeT exM [(nm1, exC), (nm2, exJ)] = 110 := by unfold judgeT; rw [shaped_M, ask_M]; rfl
theorem judge_B : judgeT exB [(nm1, exC), (nm2, exJ)] = 110 := by unfold judgeT; rw [shaped_B, ask_B]; rfl
theorem run_buildK (w : World) (s : ByteArray) (e : Ev) (p : Pt) : (Instr.build 41 #[(0, .string s), (1, valE e p)]).run Tryz.prog w = .ok (valK (s, e) p) w := by kernel_rfl
theorem run_rowK (w : World) (k : Kn) (q : Pt) : (Instr.buildSlice 29 1 #[(0, valK k q)]).run Tryz.prog w = .ok (.slice (some ⟨w.heap.size, 0, none⟩) 1 1) (w.alloc (.cells (cellsK k q).toArray 41)) := by kernel_rfl
section
variable {ops : Array Oper} {rest : List Oper} {op : Oper} {a : Act} {w : World} {Q : Exit → Act → World → Prop}
theorem wpList_buildK (hgd : op.guard = none) (x y : Operand) (ho : op.op = .build 41 #[(0, x), (1, y)]) (s : ByteArray) (e : Ev) (p : Pt) (hx : a.eval x = .string s) (hy : a.eval y = valE e p)
    (h : wpList Tryz.prog ops Q rest (a.put op.dst (valK (s, e) p)) w) : wpList Tryz.prog ops Q (op :: rest) a w := by
 refine wpList_plain hgd fun K hK => ?_
 unfold Oper.wp
 simp [execOp, ho, hx, hy, run_buildK]
 exact hK _ _ h
theorem wpList_rowK (hgd : op.guard = none) (x : Operand) (ho : op.op = .buildSlice 29 1 #[(0, x)]) (k : Kn) (q : Pt) (hx : a.eval x = valK k q)
    (h : wpList Tryz.prog ops Q rest (a.put op.dst (.slice (some ⟨w.heap.size, 0, none⟩) 1 1)) (w.alloc (.cells (cellsK k q).toArray 41))) : wpList Tryz.prog ops Q (op :: rest) a w := by
 refine wpList_plain hgd fun K hK => ?_
 unfold Oper.wp
 simp [execOp, ho, hx, run_rowK]
 exact hK _ _ h
end
theorem wpList_buildKo {ops : Array Oper} {rest : List Oper} {op : Oper} {a : Act} {w : World} {Q : Exit → Act → World → Prop} (hgd : op.guard = none) (x y : Operand) (ho : op.op = .build 41 #[(0, x), (1, y)]) (s : ByteArray) (e : Ev) (p : Pt) (L : List Value) (hL : L = cellsE e p) (hx : a.eval x = .string s) (hy : a.eval y = .agg L.toArray)
    (h : ∀ M : List Value, Hid (M = cellsK (s, e) p) → wpList Tryz.prog ops Q rest (a.put op.dst (.agg M.toArray)) w) : wpList Tryz.prog ops Q (op :: rest) a w := by
 subst hL
 exact wpList_buildK hgd x y ho s e p hx hy (h _ rfl)
theorem wpList_rowKo {ops : Array Oper} {rest : List Oper} {op : Oper} {a : Act} {w : World} {Q : Exit → Act → World → Prop} (hgd : op.guard = none) (x : Operand) (ho : op.op = .buildSlice 29 1 #[(0, x)]) (k : Kn) (q : Pt) (M : List Value) (hM : M = cellsK k q) (hx : a.eval x = .agg M.toArray)
    (h : wpList Tryz.prog ops Q rest (a.put op.dst (.slice (some ⟨w.heap.size, 0, none⟩) 1 1)) (w.alloc (.cells M.toArray 41))) : wpList Tryz.prog ops Q (op :: rest) a w := by
 subst hM
 exact wpList_rowK hgd x ho k q hx h
theorem infoKn : (Tryz.prog.info? 41).map (fun i => (i.zero, i.size, i.bytes)) = some (some (valK zK Pt.zero), 17, 272) := by kernel_rfl
theorem wpList_twoK {ops : Array Oper} {rest : List Oper} {o : Oper} {a : Act} {w : World} {Q : Exit → Act → World → Prop} (hgd : o.guard = none) (s x : Operand)
    (ho : o.op = .call { callee := .builtin .append, args := #[s, x], argTypes := #[29, 29] })
    (b1 b2 : Nat) (k1 k2 : Kn) (q1 q2 : Pt) (hs : a.eval s = .slice (some ⟨b1, 0, none⟩) 1 1) (hx : a.eval x = .slice (some ⟨b2, 0, none⟩) 1 1)
    (h1 : w.heap[b1]? = some (.cells (cellsK k1 q1).toArray 41 (0, 0))) (h2 : w.heap[b2]? = some (.cells (cellsK k2 q2).toArray 41 (0, 0)))
    (h : ∀ c w', 2 ≤ c → Below w.heap.size w w' → (∀ n v, (cellsK k1 q1)[n]? = some v → w'.cell? ⟨w.heap.size, n, none⟩ = some v) → (∀ n v, (cellsK k2 q2)[n]? = some v → w'.cell? ⟨w.heap.size, 17 + n, none⟩ = some v) → wpList Tryz.prog ops Q rest (a.put o.dst (.slice (some ⟨w.heap.size, 0, none⟩) 2 c)) w') : wpList Tryz.prog ops Q (o :: rest) a w := by
 obtain ⟨i, hi, hz, hsz, hby⟩ := info_parts infoKn
 have hadd : ∀ b m, (⟨b, 0, none⟩ : Addr).add m = ⟨b, m, none⟩ := fun b m => by unfold Addr.add; split <;> simp_all
 have hr0 := run_append_grow (P := Tryz.prog) (w := w) 29 o.type 41 i _ Tryz.underlying29 hi hz ⟨b1, 0, none⟩ 1 1 (cellsK k1 q1) (by rw [hsz]; rfl) (fun j v hv => by rw [hadd]; exact cellP h1 j v (by simpa using hv)) ⟨b2, 0, none⟩ 1 1 (cellsK k2 q2) (by rw [hsz]; rfl) (fun j v hv => by rw [hadd]; exact cellP h2 j v (by simpa using hv)) (by decide) (by decide) (by rw [hby]; decide)
 obtain ⟨c, hc⟩ : ∃ c, c = grownCap w (1 + 1) 1 41 := ⟨_, rfl⟩
 have hc2 : 2 ≤ c := by rw [hc]; exact grownCap_ge w 2 1 41
 rw [← hc] at hr0
 obtain ⟨cur, hcur⟩ : ∃ cur, cur = (cellsK k1 q1).toArray ++ (cellsK k2 q2).toArray ++ Builtin.zeroCells (valK zK Pt.zero).cells (c - (1 + 1)) := ⟨_, rfl⟩
 rw [← hcur] at hr0
 have hr : (Builtin.append_ #[29, 29] o.type #[.slice (some ⟨b1, 0, none⟩) 1 1, .slice (some ⟨b2, 0, none⟩) 1 1]).run Tryz.prog w = .ok (.slice (some ⟨w.heap.size, 0, none⟩) 2 c) (w.drew.alloc (.cells cur 41)) := hr0
 have hN : (w.drew.alloc (.cells cur 41)).heap[w.heap.size]? = some (.cells cur 41 (0, 0)) := newP (w := w.drew) (.cells cur 41)
 have h17 : (cellsK k1 q1).length = 17 := rfl
 have hgo := h c (w.drew.alloc (.cells cur 41)) hc2 ((Below.refl _ _).drew.alloc (Nat.le_refl _) _) (fun n v hv => by
  refine cellP hN n v ?_
  have hn : n < (cellsK k1 q1).length := (List.getElem?_eq_some_iff.1 hv).1
  rw [hcur, Array.getElem?_append_left (by simp; omega), Array.getElem?_append_left (by simpa using hn)]
  simpa using hv) (fun n v hv => by
  refine cellP hN (17 + n) v ?_
  have hn : n < (cellsK k2 q2).length := (List.getElem?_eq_some_iff.1 hv).1
  rw [hcur, Array.getElem?_append_left (by simp; omega), Array.getElem?_append_right (by simp; omega)]
  simpa [h17] using hv)
 clear hr0 hcur hN h
 refine wpList_plain hgd fun K hK => ?_
 unfold Oper.wp
 simp [execOp, ho, resolve, invoke, builtin, hs, hx, hr, Result.andThen]
 exact hK _ _ hgo
def OpenP (w' : World) : Option Hr → Ending → Prop
 | none, x => x = thrown false
 | some H, x => ∃ hb P, x = .returned (.pointer (some ⟨hb, 0, none⟩)) ∧ IsH w' hb H P
theorem szL_startH {s : ByteArray} (h : s.size ≤ 1000000000) : SzL (startL s) := ⟨⟨by simp, fun p hp => by simp at hp; subst hp; exact h⟩, ⟨by simp, fun p hp => by simp at hp⟩⟩
theorem open_sz {e : Ev} {l : List Kn} {H : Hr} (hz : SzE e) (hk : SzK l) (h : openT e l = some H) : SzH H := by
 unfold openT at h
 split at h
 · cases h
 · rename_i c hc
   split at h
   · split at h
     · cases h
     · rename_i v hv
       cases h
       refine ⟨hz, hk, ?_⟩
       unfold levT at hv
       split at hv
       · rename_i k hf
         split at hv
         · cases hv
           exact parse_sz (sz_less 12 13 _ (by decide) (hk.cont k (List.mem_of_find?_eq_some hf)))
         · cases hv
       · cases hv
         exact szL_startH (hk.snd c (List.mem_of_find?_eq_some hc))
   · cases h
theorem setCells_mid (b t : Nat) : ∀ (vs pre cur post : List Value) (w : World), w.heap[b]? = some (.cells (pre ++ (cur ++ post)).toArray t (0, 0)) → cur.length = vs.length → (w.setCells b pre.length vs).heap[b]? = some (.cells (pre ++ (vs ++ post)).toArray t (0, 0))
 | [], pre, cur, post, w, h, hl => by
  obtain rfl : cur = [] := List.eq_nil_of_length_eq_zero hl
  exact h
 | v :: r, pre, c :: cur, post, w, h, hl => by
  have h0 : (w.setCell ⟨b, pre.length, none⟩ v).heap[b]? = some (.cells ((pre ++ [v]) ++ (cur ++ post)).toArray t (0, 0)) := by
   rw [heap_setCell_same w b pre.length _ _ _ h]
   simp
  have := setCells_mid b t r (pre ++ [v]) cur post _ h0 (by simpa using hl)
  rw [List.length_append] at this
  simpa [World.setCells] using this
theorem setCells_keep (b : Nat) : ∀ (vs : List Value) (w : World) (i : Nat), Keep (OneP b) w (w.setCells b i vs)
 | [], w, _ => Keep.refl _ w
 | v :: r, w, i => (Keep.setCell (p := ⟨b, i, none⟩) (Keep.refl (OneP b) w) (fun _ => (rfl : b = b)) v).then (setCells_keep b r _ (i + 1))
theorem wpList_store_to {ops : Array Oper} {rest : List Oper} {op : Oper} {a : Act} {w : World} {Q : Exit → Act → World → Prop} (hgd : op.guard = none) (ty : TypeId) (x y : Operand) (ho : op.op = .store ty x y)
    (b o : Nat) (cells : Array Value) (hx : a.eval x = .pointer (some ⟨b, o, none⟩)) (hy : a.eval y = .agg cells)
    (ht : w.there b o cells.size) (hi : (Tryz.prog.info? ty).map (·.size) = some cells.size) (h1 : cells.all (·.oneCell') = true) (W' : World) (hW' : W' = w.setCells b o cells.toList)
    (h : wpList Tryz.prog ops Q rest (a.put op.dst undef) W') : wpList Tryz.prog ops Q (op :: rest) a w := by
 subst hW'
 exact wpList_store_mid hgd ty x y ho b o cells hx hy ht hi h1 h
section
variable {w : World} {hb : Nat} {h : Hr} {p : Ph}
def preH (h : Hr) (p : Ph) : List Value := cellsE h.e p.e ++ (.slice p.ps h.st.length p.cs :: cellsK (h.cn, h.ce) p.ce)
theorem there_H {vs : Lv} {q : Pl} (hX : w.heap[hb]? = some (.cells (cellsH h p).toArray 92 (0, 0))) : w.there hb 34 (cellsL vs q).toArray.size := fun j hj => by
 have hj9 : j < 9 := hj
 refine ⟨?_, fzP hX _⟩
 have hlt : 34 + j < (cellsH h p).toArray.size := by show 34 + j < 44; omega
 rw [cellP hX (34 + j) _ (Array.getElem?_eq_getElem hlt)]
 rfl
theorem mid_H {l : Lv} {q : Pl} (hX : w.heap[hb]? = some (.cells (cellsH h p).toArray 92 (0, 0))) : (w.setCells hb 34 (cellsL l q)).heap[hb]? = some (.cells (preH h p ++ (cellsL l q ++ [Value.bool h.told])).toArray 92 (0, 0)) :=
 setCells_mid hb 92 (cellsL l q) (preH h p) (cellsL h.l p.l) [Value.bool h.told] w hX rfl
end
theorem open_any {O : Nat → Prop} {w : World} {e : Ev} {p : Pt} {ps : Option Addr} {cs : Nat} {l : List Kn} (h : IsE O w e p) (hst : RdE O w ps cs l) (hO : ∀ b, O b → b < w.heap.size) (hk : SzK l) :
    Calls Tryz.prog 52 #[valE e p, .slice ps l.length cs] w fun x w' => OpenP w' (openT e l) x ∧ Below w.heap.size w w' := by
 obtain ⟨W0, hW0⟩ : ∃ W0, W0 = w.alloc (.cells (cellsE e p).toArray 28) := ⟨_, rfl⟩
 have hb0 : Below w.heap.size w W0 := by rw [hW0]; exact (Below.refl _ _).alloc (Nat.le_refl _) _
 have hX0 : W0.heap[w.heap.size]? = some (.cells (cellsE e p).toArray 28 (0, 0)) := by rw [hW0]; exact newP _
 have hV := isV_new h hO hb0 hX0
 have HV : Hid (∀ X, Below W0.heap.size W0 X → IsV X w.heap.size e p) := fun X hX => hV.below hX
 have HST : Hid (∀ X, Below W0.heap.size W0 X → RdE (· < X.heap.size) X ps cs l) := fun X hX => hst.carry fun k hk => ⟨Nat.lt_of_lt_of_le (hO k hk) (belowP hb0 hX).size, (belowP hb0 hX).block k (hO k hk)⟩
 have HF : Hid (∀ (kind : ByteArray) X, Below W0.heap.size W0 X → Calls Tryz.prog 81 #[.slice ps l.length cs, .string kind, .string ⟨#[]⟩] X fun e w' => (∃ q, e = .returned (.tuple #[valK ((findT l kind ⟨#[]⟩).getD zK) q, .bool (findT l kind ⟨#[]⟩).isSome]) ∧ IsE (· < X.heap.size) w' ((findT l kind ⟨#[]⟩).getD zK).2 q) ∧ Below X.heap.size X w') := fun kind X hX => find_got (HST.out X hX) (fun _ h => h) hk.len kind ⟨#[]⟩
 have hF1 := HF.out tCreate W0 (Below.refl _ _)
 have HF2 := (show Hid _ from HF.out tPower)
 have HE0 : Hid (∀ X, Below w.heap.size w X → IsE (· < w.heap.size) X e p ∧ RdE (· < w.heap.size) X ps cs l) := fun X hX => ⟨h.carry fun k hk => ⟨hO k hk, hX.block k (hO k hk)⟩, hst.carry fun k hk => ⟨hO k hk, hX.block k (hO k hk)⟩⟩
 have HSC : Hid (∀ k, findT l tPower ⟨#[]⟩ = some k → szJ 12 k.2.content = true) := fun k hf => sz_less 12 13 _ (by decide) (hk.cont k (List.mem_of_find?_eq_some hf))
 have HO : Hid (openT e l = match findT l tCreate ⟨#[]⟩ with | none => none | some c => if eqT c.2.room e.room then (match levT l c.2.sender with | none => none | some v => some ⟨e, l, c.1, c.2, v, (findT l tPower ⟨#[]⟩).isSome⟩) else none) := rfl
 clear h hst hV hX0 HF hk
 unfold valE
 generalize findT l tCreate ⟨#[]⟩ = oc at hF1 HO
 cases oc with
 | none =>
  have HT : Hid (openT e l = none) := HO.out
  clear HO
  simp only [Option.getD_none, Option.isSome_none] at hF1
  go_enter Tryz.func52, Tryz.ntmps52
  go_upto_region 1 with fail
  rw [← hW0]
  clear hW0
  go_wp2_with (first
   | (go_at_call 81; refine hF1.mono ?_; rintro e w1 ⟨⟨q, rfl, _⟩, hb1⟩; unfold valK)
   | (refine wpList_store_row rfl 41 _ _ rfl w1.heap.size 41 _ (cellsK zK q).toArray rfl rfl (newP _) infoK rfl (one_K zK q) ?_)
   | (go_at_call 54; refine (noIf_any _ _).mono ?_; rintro e wn ⟨he, rfl⟩; replace he : e = _ := he; subst he))
  refine ⟨rfl, by rw [HT.out]; rfl, belowP hb0 (belowP hb1 ?_)⟩
  exact ((Below.refl _ _).alloc (Nat.le_refl _) _).trans ((keep_setRow _ w1.heap.size _).below (by simp) fun q hq e => by unfold OneP at e; omega)
 | some c =>
  simp only [Option.getD_some, Option.isSome_some] at hF1 HO
  go_enter Tryz.func52, Tryz.ntmps52
  go_upto_region 1 with fail
  rw [← hW0]
  clear hW0
  go_upto_region 2 with (first
   | (go_at_call 81; refine hF1.mono ?_; rintro e w1 ⟨⟨q, rfl, hIc⟩, hb1⟩; unfold valK)
   | (refine wpList_store_row rfl 41 _ _ rfl w1.heap.size 41 _ (cellsK c q).toArray rfl rfl (newP _) infoK rfl (one_K c q) ?_))
  have hbA : Below w1.heap.size w1 ((w1.alloc (.cells (cellsK zK Pt.zero).toArray 41)).setRow w1.heap.size (cellsK c q).toArray) :=
   ((Below.refl _ _).alloc (Nat.le_refl _) _).trans ((keep_setRow _ w1.heap.size _).below (by simp) fun q hq e => by unfold OneP at e; omega)
  have hX : ((w1.alloc (.cells (cellsK zK Pt.zero).toArray 41)).setRow w1.heap.size (cellsK c q).toArray).heap[w1.heap.size]? = some (.cells (cellsK c q).toArray 41 (0, 0)) := setRow_heap _ _ _ _ _ _ (newP _)
  change Code.wp _ _ _ _ ((w1.alloc (.cells (cellsK zK Pt.zero).toArray 41)).setRow w1.heap.size (cellsK c q).toArray)
  generalize (w1.alloc (.cells (cellsK zK Pt.zero).toArray 41)).setRow w1.heap.size (cellsK c q).toArray = W at hbA hX
  have hBW : Below W0.heap.size W0 W := belowP hb1 hbA
  have HB : Hid (∀ X, Below W.heap.size W X → Below w.heap.size w X) := fun X hX => belowP hb0 (belowP hBW hX)
  have HVW : Hid (∀ X, Below W.heap.size W X → IsV X w.heap.size e p) := fun X hX => HV.out X (belowP hBW hX)
  have HSW : Hid (∀ X, Below W.heap.size W X → RdE (· < X.heap.size) X ps cs l) := fun X hX' => HST.out X (belowP hBW hX')
  have HFW : Hid (∀ X, Below W.heap.size W X → Calls Tryz.prog 81 #[.slice ps l.length cs, .string tPower, .string ⟨#[]⟩] X fun e w' => (∃ q, e = .returned (.tuple #[valK ((findT l tPower ⟨#[]⟩).getD zK) q, .bool (findT l tPower ⟨#[]⟩).isSome]) ∧ IsE (· < X.heap.size) w' ((findT l tPower ⟨#[]⟩).getD zK).2 q) ∧ Below X.heap.size X w') := fun X hX => HF2.out X (belowP hBW hX)
  have HKW : Hid (∀ X, Below W.heap.size W X → X.heap[w1.heap.size]? = some (.cells (cellsK c q).toArray 41 (0, 0)) ∧ IsE (· < X.heap.size) X c.2 q) := fun X hX' => ⟨(hX'.block _ (objP_lt hX)).trans hX, hIc.carry fun k hk => ⟨Nat.lt_of_lt_of_le (Nat.lt_of_lt_of_le hk hb1.size) (Nat.le_trans hbA.size hX'.size), (hX'.block k (Nat.lt_of_lt_of_le (Nat.lt_of_lt_of_le hk hb1.size) hbA.size)).trans (hbA.block k (Nat.lt_of_lt_of_le hk hb1.size))⟩⟩
  have er := (HVW.out W (Below.refl _ _)).room
  have cr : W.cell? ⟨w1.heap.size, 1, none⟩ = some (.string c.2.room) := cellP hX 1 _ rfl
  clear hF1 HF2 HV HST hIc hbA hX hBW hb1
  cases hr : (c.2.room.toList == e.room.toList) with
  | false =>
   have HT : Hid (openT e l = none) := by show _ = _; rw [HO.out]; exact if_neg (by show ¬ (eqT c.2.room e.room) = true; rw [show eqT c.2.room e.room = false from hr]; decide)
   clear HO
   go_wp2_with (go_at_call 54; refine (noIf_any _ _).mono ?_; rintro e wn ⟨he, rfl⟩; replace he : e = _ := he; subst he)
   exact ⟨rfl, by rw [HT.out]; rfl, HB.out _ (Below.refl _ _)⟩
  | true =>
   have HT : Hid (openT e l = match levT l c.2.sender with | none => none | some v => some ⟨e, l, c.1, c.2, v, (findT l tPower ⟨#[]⟩).isSome⟩) := by show _ = _; rw [HO.out]; exact if_pos hr
   clear HO
   go_upto_region 3 with (go_at_call 54; refine (noIf_any _ _).mono ?_; rintro e wn ⟨he, rfl⟩; replace he : e = _ := he; subst he)
   refine wp_region_in (by kernel_rfl) (fun w' => Below W.heap.size W w') ?_
   change wpIn _ _ _ _ _ _ _ _ (World.drew _)
   have hD : Below W.heap.size W W.drew := (Below.refl _ _).drew
   refine wpIn_take (i := 0) (d := (some 26)) (v := (valE e p)) (a' := ?aqo0) rfl rfl (by kernel_rfl) (by kernel_rfl) (by kernel_rfl) (fun _ _ _ h => h) (Or.inl ⟨by rfl, ?yqo0⟩) ?fqo0 ?_
   case yqo0 => exact fun wq hq => exec_loadR rfl rfl (run_loadAt_mid wq w.heap.size 0 28 (cellsE e p) _ (HVW.out wq hq).rangeE Tryz.underlying28 rfl infoE)
   case fqo0 => (go_frame; rfl)
   refine wpIn_tk (i := 1) (d := some 27) rfl ?_
   refine wpIn_take (i := 2) (d := (some 28)) (v := (valK c q)) (a' := ?aqo2) rfl rfl (by kernel_rfl) (by kernel_rfl) (by kernel_rfl) (fun _ _ _ h => h) (Or.inl ⟨by rfl, ?yqo2⟩) ?fqo2 ?_
   case yqo2 => exact fun wq hq => exec_loadR rfl rfl (run_loadAt_mid wq w1.heap.size 0 41 (cellsK c q) _ (range_of (HKW.out wq hq).1) Tryz.underlying41 rfl infoK)
   case fqo2 => (go_frame; rfl)
   refine wpIn_tk (i := 3) (d := some 29) rfl ?_
   refine wpIn_tk (i := 4) (d := some 30) rfl ?_
   refine wpIn_tp (i := 5) (d := some 31) rfl (by (intro wq hq; have zf : wq.cell? ⟨w1.heap.size, 3, none⟩ = some (.string c.2.sender) := cellP (HKW.out wq hq).1 3 _ rfl; go_simp; first | done | with_reducible rfl)) ?_
   refine wpIn_do (i := 6) hD (by kernel_rfl) rfl (by rfl) ?_
   intro K hK
   go_simp
   go_wp2_with (go_at_call 82; refine (start_lv c.2.sender).mono ?_; rintro x w2 ⟨⟨ql, rfl, hIl⟩, hbw2⟩)
   have hD6 : Below W.heap.size W w2 := belowP hD hbw2
   refine wpIn_take (i := 7) (d := (some 33)) (v := (.agg (cellsH ⟨e, l, c.1, c.2, startL c.2.sender, false⟩ ⟨p, ps, cs, q, ql⟩).toArray)) (a' := ?aqo7) rfl rfl (by kernel_rfl) (by kernel_rfl) (by kernel_rfl) (fun _ _ _ h => h) (Or.inl ⟨by rfl, ?yqo7⟩) ?fqo7 ?_
   case yqo7 => (intro wq hq; simp only [valE, valK, valL, cellsE, cellsK, cellsL]; go_simp; first | done | rfl)
   case fqo7 => (go_frame; rfl)
   refine wpIn_do (i := 8) hD6 (by kernel_rfl) rfl (by rfl) ?_
   intro K hK
   go_simp
   refine hK _ _ ?_
   clear hK K
   obtain ⟨W3, hW3⟩ : ∃ W3, W3 = w2.alloc (.cells (cellsH ⟨e, l, c.1, c.2, startL c.2.sender, false⟩ ⟨p, ps, cs, q, ql⟩).toArray 92) := ⟨_, rfl⟩
   have hb3 : Below w2.heap.size w2 W3 := by rw [hW3]; exact (Below.refl _ _).alloc (Nat.le_refl _) _
   have hX3 : W3.heap[w2.heap.size]? = some (.cells (cellsH ⟨e, l, c.1, c.2, startL c.2.sender, false⟩ ⟨p, ps, cs, q, ql⟩).toArray 92 (0, 0)) := by rw [hW3]; exact newP _
   have hD8 : Below W.heap.size W W3 := belowP hD6 hb3
   rw [← hW3]
   refine wpIn_tk (i := 9) (d := some 7) rfl ?_
   refine wpIn_done hD8 (by kernel_rfl) ?_ _
   have HTN : Hid (findT l tPower ⟨#[]⟩ = none → openT e l = some ⟨e, l, c.1, c.2, startL c.2.sender, false⟩) := fun hf => by rw [HT.out, levT, hf]; rfl
   have HTS : Hid (∀ k, findT l tPower ⟨#[]⟩ = some k → (parseT (ordT k.2.content)).2 = 0 → openT e l = some ⟨e, l, c.1, c.2, (parseT (ordT k.2.content)).1, true⟩) := fun k hf h0 => by rw [HT.out, levT, hf]; simp only []; rw [if_pos h0]; rfl
   have HTB : Hid (∀ k, findT l tPower ⟨#[]⟩ = some k → (parseT (ordT k.2.content)).2 = 1 → openT e l = none) := fun k hf h0 => by rw [HT.out, levT, hf]; simp only []; rw [if_neg (by rw [h0]; decide)]
   have HI3 : Hid (IsH W3 w2.heap.size ⟨e, l, c.1, c.2, startL c.2.sender, false⟩ ⟨p, ps, cs, q, ql⟩) := ⟨hX3, (HVW.out W3 hD8).ev, HSW.out W3 hD8, hIl.carry fun b hb => ⟨Nat.lt_of_lt_of_le hb.2 hb3.size, hb3.block b hb.2⟩⟩
   have hF := HFW.out W3 hD8
   have HS4 : Hid (w.heap.size ≤ w2.heap.size ∧ w2.heap.size < W3.heap.size) := ⟨(HB.out w2 hD6).size, objP_lt hX3⟩
   have HB3 : Hid (∀ X, Below W3.heap.size W3 X → Below w.heap.size w X) := fun X hX => HB.out X (belowP hD8 hX)
   clear HT hW3 hX3 hIl HVW HSW HFW HKW hD6 hD hD8 hb3 hbw2 er cr HB
   generalize findT l tPower ⟨#[]⟩ = op at hF HTN HTS HTB HSC
   cases op with
   | none =>
    have HTE := (show Hid _ from HTN.out rfl)
    clear HTN HTS HTB HSC
    simp only [Option.getD_none, Option.isSome_none] at hF
    go_wp2_with (first
     | (go_at_call 81; refine hF.mono ?_; rintro x w4 ⟨⟨qk, rfl, _⟩, hb4⟩; unfold valK)
     | (refine wpList_store_row rfl 41 _ _ rfl w4.heap.size 41 _ (cellsK zK qk).toArray rfl rfl (newP _) infoK rfl (one_K zK qk) ?_))
    go_ret
    have hbA : Below w4.heap.size w4 ((w4.alloc (.cells (cellsK zK Pt.zero).toArray 41)).setRow w4.heap.size (cellsK zK qk).toArray) :=
     ((Below.refl _ _).alloc (Nat.le_refl _) _).trans ((keep_setRow _ w4.heap.size _).below (by simp) fun q hq e => by unfold OneP at e; omega)
    refine ⟨?_, HB3.out _ (belowP hb4 hbA)⟩
    rw [HTE.out]
    exact ⟨_, ⟨p, ps, cs, q, ql⟩, rfl, HI3.out.below (belowP hb4 hbA)⟩
   | some k =>
    have HSK := (show Hid _ from HSC.out k rfl)
    simp only [Option.getD_some, Option.isSome_some] at hF
    go_upto_region 6 with (first
     | (go_at_call 81; refine hF.mono ?_; rintro x w4 ⟨⟨qk, rfl, hIk⟩, hb4⟩; unfold valK)
     | (refine wpList_store_row rfl 41 _ _ rfl w4.heap.size 41 _ (cellsK k qk).toArray rfl rfl (newP _) infoK rfl (one_K k qk) ?_))
    have hbA : Below w4.heap.size w4 ((w4.alloc (.cells (cellsK zK Pt.zero).toArray 41)).setRow w4.heap.size (cellsK k qk).toArray) :=
     ((Below.refl _ _).alloc (Nat.le_refl _) _).trans ((keep_setRow _ w4.heap.size _).below (by simp) fun q hq e => by unfold OneP at e; omega)
    have hX4 : ((w4.alloc (.cells (cellsK zK Pt.zero).toArray 41)).setRow w4.heap.size (cellsK k qk).toArray).heap[w4.heap.size]? = some (.cells (cellsK k qk).toArray 41 (0, 0)) := setRow_heap _ _ _ _ _ _ (newP _)
    change Code.wp _ _ _ _ ((w4.alloc (.cells (cellsK zK Pt.zero).toArray 41)).setRow w4.heap.size (cellsK k qk).toArray)
    generalize (w4.alloc (.cells (cellsK zK Pt.zero).toArray 41)).setRow w4.heap.size (cellsK k qk).toArray = W4 at hbA hX4
    have hB4 : Below W3.heap.size W3 W4 := belowP hb4 hbA
    have HR4 : Hid (W4.rangeAt w4.heap.size 1 (cellsE k.2 qk)) := range_sub hX4 1 rfl
    have hLv := levelsIn_any (O := (· < W3.heap.size)) (w := W4) (e := k.2) (p := qk) (hIk.carry fun b hb => ⟨hb, hbA.block b (Nat.lt_of_lt_of_le hb hb4.size)⟩) (fun b hb => Nat.lt_of_lt_of_le hb hB4.size) HSK.out
    have HTS1 := (show Hid _ from HTS.out k rfl)
    have HTB1 := (show Hid _ from HTB.out k rfl)
    clear HTN HTS HTB HSC hF hIk hX4 HSK
    unfold LevP at hLv
    unfold valE at hLv
    have HEE : Hid ((parseT (ordT k.2.content)).2 = 0 ∨ (parseT (ordT k.2.content)).2 = 1) := parse_err _
    generalize parseT (ordT k.2.content) = R at hLv HTS1 HTB1 HEE
    obtain ⟨L, E⟩ := R
    simp only at hLv HTS1 HTB1 HEE
    have HI4 := (show Hid _ from HI3.out.below hB4)
    rcases HEE.out with rfl | rfl
    · have hLv0 : Calls Tryz.prog 83 #[.agg (cellsE k.2 qk).toArray] W4 fun x w' => (∃ q2, x = .returned (.agg (cellsL L q2).toArray) ∧ IsL (fun b => W4.heap.size ≤ b ∧ b < w'.heap.size) w' L q2) ∧ Below W4.heap.size W4 w' := by
        refine hLv.mono fun x w' hh => ⟨?_, hh.2⟩
        rcases hh.1 with ⟨_, q2, hx, hi⟩ | ⟨hx, _⟩
        · exact ⟨q2, hx, hi⟩
        · exact absurd hx (by decide)
      have HTE := (show Hid _ from HTS1.out rfl)
      clear hLv HTS1 HTB1 HEE
      go_wp2_with (first
       | (refine wpList_load_mid rfl 28 _ rfl w4.heap.size 1 rfl (cellsE k.2 qk) _ HR4.out Tryz.underlying28 rfl infoE ?_)
       | (go_at_call 83; refine hLv0.mono ?_; rintro x w5 ⟨⟨q2, rfl, hI2⟩, hb5⟩
          have HX5 := (show Hid _ from (HI4.out.below hb5).blk)
          have HTH : Hid (w5.there w2.heap.size 34 (cellsL L q2).toArray.size) := there_H HX5.out
          obtain ⟨W5, hW5⟩ : ∃ W5, W5 = w5.setCells w2.heap.size 34 (cellsL L q2) := ⟨_, rfl⟩
          have HW5 := (show Hid _ from hW5)
          have HM := (show Hid _ from mid_H (l := L) (q := q2) HX5.out)
          rw [← hW5] at HM
          clear hW5
          have g43 : W5.cell? ⟨w2.heap.size, 43, none⟩ = some (.bool false) := cellP HM.out 43 _ rfl
          have z43 := fzP HM.out 43)
       | (refine wpList_store_to rfl 47 _ _ rfl w2.heap.size 34 (cellsL L q2).toArray rfl rfl HTH.out infoL (one_L L q2) W5 HW5.out ?_))
      go_ret
      have hk1 : Keep (OneP w2.heap.size) w5 W5 := by rw [HW5.out]; exact setCells_keep w2.heap.size (cellsL L q2) w5 34
      have hk2 : Keep (OneP w2.heap.size) w5 (W5.setCell ⟨w2.heap.size, 43, none⟩ (.bool true)) := Keep.setCell (S := OneP w2.heap.size) (p := ⟨w2.heap.size, 43, none⟩) hk1 (fun _ => (rfl : w2.heap.size = w2.heap.size)) _
      have hh : (W5.setCell ⟨w2.heap.size, 43, none⟩ (.bool true)).heap[w2.heap.size]? = some (.cells (cellsH ⟨e, l, c.1, c.2, L, true⟩ ⟨p, ps, cs, q, q2⟩).toArray 92 (0, 0)) := by rw [heap_setCell_same _ w2.heap.size 43 _ _ _ HM.out]; rfl
      have hB5 := HB3.out w5 (belowP hB4 hb5)
      have hs4 := HS4.out
      have hs5 := hB4.size
      have hbE : Below w.heap.size w (W5.setCell ⟨w2.heap.size, 43, none⟩ (.bool true)) := hB5.trans (hk2.below hB5.size fun k hk e => by unfold OneP at e; omega)
      have hIE := HE0.out _ hbE
      refine ⟨?_, hbE⟩
      rw [HTE.out]
      exact ⟨_, ⟨p, ps, cs, q, q2⟩, rfl, ⟨hh, hIE.1.carry fun k hk => ⟨Nat.lt_of_lt_of_le hk hbE.size, rfl⟩, hIE.2.carry fun k hk => ⟨Nat.lt_of_lt_of_le hk hbE.size, rfl⟩, hI2.carry fun b hb => ⟨Nat.lt_of_lt_of_le hb.2 hk2.size, hk2.block b hb.2 (by unfold OneP; have := hb.1; omega)⟩⟩⟩
    · have hLv1 : Calls Tryz.prog 83 #[.agg (cellsE k.2 qk).toArray] W4 fun x w' => x = thrown false ∧ Below W4.heap.size W4 w' := by
        refine hLv.mono fun x w' hh => ⟨?_, hh.2⟩
        rcases hh.1 with ⟨hx, _⟩ | ⟨_, hx⟩
        · exact absurd hx (by decide)
        · exact hx
      have HTE := (show Hid _ from HTB1.out rfl)
      clear hLv HTS1 HTB1 HEE
      go_wp2_with (first
       | (refine wpList_load_mid rfl 28 _ rfl w4.heap.size 1 rfl (cellsE k.2 qk) _ HR4.out Tryz.underlying28 rfl infoE ?_)
       | (go_at_call 83; refine hLv1.mono ?_; rintro x w5 ⟨rfl, hb5⟩))
      exact ⟨rfl, by rw [HTE.out]; rfl, HB3.out _ (belowP hB4 hb5)⟩
end Go.Proofs.YtldegjjaknelgaaGreatDoor

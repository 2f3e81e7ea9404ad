/-
  How many of so many values are left (the law of events), by a contract.
  Sixteen cells that are written one by one.
  Which events are small, by a contract.
  Is a past small: by contracts.
  The document's Right, and what it calls: by contracts.
  The document's leans: by a contract.
-/
import Derived.Test.YtimhpglfolbomabGreatRL15
import Derived.Deep.QuietTactic
set_option maxRecDepth 100000
set_option maxHeartbeats 16000000
namespace Go.Proofs.YtimhpglfolbomabGreat
open Go.RowKit
def LeftsE (d : Nat) : Prop := ∀ (w : World) (O : Nat → Prop) (j : J) (k i deep n : Int) (t : ByteArray) (pk pl : Option Addr) (nk ck nl cl : Nat), (∀ x, O x → x < w.heap.size) → deep = (d : Int) → d ≤ 100 → 0 ≤ n → n ≤ 100000 →
 isJ O w j [.int .i64 k, .int .i64 i, .string t, .slice pk nk ck, .slice pl nl cl] →
 Calls Tryz.prog 36 #[.agg #[.int .i64 k, .int .i64 i, .string t, .slice pk nk ck, .slice pl nl cl], .int .i64 n, .int .i64 deep] w fun x w' => (∃ r : Int, x = .returned (.int .i64 r) ∧ r ≤ n ∧ -1 ≤ r ∧ (0 ≤ r → szJ d j = true)) ∧ Below w.heap.size w w'
theorem eleft_zero : LeftsE 0 := by
 intro w O j k i deep n t pk pl nk ck nl cl hO hdeep _ h0 hn _
 subst hdeep
 have hbA : Below w.heap.size w (w.alloc (.cells #[.int .i64 k, .int .i64 i, .string t, .slice pk nk ck, .slice pl nl cl] 38)) := (Below.refl _ _).alloc (Nat.le_refl _) _
 by_cases h1 : n < 1
 · go_enter Tryz.func36, Tryz.ntmps36
   go_wp2
   go_ret
   exact ⟨⟨-1, rfl, by omega, by omega, fun h => absurd h (by decide)⟩, hbA⟩
 · go_enter Tryz.func36, Tryz.ntmps36
   go_wp2
   go_ret
   exact ⟨⟨-1, rfl, by omega, by omega, fun h => absurd h (by decide)⟩, hbA⟩
theorem eleft_step {d : Nat} (V : LeftsE d) : LeftsE (d + 1) := by
 intro w O j k i deep n t pk pl nk ck nl cl hO hdeep hd h0 hn hj
 obtain ⟨kx, ix, tx, ks, l⟩ := j
 unfold isJ at hj
 obtain ⟨pk', ck', pl', cl', e, hk, hl, hs⟩ := hj
 simp only [List.cons.injEq, Value.int.injEq, Value.string.injEq, Value.slice.injEq, true_and, and_true] at e
 obtain ⟨rfl, rfl, rfl, ⟨rfl, rfl, rfl⟩, rfl, rfl, rfl⟩ := e
 have hd1 : 1 ≤ deep := by omega
 have hd2 : deep ≤ 101 := by omega
 have HD : Hid (deep - 1 = (d : Int)) := by show _ = _; omega
 have HDL : Hid (d ≤ 100) := by show _ ≤ _; omega
 clear hdeep hd
 obtain ⟨nk, hnk⟩ : ∃ n, ks.length = n := ⟨_, rfl⟩
 obtain ⟨nl, hnl⟩ : ∃ n, l.length = n := ⟨_, rfl⟩
 have HNK : Hid (ks.length = nk) := hnk
 have HNL : Hid (l.length = nl) := hnl
 have hck := hk.1
 rw [hnk] at hck ⊢
 rw [hnl] at hl ⊢
 clear hnk hnl
 have hbA : Below w.heap.size w (w.alloc (.cells #[.int .i64 k, .int .i64 i, .string t, .slice pk nk ck, .slice pl nl cl] 38)) := (Below.refl _ _).alloc (Nat.le_refl _) _
 have neg : ∀ (w' : World) (x : Ending), x = .returned (.int .i64 (-1)) → Below w.heap.size w w' → (∃ r : Int, x = .returned (.int .i64 r) ∧ r ≤ n ∧ -1 ≤ r ∧ (0 ≤ r → szJ (d + 1) (.mk k i t ks l) = true)) ∧ Below w.heap.size w w' := fun w' x hx hb => ⟨⟨-1, hx, by omega, by omega, fun h => absurd h (by decide)⟩, hb⟩
 have HNEG : Hid (∀ (w' : World) (x : Ending), x = .returned (.int .i64 (-1)) → Below w.heap.size w w' → (∃ r : Int, x = .returned (.int .i64 r) ∧ r ≤ n ∧ -1 ≤ r ∧ (0 ≤ r → szJ (d + 1) (.mk k i t ks l) = true)) ∧ Below w.heap.size w w') := neg
 clear neg
 by_cases h1 : n < 1
 · go_enter Tryz.func36, Tryz.ntmps36
   go_wp2
   go_ret
   exact HNEG.out _ _ rfl hbA
 by_cases h2 : (2000 : Int) < t.size
 · go_enter Tryz.func36, Tryz.ntmps36
   go_wp2
   go_ret
   exact HNEG.out _ _ rfl hbA
 by_cases h3 : (100 : Int) < nk
 · go_enter Tryz.func36, Tryz.ntmps36
   go_wp2
   go_ret
   exact HNEG.out _ _ rfl hbA
 by_cases h4 : (300 : Int) < nl
 · go_enter Tryz.func36, Tryz.ntmps36
   go_wp2
   go_ret
   exact HNEG.out _ _ rfl hbA
 obtain ⟨wB, hwB⟩ : ∃ wB, wB = w.alloc (.cells #[.int .i64 k, .int .i64 i, .string t, .slice pk nk ck, .slice pl nl cl] 38) := ⟨_, rfl⟩
 have hA : wB.heap[w.heap.size]? = some (.cells #[.int .i64 k, .int .i64 i, .string t, .slice pk nk ck, .slice pl nl cl] 38 (0, 0)) := by rw [hwB]; exact heap_alloc_new _ _
 have hsB : w.heap.size < wB.heap.size := (Array.getElem?_eq_some_iff.1 hA).1
 rw [← hwB] at hbA
 have HCA : Hid (∀ W : World, Below wB.heap.size wB W → ∀ n v, [Value.int .i64 k, .int .i64 i, .string t, .slice pk nk ck, .slice pl nl cl][n]? = some v → W.cell? ⟨w.heap.size, n, none⟩ = some v) := fun W hW n v hv =>
  (World.cell?_of_block (a := ⟨w.heap.size, n, none⟩) (hW.block w.heap.size hsB)).trans (cell_row (cur := [.int .i64 k, .int .i64 i, .string t, .slice pk nk ck, .slice pl nl cl]) hA n v hv)
 go_enter Tryz.func36, Tryz.ntmps36
 go_wp2
 rw [← hwB]
 clear hwB hA
 go_loopw [7] (fun v wr => ∃ m : Nat, v = .int .i64 m ∧ m ≤ nk ∧ Hid (∀ x, x < m → (ks.getD x nix).size ≤ 300) ∧ wr = wB) (fun v _ => nk - (intOf v).toNat)
 case atStart => exact ⟨0, rfl, Nat.zero_le _, fun m hm => absurd hm (by omega), rfl⟩
 case round =>
  obtain ⟨m, rfl, hm, HE, rfl⟩ := hrel
  have a3 := HCA.out wr (Below.refl _ _) 3 _ rfl
  by_cases hmk : m < nk
  · have hmi : (m : Int) < (nk : Int) := by omega
    obtain ⟨ka, hpk, hOa, hcka⟩ := hk.2 m (by rw [HNK.out]; exact hmk)
    subst hpk
    have hKA : wr.cell? (ka.add m) = some (.string (ks.getD m nix)) := (World.cell?_of_block (by rw [add_block]; exact hbA.block _ (hO _ hOa))).trans hcka
    obtain ⟨u, hu⟩ : ∃ u, ks.getD m nix = u := ⟨_, rfl⟩
    have HU : Hid (ks.getD m nix = u) := hu
    rw [hu] at hKA
    clear hu hcka
    by_cases hus : (300 : Int) < u.size
    · go_wp2
      go_ret
      exact HNEG.out _ _ rfl hbA
    · go_wp2
      go_roundw
      case rel => exact ⟨m + 1, by go_num, hmk, fun x hx => (Nat.lt_succ_iff_lt_or_eq.1 hx).elim (HE.out x) fun e => by rw [e, HU.out]; omega, trivial⟩
      case measure => simp [intOf]; omega
  · obtain rfl : m = nk := by omega
    have HKS : Hid (ks.all (fun k => decide (k.size ≤ 1000000000)) = true) := by
     show _ = _
     rw [List.all_eq_true]
     intro x hx
     obtain ⟨y, hy, rfl⟩ := List.getElem_of_mem hx
     have := HE.out y (by rw [← HNK.out]; exact hy)
     rw [key_getD hy] at this
     exact decide_eq_true (by omega)
    go_wp2
    go_loopw [1, 8] (fun u v w2 => ∃ (m : Nat) (r : Int), v = .int .i64 m ∧ u = .int .i64 r ∧ m ≤ nl ∧ r ≤ n - 1 ∧ -1 ≤ r ∧ Hid (0 ≤ r → (l.take m).all (szJ d) = true) ∧ Below wr.heap.size wr w2) (fun _ v _ => nl - (intOf v).toNat)
    case atStart => exact ⟨0, n - 1, rfl, rfl, Nat.zero_le _, by omega, by omega, fun _ => rfl, Below.refl _ _⟩
    case round =>
     obtain ⟨m', r, rfl, rfl, hm', hrn, hr0, HT, hb2⟩ := hrel
     have a4 := HCA.out wr hb2 4 _ rfl
     by_cases hml : m' < nl
     · have hmi : (m' : Int) < (nl : Int) := by omega
       by_cases hr : 0 ≤ r
       · have hml1 : m' < l.length := by rw [HNL.out]; exact hml
         have HML : Hid (m' < l.length) := hml1
         obtain ⟨lb, lo, cs, hpl, hOl, hcells, hyj⟩ := isJs.at l 0 m' hs hml1
         subst hpl
         obtain ⟨x0, x1, x2, p3, n3, c3, p4, n4, c4, rfl⟩ := isJ_shape hyj
         have hblk := (hb2.block lb (by have := hO _ hOl; omega)).trans (hbA.block lb (hO _ hOl))
         have cc : ∀ m v, [Value.int .i64 x0, .int .i64 x1, .string x2, .slice p3 n3 c3, .slice p4 n4 c4][m]? = some v → wr.cell? ⟨lb, lo + m' * 5 + m, none⟩ = some v := fun m v h => by
          have := hcells m v h
          rw [Nat.zero_add] at this
          exact (World.cell?_of_block (a := ⟨lb, lo + m' * 5 + m, none⟩) hblk).trans this
         have y0 : wr.cell? ⟨lb, lo + m' * 5, none⟩ = some (.int .i64 x0) := cc 0 _ rfl
         have y1 := cc 1 _ rfl
         have y2 := cc 2 _ rfl
         have y3 := cc 3 _ rfl
         have y4 := cc 4 _ rfl
         have hB2 := below_cat hbA (by omega) hb2
         have hV := V wr O (l.getD m' J.zero) x0 x1 (deep - 1) r x2 p3 p4 n3 c3 n4 c4 (fun b hb => Nat.lt_of_lt_of_le (hO b hb) hB2.size) HD.out HDL.out hr (by omega) (hyj.carry fun b hb => ⟨hb, hB2.block b (hO b hb)⟩)
         clear cc hcells hml1 hyj hblk
         go_wp2_with (go_at_call 36; refine hV.mono ?_; rintro x w4 ⟨⟨r4, rfl, hr4, hr5, hr6⟩, hb4⟩)
         go_roundw
         case rel => exact ⟨m' + 1, r4, by go_num, rfl, hml, by omega, hr5, fun h => by rw [all_take HML.out, HT.out hr, hr6 h]; rfl, below_cat hb2 hb2.size hb4⟩
         case measure => simp [intOf]; omega
       · go_wp2
         go_ret
         refine ⟨⟨r, rfl, by omega, hr0, fun h => absurd h (by omega)⟩, below_cat hbA (by omega) hb2⟩
     · obtain rfl : m' = nl := by omega
       go_wp2
       go_ret
       refine ⟨⟨r, rfl, by omega, hr0, fun h => ?_⟩, below_cat hbA (by omega) hb2⟩
       have ht := HT.out h
       rw [List.take_of_length_le (by rw [HNL.out]; omega)] at ht
       unfold szJ
       rw [HKS.out, ht, HNK.out, HNL.out, decide_eq_true (show t.size ≤ 1000000000 by omega), decide_eq_true (show m ≤ 100000 by omega), decide_eq_true (show m' ≤ 100000 by omega)]
       rfl
theorem elefts : ∀ d, LeftsE d
 | 0 => eleft_zero
 | d + 1 => eleft_step (elefts d)
theorem six_c {w : World} {b : Nat} {t : TypeId} {a0 a1 a2 a3 a4 a5 a6 a7 a8 a9 a10 a11 a12 a13 a14 a15 : Value} (h : w.heap[b]? = some (.cells #[a0, a1, a2, a3, a4, a5, a6, a7, a8, a9, a10, a11, a12, a13, a14, a15] t (0, 0))) (j : Nat) (v : Value) (hj : [a0, a1, a2, a3, a4, a5, a6, a7, a8, a9, a10, a11, a12, a13, a14, a15][j]? = some v) : w.cell? ⟨b, j, none⟩ = some v := cell_row (cur := [a0, a1, a2, a3, a4, a5, a6, a7, a8, a9, a10, a11, a12, a13, a14, a15]) h j v hj
end Go.Proofs.YtimhpglfolbomabGreat
namespace Go.Proofs.YtimhpglfolbomabGreat
open Go.RowKit Go.Maps
structure BigE (e : Ev) : Prop where
 room : e.room.size ≤ 140737488355328
 typ : e.typ.size ≤ 140737488355328
 sender : e.sender.size ≤ 140737488355328
 key : e.key.size ≤ 140737488355328
 hash : e.hash.size ≤ 140737488355328
 sigs : ∀ x ∈ e.sigs, x.1.size ≤ 140737488355328 ∧ x.2.size ≤ 140737488355328
structure FewE (e : Ev) : Prop where
 texts : e.room.size + e.typ.size + e.sender.size + e.key.size + e.hash.size ≤ 2000
 prev : e.prev.length ≤ 30
 prevs : ∀ x ∈ e.prev, x.size ≤ 100
 auth : e.auth.length ≤ 30
 auths : ∀ x ∈ e.auth, x.size ≤ 100
 sigs : e.sigs.length ≤ 30
 sigss : ∀ x ∈ e.sigs, x.1.size + x.2.size ≤ 200
 cont : szJ 20 e.content = true
def FewP (w w' : World) (e : Ev) (x : Ending) : Prop := (∃ b : Bool, x = .returned (.bool b) ∧ (b = true → FewE e)) ∧ Below w.heap.size w w'
theorem all_getD {l : List ByteArray} {B : Nat} (h : ∀ x, x < l.length → (l.getD x nix).size ≤ B) : ∀ x ∈ l, x.size ≤ B := fun x hx => by
 obtain ⟨y, hy, rfl⟩ := List.getElem_of_mem hx
 have := h y hy
 rwa [key_getD hy] at this
theorem eFew_any {O : Nat → Prop} (e : Ev) (p : Pt) (w : World) (hE : IsE O w e p) (hO : ∀ k, O k → k < w.heap.size) (hl : BigE e) :
    Calls Tryz.prog 11 #[valE e p] w fun x w' => FewP w w' e x := by
 obtain ⟨room, typ, sender, st, key, ⟨k, i, t, ks, l⟩, prev, auth, depth, ts, hash, sigs⟩ := e
 obtain ⟨pk, ck, pl, cl, pp, cp, pa, ca, ps, cs⟩ := p
 obtain ⟨z0, z1, z2, z4, z14, z15⟩ := hl
 obtain ⟨hc, hp, ha, hs⟩ := hE
 simp only at z0 z1 z2 z4 z14 z15 hc hp ha hs
 unfold five at hc
 simp only [J.kind, J.int, J.text, J.keys, J.list] at hc
 simp only [valE, cellsE, J.kind, J.int, J.text, J.keys, J.list]
 obtain ⟨np, hnp⟩ : ∃ n, prev.length = n := ⟨_, rfl⟩
 obtain ⟨na, hna⟩ : ∃ n, auth.length = n := ⟨_, rfl⟩
 obtain ⟨ns, hns⟩ : ∃ n, sigs.length = n := ⟨_, rfl⟩
 have HNP : Hid (prev.length = np) := hnp
 have HNA : Hid (auth.length = na) := hna
 have HNS : Hid (sigs.length = ns) := hns
 have hcp := hp.1
 have hca := ha.1
 have hcs := hs.1
 rw [hnp] at hcp ⊢
 rw [hna] at hca ⊢
 rw [hns] at hcs ⊢
 clear hnp hna hns
 obtain ⟨WB, hWB⟩ : ∃ WB, WB = w.alloc (.cells #[.string room, .string typ, .string sender, .bool st, .string key, .int .i64 k, .int .i64 i, .string t, .slice pk ks.length ck, .slice pl l.length cl, .slice pp np cp, .slice pa na ca, .int .i64 depth, .int .i64 ts, .string hash, .slice ps ns cs] 41) := ⟨_, rfl⟩
 have hbw : Below w.heap.size w WB := by rw [hWB]; exact (Below.refl _ _).alloc (Nat.le_refl _) _
 have hrs : WB.heap[w.heap.size]? = some (.cells #[.string room, .string typ, .string sender, .bool st, .string key, .int .i64 k, .int .i64 i, .string t, .slice pk ks.length ck, .slice pl l.length cl, .slice pp np cp, .slice pa na ca, .int .i64 depth, .int .i64 ts, .string hash, .slice ps ns cs] 41 (0, 0)) := by rw [hWB]; exact heap_alloc_new _ _
 have HNO : Hid (∀ W', Below w.heap.size w W' → ∀ x : Ending, x = .returned (.bool false) → FewP w W' ⟨room, typ, sender, st, key, ⟨k, i, t, ks, l⟩, prev, auth, depth, ts, hash, sigs⟩ x) := fun W' h x hx => ⟨⟨false, hx, fun h => by cases h⟩, h⟩
 by_cases h1 : (2000 : Int) < (room.size : Int) + typ.size + sender.size + key.size + hash.size
 · go_enter Tryz.func11, Tryz.ntmps11
   go_wp2
   go_ret
   exact HNO.out _ (hWB ▸ hbw) _ rfl
 by_cases h2 : (30 : Int) < np
 · go_enter Tryz.func11, Tryz.ntmps11
   go_wp2
   go_ret
   exact HNO.out _ (hWB ▸ hbw) _ rfl
 by_cases h3 : (30 : Int) < na
 · go_enter Tryz.func11, Tryz.ntmps11
   go_wp2
   go_ret
   exact HNO.out _ (hWB ▸ hbw) _ rfl
 by_cases h4 : (30 : Int) < ns
 · go_enter Tryz.func11, Tryz.ntmps11
   go_wp2
   go_ret
   exact HNO.out _ (hWB ▸ hbw) _ rfl
 have H1 : Hid (room.size + typ.size + sender.size + key.size + hash.size ≤ 2000) := by show _ ≤ _; omega
 have HP : Hid (∀ j, j < np → ∃ a, pp = some a ∧ WB.cell? (a.add j) = some (.string (prev.getD j nix))) := fun j hj => by
  obtain ⟨a, e, hOa, hca⟩ := hp.2 j (by rw [HNP.out]; exact hj)
  exact ⟨a, e, (World.cell?_of_block (by rw [add_block]; exact hbw.block _ (hO _ hOa))).trans hca⟩
 have HA : Hid (∀ j, j < na → ∃ a, pa = some a ∧ WB.cell? (a.add j) = some (.string (auth.getD j nix))) := fun j hj => by
  obtain ⟨a, e, hOa, hca⟩ := ha.2 j (by rw [HNA.out]; exact hj)
  exact ⟨a, e, (World.cell?_of_block (by rw [add_block]; exact hbw.block _ (hO _ hOa))).trans hca⟩
 have HSG : Hid (∀ j, j < ns → ∃ b o, ps = some ⟨b, o, none⟩ ∧ WB.cell? ⟨b, o + j * 2, none⟩ = some (.string (sigs.getD j (nix, nix)).1) ∧ WB.cell? ⟨b, o + j * 2 + 1, none⟩ = some (.string (sigs.getD j (nix, nix)).2)) := fun j hj => by
  obtain ⟨b, o, e, hOb, h1, h2⟩ := hs.2 j (by rw [HNS.out]; exact hj)
  exact ⟨b, o, e, (World.cell?_of_block (a := ⟨b, o + j * 2, none⟩) (hbw.block _ (hO _ hOb))).trans h1, (World.cell?_of_block (a := ⟨b, o + j * 2 + 1, none⟩) (hbw.block _ (hO _ hOb))).trans h2⟩
 have HL : Hid (∀ n, Calls Tryz.prog 36 #[.agg #[.int .i64 k, .int .i64 i, .string t, .slice pk ks.length ck, .slice pl l.length cl], .int .i64 300, .int .i64 20] (WB.drewN n) fun x w' => (∃ r : Int, x = .returned (.int .i64 r) ∧ r ≤ 300 ∧ -1 ≤ r ∧ (0 ≤ r → szJ 20 (.mk k i t ks l) = true)) ∧ Below (WB.drewN n).heap.size (WB.drewN n) w') := fun n =>
  elefts 20 (WB.drewN n) O (.mk k i t ks l) k i 20 300 t pk pl ks.length ck l.length cl (fun b hb => Nat.lt_of_lt_of_le (hO b hb) (below_in hbw (Id.below_drewN WB n)).size) rfl (by decide) (by decide) (by decide) (hc.carry fun b hb => ⟨hb, (below_in hbw (Id.below_drewN WB n)).block b (hO b hb)⟩)
 have HBW : Hid (Below w.heap.size w WB) := hbw
 have HZS : Hid (∀ x ∈ sigs, x.1.size ≤ 140737488355328 ∧ x.2.size ≤ 140737488355328) := z15
 clear hc hp ha hs hO hbw z15
 have q0 := six_c hrs 0 _ rfl; have q1 := six_c hrs 1 _ rfl; have q2 := six_c hrs 2 _ rfl; have q4 := six_c hrs 4 _ rfl; have q14 := six_c hrs 14 _ rfl; have q10 := six_c hrs 10 _ rfl; have q11 := six_c hrs 11 _ rfl; have q15 := six_c hrs 15 _ rfl
 have q5 := six_c hrs 5 _ rfl; have q6 := six_c hrs 6 _ rfl; have q7 := six_c hrs 7 _ rfl; have q8 := six_c hrs 8 _ rfl; have q9 := six_c hrs 9 _ rfl
 go_enter Tryz.func11, Tryz.ntmps11
 go_wp2
 rw [← hWB]
 clear hWB hrs
 go_loopw [3] (fun v wr => ∃ m : Nat, v = .int .i64 m ∧ m ≤ np ∧ Hid (∀ x, x < m → (prev.getD x nix).size ≤ 100) ∧ wr = WB) (fun v _ => np - (intOf v).toNat)
 case atStart => exact ⟨0, rfl, Nat.zero_le _, fun m hm => absurd hm (by omega), rfl⟩
 case round =>
  obtain ⟨m, rfl, hm, HX, rfl⟩ := hrel
  by_cases hlt : m < np
  · have hmi : (m : Int) < (np : Int) := by omega
    obtain ⟨a, rfl, hca1⟩ := HP.out m hlt
    obtain ⟨u, hu⟩ : ∃ u, prev.getD m nix = u := ⟨_, rfl⟩
    have HU : Hid (prev.getD m nix = u) := hu
    rw [hu] at hca1
    clear hu
    by_cases hus : (100 : Int) < u.size
    · go_wp2
      go_ret
      exact HNO.out _ HBW.out _ rfl
    · go_wp2
      go_roundw
      case rel => exact ⟨m + 1, by go_num, hlt, fun x hx => (Nat.lt_succ_iff_lt_or_eq.1 hx).elim (HX.out x) fun e => by rw [e, HU.out]; omega, trivial⟩
      case measure => simp [intOf]; omega
  · obtain rfl : m = np := by omega
    have HXP : Hid (∀ x ∈ prev, x.size ≤ 100) := all_getD (by rw [HNP.out]; exact HX.out)
    clear HX hlt hm
    go_wp2
    go_loopw [4] (fun v wr2 => ∃ n : Nat, v = .int .i64 n ∧ n ≤ na ∧ Hid (∀ x, x < n → (auth.getD x nix).size ≤ 100) ∧ wr2 = wr) (fun v _ => na - (intOf v).toNat)
    case atStart => exact ⟨0, rfl, Nat.zero_le _, fun m hm => absurd hm (by omega), rfl⟩
    case round =>
     obtain ⟨n, rfl, hn, HX, rfl⟩ := hrel
     by_cases hlt : n < na
     · have hmi : (n : Int) < (na : Int) := by omega
       obtain ⟨a, rfl, hca1⟩ := HA.out n hlt
       obtain ⟨u, hu⟩ : ∃ u, auth.getD n nix = u := ⟨_, rfl⟩
       have HU : Hid (auth.getD n nix = u) := hu
       rw [hu] at hca1
       clear hu
       by_cases hus : (100 : Int) < u.size
       · go_wp2
         go_ret
         exact HNO.out _ HBW.out _ rfl
       · go_wp2
         go_roundw
         case rel => exact ⟨n + 1, by go_num, hlt, fun x hx => (Nat.lt_succ_iff_lt_or_eq.1 hx).elim (HX.out x) fun e => by rw [e, HU.out]; omega, trivial⟩
         case measure => simp [intOf]; omega
     · obtain rfl : n = na := by omega
       have HXA : Hid (∀ x ∈ auth, x.size ≤ 100) := all_getD (by rw [HNA.out]; exact HX.out)
       clear HX hlt hn
       go_wp2
       go_loopw [5] (fun v wr3 => ∃ (h d : Nat), v = .int .i64 h ∧ h ≤ ns ∧ Hid (∀ x, x < h → (sigs.getD x (nix, nix)).1.size + (sigs.getD x (nix, nix)).2.size ≤ 200) ∧ wr3 = wr.drewN d) (fun v _ => ns - (intOf v).toNat)
       case atStart => exact ⟨0, 0, rfl, Nat.zero_le _, fun m hm => absurd hm (by omega), rfl⟩
       case round =>
        obtain ⟨h, d, rfl, hh, HX, rfl⟩ := hrel
        by_cases hlt : h < ns
        · have hmi : (h : Int) < (ns : Int) := by omega
          obtain ⟨b, o, rfl, hc1, hc2⟩ := HSG.out h hlt
          have hmem : sigs.getD h (nix, nix) ∈ sigs := by
           rw [List.getD_eq_getElem?_getD, List.getElem?_eq_getElem (by rw [HNS.out]; exact hlt)]
           exact List.getElem_mem _
          have hz := HZS.out _ hmem
          obtain ⟨uv, huv⟩ : ∃ u, sigs.getD h (nix, nix) = u := ⟨_, rfl⟩
          have HU : Hid (sigs.getD h (nix, nix) = uv) := huv
          rw [huv] at hc1 hc2 hz
          clear huv hmem
          obtain ⟨u, v⟩ := uv
          obtain ⟨y1, y2⟩ := hz
          simp only at hc1 hc2 y1 y2
          by_cases hus : (200 : Int) < (u.size : Int) + v.size
          · go_wp2
            refine wp_region_quiet_lit (by kernel_rfl) (by kernel_rfl) ?_
            repeat (any_goals (first | go_big_quiet_step (fail) | quiet_step (fail)))
            refine wpQuiet_nil ?_
            intro _ hw
            obtain ⟨nq, hw⟩ := hw
            subst hw
            go_wp2
            go_ret
            exact HNO.out _ (below_in HBW.out (by simpa [World.drewN_drewN] using Id.below_drewN _ _)) _ rfl
          · go_wp2
            refine wp_region_quiet_lit (by kernel_rfl) (by kernel_rfl) ?_
            repeat (any_goals (first | go_big_quiet_step (fail) | quiet_step (fail)))
            refine wpQuiet_nil ?_
            intro _ hw
            obtain ⟨nq, hw⟩ := hw
            subst hw
            go_wp2
            go_roundw
            case rel => exact ⟨h + 1, _, by go_num, hlt, fun x hx => (Nat.lt_succ_iff_lt_or_eq.1 hx).elim (HX.out x) fun e => by rw [e, HU.out]; show u.size + v.size ≤ 200; omega, rfl⟩
            case measure => simp [intOf]; omega
        · obtain rfl : h = ns := by omega
          have hL := HL.out d
          go_wp2_with (go_at_call 36; refine hL.mono ?_; rintro x w4 ⟨⟨r4, rfl, hr4, hr5, hr6⟩, hb4⟩)
          go_ret
          refine ⟨⟨_, rfl, fun hh => ?_⟩, below_in HBW.out (below_in (Id.below_drewN _ _) hb4)⟩
          refine ⟨H1.out, by show prev.length ≤ 30; rw [HNP.out]; omega, HXP.out, by show auth.length ≤ 30; rw [HNA.out]; omega, HXA.out, by show sigs.length ≤ 30; rw [HNS.out]; omega, fun x hx => ?_, hr6 (of_decide_eq_true hh)⟩
          obtain ⟨y, hy, rfl⟩ := List.getElem_of_mem hx
          have := HX.out y (by rw [← HNS.out]; exact hy)
          rw [List.getD_eq_getElem?_getD, List.getElem?_eq_getElem hy] at this
          exact this
end Go.Proofs.YtimhpglfolbomabGreat
namespace Go.Proofs.YtimhpglfolbomabGreat.Od
open Go.RowKit Go.Maps
structure BigPa (p : Pa) : Prop where
 names : p.names.length ≤ 9223372036854775807
 nms : ∀ s ∈ p.names, s.size ≤ 9223372036854775807
 evs : p.evs.length ≤ 9223372036854775807
 ev : ∀ e ∈ p.evs, BigE e
 prev : p.prev.length ≤ 9223372036854775807
 prevs : ∀ r ∈ p.prev, r.length ≤ 9223372036854775807
 auth : p.auth.length ≤ 9223372036854775807
 auths : ∀ r ∈ p.auth, r.length ≤ 9223372036854775807
 den : p.den.length ≤ 9223372036854775807
structure FewPa (p : Pa) : Prop where
 evs : p.evs.length ≤ 25
 names : p.names.length ≤ 30
 prev : p.prev.length ≤ 30
 auth : p.auth.length ≤ 30
 den : p.den.length ≤ 30
 ev : ∀ e ∈ p.evs, FewE e
 nms : ∀ s ∈ p.names, s.size ≤ 100
 prevs : ∀ r ∈ p.prev, r.length ≤ 30
 auths : ∀ r ∈ p.auth, r.length ≤ 30
theorem FewPa.sz {p : Pa} (h : FewPa p) : SzPa p := ⟨h.names, Nat.le_trans h.evs (by decide), h.prev, h.auth, h.den, h.prevs, h.auths⟩
def shortT (P : List (List Int)) : Bool := P.all fun r => decide (r.length ≤ 30)
theorem short_all {P : List (List Int)} (h : ∀ j, j < P.length → (P.getD j []).length ≤ 30) : shortT P = true := by
 unfold shortT
 rw [List.all_eq_true]
 intro r hr
 obtain ⟨j, hj, rfl⟩ := List.getElem_of_mem hr
 have := h j hj
 rw [getD_in hj] at this
 exact decide_eq_true this
theorem short_not {P : List (List Int)} {j : Nat} (hj : j < P.length) (h : ¬ (P.getD j []).length ≤ 30) : shortT P = false := by
 unfold shortT
 rw [List.all_eq_false]
 refine ⟨_, List.getElem_mem hj, ?_⟩
 rw [getD_in hj] at h
 simpa using h
theorem rows12_any (P : List (List Int)) (p : Option Addr) (c : Nat) (w : World) (r : RdR (· < w.heap.size) w p c P) (_hP : P.length ≤ 30) :
    Calls Tryz.prog 12 #[.slice p P.length c] w fun e w' => e = .returned (.bool (shortT P)) ∧ Below w.heap.size w w' := by
 have HR : Hid (∀ X, Below w.heap.size w X → RdR (· < w.heap.size) X p c P) := fun X hX => r.below hX
 have HA : Hid ((∀ j, j < P.length → (P.getD j []).length ≤ 30) → shortT P = true) := short_all
 have HF : Hid (∀ j, j < P.length → ¬ (P.getD j []).length ≤ 30 → shortT P = false) := fun _ => short_not
 have hrc := r.1
 obtain ⟨n, hn⟩ : ∃ n, P.length = n := ⟨_, rfl⟩
 have HN : Hid (P.length = n) := hn
 rw [hn] at HA HF hrc _hP ⊢
 clear hn r
 generalize shortT P = S at *
 go_enter Tryz.func12, Tryz.ntmps12
 go_wp2_with fail
 go_loopw [3] (fun i wr => ∃ k : Nat, k ≤ n ∧ i = .int .i64 k ∧ Below w.heap.size w wr ∧ Hid (∀ j, j < k → (P.getD j []).length ≤ 30)) (fun i _ => n - (intOf i).toNat)
 case atStart => exact ⟨0, Nat.zero_le _, rfl, Below.refl _ _, fun j hj => absurd hj (by omega)⟩
 case round =>
  obtain ⟨k, hk, rfl, hb, HS⟩ := hrel
  by_cases hlt : k < n
  · obtain ⟨b, o, p1, c1, rfl, _, hc, _⟩ := (HR.out wr hb).2 k (by rw [HN.out]; exact hlt)
    have HFk : Hid (¬ (P.getD k []).length ≤ 30 → S = false) := HF.out k hlt
    have HSk : Hid ((P.getD k []).length ≤ 30 → ∀ j, j < k + 1 → (P.getD j []).length ≤ 30) := fun h j hj => by
     rcases Nat.lt_or_ge j k with h' | h'
     · exact HS.out j h'
     · rw [show j = k by omega]; exact h
    generalize (P.getD k []).length = m at hc HFk HSk
    clear HS HF HA
    by_cases hm : m ≤ 30
    · have HX := (show Hid _ from HSk.out hm)
      have hm1 : decide ((30 : Int) < (m : Int)) = false := decide_eq_false (by omega)
      have hm2 : decide (30 < m) = false := decide_eq_false (by omega)
      clear HSk HFk
      go_wp2_with fail
      go_roundw
      case rel => exact ⟨k + 1, by omega, by go_num, hb, HX⟩
      case measure => simp [intOf]; omega
    · have HX : Hid (S = false) := HFk.out hm
      have hm' : 30 < m := by omega
      have hm1 : decide ((30 : Int) < (m : Int)) = true := decide_eq_true (by omega)
      have hm2 : decide (30 < m) = true := decide_eq_true hm'
      clear HSk HFk
      go_wp2_with fail
      go_ret
      exact ⟨ret_bool HX.out.symm, hb⟩
  · obtain rfl : k = n := by omega
    have HX : Hid (S = true) := HA.out HS.out
    clear HA HS HF
    go_wp2_with fail
    go_ret
    exact ⟨ret_bool HX.out.symm, hb⟩
def FewPaP (p : Pa) (w : World) (e : Ending) (w' : World) : Prop := (∃ b : Bool, e = .returned (.bool b) ∧ (b = true → FewPa p)) ∧ Below w.heap.size w w'
theorem FewPaP.no {p : Pa} {w w' : World} (hb : Below w.heap.size w w') : FewPaP p w (.returned (.bool false)) w' := ⟨⟨false, rfl, fun h => by cases h⟩, hb⟩
theorem FewPaP.yes {p : Pa} {w w' : World} {b : Bool} (h : b = true → FewPa p) (hb : Below w.heap.size w w') : FewPaP p w (.returned (.bool b)) w' := ⟨⟨b, rfl, h⟩, hb⟩
theorem few12_any {w : World} {p : Pa} {q : Pq} (h : IsPa (· < w.heap.size) w p q) (hB : BigPa p) : Calls Tryz.prog 5 #[valPa p q] w (FewPaP p w) := by
 obtain ⟨W0, hW0⟩ : ∃ W0, W0 = w.alloc (.cells (cellsPa p q).toArray 27) := ⟨_, rfl⟩
 have hb0 : Below w.heap.size w W0 := by rw [hW0]; exact (Below.refl _ _).alloc (Nat.le_refl _) _
 have V : IsVP W0 w.heap.size p q := by rw [hW0]; exact isVP_new h
 have HV : Hid (∀ X, Below W0.heap.size W0 X → IsVP X w.heap.size p q) := fun X hX => V.below hX
 have HB : Hid (BigPa p) := hB
 have HEV : Hid (∀ X, Below W0.heap.size W0 X → ∀ j, j < p.evs.length → ∃ b o, q.e = some ⟨b, o, none⟩ ∧ ∃ C : List Value, Hid (X.rangeAt b (o + j * 16) C ∧ C.length = 16 ∧ Calls Tryz.prog 11 #[.agg C.toArray] X fun x w' => FewP X w' (evT p j) x)) := fun X hX j hj => by
  obtain ⟨b, o, q', h1, _, h3, h4⟩ := (HV.out X hX).pa.evs.2 j hj
  exact ⟨b, o, h1, cellsE (evT p j) q', h3, rfl, eFew_any _ q' X h4 (fun _ h => h) (HB.out.ev _ (by unfold evT; exact getD_inm hj))⟩
 have c0 := V.c0; have c1 := V.c1; have c2 := V.c2; have c3 := V.c3; have c4 := V.c4
 have HFP : Hid (p.evs.length ≤ 25 → p.names.length ≤ 30 → p.prev.length ≤ 30 → p.auth.length ≤ 30 → p.den.length ≤ 30 → (∀ j, j < p.evs.length → FewE (evT p j)) → (∀ j, j < p.names.length → (nmT p j).size ≤ 100) → shortT p.prev = true → shortT p.auth = true → FewPa p) := fun h1 h2 h3 h4 h5 h6 h7 h8 h9 => ⟨h1, h2, h3, h4, h5, fun e he => by
     obtain ⟨j, hj, rfl⟩ := List.getElem_of_mem he
     have := h6 j hj
     unfold evT at this
     rwa [getD_in hj] at this, fun s hs => by
     obtain ⟨j, hj, rfl⟩ := List.getElem_of_mem hs
     have := h7 j hj
     unfold nmT at this
     rwa [getD_in hj] at this, fun r hr => by
     have := List.all_eq_true.1 h8 r hr
     simpa using this, fun r hr => by
     have := List.all_eq_true.1 h9 r hr
     simpa using this⟩
 have HL : Hid (p.prev.length ≤ 30 → ∀ X, Below W0.heap.size W0 X → Calls Tryz.prog 12 #[.slice q.v p.prev.length q.cv] X fun e w' => e = .returned (.bool (shortT p.prev)) ∧ Below X.heap.size X w') := fun h X hX => rows12_any p.prev q.v q.cv X (HV.out X hX).pa.prev h
 have HM : Hid (p.auth.length ≤ 30 → ∀ X, Below W0.heap.size W0 X → Calls Tryz.prog 12 #[.slice q.a p.auth.length q.ca] X fun e w' => e = .returned (.bool (shortT p.auth)) ∧ Below X.heap.size X w') := fun h X hX => rows12_any p.auth q.a q.ca X (HV.out X hX).pa.auth h
 have HC : Hid (∀ X, Below W0.heap.size W0 X → X.cell? ⟨w.heap.size, 0, none⟩ = some (.slice q.n p.names.length q.cn) ∧ X.cell? ⟨w.heap.size, 1, none⟩ = some (.slice q.e p.evs.length q.ce) ∧ X.cell? ⟨w.heap.size, 2, none⟩ = some (.slice q.v p.prev.length q.cv) ∧ X.cell? ⟨w.heap.size, 3, none⟩ = some (.slice q.a p.auth.length q.ca)) := fun X hX => ⟨(HV.out X hX).c0, (HV.out X hX).c1, (HV.out X hX).c2, (HV.out X hX).c3⟩
 have HNM : Hid (∀ X, Below W0.heap.size W0 X → ∀ j, j < p.names.length → ∃ b o, q.n = some ⟨b, o, none⟩ ∧ X.cell? ⟨b, o + j, none⟩ = some (.string (nmT p j))) := fun X hX j hj => by
  obtain ⟨b, o, h1, _, h3⟩ := (HV.out X hX).pa.names.2 (by rintro h; rw [h] at hj; simp at hj)
  refine ⟨b, o, h1, h3 j (nmT p j) ?_⟩
  unfold nmT
  rw [getD_in hj, List.getElem?_eq_getElem hj]
 have hen := V.pa.evs.1; have hnn := V.pa.names.1
 have hbe := hB.evs; have hbn := hB.names; have hbp := hB.prev; have hba := hB.auth; have hbd := hB.den
 unfold valPa
 generalize cellsPa p q = CP at hW0 ⊢
 generalize p.den.length = nd at *
 generalize p.prev.length = np at *
 generalize p.auth.length = na at *
 generalize p.names.length = nn at *
 generalize p.evs.length = ne at *
 by_cases h1 : ne ≤ 25
 case neg =>
  have h1' : 25 < ne := by omega
  clear HV HEV HB V hB h
  go_enter Tryz.func5, Tryz.ntmps5
  go_upto_region 1 with fail
  rw [← hW0]
  clear hW0
  go_wp2_with fail
  go_ret
  exact FewPaP.no hb0
 by_cases h2 : nn ≤ 30
 case neg =>
  have h2' : 30 < nn := by omega
  clear HV HEV HB V hB h
  go_enter Tryz.func5, Tryz.ntmps5
  go_upto_region 1 with fail
  rw [← hW0]
  clear hW0
  go_wp2_with fail
  go_ret
  exact FewPaP.no hb0
 by_cases h3 : np ≤ 30
 case neg =>
  have h3' : 30 < np := by omega
  clear HV HEV HB V hB h
  go_enter Tryz.func5, Tryz.ntmps5
  go_upto_region 1 with fail
  rw [← hW0]
  clear hW0
  go_wp2_with fail
  go_ret
  exact FewPaP.no hb0
 by_cases h4 : na ≤ 30
 case neg =>
  have h4' : 30 < na := by omega
  clear HV HEV HB V hB h
  go_enter Tryz.func5, Tryz.ntmps5
  go_upto_region 1 with fail
  rw [← hW0]
  clear hW0
  go_wp2_with fail
  go_ret
  exact FewPaP.no hb0
 by_cases h5 : nd ≤ 30
 case neg =>
  have h5' : 30 < nd := by omega
  clear HV HEV HB V hB h
  go_enter Tryz.func5, Tryz.ntmps5
  go_upto_region 1 with fail
  rw [← hW0]
  clear hW0
  go_wp2_with fail
  go_ret
  exact FewPaP.no hb0
 have HL2 := (show Hid _ from HL.out h3)
 have HM2 := (show Hid _ from HM.out h4)
 have HF2 := (show Hid _ from HFP.out h1 h2 h3 h4 h5)
 clear HL HM HFP HV HB V hB h
 go_enter Tryz.func5, Tryz.ntmps5
 go_upto_region 1 with fail
 rw [← hW0]
 clear hW0
 go_upto_region 4 with fail
 go_loopw [3] (fun i wr => ∃ k : Nat, k ≤ ne ∧ i = .int .i64 k ∧ Below W0.heap.size W0 wr ∧ Hid (∀ j, j < k → FewE (evT p j))) (fun i _ => ne - (intOf i).toNat)
 case atStart => exact ⟨0, Nat.zero_le _, rfl, Below.refl _ _, fun j hj => absurd hj (by omega)⟩
 case round =>
  obtain ⟨k, hk, rfl, hb, HS⟩ := hrel
  clear c0 c1 c2 c3 c4
  have c1 := (HC.out wr hb).2.1
  by_cases hlt : k < ne
  · obtain ⟨eb, eo, hqe, C, HCC⟩ := HEV.out wr hb k hlt
    rw [hqe] at c1
    clear hqe
    have HSk : Hid (FewE (evT p k) → ∀ j, j < k + 1 → FewE (evT p j)) := fun h j hj => by
     rcases Nat.lt_or_ge j k with h' | h'
     · exact HS.out j h'
     · rw [show j = k by omega]; exact h
    generalize evT p k = ev at HCC HSk
    have HCA : Hid (Calls Tryz.prog 11 #[.agg C.toArray] wr fun x w' => FewP wr w' ev x) := HCC.out.2.2
    have HLR : Hid ((Instr.loadAt 41 (.pointer (some ⟨eb, eo + k * 16, none⟩))).run Tryz.prog wr = .ok (.agg C.toArray) wr) := run_loadAt_mid wr eb (eo + k * 16) 41 C _ HCC.out.1 Tryz.underlying41 rfl (by rw [HCC.out.2.1]; exact infoE)
    clear HS HCC HF2
    go_wp2_with (first
     | (refine wpList_loadK rfl 41 _ rfl eb (eo + k * 16) rfl C HLR.out ?_)
     | (go_at_call 11; refine HCA.out.mono ?_; rintro x w1 ⟨⟨b1, rfl, hf1⟩, hb1⟩; cases b1; have hN1 := hb1; clear hb1))
    · go_ret
      exact FewPaP.no (belowP hb0 (belowP hb hN1))
    · have HX := (show Hid _ from HSk.out (hf1 trivial))
      clear hf1 HSk
      go_roundw
      case rel => exact ⟨k + 1, by omega, by go_num, belowP hb hb1, HX⟩
      case measure => simp [intOf]; omega
  · obtain rfl : k = ne := by omega
    have HS2 := (show Hid _ from HF2.out HS.out)
    clear HS HF2
    have c0 := (HC.out wr hb).1
    go_upto_region 9 with fail
    go_loopw [4] (fun i wx => ∃ m : Nat, m ≤ nn ∧ i = .int .i64 m ∧ Below wr.heap.size wr wx ∧ Hid (∀ j, j < m → (nmT p j).size ≤ 100)) (fun i _ => nn - (intOf i).toNat)
    case atStart => exact ⟨0, Nat.zero_le _, rfl, Below.refl _ _, fun j hj => absurd hj (by omega)⟩
    case round =>
     obtain ⟨m, hm, rfl, hbx, HS⟩ := hrel
     have hbW := belowP hb hbx
     clear c0
     obtain ⟨c0, _, c2, c3⟩ := HC.out _ hbW
     by_cases hlt : m < nn
     · obtain ⟨nb, no, hqn, hcn⟩ := HNM.out _ hbW m hlt
       rw [hqn] at c0
       clear hqn c2 c3
       have HSk : Hid ((nmT p m).size ≤ 100 → ∀ j, j < m + 1 → (nmT p j).size ≤ 100) := fun h j hj => by
        rcases Nat.lt_or_ge j m with h' | h'
        · exact HS.out j h'
        · rw [show j = m by omega]; exact h
       generalize nmT p m = s at hcn HSk
       clear HS HS2
       by_cases hs : s.size ≤ 100
       · have HX := (show Hid _ from HSk.out hs)
         have hs1 : decide ((100 : Int) < (s.size : Int)) = false := decide_eq_false (by omega)
         have hs2 : decide (100 < s.size) = false := decide_eq_false (by omega)
         clear HSk
         go_wp2_with fail
         go_roundw
         case rel => exact ⟨m + 1, by omega, by go_num, hbx, HX⟩
         case measure => simp [intOf]; omega
       · have hs' : 100 < s.size := by omega
         have hs1 : decide ((100 : Int) < (s.size : Int)) = true := decide_eq_true (by omega)
         have hs2 : decide (100 < s.size) = true := decide_eq_true hs'
         clear HSk
         go_wp2_with fail
         go_ret
         exact FewPaP.no (belowP hb0 hbW)
     · obtain rfl : m = nn := by omega
       have HS3 := (show Hid _ from HS2.out HS.out)
       have hP := HL2.out _ hbW
       clear HS HS2
       generalize shortT p.prev = sp at hP HS3
       generalize shortT p.auth = sa at HM2 HS3
       cases sp with
       | false =>
        clear HS3
        go_wp2_with (go_at_call 12; refine hP.mono ?_; rintro x w3 ⟨rfl, hb3⟩)
        go_ret
        exact FewPaP.no (belowP hb0 (belowP hbW hb3))
       | true =>
        go_wp2_with (first
         | (go_at_call 12; refine hP.mono ?_; rintro x w3 ⟨rfl, hb3⟩; have c3 := (HC.out _ (belowP hbW hb3)).2.2.2; have hA := HM2.out _ (belowP hbW hb3); clear hP)
         | (go_at_call 12; refine hA.mono ?_; rintro x w4 ⟨rfl, hb4⟩))
        go_ret
        refine FewPaP.yes (fun h => HS3.out trivial h) (belowP hb0 (belowP hbW (belowP hb3 hb4)))
theorem rbelow_any {O : Nat → Prop} (l : List Int) (n : Nat) (p : Option Addr) (c : Nat) (w : World) (r : RdI O w p c l) (_hl : l.length ≤ 1000) :
    Calls Tryz.prog 51 #[.slice p l.length c, .int .i64 (n : Int)] w fun e w' => e = .returned (.bool (belowT l n)) ∧ w = w' := by
 obtain ⟨m, hm⟩ : ∃ m, l.length = m := ⟨_, rfl⟩
 have HM : Hid (l.length = m) := hm
 have HB : Hid (belowT l n = l.all fun j => decide (0 ≤ j ∧ j < (n : Int))) := rfl
 rw [hm] at _hl ⊢
 clear hm
 go_enter Tryz.func51, Tryz.ntmps51
 go_wp2
 go_loopw [5] (fun i wx => ∃ j : Nat, j ≤ m ∧ i = .int .i64 j ∧ wx = w ∧ Hid ((l.take j).all (fun p => decide (0 ≤ p ∧ p < (n : Int))) = true)) (fun i _ => m - (intOf i).toNat)
 case atStart => exact ⟨0, Nat.zero_le _, rfl, rfl, by show _ = _; simp⟩
 case round =>
  obtain ⟨j, hj, rfl, rfl, HA⟩ := hrel
  by_cases hjt : j < m
  · have hjt' : j < l.length := by rw [HM.out]; exact hjt
    obtain ⟨ad, rfl, _, hc1⟩ := r.at j 0 hjt'
    have HT2 : Hid _ := all_next (fun p => decide (0 ≤ p ∧ p < (n : Int))) l j 0 hjt'
    have HB2 : Hid ((decide (0 ≤ l.getD j 0 ∧ l.getD j 0 < (n : Int))) = false → belowT l n = false) := fun h => all_bad (d := 0) hjt' h
    generalize l.getD j 0 = x at *
    by_cases h0 : x < 0
    · have d0 : decide (x < 0) = true := decide_eq_true h0
      have HF : Hid (belowT l n = false) := HB2.out (by simp; omega)
      go_wp2
      go_ret
      exact ⟨ret_bool HF.out.symm, rfl⟩
    · have d0 : decide (x < 0) = false := decide_eq_false h0
      by_cases h1 : (n : Int) ≤ x
      · have HF : Hid (belowT l n = false) := HB2.out (by simp; omega)
        have d1 : decide ((n : Int) ≤ x) = true := decide_eq_true h1
        go_wp2
        go_ret
        exact ⟨ret_bool HF.out.symm, rfl⟩
      · have d1 : decide ((n : Int) ≤ x) = false := decide_eq_false h1
        go_wp2
        go_roundw
        case rel => exact ⟨j + 1, by omega, by go_num, by first | rfl | trivial, by show _ = _; rw [HT2.out, HA.out]; simp; omega⟩
        case measure => simp [intOf]; omega
  · obtain rfl : j = m := by omega
    have HF : Hid (belowT l n = true) := by
     show _ = _
     have := HA.out
     rw [← HM.out, List.take_length] at this
     rw [HB.out, this]
    go_wp2
    go_ret
    exact ⟨ret_bool HF.out.symm, rfl⟩
theorem rin_any {O : Nat → Prop} (l : List Int) (n : Int) (p : Option Addr) (c : Nat) (w : World) (r : RdI O w p c l) (_hl : l.length ≤ 1000) :
    Calls Tryz.prog 53 #[.int .i64 n, .slice p l.length c] w fun e w' => e = .returned (.bool (decide (n ∈ l))) ∧ w = w' := by
 obtain ⟨m, hm⟩ : ∃ m, l.length = m := ⟨_, rfl⟩
 have HM : Hid (l.length = m) := hm
 have HX : Hid ((∀ j, j < l.length → l.getD j 0 ≠ n) → n ∉ l) := fun h hn => by
  obtain ⟨j, hj, e⟩ := List.getElem_of_mem hn
  exact h j hj (by rw [getD_in hj]; exact e)
 have HY : Hid (∀ j, j < l.length → l.getD j 0 = n → n ∈ l) := fun j hj e => by rw [← e, getD_in hj]; exact List.getElem_mem hj
 rw [hm] at _hl ⊢
 clear hm
 go_enter Tryz.func53, Tryz.ntmps53
 go_wp2
 go_loopw [5] (fun i wx => ∃ j : Nat, j ≤ m ∧ i = .int .i64 j ∧ wx = w ∧ Hid (∀ i, i < j → l.getD i 0 ≠ n)) (fun i _ => m - (intOf i).toNat)
 case atStart => exact ⟨0, Nat.zero_le _, rfl, rfl, fun j hj => absurd hj (by omega)⟩
 case round =>
  obtain ⟨j, hj, rfl, rfl, HA⟩ := hrel
  by_cases hjt : j < m
  · have hjt' : j < l.length := by rw [HM.out]; exact hjt
    obtain ⟨ad, rfl, _, hc1⟩ := r.at j 0 hjt'
    have HYj : Hid (l.getD j 0 = n → n ∈ l) := HY.out j hjt'
    have HAj : Hid (l.getD j 0 ≠ n → ∀ i, i < j + 1 → l.getD i 0 ≠ n) := fun h i hi => by
     rcases Nat.lt_or_ge i j with h' | h'
     · exact HA.out i h'
     · rw [show i = j by omega]; exact h
    generalize l.getD j 0 = x at *
    by_cases h0 : x = n
    · subst h0
      have HF : Hid (x ∈ l) := HYj.out rfl
      clear HA HAj HYj HX HY
      go_wp2
      go_ret
      exact ⟨ret_bool (decide_eq_true HF.out).symm, rfl⟩
    · have d0 : (x == n) = false := by simpa using h0
      have HF := (show Hid _ from HAj.out h0)
      clear HA HAj HYj HX HY
      go_wp2
      go_roundw
      case rel => exact ⟨j + 1, by omega, by go_num, by first | rfl | trivial, HF⟩
      case measure => simp [intOf]; omega
  · obtain rfl : j = m := by omega
    have HF : Hid (n ∉ l) := HX.out (by rw [HM.out]; exact HA.out)
    clear HX HY HA
    go_wp2
    go_ret
    exact ⟨ret_bool (decide_eq_false HF.out).symm, rfl⟩
theorem back_all {P : List (List Int)} {n : Nat} (hl : P.length = n) (h : ∀ j, j < n → belowT (P.getD j []) j = true) : backT P n = true := by
 unfold backT
 rw [Bool.and_eq_true, List.all_eq_true]
 exact ⟨fun j hj => h j (by rw [← hl]; exact List.mem_range.1 hj), decide_eq_true hl⟩
theorem back_bad {P : List (List Int)} {n j : Nat} (hj : j < P.length) (h : belowT (P.getD j []) j = false) : backT P n = false := by
 unfold backT
 rw [range_bad (f := fun i => belowT (P.getD i []) i) hj h]
 rfl
theorem back_len {P : List (List Int)} {n : Nat} (h : P.length ≠ n) : backT P n = false := by
 unfold backT
 rw [decide_eq_false h, Bool.and_false]
theorem rright_any {w : World} {p : Pa} {q : Pq} (h : IsPa (· < w.heap.size) w p q) (hz : SzPa p) :
    Calls Tryz.prog 20 #[valPa p q] w fun e w' => e = .returned (.bool (rightT p)) ∧ Below w.heap.size w w' := by
 obtain ⟨W0, hW0⟩ : ∃ W0, W0 = w.alloc (.cells (cellsPa p q).toArray 27) := ⟨_, rfl⟩
 have hb0 : Below w.heap.size w W0 := by rw [hW0]; exact (Below.refl _ _).alloc (Nat.le_refl _) _
 have V : IsVP W0 w.heap.size p q := by rw [hW0]; exact isVP_new h
 have c0 := V.c0; have c1 := V.c1; have c2 := V.c2; have c3 := V.c3; have c4 := V.c4
 have HR : Hid (rightT p = (decide (p.names.length = p.evs.length) && decide (p.den.length = p.evs.length) && backT p.prev p.evs.length && backT p.auth p.evs.length)) := rfl
 have HRP : Hid (∀ j, j < p.prev.length → ∃ b o p1 c1, q.v = some ⟨b, o, none⟩ ∧ W0.cell? ⟨b, o + j, none⟩ = some (.slice p1 (p.prev.getD j []).length c1) ∧ Hid (Calls Tryz.prog 51 #[.slice p1 (p.prev.getD j []).length c1, .int .i64 (j : Int)] W0 fun e w' => e = .returned (.bool (belowT (p.prev.getD j []) j)) ∧ W0 = w')) := fun j hj => by
  obtain ⟨b, o, p1, c1, h1, _, h3, h4⟩ := V.pa.prev.2 j hj
  exact ⟨b, o, p1, c1, h1, h3, rbelow_any _ j p1 c1 W0 h4 (by have := hz.prevs _ (getD_inm (d := []) hj); omega)⟩
 have HRA : Hid (∀ j, j < p.auth.length → ∃ b o p1 c1, q.a = some ⟨b, o, none⟩ ∧ W0.cell? ⟨b, o + j, none⟩ = some (.slice p1 (p.auth.getD j []).length c1) ∧ Hid (Calls Tryz.prog 51 #[.slice p1 (p.auth.getD j []).length c1, .int .i64 (j : Int)] W0 fun e w' => e = .returned (.bool (belowT (p.auth.getD j []) j)) ∧ W0 = w')) := fun j hj => by
  obtain ⟨b, o, p1, c1, h1, _, h3, h4⟩ := V.pa.auth.2 j hj
  exact ⟨b, o, p1, c1, h1, h3, rbelow_any _ j p1 c1 W0 h4 (by have := hz.auths _ (getD_inm (d := []) hj); omega)⟩
 have HL2 : Hid (p.prev.length ≠ p.evs.length → rightT p = false) := fun h => by rw [HR.out, back_len h]; simp
 have HL3 : Hid (p.auth.length ≠ p.evs.length → rightT p = false) := fun h => by rw [HR.out, back_len h]; simp
 have HL0 : Hid (p.names.length ≠ p.evs.length → rightT p = false) := fun h => by rw [HR.out, decide_eq_false h]; simp
 have HL4 : Hid (p.den.length ≠ p.evs.length → rightT p = false) := fun h => by rw [HR.out, decide_eq_false h]; simp
 have HB2 : Hid (∀ j, j < p.prev.length → belowT (p.prev.getD j []) j = false → rightT p = false) := fun j hj h => by rw [HR.out, back_bad hj h]; simp
 have HB3 : Hid (∀ j, j < p.auth.length → belowT (p.auth.getD j []) j = false → rightT p = false) := fun j hj h => by rw [HR.out, back_bad hj h]; simp
 have HTT : Hid (p.names.length = p.evs.length → p.prev.length = p.evs.length → p.auth.length = p.evs.length → p.den.length = p.evs.length → (∀ j, j < p.evs.length → belowT (p.prev.getD j []) j = true ∧ belowT (p.auth.getD j []) j = true) → rightT p = true) := fun a b c d e => by
  rw [HR.out, decide_eq_true a, decide_eq_true d, back_all b fun j hj => (e j hj).1, back_all c fun j hj => (e j hj).2]; rfl
 have z1 := hz.evs
 have v2 := V.pa.prev.1; have v3 := V.pa.auth.1
 clear HR V h hz
 unfold valPa
 generalize cellsPa p q = CP at hW0 ⊢
 generalize rightT p = R at *
 generalize p.names.length = n0 at *
 generalize p.evs.length = n1 at *
 generalize p.prev.length = n2 at *
 generalize p.auth.length = n3 at *
 generalize p.den.length = n4 at *
 by_cases h0 : n0 = n1
 case neg =>
  have HF : Hid (R = false) := HL0.out h0
  have e0 : ((n0 : Int) == (n1 : Int)) = false := by rw [beq_eq_false_iff_ne]; omega
  have e0' : ((n0 : Int) != (n1 : Int)) = true := by rw [bne_iff_ne]; omega
  clear HRP HRA HL0 HL2 HL3 HL4 HB2 HB3 HTT
  go_enter Tryz.func20, Tryz.ntmps20
  go_upto_region 1 with fail
  rw [← hW0]
  clear hW0
  go_wp2_with fail
  go_ret
  exact ⟨ret_bool HF.out.symm, hb0⟩
 subst h0
 by_cases h2 : n2 = n0
 case neg =>
  have HF : Hid (R = false) := HL2.out h2
  have e0 : ((n2 : Int) == (n0 : Int)) = false := by rw [beq_eq_false_iff_ne]; omega
  have e0' : ((n2 : Int) != (n0 : Int)) = true := by rw [bne_iff_ne]; omega
  clear HRP HRA HL0 HL2 HL3 HL4 HB2 HB3 HTT
  go_enter Tryz.func20, Tryz.ntmps20
  go_upto_region 1 with fail
  rw [← hW0]
  clear hW0
  go_wp2_with fail
  go_ret
  exact ⟨ret_bool HF.out.symm, hb0⟩
 subst h2
 by_cases h3 : n3 = n2
 case neg =>
  have HF : Hid (R = false) := HL3.out h3
  have e0 : ((n3 : Int) == (n2 : Int)) = false := by rw [beq_eq_false_iff_ne]; omega
  have e0' : ((n3 : Int) != (n2 : Int)) = true := by rw [bne_iff_ne]; omega
  clear HRP HRA HL0 HL2 HL3 HL4 HB2 HB3 HTT
  go_enter Tryz.func20, Tryz.ntmps20
  go_upto_region 1 with fail
  rw [← hW0]
  clear hW0
  go_wp2_with fail
  go_ret
  exact ⟨ret_bool HF.out.symm, hb0⟩
 subst h3
 by_cases h4 : n4 = n3
 case neg =>
  have HF : Hid (R = false) := HL4.out h4
  have e0 : ((n4 : Int) == (n3 : Int)) = false := by rw [beq_eq_false_iff_ne]; omega
  have e0' : ((n4 : Int) != (n3 : Int)) = true := by rw [bne_iff_ne]; omega
  clear HRP HRA HL0 HL2 HL3 HL4 HB2 HB3 HTT
  go_enter Tryz.func20, Tryz.ntmps20
  go_upto_region 1 with fail
  rw [← hW0]
  clear hW0
  go_wp2_with fail
  go_ret
  exact ⟨ret_bool HF.out.symm, hb0⟩
 subst h4
 have HT2 := (show Hid _ from HTT.out rfl rfl rfl rfl)
 clear HTT HL0 HL2 HL3 HL4
 go_enter Tryz.func20, Tryz.ntmps20
 go_upto_region 1 with fail
 rw [← hW0]
 clear hW0
 go_upto_region 5 with fail
 go_loopw [4] (fun i wr => ∃ k : Nat, k ≤ n4 ∧ i = .int .i64 k ∧ wr = W0 ∧ Hid (∀ j, j < k → belowT (p.prev.getD j []) j = true ∧ belowT (p.auth.getD j []) j = true)) (fun i _ => n4 - (intOf i).toNat)
 case atStart => exact ⟨0, Nat.zero_le _, rfl, rfl, fun j hj => absurd hj (by omega)⟩
 case round =>
  obtain ⟨k, hk, rfl, rfl, HS⟩ := hrel
  by_cases hlt : k < n4
  · obtain ⟨vb, vo, p1, d1, hqv, hcv, HCV⟩ := HRP.out k hlt
    obtain ⟨ab, ao, p2, d2, hqa, hca, HCA⟩ := HRA.out k hlt
    rw [hqv] at c2
    rw [hqa] at c3
    have HB2k := (show Hid _ from HB2.out k hlt)
    have HB3k := (show Hid _ from HB3.out k hlt)
    have HSk : Hid (belowT (p.prev.getD k []) k = true → belowT (p.auth.getD k []) k = true → ∀ j, j < k + 1 → belowT (p.prev.getD j []) j = true ∧ belowT (p.auth.getD j []) j = true) := fun h h' j hj => by
     rcases Nat.lt_or_ge j k with h'' | h''
     · exact HS.out j h''
     · rw [show j = k by omega]; exact ⟨h, h'⟩
    clear hqv hqa HS HRP HRA HB2 HB3 HT2
    generalize belowT (p.prev.getD k []) k = b1 at HCV HB2k HSk
    generalize belowT (p.auth.getD k []) k = b2 at HCA HB3k HSk
    generalize (p.prev.getD k []).length = m1 at hcv HCV
    generalize (p.auth.getD k []).length = m2 at hca HCA
    cases b1 with
    | false =>
     have HF : Hid (R = false) := HB2k.out rfl
     clear HB2k HB3k HSk HCA
     go_wp2_with (go_at_call 51; refine HCV.out.mono ?_; rintro e w' ⟨rfl, rfl⟩)
     go_ret
     exact ⟨ret_bool HF.out.symm, hb0⟩
    | true =>
     cases b2 with
     | false =>
      have HF : Hid (R = false) := HB3k.out rfl
      clear HB2k HB3k HSk
      go_wp2_with (first
       | (go_at_call 51; have _hh := HCV; refine HCV.out.mono ?_; rintro e w' ⟨rfl, rfl⟩; clear HCV _hh)
       | (go_at_call 51; refine HCA.out.mono ?_; rintro e w' ⟨rfl, rfl⟩))
      go_ret
      exact ⟨ret_bool HF.out.symm, hb0⟩
     | true =>
      have HX := (show Hid _ from HSk.out rfl rfl)
      clear HB2k HB3k HSk
      go_wp2_with (first
       | (go_at_call 51; have _hh := HCV; refine HCV.out.mono ?_; rintro e w' ⟨rfl, rfl⟩; clear HCV _hh)
       | (go_at_call 51; refine HCA.out.mono ?_; rintro e w' ⟨rfl, rfl⟩))
      go_roundw
      case rel => exact ⟨k + 1, by omega, by go_num, by first | rfl | trivial, HX⟩
      case measure => simp [intOf]; omega
  · obtain rfl : k = n4 := by omega
    have HF : Hid (R = true) := HT2.out HS.out
    clear HS HT2 HRP HRA HB2 HB3
    go_wp2_with fail
    go_ret
    exact ⟨ret_bool HF.out.symm, hb0⟩
def rleanV : Option Nat → Int
 | some j => (j : Int)
 | none => -1
theorem cell_ltS {w : World} {a : Addr} {v : Value} (h : w.cell? a = some v) : a.block < w.heap.size := by
 rcases Nat.lt_or_ge a.block w.heap.size with h' | h'
 · exact h'
 · simp [World.cell?, Array.getElem?_eq_none h'] at h
theorem setRow_newS (w : World) (z cs : Array Value) (t : Nat) : ((w.alloc (.cells z t)).setRow w.heap.size cs).heap[w.heap.size]? = some (.cells cs t (0, 0)) := setRow_heap _ _ _ _ _ _ (heap_alloc_new _ _)
theorem below_setRowS (w : World) (z cs : Array Value) (t : Nat) : Below w.heap.size w ((w.alloc (.cells z t)).setRow w.heap.size cs) := by
 have hk := keep_setRow (w.alloc (.cells z t)) w.heap.size cs
 exact (below_al w _).trans (hk.below (by simp) fun k hk e => by unfold OneP at e; omega)
theorem rleans_any {w : World} {p : Pa} {q : Pq} (h : IsPa (· < w.heap.size) w p q) (hz : SzPa p) (hr : backT p.auth p.evs.length = true) (i : Nat) (hi : i < p.evs.length) (kind : ByteArray) :
    Calls Tryz.prog 52 #[valPa p q, .int .i64 (i : Int), .string kind] w fun e w' => e = .returned (.int .i64 (rleanV (leansT p i kind))) ∧ Below w.heap.size w w' := by
 obtain ⟨W0, hW0⟩ : ∃ W0, W0 = w.alloc (.cells (cellsPa p q).toArray 27) := ⟨_, rfl⟩
 have hb0 : Below w.heap.size w W0 := by rw [hW0]; exact (Below.refl _ _).alloc (Nat.le_refl _) _
 have V : IsVP W0 w.heap.size p q := by rw [hW0]; exact isVP_new h
 have HV : Hid (∀ X, Below W0.heap.size W0 X → IsVP X w.heap.size p q) := fun X hX => V.below hX
 obtain ⟨ab, ao, p1, k1, hqa, _, hcr0, hrr0⟩ := V.pa.auth.2 i (by rw [(back_of hr).2.2]; exact hi)
 obtain ⟨hI, hQ, hA⟩ := back_of hr
 have hpq := par_toQ hI i
 rw [← hpq, zs_len] at hcr0
 rw [← hpq] at hrr0
 have hrl := row_len hz hr hi
 have HLT : Hid (∀ x ∈ par (toQ p.auth) i, x < i) := hQ i
 have HEV : Hid (∀ X, Below W0.heap.size W0 X → ∀ j, j < p.evs.length → ∃ b o, q.e = some ⟨b, o, none⟩ ∧ ∃ C : List Value, Hid (X.rangeAt b (o + j * 16) C ∧ C.length = 16 ∧ C.toArray.all (·.oneCell') = true ∧ C[1]? = some (.string (evT p j).typ) ∧ C[3]? = some (.bool (evT p j).st) ∧ C[4]? = some (.string (evT p j).key))) := fun X hX j hj => by
  obtain ⟨b, o, q', h1, _, h3, h4⟩ := (HV.out X hX).pa.evs.2 j hj
  exact ⟨b, o, h1, cellsE (evT p j) q', h3, rfl, one_E _ _, rfl, rfl, rfl⟩
 have HF : Hid (leansT p i kind = (par (toQ p.auth) i).find? fun j => isT (evT p j) kind) := rfl
 have HCA : Hid (∀ X, Below W0.heap.size W0 X → X.cell? ⟨w.heap.size, 3, none⟩ = some (.slice (some ⟨ab, ao, none⟩) p.evs.length q.ca) ∧ X.cell? ⟨ab, ao + i, none⟩ = some (.slice p1 (par (toQ p.auth) i).length k1)) := fun X hX => by
  have h3 := (HV.out X hX).c3
  rw [hqa, hA] at h3
  refine ⟨h3, (hX.cell (p := ⟨ab, ao + i, none⟩) (cell_ltS hcr0)).trans hcr0⟩
 have HCE : Hid (∀ X, Below W0.heap.size W0 X → X.cell? ⟨w.heap.size, 1, none⟩ = some (.slice q.e p.evs.length q.ce)) := fun X hX => (HV.out X hX).c1
 have HRR : Hid (∀ X, Below W0.heap.size W0 X → RdI (· < W0.heap.size) X p1 k1 (zs (par (toQ p.auth) i))) := fun X hX => hrr0.below hX
 have hel := V.pa.evs.1
 have hen := hz.evs
 have hal := V.pa.auth.1
 rw [hA] at hal
 have hzl := zs_len (par (toQ p.auth) i)
 have hcm := hrr0.1
 generalize toQ p.auth = Q at *
 generalize hLT : leansT p i kind = LT at *
 clear hLT
 generalize p.evs.length = n1 at *
 obtain ⟨m, hm⟩ : ∃ m, (par Q i).length = m := ⟨_, rfl⟩
 have HM : Hid ((par Q i).length = m) := hm
 rw [hm] at hrl hzl HCA
 rw [hzl] at hcm
 clear hm V h hz hr hI hQ hA hpq hcr0 hrr0 hqa HV
 unfold valPa
 generalize hCP : cellsPa p q = CP at *
 clear hCP
 go_enter Tryz.func52, Tryz.ntmps52
 go_upto_region 1 with fail
 rw [← hW0]
 clear hW0
 go_upto_region 2 with fail
 go_loopw [7] (fun v wr => ∃ k : Nat, k ≤ m ∧ v = .int .i64 k ∧ Below W0.heap.size W0 wr ∧ Hid (((par Q i).take k).find? (fun j => isT (evT p j) kind) = none)) (fun v _ => m - (intOf v).toNat)
 case atStart => exact ⟨0, Nat.zero_le _, rfl, Below.refl _ _, by show _ = _; simp⟩
 case round =>
  obtain ⟨k, hk, rfl, hb, HN⟩ := hrel
  obtain ⟨a3, ar⟩ := HCA.out wr hb
  by_cases hlt : k < m
  · have hkl : k < (par Q i).length := by rw [HM.out]; exact hlt
    obtain ⟨ad2, hp1, _, _⟩ := (HRR.out wr hb).at k 0 (by rw [hzl]; exact hlt)
    obtain ⟨rb, ro, hpr, _, _⟩ := (HRR.out wr hb).2 (by intro h0; have := congrArg List.length h0; rw [hzl] at this; simp at this; omega)
    have HRX : Hid (∀ X, Below W0.heap.size W0 X → X.cell? ⟨rb, ro + k, none⟩ = some (.int .i64 ((par Q i).getD k 0 : Nat))) := fun X hX => by
     obtain ⟨ad3, h1, _, h3⟩ := (HRR.out X hX).at k 0 (by rw [hzl]; exact hlt)
     rw [zs_getD] at h3
     rw [hpr] at h1
     cases h1
     rw [add_flat] at h3
     exact h3
    have hx := HLT.out _ (getD_inm (d := 0) hkl)
    have HN1 : Hid (isT (evT p ((par Q i).getD k 0)) kind = false → ((par Q i).take (k + 1)).find? (fun j => isT (evT p j) kind) = none) := fun h => find_none HN.out hkl h
    have HN2 : Hid (isT (evT p ((par Q i).getD k 0)) kind = true → LT = some ((par Q i).getD k 0)) := fun h => by rw [HF.out]; exact find_some HN.out hkl h
    generalize (par Q i).getD k 0 = x at *
    have hxn : x < n1 := by omega
    obtain ⟨eb, eo, hqe, C, HC⟩ := HEV.out wr hb x hxn
    have HEX : Hid (∀ X, Below wr.heap.size wr X → (Instr.loadAt 41 (.pointer (some ⟨eb, eo + x * 16, none⟩))).run Tryz.prog X = .ok (.agg C.toArray) X) := fun X hX => run_loadAt_mid X eb (eo + x * 16) 41 C _ (fun j v hv => by
     have h1 := HC.out.1 j v hv
     exact (hX.cell (p := ⟨eb, _, none⟩) (cell_ltS h1)).trans h1) Tryz.underlying41 rfl (by rw [HC.out.2.1]; exact infoE)
    have HXX : Hid (∀ X, Below wr.heap.size wr X → X.cell? ⟨w.heap.size, 1, none⟩ = some (.slice (some ⟨eb, eo, none⟩) n1 q.ce) ∧ X.cell? ⟨w.heap.size, 3, none⟩ = some (.slice (some ⟨ab, ao, none⟩) n1 q.ca) ∧ X.cell? ⟨ab, ao + i, none⟩ = some (.slice (some ⟨rb, ro, none⟩) m k1) ∧ X.cell? ⟨rb, ro + k, none⟩ = some (.int .i64 (x : Int))) := fun X hX => by
     have h1 := HCE.out X (belowP hb hX)
     rw [hqe] at h1
     obtain ⟨h2, h3⟩ := HCA.out X (belowP hb hX)
     rw [hpr] at h3
     exact ⟨h1, h2, h3, HRX.out X (belowP hb hX)⟩
    have HIT : Hid (isT (evT p x) kind = ((evT p x).st && (((evT p x).typ.toList == kind.toList) && ((evT p x).key.toList == [])))) := by show _ = _; unfold isT eqT; rw [show (⟨#[]⟩ : ByteArray).toList = [] from lit_nix]
    have HC2 : Hid (C.length = 16 ∧ C.toArray.all (·.oneCell') = true) := ⟨HC.out.2.1, HC.out.2.2.1⟩
    have HC3 : Hid (∀ X : World, X.heap[wr.heap.size]? = some (.cells C.toArray 41 (0, 0)) → X.cell? ⟨wr.heap.size, 1, none⟩ = some (.string (evT p x).typ) ∧ X.cell? ⟨wr.heap.size, 3, none⟩ = some (.bool (evT p x).st) ∧ X.cell? ⟨wr.heap.size, 4, none⟩ = some (.string (evT p x).key)) := fun X hX => ⟨cell_row hX 1 _ HC.out.2.2.2.1, cell_row hX 3 _ HC.out.2.2.2.2.1, cell_row hX 4 _ HC.out.2.2.2.2.2⟩
    clear hp1 HRR HRX HEV HCE HC hqe HF HN HLT HM hx hkl
    subst hpr
    generalize (evT p x).typ = typ at *
    generalize (evT p x).st = st at *
    generalize (evT p x).key = key at *
    generalize isT (evT p x) kind = IT at *
    go_upto_region 4 with fail
    clear a3 ar
    refine wp_region_in (by kernel_rfl) (fun w' => Below wr.heap.size wr w') ?_
    change wpIn _ _ _ _ _ _ _ _ (World.drew _)
    have hD : Below wr.heap.size wr wr.drew := (Below.refl _ _).drew
    refine wpIn_take (i := 0) (d := (some 19)) (v := .pointer (some ⟨w.heap.size, 1, none⟩)) (a' := ?aw0) rfl rfl (by kernel_rfl) (by kernel_rfl) (by kernel_rfl) (fun _ _ _ h => h) (Or.inl ⟨by rfl, ?yw0⟩) ?fw0 ?_
    case yw0 => (intro wq hq; obtain ⟨g1, g2, g3, g4⟩ := HXX.out wq hq; go_simp; first | done | with_reducible rfl)
    case fw0 => (go_frame; rfl)
    refine wpIn_take (i := 1) (d := (some 20)) (v := .slice (some ⟨eb, eo, none⟩) n1 q.ce) (a' := ?aw1) rfl rfl (by kernel_rfl) (by kernel_rfl) (by kernel_rfl) (fun _ _ _ h => h) (Or.inl ⟨by rfl, ?yw1⟩) ?fw1 ?_
    case yw1 => (intro wq hq; obtain ⟨g1, g2, g3, g4⟩ := HXX.out wq hq; go_simp; first | done | with_reducible rfl)
    case fw1 => (go_frame; rfl)
    refine wpIn_take (i := 2) (d := (some 21)) (v := .pointer (some ⟨w.heap.size, 3, none⟩)) (a' := ?aw2) rfl rfl (by kernel_rfl) (by kernel_rfl) (by kernel_rfl) (fun _ _ _ h => h) (Or.inl ⟨by rfl, ?yw2⟩) ?fw2 ?_
    case yw2 => (intro wq hq; obtain ⟨g1, g2, g3, g4⟩ := HXX.out wq hq; go_simp; first | done | with_reducible rfl)
    case fw2 => (go_frame; rfl)
    refine wpIn_take (i := 3) (d := (some 22)) (v := .slice (some ⟨ab, ao, none⟩) n1 q.ca) (a' := ?aw3) rfl rfl (by kernel_rfl) (by kernel_rfl) (by kernel_rfl) (fun _ _ _ h => h) (Or.inl ⟨by rfl, ?yw3⟩) ?fw3 ?_
    case yw3 => (intro wq hq; obtain ⟨g1, g2, g3, g4⟩ := HXX.out wq hq; go_simp; first | done | with_reducible rfl)
    case fw3 => (go_frame; rfl)
    refine wpIn_take (i := 4) (d := (some 23)) (v := .int .i64 (i : Int)) (a' := ?aw4) rfl rfl (by kernel_rfl) (by kernel_rfl) (by kernel_rfl) (fun _ _ _ h => h) (Or.inl ⟨by rfl, ?yw4⟩) ?fw4 ?_
    case yw4 => (intro wq hq; obtain ⟨g1, g2, g3, g4⟩ := HXX.out wq hq; go_simp; first | done | with_reducible rfl)
    case fw4 => (go_frame; rfl)
    refine wpIn_take (i := 5) (d := (some 24)) (v := .pointer (some ⟨ab, ao + i, none⟩)) (a' := ?aw5) rfl rfl (by kernel_rfl) (by kernel_rfl) (by kernel_rfl) (fun _ _ _ h => h) (Or.inl ⟨by rfl, ?yw5⟩) ?fw5 ?_
    case yw5 => (intro wq hq; obtain ⟨g1, g2, g3, g4⟩ := HXX.out wq hq; go_simp; first | done | with_reducible rfl)
    case fw5 => (go_frame; rfl)
    refine wpIn_take (i := 6) (d := (some 25)) (v := .slice (some ⟨rb, ro, none⟩) m k1) (a' := ?aw6) rfl rfl (by kernel_rfl) (by kernel_rfl) (by kernel_rfl) (fun _ _ _ h => h) (Or.inl ⟨by rfl, ?yw6⟩) ?fw6 ?_
    case yw6 => (intro wq hq; obtain ⟨g1, g2, g3, g4⟩ := HXX.out wq hq; go_simp; first | done | with_reducible rfl)
    case fw6 => (go_frame; rfl)
    refine wpIn_take (i := 7) (d := (some 26)) (v := .int .i64 (k : Int)) (a' := ?aw7) rfl rfl (by kernel_rfl) (by kernel_rfl) (by kernel_rfl) (fun _ _ _ h => h) (Or.inl ⟨by rfl, ?yw7⟩) ?fw7 ?_
    case yw7 => (intro wq hq; obtain ⟨g1, g2, g3, g4⟩ := HXX.out wq hq; go_simp; first | done | with_reducible rfl)
    case fw7 => (go_frame; rfl)
    refine wpIn_take (i := 8) (d := (some 27)) (v := .pointer (some ⟨rb, ro + k, none⟩)) (a' := ?aw8) rfl rfl (by kernel_rfl) (by kernel_rfl) (by kernel_rfl) (fun _ _ _ h => h) (Or.inl ⟨by rfl, ?yw8⟩) ?fw8 ?_
    case yw8 => (intro wq hq; obtain ⟨g1, g2, g3, g4⟩ := HXX.out wq hq; go_simp; first | done | with_reducible rfl)
    case fw8 => (go_frame; rfl)
    refine wpIn_take (i := 9) (d := (some 28)) (v := .int .i64 (x : Int)) (a' := ?aw9) rfl rfl (by kernel_rfl) (by kernel_rfl) (by kernel_rfl) (fun _ _ _ h => h) (Or.inl ⟨by rfl, ?yw9⟩) ?fw9 ?_
    case yw9 => (intro wq hq; obtain ⟨g1, g2, g3, g4⟩ := HXX.out wq hq; go_simp; first | done | with_reducible rfl)
    case fw9 => (go_frame; rfl)
    refine wpIn_take (i := 10) (d := (some 29)) (v := .pointer (some ⟨eb, eo + x * 16, none⟩)) (a' := ?aw10) rfl rfl (by kernel_rfl) (by kernel_rfl) (by kernel_rfl) (fun _ _ _ h => h) (Or.inl ⟨by rfl, ?yw10⟩) ?fw10 ?_
    case yw10 => (intro wq hq; obtain ⟨g1, g2, g3, g4⟩ := HXX.out wq hq; go_simp; first | done | with_reducible rfl)
    case fw10 => (go_frame; rfl)
    refine wpIn_take (i := 11) (d := (some 30)) (v := .agg C.toArray) (a' := ?aw11) rfl rfl (by kernel_rfl) (by kernel_rfl) (by kernel_rfl) (fun _ _ _ h => h) (Or.inl ⟨by rfl, ?yw11⟩) ?fw11 ?_
    case yw11 => exact fun wq hq => exec_loadS rfl rfl (HEX.out wq hq)
    case fw11 => (go_frame; rfl)
    refine wpIn_do (i := 12) hD (by kernel_rfl) rfl (by rfl) ?_
    intro K hK
    go_simp
    refine hK _ _ ?_
    have hD1 : Below wr.heap.size wr (wr.drew.alloc (.cells (cellsE Ev.zero Pt.zero).toArray 41)) := hD.alloc (Nat.le_refl _) _
    refine wpIn_do (i := 13) hD1 (by kernel_rfl) rfl (by rfl) ?_
    intro K2 hK2
    refine wp_store_row 41 _ _ rfl wr.heap.size C.toArray rfl rfl 41 (cellsE Ev.zero Pt.zero).toArray (heap_alloc_new wr.drew _) (by rw [show C.toArray.size = C.length from rfl, HC2.out.1]; exact infoE) (by rw [show C.toArray.size = C.length from rfl, HC2.out.1]; rfl) HC2.out.2 ?_
    refine hK2 _ _ ?_
    have hBN : Below wr.heap.size wr ((wr.drew.alloc (.cells (cellsE Ev.zero Pt.zero).toArray 41)).setRow wr.heap.size C.toArray) := hD.trans (below_setRowS wr.drew _ _ _)
    have hN : ((wr.drew.alloc (.cells (cellsE Ev.zero Pt.zero).toArray 41)).setRow wr.heap.size C.toArray).heap[wr.heap.size]? = some (.cells C.toArray 41 (0, 0)) := setRow_newS wr.drew (cellsE Ev.zero Pt.zero).toArray C.toArray 41
    obtain ⟨e1, e3, e4⟩ := HC3.out _ hN
    obtain ⟨g1, g2, g3, g4⟩ := HXX.out _ hBN
    refine wpIn_done hBN (by kernel_rfl) ?_ _
    change Exit.then _ _ _ _ ((wr.drew.alloc (.cells (cellsE Ev.zero Pt.zero).toArray 41)).setRow wr.heap.size C.toArray)
    generalize (wr.drew.alloc (.cells (cellsE Ev.zero Pt.zero).toArray 41)).setRow wr.heap.size C.toArray = WN at *
    clear hN hD hD1 HXX HEX HC3 HC2
    cases hIT : IT with
    | false =>
     have HX := (show Hid _ from HN1.out hIT)
     rw [hIT] at HIT
     clear HN1 HN2 hIT
     cases st with
     | false =>
      go_wp2
      go_roundw
      case rel => exact ⟨k + 1, by omega, by go_num, belowP hb hBN, HX⟩
      case measure => simp [intOf]; try omega
     | true =>
      cases h1 : (typ.toList == kind.toList) with
      | false =>
       clear HIT
       go_wp2
       go_roundw
       case rel => exact ⟨k + 1, by omega, by go_num, belowP hb hBN, HX⟩
       case measure => simp [intOf]; try omega
      | true =>
       have h2 : (key.toList == ([] : List UInt8)) = false := by have := HIT.out; rw [h1] at this; simpa using this.symm
       clear HIT
       go_wp2
       go_roundw
       case rel => exact ⟨k + 1, by omega, by go_num, belowP hb hBN, HX⟩
       case measure => simp [intOf]; try omega
    | true =>
     have HR : Hid (LT = some x) := HN2.out hIT
     rw [hIT] at HIT
     clear HN1 HN2 hIT
     have hst : st = true := by
      cases st with
      | false => cases HIT.out
      | true => rfl
     subst hst
     have h1 : (typ.toList == kind.toList) = true := by
      have := HIT.out
      cases h : (typ.toList == kind.toList) with
      | false => rw [h] at this; cases this
      | true => rfl
     have h2 : (key.toList == ([] : List UInt8)) = true := by have := HIT.out; rw [h1] at this; simpa using this.symm
     clear HIT
     go_wp2
     go_ret
     exact ⟨ret_int (by rw [HR.out]; rfl), belowP hb0 (belowP hb hBN)⟩
  · obtain rfl : k = m := by omega
    have HR : Hid (LT = none) := by
     have := HN.out
     rw [← HM.out, List.take_length] at this
     show _ = _
     rw [HF.out, this]
    clear HN HF
    go_wp2
    go_ret
    exact ⟨ret_int (by rw [HR.out]; rfl), belowP hb0 hb⟩
end Go.Proofs.YtimhpglfolbomabGreat.Od

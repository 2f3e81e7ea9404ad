/-
  How many of so many values are left (the law of events), by a contract.
  Which events are small, by a contract.
  Events without rows lie anywhere; the sample with two signatures.
  The calls of the law's examples, each by a contract.
  The law's examples, by a contract.
  EventBack, by a contract.
-/
import Derived.Test.YtegcgbjjpgjnmaaGreatDoorC30
import Derived.Deep.Cut
set_option maxRecDepth 100000
set_option maxHeartbeats 16000000
namespace Go.Proofs.YtegcgbjjpgjnmaaGreatDoor
open Go.RowKit
def LeftsE (d : Nat) : Prop := ∀ (w : World) (O : Nat → Prop) (j : J) (k i deep n : Int) (t : ByteArray) (pk pl : Option Addr) (nk ck nl cl : Nat), (∀ x, O x → x < w.heap.size) → deep = (d : Int) → d ≤ 100 → 0 ≤ n → n ≤ 100000 →
 isJ O w j [.int .i64 k, .int .i64 i, .string t, .slice pk nk ck, .slice pl nl cl] →
 Calls Tryz.prog 16 #[.agg #[.int .i64 k, .int .i64 i, .string t, .slice pk nk ck, .slice pl nl cl], .int .i64 n, .int .i64 deep] w fun x w' => (∃ r : Int, x = .returned (.int .i64 r) ∧ r ≤ n ∧ -1 ≤ r ∧ (0 ≤ r → szJ d j = true)) ∧ Below w.heap.size w w'
theorem eleft_zero : LeftsE 0 := by
 intro w O j k i deep n t pk pl nk ck nl cl hO hdeep _ h0 hn _
 subst hdeep
 have hbA : Below w.heap.size w (w.alloc (.cells #[.int .i64 k, .int .i64 i, .string t, .slice pk nk ck, .slice pl nl cl] 25)) := (Below.refl _ _).alloc (Nat.le_refl _) _
 by_cases h1 : n < 1
 · go_enter Tryz.func16, Tryz.ntmps16
   go_wp2
   go_ret
   exact ⟨⟨-1, rfl, by omega, by omega, fun h => absurd h (by decide)⟩, hbA⟩
 · go_enter Tryz.func16, Tryz.ntmps16
   go_wp2
   go_ret
   exact ⟨⟨-1, rfl, by omega, by omega, fun h => absurd h (by decide)⟩, hbA⟩
theorem eleft_step {d : Nat} (V : LeftsE d) : LeftsE (d + 1) := by
 intro w O j k i deep n t pk pl nk ck nl cl hO hdeep hd h0 hn hj
 obtain ⟨kx, ix, tx, ks, l⟩ := j
 unfold isJ at hj
 obtain ⟨pk', ck', pl', cl', e, hk, hl, hs⟩ := hj
 simp only [List.cons.injEq, Value.int.injEq, Value.string.injEq, Value.slice.injEq, true_and, and_true] at e
 obtain ⟨rfl, rfl, rfl, ⟨rfl, rfl, rfl⟩, rfl, rfl, rfl⟩ := e
 have hd1 : 1 ≤ deep := by omega
 have hd2 : deep ≤ 101 := by omega
 have HD : Hid (deep - 1 = (d : Int)) := by show _ = _; omega
 have HDL : Hid (d ≤ 100) := by show _ ≤ _; omega
 clear hdeep hd
 obtain ⟨nk, hnk⟩ : ∃ n, ks.length = n := ⟨_, rfl⟩
 obtain ⟨nl, hnl⟩ : ∃ n, l.length = n := ⟨_, rfl⟩
 have HNK : Hid (ks.length = nk) := hnk
 have HNL : Hid (l.length = nl) := hnl
 have hck := hk.1
 rw [hnk] at hck ⊢
 rw [hnl] at hl ⊢
 clear hnk hnl
 have hbA : Below w.heap.size w (w.alloc (.cells #[.int .i64 k, .int .i64 i, .string t, .slice pk nk ck, .slice pl nl cl] 25)) := (Below.refl _ _).alloc (Nat.le_refl _) _
 have neg : ∀ (w' : World) (x : Ending), x = .returned (.int .i64 (-1)) → Below w.heap.size w w' → (∃ r : Int, x = .returned (.int .i64 r) ∧ r ≤ n ∧ -1 ≤ r ∧ (0 ≤ r → szJ (d + 1) (.mk k i t ks l) = true)) ∧ Below w.heap.size w w' := fun w' x hx hb => ⟨⟨-1, hx, by omega, by omega, fun h => absurd h (by decide)⟩, hb⟩
 have HNEG : Hid (∀ (w' : World) (x : Ending), x = .returned (.int .i64 (-1)) → Below w.heap.size w w' → (∃ r : Int, x = .returned (.int .i64 r) ∧ r ≤ n ∧ -1 ≤ r ∧ (0 ≤ r → szJ (d + 1) (.mk k i t ks l) = true)) ∧ Below w.heap.size w w') := neg
 clear neg
 by_cases h1 : n < 1
 · go_enter Tryz.func16, Tryz.ntmps16
   go_wp2
   go_ret
   exact HNEG.out _ _ rfl hbA
 by_cases h2 : (2000 : Int) < t.size
 · go_enter Tryz.func16, Tryz.ntmps16
   go_wp2
   go_ret
   exact HNEG.out _ _ rfl hbA
 by_cases h3 : (100 : Int) < nk
 · go_enter Tryz.func16, Tryz.ntmps16
   go_wp2
   go_ret
   exact HNEG.out _ _ rfl hbA
 by_cases h4 : (300 : Int) < nl
 · go_enter Tryz.func16, Tryz.ntmps16
   go_wp2
   go_ret
   exact HNEG.out _ _ rfl hbA
 obtain ⟨wB, hwB⟩ : ∃ wB, wB = w.alloc (.cells #[.int .i64 k, .int .i64 i, .string t, .slice pk nk ck, .slice pl nl cl] 25) := ⟨_, rfl⟩
 have hA : wB.heap[w.heap.size]? = some (.cells #[.int .i64 k, .int .i64 i, .string t, .slice pk nk ck, .slice pl nl cl] 25 (0, 0)) := by rw [hwB]; exact heap_alloc_new _ _
 have hsB : w.heap.size < wB.heap.size := (Array.getElem?_eq_some_iff.1 hA).1
 rw [← hwB] at hbA
 have HCA : Hid (∀ W : World, Below wB.heap.size wB W → ∀ n v, [Value.int .i64 k, .int .i64 i, .string t, .slice pk nk ck, .slice pl nl cl][n]? = some v → W.cell? ⟨w.heap.size, n, none⟩ = some v) := fun W hW n v hv =>
  (World.cell?_of_block (a := ⟨w.heap.size, n, none⟩) (hW.block w.heap.size hsB)).trans (cell_row (cur := [.int .i64 k, .int .i64 i, .string t, .slice pk nk ck, .slice pl nl cl]) hA n v hv)
 go_enter Tryz.func16, Tryz.ntmps16
 go_wp2
 rw [← hwB]
 clear hwB hA
 go_loopw [7] (fun v wr => ∃ m : Nat, v = .int .i64 m ∧ m ≤ nk ∧ Hid (∀ x, x < m → (ks.getD x nix).size ≤ 300) ∧ wr = wB) (fun v _ => nk - (intOf v).toNat)
 case atStart => exact ⟨0, rfl, Nat.zero_le _, fun m hm => absurd hm (by omega), rfl⟩
 case round =>
  obtain ⟨m, rfl, hm, HE, rfl⟩ := hrel
  have a3 := HCA.out wr (Below.refl _ _) 3 _ rfl
  by_cases hmk : m < nk
  · have hmi : (m : Int) < (nk : Int) := by omega
    obtain ⟨ka, hpk, hOa, hcka⟩ := hk.2 m (by rw [HNK.out]; exact hmk)
    subst hpk
    have hKA : wr.cell? (ka.add m) = some (.string (ks.getD m nix)) := (World.cell?_of_block (by rw [add_block]; exact hbA.block _ (hO _ hOa))).trans hcka
    obtain ⟨u, hu⟩ : ∃ u, ks.getD m nix = u := ⟨_, rfl⟩
    have HU : Hid (ks.getD m nix = u) := hu
    rw [hu] at hKA
    clear hu hcka
    by_cases hus : (300 : Int) < u.size
    · go_wp2
      go_ret
      exact HNEG.out _ _ rfl hbA
    · go_wp2
      go_roundw
      case rel => exact ⟨m + 1, by go_num, hmk, fun x hx => (Nat.lt_succ_iff_lt_or_eq.1 hx).elim (HE.out x) fun e => by rw [e, HU.out]; omega, trivial⟩
      case measure => simp [intOf]; omega
  · obtain rfl : m = nk := by omega
    have HKS : Hid (ks.all (fun k => decide (k.size ≤ 1000000000)) = true) := by
     show _ = _
     rw [List.all_eq_true]
     intro x hx
     obtain ⟨y, hy, rfl⟩ := List.getElem_of_mem hx
     have := HE.out y (by rw [← HNK.out]; exact hy)
     rw [key_getD hy] at this
     exact decide_eq_true (by omega)
    go_wp2
    go_loopw [1, 8] (fun u v w2 => ∃ (m : Nat) (r : Int), v = .int .i64 m ∧ u = .int .i64 r ∧ m ≤ nl ∧ r ≤ n - 1 ∧ -1 ≤ r ∧ Hid (0 ≤ r → (l.take m).all (szJ d) = true) ∧ Below wr.heap.size wr w2) (fun _ v _ => nl - (intOf v).toNat)
    case atStart => exact ⟨0, n - 1, rfl, rfl, Nat.zero_le _, by omega, by omega, fun _ => rfl, Below.refl _ _⟩
    case round =>
     obtain ⟨m', r, rfl, rfl, hm', hrn, hr0, HT, hb2⟩ := hrel
     have a4 := HCA.out wr hb2 4 _ rfl
     by_cases hml : m' < nl
     · have hmi : (m' : Int) < (nl : Int) := by omega
       by_cases hr : 0 ≤ r
       · have hml1 : m' < l.length := by rw [HNL.out]; exact hml
         have HML : Hid (m' < l.length) := hml1
         obtain ⟨lb, lo, cs, hpl, hOl, hcells, hyj⟩ := isJs.at l 0 m' hs hml1
         subst hpl
         obtain ⟨x0, x1, x2, p3, n3, c3, p4, n4, c4, rfl⟩ := isJ_shape hyj
         have hblk := (hb2.block lb (by have := hO _ hOl; omega)).trans (hbA.block lb (hO _ hOl))
         have cc : ∀ m v, [Value.int .i64 x0, .int .i64 x1, .string x2, .slice p3 n3 c3, .slice p4 n4 c4][m]? = some v → wr.cell? ⟨lb, lo + m' * 5 + m, none⟩ = some v := fun m v h => by
          have := hcells m v h
          rw [Nat.zero_add] at this
          exact (World.cell?_of_block (a := ⟨lb, lo + m' * 5 + m, none⟩) hblk).trans this
         have y0 : wr.cell? ⟨lb, lo + m' * 5, none⟩ = some (.int .i64 x0) := cc 0 _ rfl
         have y1 := cc 1 _ rfl
         have y2 := cc 2 _ rfl
         have y3 := cc 3 _ rfl
         have y4 := cc 4 _ rfl
         have hB2 := below_cat hbA (by omega) hb2
         have hV := V wr O (l.getD m' J.zero) x0 x1 (deep - 1) r x2 p3 p4 n3 c3 n4 c4 (fun b hb => Nat.lt_of_lt_of_le (hO b hb) hB2.size) HD.out HDL.out hr (by omega) (hyj.carry fun b hb => ⟨hb, hB2.block b (hO b hb)⟩)
         clear cc hcells hml1 hyj hblk
         go_wp2_with (go_at_call 16; refine hV.mono ?_; rintro x w4 ⟨⟨r4, rfl, hr4, hr5, hr6⟩, hb4⟩)
         go_roundw
         case rel => exact ⟨m' + 1, r4, by go_num, rfl, hml, by omega, hr5, fun h => by rw [all_take HML.out, HT.out hr, hr6 h]; rfl, below_cat hb2 hb2.size hb4⟩
         case measure => simp [intOf]; omega
       · go_wp2
         go_ret
         refine ⟨⟨r, rfl, by omega, hr0, fun h => absurd h (by omega)⟩, below_cat hbA (by omega) hb2⟩
     · obtain rfl : m' = nl := by omega
       go_wp2
       go_ret
       refine ⟨⟨r, rfl, by omega, hr0, fun h => ?_⟩, below_cat hbA (by omega) hb2⟩
       have ht := HT.out h
       rw [List.take_of_length_le (by rw [HNL.out]; omega)] at ht
       unfold szJ
       rw [HKS.out, ht, HNK.out, HNL.out, decide_eq_true (show t.size ≤ 1000000000 by omega), decide_eq_true (show m ≤ 100000 by omega), decide_eq_true (show m' ≤ 100000 by omega)]
       rfl
theorem elefts : ∀ d, LeftsE d
 | 0 => eleft_zero
 | d + 1 => eleft_step (elefts d)
end Go.Proofs.YtegcgbjjpgjnmaaGreatDoor
namespace Go.Proofs.YtegcgbjjpgjnmaaGreatDoor
open Go.RowKit Go.Maps
structure BigE (e : Ev) : Prop where
 room : e.room.size ≤ 140737488355328
 typ : e.typ.size ≤ 140737488355328
 sender : e.sender.size ≤ 140737488355328
 key : e.key.size ≤ 140737488355328
 hash : e.hash.size ≤ 140737488355328
 sigs : ∀ x ∈ e.sigs, x.1.size ≤ 140737488355328 ∧ x.2.size ≤ 140737488355328
structure FewE (e : Ev) : Prop where
 texts : e.room.size + e.typ.size + e.sender.size + e.key.size + e.hash.size ≤ 2000
 prev : e.prev.length ≤ 30
 prevs : ∀ x ∈ e.prev, x.size ≤ 100
 auth : e.auth.length ≤ 30
 auths : ∀ x ∈ e.auth, x.size ≤ 100
 sigs : e.sigs.length ≤ 30
 sigss : ∀ x ∈ e.sigs, x.1.size + x.2.size ≤ 200
 cont : szJ 20 e.content = true
theorem FewE.sz {e : Ev} (h : FewE e) : SzE e := by
 have t := h.texts
 exact ⟨by omega, by omega, by omega, by omega, by omega, sz_less 12 20 _ (by decide) h.cont, Nat.le_trans h.prev (by decide), fun x hx => Nat.le_trans (h.prevs x hx) (by decide), Nat.le_trans h.auth (by decide), fun x hx => Nat.le_trans (h.auths x hx) (by decide), Nat.le_trans h.sigs (by decide), fun x hx => by have := h.sigss x hx; omega⟩
def FewP (w w' : World) (e : Ev) (x : Ending) : Prop := (∃ b : Bool, x = .returned (.bool b) ∧ (b = true → FewE e)) ∧ Below w.heap.size w w'
theorem all_getD {l : List ByteArray} {B : Nat} (h : ∀ x, x < l.length → (l.getD x nix).size ≤ B) : ∀ x ∈ l, x.size ≤ B := fun x hx => by
 obtain ⟨y, hy, rfl⟩ := List.getElem_of_mem hx
 have := h y hy
 rwa [key_getD hy] at this
theorem eFew_any {O : Nat → Prop} (e : Ev) (p : Pt) (w : World) (hE : IsE O w e p) (hO : ∀ k, O k → k < w.heap.size) (hl : BigE e) :
    Calls Tryz.prog 9 #[valE e p] w fun x w' => FewP w w' e x := by
 obtain ⟨room, typ, sender, st, key, ⟨k, i, t, ks, l⟩, prev, auth, depth, ts, hash, sigs⟩ := e
 obtain ⟨pk, ck, pl, cl, pp, cp, pa, ca, ps, cs⟩ := p
 obtain ⟨z0, z1, z2, z4, z14, z15⟩ := hl
 obtain ⟨hc, hp, ha, hs⟩ := hE
 simp only at z0 z1 z2 z4 z14 z15 hc hp ha hs
 unfold five at hc
 simp only [J.kind, J.int, J.text, J.keys, J.list] at hc
 simp only [valE, cellsE, J.kind, J.int, J.text, J.keys, J.list]
 obtain ⟨np, hnp⟩ : ∃ n, prev.length = n := ⟨_, rfl⟩
 obtain ⟨na, hna⟩ : ∃ n, auth.length = n := ⟨_, rfl⟩
 obtain ⟨ns, hns⟩ : ∃ n, sigs.length = n := ⟨_, rfl⟩
 have HNP : Hid (prev.length = np) := hnp
 have HNA : Hid (auth.length = na) := hna
 have HNS : Hid (sigs.length = ns) := hns
 have hcp := hp.1
 have hca := ha.1
 have hcs := hs.1
 rw [hnp] at hcp ⊢
 rw [hna] at hca ⊢
 rw [hns] at hcs ⊢
 clear hnp hna hns
 obtain ⟨WB, hWB⟩ : ∃ WB, WB = w.alloc (.cells #[.string room, .string typ, .string sender, .bool st, .string key, .int .i64 k, .int .i64 i, .string t, .slice pk ks.length ck, .slice pl l.length cl, .slice pp np cp, .slice pa na ca, .int .i64 depth, .int .i64 ts, .string hash, .slice ps ns cs] 28) := ⟨_, rfl⟩
 have hbw : Below w.heap.size w WB := by rw [hWB]; exact (Below.refl _ _).alloc (Nat.le_refl _) _
 have hrs : WB.heap[w.heap.size]? = some (.cells #[.string room, .string typ, .string sender, .bool st, .string key, .int .i64 k, .int .i64 i, .string t, .slice pk ks.length ck, .slice pl l.length cl, .slice pp np cp, .slice pa na ca, .int .i64 depth, .int .i64 ts, .string hash, .slice ps ns cs] 28 (0, 0)) := by rw [hWB]; exact heap_alloc_new _ _
 have HNO : Hid (∀ W', Below w.heap.size w W' → ∀ x : Ending, x = .returned (.bool false) → FewP w W' ⟨room, typ, sender, st, key, ⟨k, i, t, ks, l⟩, prev, auth, depth, ts, hash, sigs⟩ x) := fun W' h x hx => ⟨⟨false, hx, fun h => by cases h⟩, h⟩
 by_cases h1 : (2000 : Int) < (room.size : Int) + typ.size + sender.size + key.size + hash.size
 · go_enter Tryz.func9, Tryz.ntmps9
   go_wp2
   go_ret
   exact HNO.out _ (hWB ▸ hbw) _ rfl
 by_cases h2 : (30 : Int) < np
 · go_enter Tryz.func9, Tryz.ntmps9
   go_wp2
   go_ret
   exact HNO.out _ (hWB ▸ hbw) _ rfl
 by_cases h3 : (30 : Int) < na
 · go_enter Tryz.func9, Tryz.ntmps9
   go_wp2
   go_ret
   exact HNO.out _ (hWB ▸ hbw) _ rfl
 by_cases h4 : (30 : Int) < ns
 · go_enter Tryz.func9, Tryz.ntmps9
   go_wp2
   go_ret
   exact HNO.out _ (hWB ▸ hbw) _ rfl
 have H1 : Hid (room.size + typ.size + sender.size + key.size + hash.size ≤ 2000) := by show _ ≤ _; omega
 have HP : Hid (∀ j, j < np → ∃ a, pp = some a ∧ WB.cell? (a.add j) = some (.string (prev.getD j nix))) := fun j hj => by
  obtain ⟨a, e, hOa, hca⟩ := hp.2 j (by rw [HNP.out]; exact hj)
  exact ⟨a, e, (World.cell?_of_block (by rw [add_block]; exact hbw.block _ (hO _ hOa))).trans hca⟩
 have HA : Hid (∀ j, j < na → ∃ a, pa = some a ∧ WB.cell? (a.add j) = some (.string (auth.getD j nix))) := fun j hj => by
  obtain ⟨a, e, hOa, hca⟩ := ha.2 j (by rw [HNA.out]; exact hj)
  exact ⟨a, e, (World.cell?_of_block (by rw [add_block]; exact hbw.block _ (hO _ hOa))).trans hca⟩
 have HSG : Hid (∀ j, j < ns → ∃ b o, ps = some ⟨b, o, none⟩ ∧ WB.cell? ⟨b, o + j * 2, none⟩ = some (.string (sigs.getD j (nix, nix)).1) ∧ WB.cell? ⟨b, o + j * 2 + 1, none⟩ = some (.string (sigs.getD j (nix, nix)).2)) := fun j hj => by
  obtain ⟨b, o, e, hOb, h1, h2⟩ := hs.2 j (by rw [HNS.out]; exact hj)
  exact ⟨b, o, e, (World.cell?_of_block (a := ⟨b, o + j * 2, none⟩) (hbw.block _ (hO _ hOb))).trans h1, (World.cell?_of_block (a := ⟨b, o + j * 2 + 1, none⟩) (hbw.block _ (hO _ hOb))).trans h2⟩
 have HL : Hid (∀ n, Calls Tryz.prog 16 #[.agg #[.int .i64 k, .int .i64 i, .string t, .slice pk ks.length ck, .slice pl l.length cl], .int .i64 300, .int .i64 20] (WB.drewN n) fun x w' => (∃ r : Int, x = .returned (.int .i64 r) ∧ r ≤ 300 ∧ -1 ≤ r ∧ (0 ≤ r → szJ 20 (.mk k i t ks l) = true)) ∧ Below (WB.drewN n).heap.size (WB.drewN n) w') := fun n =>
  elefts 20 (WB.drewN n) O (.mk k i t ks l) k i 20 300 t pk pl ks.length ck l.length cl (fun b hb => Nat.lt_of_lt_of_le (hO b hb) (below_in hbw (Id.below_drewN WB n)).size) rfl (by decide) (by decide) (by decide) (hc.carry fun b hb => ⟨hb, (below_in hbw (Id.below_drewN WB n)).block b (hO b hb)⟩)
 have HBW : Hid (Below w.heap.size w WB) := hbw
 have HZS : Hid (∀ x ∈ sigs, x.1.size ≤ 140737488355328 ∧ x.2.size ≤ 140737488355328) := z15
 clear hc hp ha hs hO hbw z15
 have q0 := six_c hrs 0 _ rfl; have q1 := six_c hrs 1 _ rfl; have q2 := six_c hrs 2 _ rfl; have q4 := six_c hrs 4 _ rfl; have q14 := six_c hrs 14 _ rfl; have q10 := six_c hrs 10 _ rfl; have q11 := six_c hrs 11 _ rfl; have q15 := six_c hrs 15 _ rfl
 have q5 := six_c hrs 5 _ rfl; have q6 := six_c hrs 6 _ rfl; have q7 := six_c hrs 7 _ rfl; have q8 := six_c hrs 8 _ rfl; have q9 := six_c hrs 9 _ rfl
 go_enter Tryz.func9, Tryz.ntmps9
 go_wp2
 rw [← hWB]
 clear hWB hrs
 go_loopw [3] (fun v wr => ∃ m : Nat, v = .int .i64 m ∧ m ≤ np ∧ Hid (∀ x, x < m → (prev.getD x nix).size ≤ 100) ∧ wr = WB) (fun v _ => np - (intOf v).toNat)
 case atStart => exact ⟨0, rfl, Nat.zero_le _, fun m hm => absurd hm (by omega), rfl⟩
 case round =>
  obtain ⟨m, rfl, hm, HX, rfl⟩ := hrel
  by_cases hlt : m < np
  · have hmi : (m : Int) < (np : Int) := by omega
    obtain ⟨a, rfl, hca1⟩ := HP.out m hlt
    obtain ⟨u, hu⟩ : ∃ u, prev.getD m nix = u := ⟨_, rfl⟩
    have HU : Hid (prev.getD m nix = u) := hu
    rw [hu] at hca1
    clear hu
    by_cases hus : (100 : Int) < u.size
    · go_wp2
      go_ret
      exact HNO.out _ HBW.out _ rfl
    · go_wp2
      go_roundw
      case rel => exact ⟨m + 1, by go_num, hlt, fun x hx => (Nat.lt_succ_iff_lt_or_eq.1 hx).elim (HX.out x) fun e => by rw [e, HU.out]; omega, trivial⟩
      case measure => simp [intOf]; omega
  · obtain rfl : m = np := by omega
    have HXP : Hid (∀ x ∈ prev, x.size ≤ 100) := all_getD (by rw [HNP.out]; exact HX.out)
    clear HX hlt hm
    go_wp2
    go_loopw [4] (fun v wr2 => ∃ n : Nat, v = .int .i64 n ∧ n ≤ na ∧ Hid (∀ x, x < n → (auth.getD x nix).size ≤ 100) ∧ wr2 = wr) (fun v _ => na - (intOf v).toNat)
    case atStart => exact ⟨0, rfl, Nat.zero_le _, fun m hm => absurd hm (by omega), rfl⟩
    case round =>
     obtain ⟨n, rfl, hn, HX, rfl⟩ := hrel
     by_cases hlt : n < na
     · have hmi : (n : Int) < (na : Int) := by omega
       obtain ⟨a, rfl, hca1⟩ := HA.out n hlt
       obtain ⟨u, hu⟩ : ∃ u, auth.getD n nix = u := ⟨_, rfl⟩
       have HU : Hid (auth.getD n nix = u) := hu
       rw [hu] at hca1
       clear hu
       by_cases hus : (100 : Int) < u.size
       · go_wp2
         go_ret
         exact HNO.out _ HBW.out _ rfl
       · go_wp2
         go_roundw
         case rel => exact ⟨n + 1, by go_num, hlt, fun x hx => (Nat.lt_succ_iff_lt_or_eq.1 hx).elim (HX.out x) fun e => by rw [e, HU.out]; omega, trivial⟩
         case measure => simp [intOf]; omega
     · obtain rfl : n = na := by omega
       have HXA : Hid (∀ x ∈ auth, x.size ≤ 100) := all_getD (by rw [HNA.out]; exact HX.out)
       clear HX hlt hn
       go_wp2
       go_loopw [5] (fun v wr3 => ∃ (h d : Nat), v = .int .i64 h ∧ h ≤ ns ∧ Hid (∀ x, x < h → (sigs.getD x (nix, nix)).1.size + (sigs.getD x (nix, nix)).2.size ≤ 200) ∧ wr3 = wr.drewN d) (fun v _ => ns - (intOf v).toNat)
       case atStart => exact ⟨0, 0, rfl, Nat.zero_le _, fun m hm => absurd hm (by omega), rfl⟩
       case round =>
        obtain ⟨h, d, rfl, hh, HX, rfl⟩ := hrel
        by_cases hlt : h < ns
        · have hmi : (h : Int) < (ns : Int) := by omega
          obtain ⟨b, o, rfl, hc1, hc2⟩ := HSG.out h hlt
          have hmem : sigs.getD h (nix, nix) ∈ sigs := by
           rw [List.getD_eq_getElem?_getD, List.getElem?_eq_getElem (by rw [HNS.out]; exact hlt)]
           exact List.getElem_mem _
          have hz := HZS.out _ hmem
          obtain ⟨uv, huv⟩ : ∃ u, sigs.getD h (nix, nix) = u := ⟨_, rfl⟩
          have HU : Hid (sigs.getD h (nix, nix) = uv) := huv
          rw [huv] at hc1 hc2 hz
          clear huv hmem
          obtain ⟨u, v⟩ := uv
          obtain ⟨y1, y2⟩ := hz
          simp only at hc1 hc2 y1 y2
          by_cases hus : (200 : Int) < (u.size : Int) + v.size
          · go_wp2
            refine wp_region_quiet_lit (by kernel_rfl) (by kernel_rfl) ?_
            repeat (any_goals (first | go_big_quiet_step (fail) | quiet_step (fail)))
            refine wpQuiet_nil ?_
            intro _ hw
            obtain ⟨nq, hw⟩ := hw
            subst hw
            go_wp2
            go_ret
            exact HNO.out _ (below_in HBW.out (by simpa [World.drewN_drewN] using Id.below_drewN _ _)) _ rfl
          · go_wp2
            refine wp_region_quiet_lit (by kernel_rfl) (by kernel_rfl) ?_
            repeat (any_goals (first | go_big_quiet_step (fail) | quiet_step (fail)))
            refine wpQuiet_nil ?_
            intro _ hw
            obtain ⟨nq, hw⟩ := hw
            subst hw
            go_wp2
            go_roundw
            case rel => exact ⟨h + 1, _, by go_num, hlt, fun x hx => (Nat.lt_succ_iff_lt_or_eq.1 hx).elim (HX.out x) fun e => by rw [e, HU.out]; show u.size + v.size ≤ 200; omega, rfl⟩
            case measure => simp [intOf]; omega
        · obtain rfl : h = ns := by omega
          have hL := HL.out d
          go_wp2_with (go_at_call 16; refine hL.mono ?_; rintro x w4 ⟨⟨r4, rfl, hr4, hr5, hr6⟩, hb4⟩)
          go_ret
          refine ⟨⟨_, rfl, fun hh => ?_⟩, below_in HBW.out (below_in (Id.below_drewN _ _) hb4)⟩
          refine ⟨H1.out, by show prev.length ≤ 30; rw [HNP.out]; omega, HXP.out, by show auth.length ≤ 30; rw [HNA.out]; omega, HXA.out, by show sigs.length ≤ 30; rw [HNS.out]; omega, fun x hx => ?_, hr6 (of_decide_eq_true hh)⟩
          obtain ⟨y, hy, rfl⟩ := List.getElem_of_mem hx
          have := HX.out y (by rw [← HNS.out]; exact hy)
          rw [List.getD_eq_getElem?_getD, List.getElem?_eq_getElem hy] at this
          exact this
theorem isJ_bare (O : Nat → Prop) (w : World) (k i : Int) (t : ByteArray) : isJ O w (.mk k i t [] []) [.int .i64 k, .int .i64 i, .string t, .slice none 0 0, .slice none 0 0] := by
 unfold isJ
 exact ⟨none, 0, none, 0, rfl, RdK.nil _ _, Nat.le_refl _, by unfold isJs; trivial⟩
theorem isE_bare (O : Nat → Prop) (w : World) (r t s : ByteArray) (st : Bool) (key : ByteArray) (k i : Int) (x : ByteArray) (d ts : Int) (h : ByteArray) : IsE O w ⟨r, t, s, st, key, .mk k i x [] [], [], [], d, ts, h, []⟩ Pt.zero :=
 ⟨isJ_bare _ _ _ _ _, RdK.nil _ _, RdK.nil _ _, RdS.nil _ _ _ _⟩
theorem isE_G {w : World} {b : Nat} (h : w.heap[b]? = some (.cells #[.string ⟨#[98]⟩, .string sTok, .string ⟨#[97]⟩, .string sTok] 56 (0, 0))) : IsE (fun q => q = b) w sampleG ⟨none, 0, none, 0, none, 0, none, 0, some ⟨b, 0, none⟩, 2⟩ := by
 refine ⟨isJ_bare _ _ _ _ _, RdK.nil _ _, RdK.nil _ _, Nat.le_refl _, fun j hj => ⟨b, 0, rfl, rfl, ?_⟩⟩
 match j, hj with
 | 0, _ => exact ⟨cell_row (cur := [_, _, _, _]) h 0 _ rfl, cell_row (cur := [_, _, _, _]) h 1 _ rfl⟩
 | 1, _ => exact ⟨cell_row (cur := [_, _, _, _]) h 2 _ rfl, cell_row (cur := [_, _, _, _]) h 3 _ rfl⟩
theorem szE_E : SzE sampleE := sz_sample nix (by decide) [] (by decide) (fun x hx => by cases hx) _ (by kernel_rfl)
theorem szE_F : SzE sampleF := sz_sample ⟨#[107]⟩ (by decide) [] (by decide) (fun x hx => by cases hx) _ (by kernel_rfl)
theorem szE_H : SzE sampleH := sz_sample nix (by decide) [] (by decide) (fun x hx => by cases hx) _ (by kernel_rfl)
theorem szE_G : SzE sampleG := sz_sample nix (by decide) _ (by decide) (fun x hx => by
 simp only [List.mem_cons, List.not_mem_nil, or_false] at hx
 rcases hx with rfl | rfl <;> exact ⟨by decide, by decide⟩) _ (by kernel_rfl)
theorem ordT_E : ordT (ord (toldJ sampleE)) = ord (toldJ sampleE) := by
 have hg := shaped_good shaped_E
 have hg2 := good_ord 12 _ hg
 unfold ordT
 rw [if_pos hg2]
 exact ord_same 12 _ hg2 (inOrd_ord 12 _ hg)
def EncR (w : World) (p : Option Addr) (n c : Nat) : Prop := n = (encB sampleE).length ∧ Rd w.heap.size w p c (encB sampleE)
theorem enc_E (w : World) (hT : Tabs w) : Calls Tryz.prog 20 #[.agg #[.string sRoom, .string sType, .string sSender, .bool false, .string nix, .int .i64 5, .int .i64 0, .string nix, .slice none 0 0, .slice none 0 0, .slice none 0 0, .slice none 0 0, .int .i64 0, .int .i64 0, .string nix, .slice none 0 0]] w fun x w' => (∃ p n c, x = .returned (.tuple #[.slice p n c, .int .i64 0]) ∧ EncR w' p n c) ∧ Below w.heap.size w w' := by
 have h := eEncode_any (O := fun _ => False) sampleE Pt.zero w (isE_bare _ _ _ _ _ _ _ _ _ _ _ _ _) (fun _ h => h.elim) szE_E hT
 simp only [valE, cellsE, J.kind, J.int, J.text, J.keys, J.list, sampleE, Pt.zero, List.length_nil] at h
 refine h.mono ?_
 rintro x w' ⟨_, _, h3, h4⟩
 obtain ⟨v, hv, how⟩ := h3 shaped_E len_E
 obtain ⟨q, c, rfl, hr⟩ := enc_rd (shaped_good shaped_E) how
 exact ⟨⟨q, _, c, hv, rfl, hr⟩, h4⟩
theorem dec_E (w : World) (p : Option Addr) (n c : Nat) (hr : EncR w p n c) (hT : Tabs w) : Calls Tryz.prog 21 #[.slice p n c] w fun x w' => (∃ pk ck pl cl pp cp pa ca ps cs, x = .returned (.tuple #[.agg #[.string sRoom, .string sType, .string sSender, .bool false, .string nix, .int .i64 5, .int .i64 0, .string nix, .slice pk 0 ck, .slice pl 0 cl, .slice pp 0 cp, .slice pa 0 ca, .int .i64 0, .int .i64 0, .string nix, .slice ps 0 cs], .int .i64 0]) ∧ IsE (New w w') w' sampleE ⟨pk, ck, pl, cl, pp, cp, pa, ca, ps, cs⟩) ∧ Below w.heap.size w w' := by
 obtain ⟨rfl, hr⟩ := hr
 have h := eDecode_ok hr (Nat.le_trans len_E (by decide)) (decode_enc (shaped_good shaped_E) len_E) (enc_bd 12 _ (good_ord 12 _ (shaped_good shaped_E))) keys_E hT
 rw [ordT_E, from_E] at h
 refine h.mono ?_
 rintro x w' ⟨⟨pt, rfl, hI⟩, hb⟩
 obtain ⟨pk, ck, pl, cl, pp, cp, pa, ca, ps, cs⟩ := pt
 exact ⟨⟨pk, ck, pl, cl, pp, cp, pa, ca, ps, cs, rfl, hI⟩, hb⟩
theorem shp_E (w : World) (hT : Tabs w) : Calls Tryz.prog 10 #[.agg #[.string sRoom, .string sType, .string sSender, .bool false, .string nix, .int .i64 5, .int .i64 0, .string nix, .slice none 0 0, .slice none 0 0, .slice none 0 0, .slice none 0 0, .int .i64 0, .int .i64 0, .string nix, .slice none 0 0]] w fun x w' => x = .returned (.int .i64 0) ∧ Below w.heap.size w w' := by
 have h := eShape_any (O := fun _ => False) sampleE Pt.zero w (isE_bare _ _ _ _ _ _ _ _ _ _ _ _ _) (fun _ h => h.elim) szE_E hT
 rw [shape_E] at h
 exact h
theorem shp_F (w : World) (hT : Tabs w) : Calls Tryz.prog 10 #[.agg #[.string sRoom, .string sType, .string sSender, .bool false, .string ⟨#[107]⟩, .int .i64 5, .int .i64 0, .string nix, .slice none 0 0, .slice none 0 0, .slice none 0 0, .slice none 0 0, .int .i64 0, .int .i64 0, .string nix, .slice none 0 0]] w fun x w' => x = .returned (.int .i64 50) ∧ Below w.heap.size w w' := by
 have h := eShape_any (O := fun _ => False) sampleF Pt.zero w (isE_bare _ _ _ _ _ _ _ _ _ _ _ _ _) (fun _ h => h.elim) szE_F hT
 rw [shape_F] at h
 exact h
theorem shp_H (w : World) (hT : Tabs w) : Calls Tryz.prog 10 #[.agg #[.string sRoom, .string sType, .string sSender, .bool false, .string nix, .int .i64 0, .int .i64 0, .string nix, .slice none 0 0, .slice none 0 0, .slice none 0 0, .slice none 0 0, .int .i64 0, .int .i64 0, .string nix, .slice none 0 0]] w fun x w' => x = .returned (.int .i64 50) ∧ Below w.heap.size w w' := by
 have h := eShape_any (O := fun _ => False) sampleH Pt.zero w (isE_bare _ _ _ _ _ _ _ _ _ _ _ _ _) (fun _ h => h.elim) szE_H hT
 rw [shape_H] at h
 exact h
theorem shp_G (w : World) (b : Nat) (hT : Tabs w) (hb : w.heap[b]? = some (.cells #[.string ⟨#[98]⟩, .string sTok, .string ⟨#[97]⟩, .string sTok] 56 (0, 0))) : Calls Tryz.prog 10 #[.agg #[.string sRoom, .string sType, .string sSender, .bool false, .string nix, .int .i64 5, .int .i64 0, .string nix, .slice none 0 0, .slice none 0 0, .slice none 0 0, .slice none 0 0, .int .i64 0, .int .i64 0, .string nix, .slice (some ⟨b, 0, none⟩) 2 2]] w fun x w' => x = .returned (.int .i64 50) ∧ Below w.heap.size w w' := by
 have h := eShape_any (O := fun q => q = b) sampleG ⟨none, 0, none, 0, none, 0, none, 0, some ⟨b, 0, none⟩, 2⟩ w (isE_G hb) (fun k hk => by subst hk; exact (Array.getElem?_eq_some_iff.mp hb).1) szE_G hT
 rw [shape_G] at h
 exact h
theorem sam_E {O : Nat → Prop} (w : World) (pk : Option Addr) (ck : Nat) (pl : Option Addr) (cl : Nat) (pp : Option Addr) (cp : Nat) (pa : Option Addr) (ca : Nat) (ps : Option Addr) (cs : Nat) (hI : IsE O w sampleE ⟨pk, ck, pl, cl, pp, cp, pa, ca, ps, cs⟩) (hO : ∀ k, O k → k < w.heap.size) : Calls Tryz.prog 19 #[.agg #[.string sRoom, .string sType, .string sSender, .bool false, .string nix, .int .i64 5, .int .i64 0, .string nix, .slice none 0 0, .slice none 0 0, .slice none 0 0, .slice none 0 0, .int .i64 0, .int .i64 0, .string nix, .slice none 0 0], .agg #[.string sRoom, .string sType, .string sSender, .bool false, .string nix, .int .i64 5, .int .i64 0, .string nix, .slice pk 0 ck, .slice pl 0 cl, .slice pp 0 cp, .slice pa 0 ca, .int .i64 0, .int .i64 0, .string nix, .slice ps 0 cs]] w fun x w' => x = .returned (.bool true) ∧ Below w.heap.size w w' :=
 same_eq0 sampleE Pt.zero ⟨pk, ck, pl, cl, pp, cp, pa, ca, ps, cs⟩ w (isE_bare _ _ _ _ _ _ _ _ _ _ _ _ _) hI hO szE_E (by kernel_rfl) rfl
section
variable {w : World} {ops : Array Oper} {rest : List Oper} {o : Oper} {a : Act} {Q : Exit → Act → World → Prop} {b : Nat} {t : TypeId} {u0 u1 u2 u3 u4 u5 u6 u7 u8 u9 u10 u11 u12 u13 u14 u15 : Value}
theorem wpList_load16g (hg : Region.wanted o (yielded ops a.tmps) = true) (m : Operand) (hop : o.op = Op.load 28 m) (hm : a.eval m = .pointer (some ⟨b, 0, none⟩)) (h : w.heap[b]? = some (.cells #[u0, u1, u2, u3, u4, u5, u6, u7, u8, u9, u10, u11, u12, u13, u14, u15] t (0, 0)))
    (hK : wpList Tryz.prog ops Q rest (a.put o.dst (.agg #[u0, u1, u2, u3, u4, u5, u6, u7, u8, u9, u10, u11, u12, u13, u14, u15])) w) : wpList Tryz.prog ops Q (o :: rest) a w := by
 have hl := loadAtE h
 simp only [wpList, hg, if_true]
 refine Or.inl ?_
 unfold Oper.wp
 simp [execOp, hop, hm, hl, Result.andThen]
 exact hK
end
theorem awake_any (w : World) (hT : Tabs w) : Calls Tryz.prog 15 #[] w fun x w' => x = .returned (.bool true) ∧ Below w.heap.size w w' := by
 have hS := sample_any w
 have HT : Hid (Tabs w) := hT
 clear hT
 simp only [valE, cellsE, J.kind, J.int, J.text, J.keys, J.list, sampleE, Pt.zero, List.length_nil] at hS
 go_enter Tryz.func15, Tryz.ntmps15
 go_upto_region 2 with (go_at_call 26; refine hS.mono ?_; rintro x w1 ⟨rfl, hb1⟩)
 clear hS
 obtain ⟨W1, hW1⟩ : ∃ W1, W1 = w1.alloc (.cells #[.string sRoom, .string sType, .string sSender, .bool false, .string nix, .int .i64 5, .int .i64 0, .string nix, .slice none 0 0, .slice none 0 0, .slice none 0 0, .slice none 0 0, .int .i64 0, .int .i64 0, .string nix, .slice none 0 0] 28) := ⟨_, rfl⟩
 have e1 : W1.heap[w1.heap.size]? = some (.cells #[.string sRoom, .string sType, .string sSender, .bool false, .string nix, .int .i64 5, .int .i64 0, .string nix, .slice none 0 0, .slice none 0 0, .slice none 0 0, .slice none 0 0, .int .i64 0, .int .i64 0, .string nix, .slice none 0 0] 28 (0, 0)) := by rw [hW1]; exact heap_alloc_new _ _
 have g1 : Below w.heap.size w W1 := by rw [hW1]; exact hb1.alloc hb1.size _
 have s1 : w1.heap.size < W1.heap.size := by rw [hW1]; simp
 have s0 := hb1.size
 rw [← hW1]
 clear hW1 hb1
 go_upto_region 3 with (refine wpList_load16 rfl _ rfl rfl e1 ?_)
 obtain ⟨W2, hW2⟩ : ∃ W2, W2 = W1.alloc (.cells #[.string sRoom, .string sType, .string sSender, .bool false, .string nix, .int .i64 5, .int .i64 0, .string nix, .slice none 0 0, .slice none 0 0, .slice none 0 0, .slice none 0 0, .int .i64 0, .int .i64 0, .string nix, .slice none 0 0] 28) := ⟨_, rfl⟩
 have e2 : W2.heap[w1.heap.size]? = some (.cells #[.string sRoom, .string sType, .string sSender, .bool false, .string nix, .int .i64 5, .int .i64 0, .string nix, .slice none 0 0, .slice none 0 0, .slice none 0 0, .slice none 0 0, .int .i64 0, .int .i64 0, .string nix, .slice none 0 0] 28 (0, 0)) := by rw [hW2, Below.heap_alloc _ _ _ s1]; exact e1
 have f2 : W2.heap[W1.heap.size]? = some (.cells #[.string sRoom, .string sType, .string sSender, .bool false, .string nix, .int .i64 5, .int .i64 0, .string nix, .slice none 0 0, .slice none 0 0, .slice none 0 0, .slice none 0 0, .int .i64 0, .int .i64 0, .string nix, .slice none 0 0] 28 (0, 0)) := by rw [hW2]; exact heap_alloc_new _ _
 have g2 : Below w.heap.size w W2 := by rw [hW2]; exact g1.alloc g1.size _
 have s2 : W1.heap.size < W2.heap.size := by rw [hW2]; simp
 rw [← hW2]
 clear hW2 e1
 have q4 := six_c f2 4 _ rfl
 have z4 := six_fz f2 4
 go_upto_region 4 with fail
 clear q4 z4
 have K3 : Keep (One W1.heap.size) W2 (W2.setCell ⟨W1.heap.size, 4, none⟩ (.string ⟨#[107]⟩)) := Keep.setCell (Keep.refl _ _) (fun _ => (rfl : W1.heap.size = W1.heap.size)) _
 have f3 : (W2.setCell ⟨W1.heap.size, 4, none⟩ (.string ⟨#[107]⟩)).heap[W1.heap.size]? = some (.cells #[.string sRoom, .string sType, .string sSender, .bool false, .string ⟨#[107]⟩, .int .i64 5, .int .i64 0, .string nix, .slice none 0 0, .slice none 0 0, .slice none 0 0, .slice none 0 0, .int .i64 0, .int .i64 0, .string nix, .slice none 0 0] 28 (0, 0)) := by rw [heap_setCell_same _ W1.heap.size 4 _ _ _ f2]; rfl
 have e3 := (K3.block w1.heap.size (by omega) (by unfold One; omega)).trans e2
 obtain ⟨W3, hW3⟩ : ∃ W3, W3 = W2.setCell ⟨W1.heap.size, 4, none⟩ (.string ⟨#[107]⟩) := ⟨_, rfl⟩
 rw [← hW3] at K3 f3 e3 ⊢
 have s3 := K3.size
 have g3 : Below w.heap.size w W3 := g2.trans (K3.below (by omega) fun q hq => by unfold One; omega)
 clear hW3 f2 e2 K3
 go_upto_region 5 with (refine wpList_load16 rfl _ rfl rfl e3 ?_)
 obtain ⟨W4, hW4⟩ : ∃ W4, W4 = W3.alloc (.cells #[.string sRoom, .string sType, .string sSender, .bool false, .string nix, .int .i64 5, .int .i64 0, .string nix, .slice none 0 0, .slice none 0 0, .slice none 0 0, .slice none 0 0, .int .i64 0, .int .i64 0, .string nix, .slice none 0 0] 28) := ⟨_, rfl⟩
 have e4 : W4.heap[w1.heap.size]? = some (.cells #[.string sRoom, .string sType, .string sSender, .bool false, .string nix, .int .i64 5, .int .i64 0, .string nix, .slice none 0 0, .slice none 0 0, .slice none 0 0, .slice none 0 0, .int .i64 0, .int .i64 0, .string nix, .slice none 0 0] 28 (0, 0)) := by rw [hW4, Below.heap_alloc _ _ _ (by omega)]; exact e3
 have f4 : W4.heap[W1.heap.size]? = some (.cells #[.string sRoom, .string sType, .string sSender, .bool false, .string ⟨#[107]⟩, .int .i64 5, .int .i64 0, .string nix, .slice none 0 0, .slice none 0 0, .slice none 0 0, .slice none 0 0, .int .i64 0, .int .i64 0, .string nix, .slice none 0 0] 28 (0, 0)) := by rw [hW4, Below.heap_alloc _ _ _ (by omega)]; exact f3
 have k4 : W4.heap[W3.heap.size]? = some (.cells #[.string sRoom, .string sType, .string sSender, .bool false, .string nix, .int .i64 5, .int .i64 0, .string nix, .slice none 0 0, .slice none 0 0, .slice none 0 0, .slice none 0 0, .int .i64 0, .int .i64 0, .string nix, .slice none 0 0] 28 (0, 0)) := by rw [hW4]; exact heap_alloc_new _ _
 have g4 : Below w.heap.size w W4 := by rw [hW4]; exact g3.alloc g3.size _
 have s4 : W3.heap.size < W4.heap.size := by rw [hW4]; simp
 rw [← hW4]
 clear hW4 e3 f3
 have q5 := six_c k4 15 _ rfl
 have z5 := six_fz k4 15
 go_upto_region 6 with fail
 clear q5 z5
 have K5 : Keep (One W3.heap.size) W4 (W4.setCell ⟨W3.heap.size, 15, none⟩ (.slice (some ⟨W4.heap.size, 0, none⟩) 2 2)) := Keep.setCell (Keep.refl _ _) (fun _ => (rfl : W3.heap.size = W3.heap.size)) _
 have k5a : (W4.setCell ⟨W3.heap.size, 15, none⟩ (.slice (some ⟨W4.heap.size, 0, none⟩) 2 2)).heap[W3.heap.size]? = some (.cells #[.string sRoom, .string sType, .string sSender, .bool false, .string nix, .int .i64 5, .int .i64 0, .string nix, .slice none 0 0, .slice none 0 0, .slice none 0 0, .slice none 0 0, .int .i64 0, .int .i64 0, .string nix, .slice (some ⟨W4.heap.size, 0, none⟩) 2 2] 28 (0, 0)) := by rw [heap_setCell_same _ W3.heap.size 15 _ _ _ k4]; rfl
 have z5s : (W4.setCell ⟨W3.heap.size, 15, none⟩ (.slice (some ⟨W4.heap.size, 0, none⟩) 2 2)).heap.size = W4.heap.size := by simp
 obtain ⟨W5, hW5⟩ : ∃ W5, W5 = (W4.setCell ⟨W3.heap.size, 15, none⟩ (.slice (some ⟨W4.heap.size, 0, none⟩) 2 2)).alloc (.cells #[.string ⟨#[98]⟩, .string ⟨#[65, 65, 65, 65, 65, 65, 65, 65, 65, 65, 69]⟩, .string ⟨#[97]⟩, .string ⟨#[65, 65, 65, 65, 65, 65, 65, 65, 65, 65, 69]⟩] 56) := ⟨_, rfl⟩
 have low5 : ∀ q, q < W4.heap.size → q ≠ W3.heap.size → W5.heap[q]? = W4.heap[q]? := fun q hq hn => by rw [hW5, Below.heap_alloc _ _ _ (by omega)]; exact K5.block q hq hn
 have e5 := (low5 w1.heap.size (by omega) (by omega)).trans e4
 have f5 := (low5 W1.heap.size (by omega) (by omega)).trans f4
 have k5 : W5.heap[W3.heap.size]? = some (.cells #[.string sRoom, .string sType, .string sSender, .bool false, .string nix, .int .i64 5, .int .i64 0, .string nix, .slice none 0 0, .slice none 0 0, .slice none 0 0, .slice none 0 0, .int .i64 0, .int .i64 0, .string nix, .slice (some ⟨W4.heap.size, 0, none⟩) 2 2] 28 (0, 0)) := by rw [hW5, Below.heap_alloc _ _ _ (by omega)]; exact k5a
 have m5 : W5.heap[W4.heap.size]? = some (.cells #[.string ⟨#[98]⟩, .string ⟨#[65, 65, 65, 65, 65, 65, 65, 65, 65, 65, 69]⟩, .string ⟨#[97]⟩, .string ⟨#[65, 65, 65, 65, 65, 65, 65, 65, 65, 65, 69]⟩] 56 (0, 0)) := by
  have hh := heap_alloc_new (W4.setCell ⟨W3.heap.size, 15, none⟩ (.slice (some ⟨W4.heap.size, 0, none⟩) 2 2)) (.cells #[.string ⟨#[98]⟩, .string ⟨#[65, 65, 65, 65, 65, 65, 65, 65, 65, 65, 69]⟩, .string ⟨#[97]⟩, .string ⟨#[65, 65, 65, 65, 65, 65, 65, 65, 65, 65, 69]⟩] 56)
  rw [z5s] at hh
  rw [hW5]
  exact hh
 have s5 : W5.heap.size = W4.heap.size + 1 := by rw [hW5]; simp
 have g5 : Below w.heap.size w W5 := g4.trans ⟨by rw [hW5]; rfl, by rw [hW5]; rfl, by rw [hW5]; rfl, by omega, fun q hq => low5 q (by have := g4.size; omega) (by omega)⟩
 have S5 : Hid (W5.heap.size = W4.heap.size + 1) := s5
 have s5a : W4.heap.size < W5.heap.size := by omega
 rw [← hW5]
 clear hW5 k5a z5s K5 e4 f4 k4 low5 s5
 go_upto_region 7 with (refine wpList_load16 rfl _ rfl rfl e5 ?_)
 obtain ⟨W6, hW6⟩ : ∃ W6, W6 = W5.alloc (.cells #[.string sRoom, .string sType, .string sSender, .bool false, .string nix, .int .i64 5, .int .i64 0, .string nix, .slice none 0 0, .slice none 0 0, .slice none 0 0, .slice none 0 0, .int .i64 0, .int .i64 0, .string nix, .slice none 0 0] 28) := ⟨_, rfl⟩
 have e6 : W6.heap[w1.heap.size]? = some (.cells #[.string sRoom, .string sType, .string sSender, .bool false, .string nix, .int .i64 5, .int .i64 0, .string nix, .slice none 0 0, .slice none 0 0, .slice none 0 0, .slice none 0 0, .int .i64 0, .int .i64 0, .string nix, .slice none 0 0] 28 (0, 0)) := by rw [hW6, Below.heap_alloc _ _ _ (by omega)]; exact e5
 have f6 : W6.heap[W1.heap.size]? = some (.cells #[.string sRoom, .string sType, .string sSender, .bool false, .string ⟨#[107]⟩, .int .i64 5, .int .i64 0, .string nix, .slice none 0 0, .slice none 0 0, .slice none 0 0, .slice none 0 0, .int .i64 0, .int .i64 0, .string nix, .slice none 0 0] 28 (0, 0)) := by rw [hW6, Below.heap_alloc _ _ _ (by omega)]; exact f5
 have k6 : W6.heap[W3.heap.size]? = some (.cells #[.string sRoom, .string sType, .string sSender, .bool false, .string nix, .int .i64 5, .int .i64 0, .string nix, .slice none 0 0, .slice none 0 0, .slice none 0 0, .slice none 0 0, .int .i64 0, .int .i64 0, .string nix, .slice (some ⟨W4.heap.size, 0, none⟩) 2 2] 28 (0, 0)) := by rw [hW6, Below.heap_alloc _ _ _ (by omega)]; exact k5
 have m6 := (show W6.heap[W4.heap.size]? = W5.heap[W4.heap.size]? by rw [hW6, Below.heap_alloc _ _ _ (by omega)]).trans m5
 have h6 : W6.heap[W5.heap.size]? = some (.cells #[.string sRoom, .string sType, .string sSender, .bool false, .string nix, .int .i64 5, .int .i64 0, .string nix, .slice none 0 0, .slice none 0 0, .slice none 0 0, .slice none 0 0, .int .i64 0, .int .i64 0, .string nix, .slice none 0 0] 28 (0, 0)) := by rw [hW6]; exact heap_alloc_new _ _
 have g6 : Below w.heap.size w W6 := by rw [hW6]; exact g5.alloc g5.size _
 have s6 : W5.heap.size < W6.heap.size := by rw [hW6]; simp
 rw [← hW6]
 clear hW6 e5 f5 k5 m5
 have q7 := six_c h6 5 _ rfl
 have z7 := six_fz h6 5
 go_upto_region 8 with fail
 clear q7 z7
 have K7 : Keep (One W5.heap.size) W6 (W6.setCell ⟨W5.heap.size, 5, none⟩ (.int .i64 0)) := Keep.setCell (Keep.refl _ _) (fun _ => (rfl : W5.heap.size = W5.heap.size)) _
 have h7 : (W6.setCell ⟨W5.heap.size, 5, none⟩ (.int .i64 0)).heap[W5.heap.size]? = some (.cells #[.string sRoom, .string sType, .string sSender, .bool false, .string nix, .int .i64 0, .int .i64 0, .string nix, .slice none 0 0, .slice none 0 0, .slice none 0 0, .slice none 0 0, .int .i64 0, .int .i64 0, .string nix, .slice none 0 0] 28 (0, 0)) := by rw [heap_setCell_same _ W5.heap.size 5 _ _ _ h6]; rfl
 obtain ⟨W7, hW7⟩ : ∃ W7, W7 = W6.setCell ⟨W5.heap.size, 5, none⟩ (.int .i64 0) := ⟨_, rfl⟩
 rw [← hW7] at K7 h7 ⊢
 have e7 := (K7.block w1.heap.size (by omega) (by unfold One; omega)).trans e6
 have f7 := (K7.block W1.heap.size (by omega) (by unfold One; omega)).trans f6
 have k7 := (K7.block W3.heap.size (by omega) (by unfold One; omega)).trans k6
 have m7 := (K7.block W4.heap.size (by omega) (by unfold One; omega)).trans m6
 have s7 := K7.size
 have g7 : Below w.heap.size w W7 := g6.trans (K7.below (by omega) fun q hq => by unfold One; have := g5.size; omega)
 clear hW7 e6 f6 k6 m6 h6 K7
 have G7 : Hid (Below w.heap.size w W7) := g7
 have T7 : Hid (Tabs W7) := HT.out.below g7
 clear g1 g2 g3 g4 g5 g6 g7
 go_upto_region 9 with (first
  | (go_at_call 20; refine (enc_E W7 T7.out).mono ?_; rintro x w8 ⟨⟨p8, n8, c8, rfl, hr8⟩, hb8⟩)
  | (refine wpList_load16 rfl _ rfl rfl e7 ?_))
 have S8 := hb8.size
 have e8 := (hb8.block w1.heap.size (by omega)).trans e7
 have f8 := (hb8.block W1.heap.size (by omega)).trans f7
 have k8 := (hb8.block W3.heap.size (by omega)).trans k7
 have m8 := (hb8.block W4.heap.size (by omega)).trans m7
 have h8 := (hb8.block W5.heap.size (by omega)).trans h7
 have G8 : Hid (Below w.heap.size w w8) := below_in G7.out hb8
 have T8 : Hid (Tabs w8) := HT.out.below G8.out
 clear e7 f7 k7 m7 h7 hb8 T7 G7
 go_upto_region 10 with (go_at_call 21; refine (dec_E w8 p8 n8 c8 hr8 T8.out).mono ?_; rintro x w9 ⟨⟨pk, ck, pl, cl, pp, cp, pa, ca, ps, cs, rfl, hI9⟩, hb9⟩)
 have S9 := hb9.size
 obtain ⟨W10, hW10⟩ : ∃ W10, W10 = w9.alloc (.cells #[.string sRoom, .string sType, .string sSender, .bool false, .string nix, .int .i64 5, .int .i64 0, .string nix, .slice pk 0 ck, .slice pl 0 cl, .slice pp 0 cp, .slice pa 0 ca, .int .i64 0, .int .i64 0, .string nix, .slice ps 0 cs] 28) := ⟨_, rfl⟩
 have low10 : ∀ q, q < w8.heap.size → W10.heap[q]? = w8.heap[q]? := fun q hq => by rw [hW10, Below.heap_alloc _ _ _ (by omega)]; exact hb9.block q hq
 have e10 := (low10 w1.heap.size (by omega)).trans e8
 have f10 := (low10 W1.heap.size (by omega)).trans f8
 have k10 := (low10 W3.heap.size (by omega)).trans k8
 have m10 := (low10 W4.heap.size (by omega)).trans m8
 have h10 := (low10 W5.heap.size (by omega)).trans h8
 have d10 : W10.heap[w9.heap.size]? = some (.cells #[.string sRoom, .string sType, .string sSender, .bool false, .string nix, .int .i64 5, .int .i64 0, .string nix, .slice pk 0 ck, .slice pl 0 cl, .slice pp 0 cp, .slice pa 0 ca, .int .i64 0, .int .i64 0, .string nix, .slice ps 0 cs] 28 (0, 0)) := by rw [hW10]; exact heap_alloc_new _ _
 have s10 : w9.heap.size < W10.heap.size := by rw [hW10]; simp
 have b10 : Below w9.heap.size w9 W10 := by rw [hW10]; exact (Below.refl _ _).alloc (Nat.le_refl _) _
 have HI : Hid (IsE (New w8 w9) W10 sampleE ⟨pk, ck, pl, cl, pp, cp, pa, ca, ps, cs⟩) := hI9.below (fun k hk => hk.2) b10
 have G10 : Hid (Below w.heap.size w W10) := below_in (below_in G8.out hb9) b10
 have T10 : Hid (Tabs W10) := HT.out.below G10.out
 rw [← hW10]
 clear hW10 e8 f8 k8 m8 h8 hb9 hI9 b10 low10 hr8 T8 G8
 have S5o := S5.out
 have L1 : Hid (w1.heap.size < W10.heap.size) := (by omega : _ < _)
 have L2 : Hid (W1.heap.size < W10.heap.size) := (by omega : _ < _)
 have L3 : Hid (W3.heap.size < W10.heap.size) := (by omega : _ < _)
 have L4 : Hid (W4.heap.size < W10.heap.size) := (by omega : _ < _)
 have L5 : Hid (W5.heap.size < W10.heap.size) := (by omega : _ < _)
 have L9 : Hid (w9.heap.size < W10.heap.size) := s10
 clear S5o s1 s2 s3 s4 s6 s7 S8 S9 s10
 go_wp2_with (first
  | (go_at_call 19; refine (sam_E w14 pk ck pl cl pp cp pa ca ps cs (HI.out.below (fun k hk => Nat.lt_trans hk.2 L9.out) B14.out) (fun k hk => Nat.lt_of_lt_of_le (Nat.lt_trans hk.2 L9.out) B14.out.size)).mono ?_; rintro x w15 ⟨rfl, hb15⟩)
  | (go_at_call 10; have _x := h13; refine (shp_H w13 (T10.out.below B13.out)).mono ?_; rintro x w14 ⟨rfl, hb14⟩
     have B14 : Hid (Below W10.heap.size W10 w14) := below_in B13.out hb14
     have e14 := (B14.out.block w1.heap.size L1.out).trans E10.out
     have d14 := (B14.out.block w9.heap.size L9.out).trans D10.out
     clear h13 hb14 _x)
  | (go_at_call 10; have _x := k12; refine (shp_G w12 W4.heap.size (T10.out.below B12.out) ((B12.out.block W4.heap.size L4.out).trans M10.out)).mono ?_; rintro x w13 ⟨rfl, hb13⟩
     have B13 : Hid (Below W10.heap.size W10 w13) := below_in B12.out hb13
     have h13 := (B13.out.block W5.heap.size L5.out).trans H10.out
     clear k12 hb13 _x)
  | (go_at_call 10; have _x := f11; refine (shp_F w11 (T10.out.below B11.out)).mono ?_; rintro x w12 ⟨rfl, hb12⟩
     have B12 : Hid (Below W10.heap.size W10 w12) := below_in B11.out hb12
     have k12 := (B12.out.block W3.heap.size L3.out).trans K10.out
     clear f11 hb12 _x)
  | (go_at_call 10; refine (shp_E W10 T10.out).mono ?_; rintro x w11 ⟨rfl, hb11⟩
     have B11 : Hid (Below W10.heap.size W10 w11) := hb11
     have f11 := (hb11.block W1.heap.size L2.out).trans f10
     have K10 : Hid _ := k10
     have M10 : Hid _ := m10
     have H10 : Hid _ := h10
     have D10 : Hid _ := d10
     have E10 : Hid _ := e10
     clear e10 f10 k10 m10 h10 d10 hb11)
  | (refine wpList_load16 rfl _ rfl rfl e10 ?_)
  | (refine wpList_load16g (by rfl) _ rfl rfl f11 ?_)
  | (refine wpList_load16g (by rfl) _ rfl rfl k12 ?_)
  | (refine wpList_load16g (by rfl) _ rfl rfl h13 ?_)
  | (refine wpList_load16g (by rfl) _ rfl rfl e14 ?_)
  | (refine wpList_load16g (by rfl) _ rfl rfl d14 ?_))
 go_ret
 exact ⟨rfl, below_in G10.out (below_in B14.out hb15)⟩
theorem shape_zero {e : Ev} (h : shapeE e = 0) : shapedE e = true ∧ (encB e).length ≤ 16384 := by
 unfold shapeE at h
 cases hs : shapedE e with
 | false => rw [hs, if_neg (by decide)] at h; exact absurd h (by decide)
 | true =>
  rw [hs, if_pos rfl] at h
  by_cases hl : 16384 < (encB e).length
  · rw [if_pos hl] at h; exact absurd h (by decide)
  · exact ⟨rfl, by omega⟩
theorem back_sz {e : Ev} (h : SzE e) (hs : shapedE e = true) : SzE (backE e) :=
 ⟨h.room, h.typ, h.sender, h.key, h.hash, sz_ord 12 _ (good_more (filled_good (shaped_parts hs).2.2.1).1) h.cont, h.prev, h.prevs, h.auth, h.auths, h.sigs, h.sigss⟩
theorem shape_two {O : Nat → Prop} (e : Ev) (p : Pt) (w : World) (hE : IsE O w e p) (hO : ∀ k, O k → k < w.heap.size) (hz : SzE e) (hT : Tabs w) :
    Calls Tryz.prog 10 #[valE e p] w fun x w' => ((x = .returned (.int .i64 0) ∧ shapedE e = true ∧ (encB e).length ≤ 16384) ∨ ∃ n, n ≠ 0 ∧ x = .returned (.int .i64 n)) ∧ Below w.heap.size w w' := by
 refine (eShape_any e p w hE hO hz hT).mono ?_
 rintro x w' ⟨h, hb⟩
 refine ⟨?_, hb⟩
 by_cases h0 : shapeE e = 0
 · exact .inl ⟨by rw [h, h0], shape_zero h0⟩
 · exact .inr ⟨_, h0, h⟩
theorem few_two {O : Nat → Prop} (e : Ev) (p : Pt) (w : World) (hE : IsE O w e p) (hO : ∀ k, O k → k < w.heap.size) (hl : BigE e) :
    Calls Tryz.prog 9 #[valE e p] w fun x w' => (x = .returned (.bool false) ∨ (x = .returned (.bool true) ∧ FewE e)) ∧ Below w.heap.size w w' := by
 refine (eFew_any e p w hE hO hl).mono ?_
 rintro x w' ⟨⟨b, h, hf⟩, hb⟩
 refine ⟨?_, hb⟩
 cases b
 · exact .inl h
 · exact .inr ⟨h, hf rfl⟩
end Go.Proofs.YtegcgbjjpgjnmaaGreatDoor

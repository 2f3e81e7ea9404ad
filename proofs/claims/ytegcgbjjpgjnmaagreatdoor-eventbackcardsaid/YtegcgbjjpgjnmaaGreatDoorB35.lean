/-
  The document's Order, by a contract.
  An event's JSON, and an event with its content in order: by contracts.
  The document's order, by a contract that says where the rows lie.
  An event with its content in order, by the document: by a contract.
  Events that are the same, by a contract.
  How many of so many values are left (the law of events), by a contract.
-/
import Derived.Test.YtegcgbjjpgjnmaaGreatDoorB34
import Derived.Deep.QuietTactic
import Derived.Laws.StructEq
set_option maxRecDepth 100000
set_option maxHeartbeats 16000000
namespace Go.Proofs.YtegcgbjjpgjnmaaGreatDoor
open Go.RowKit
theorem rord_zero : Rords 0 := fun _ _ j _ _ _ _ _ _ _ _ _ _ hg => by unfold goodJ at hg; cases hg
theorem rords : ∀ d, Rords d
 | 0 => rord_zero
 | d + 1 => rord_step (rords d)
def ordR (j : J) : J := if goodJ 12 j = true then ord j else J.zero
theorem two_new2 {w : World} (o1 o2 : Obj) : ((w.alloc o1).alloc o2).heap[w.heap.size + 1]? = some o2 := by
 have := heap_alloc_new (w.alloc o1) o2
 simpa using this
theorem below_then3 {w w2 w3 : World} (h : Below w.heap.size w w2) (hk : Keep (One (w.heap.size + 1)) w2 w3) : Below w.heap.size w w3 :=
 h.trans (hk.below h.size fun k hk' e => by unfold One at e; omega)
end Go.Proofs.YtegcgbjjpgjnmaaGreatDoor
namespace Go.Proofs.YtegcgbjjpgjnmaaGreatDoor
open Go.RowKit Go.Maps
theorem loadJ5 {w : World} {b : Nat} {t : TypeId} {a0 a1 a2 a3 a4 : Value} (h : w.heap[b]? = some (.cells #[a0, a1, a2, a3, a4] t (0, 0))) : (loadVar 25 ⟨b, 0, none⟩).run Tryz.prog w = .ok (.agg #[a0, a1, a2, a3, a4]) w := by
 have k0 := five_c0 h; have k1 := five_c1 h; have k2 := five_c2 h; have k3 := five_c3 h; have k4 := five_c4 h
 simp [loadVar, go_sem, k0, k1, k2, k3, k4]
theorem toJson_any {O : Nat → Prop} (e : Ev) (p : Pt) (w : World) (hE : IsE O w e p) (hO : ∀ k, O k → k < w.heap.size) (hz : SzE e) (hT : Tabs w) (hs : shapedE e = true) :
    Calls Tryz.prog 13 #[valE e p] w fun x w' => (∃ kr ir tr pr nr cr qr mr dr, x = .returned (.agg #[.int .i64 kr, .int .i64 ir, .string tr, .slice pr nr cr, .slice qr mr dr]) ∧ isJ (fun b => O b ∨ New w w' b) w' (ord (toldJ e)) [.int .i64 kr, .int .i64 ir, .string tr, .slice pr nr cr, .slice qr mr dr]) ∧ Below w.heap.size w w' := by
 have hcl := sz_told hz
 have hord : ordT (toldJ e) = ord (toldJ e) := by unfold ordT; rw [if_pos (shaped_good hs)]
 obtain ⟨WB, hWB⟩ : ∃ WB, WB = (w.alloc (.cells (cellsE e p).toArray 28)).alloc (.cells #[.int .i64 0, .int .i64 0, .string ⟨#[]⟩, .slice none 0 0, .slice none 0 0] 25) := ⟨_, rfl⟩
 have hbw : Below w.heap.size w WB := by rw [hWB]; exact ((Below.refl _ _).alloc (Nat.le_refl _) _).alloc (by simp) _
 have hx0 : WB.heap[w.heap.size]? = some (.cells (cellsE e p).toArray 28 (0, 0)) := by rw [hWB]; exact one_of _ _
 have hr0 : WB.heap[w.heap.size + 1]? = some (.cells #[.int .i64 0, .int .i64 0, .string ⟨#[]⟩, .slice none 0 0, .slice none 0 0] 25 (0, 0)) := by rw [hWB]; exact two_at _ _
 have hsB : w.heap.size + 2 ≤ WB.heap.size := by rw [hWB]; simp
 have hSh := shaped_any e p WB (hE.below hO hbw) (fun k hk => Nat.lt_of_lt_of_le (hO k hk) hbw.size) hz (hT.below hbw)
 rw [hs] at hSh
 have HTo : Hid (∀ W, Below WB.heap.size WB W → Calls Tryz.prog 33 #[valE e p] W fun x w' => (∃ pk nk ck pl nl cl, x = .returned (.agg #[.int .i64 5, .int .i64 0, .string nix, .slice pk nk ck, .slice pl nl cl]) ∧ isJ (fun k => O k ∨ New W w' k) w' (toldJ e) [.int .i64 5, .int .i64 0, .string nix, .slice pk nk ck, .slice pl nl cl]) ∧ Below W.heap.size W w') := fun W hW =>
  told_any e p W (hE.below hO (below_in hbw hW)) (fun k hk => Nat.lt_of_lt_of_le (hO k hk) (below_in hbw hW).size) hz
 have HOr : Hid (∀ W W2 pk nk ck pl nl cl, Below w.heap.size w W → Below W.heap.size W W2 → isJ (fun k => O k ∨ New W W2 k) W2 (toldJ e) [.int .i64 5, .int .i64 0, .string nix, .slice pk nk ck, .slice pl nl cl] → Calls Tryz.prog 32 #[.agg #[.int .i64 5, .int .i64 0, .string nix, .slice pk nk ck, .slice pl nl cl]] W2 fun x w' => (∃ kr ir tr pr nr cr qr mr dr, x = .returned (.agg #[.int .i64 kr, .int .i64 ir, .string tr, .slice pr nr cr, .slice qr mr dr]) ∧ isJ (fun b => (O b ∨ New W W2 b) ∨ New W2 w' b) w' (ord (toldJ e)) [.int .i64 kr, .int .i64 ir, .string tr, .slice pr nr cr, .slice qr mr dr]) ∧ Below W2.heap.size W2 w') := fun W W2 pk nk ck pl nl cl h1 h2 hj => by
  have h := order_new (O := fun k => O k ∨ New W W2 k) (fun x hx => hx.elim (fun h => Nat.lt_of_lt_of_le (hO x h) (below_in h1 h2).size) fun h => h.2) hcl hj
  rw [hord] at h
  exact h
 have HBW : Hid (Below w.heap.size w WB) := hbw
 have HO : Hid (∀ k, O k → k < w.heap.size) := hO
 generalize hTJ : ord (toldJ e) = TJ at HOr ⊢
 generalize toldJ e = TE at HTo HOr
 obtain ⟨room, typ, sender, st, key, ⟨k, i, t, ks, l⟩, prev, auth, depth, ts, hash, sigs⟩ := e
 obtain ⟨pk, ck, pl, cl, pp, cp, pa, ca, ps, cs⟩ := p
 simp only [valE, cellsE, J.kind, J.int, J.text, J.keys, J.list] at hWB hx0 hSh HTo ⊢
 have HX0 : Hid (WB.heap[w.heap.size]? = some (.cells #[.string room, .string typ, .string sender, .bool st, .string key, .int .i64 k, .int .i64 i, .string t, .slice pk ks.length ck, .slice pl l.length cl, .slice pp prev.length cp, .slice pa auth.length ca, .int .i64 depth, .int .i64 ts, .string hash, .slice ps sigs.length cs] 28 (0, 0))) := hx0
 have HR0 : Hid (WB.heap[w.heap.size + 1]? = some (.cells #[.int .i64 0, .int .i64 0, .string ⟨#[]⟩, .slice none 0 0, .slice none 0 0] 25 (0, 0))) := hr0
 clear hE hO hz hT hs hcl hord hTJ hr0 hbw
 go_enter Tryz.func13, Tryz.ntmps13
 go_upto_region 1 with fail
 rw [← hWB]
 clear hWB
 go_wp2_with (first
  | (refine wpList_load16 rfl _ rfl rfl hx0 ?_)
  | (go_at_call 31; refine hSh.mono ?_; rintro x w1 ⟨rfl, hb1⟩
     have hx1 := (hb1.block w.heap.size (by omega)).trans hx0
     have hTo := HTo.out w1 hb1
     clear hx0 hSh)
  | (refine wpList_load16 rfl _ rfl rfl hx1 ?_)
  | (go_at_call 33; refine hTo.mono ?_; rintro x w2 ⟨⟨qk, nk, dk, ql, nl, dl, rfl, hj2⟩, hb2⟩
     have hOr := HOr.out w1 w2 qk nk dk ql nl dl (below_in HBW.out hb1) hb2 hj2
     clear hTo hx1)
  | (go_at_call 32; refine hOr.mono ?_; rintro x w3 ⟨⟨kr, ir, tr, pr, nr, cr, qr, mr, dr, rfl, hj3⟩, hb3⟩
     have s1 := hb1.size; have s2 := hb2.size; have s3 := hb3.size
     have hr3 := (hb3.block (w.heap.size + 1) (by omega)).trans ((hb2.block (w.heap.size + 1) (by omega)).trans ((hb1.block (w.heap.size + 1) (by omega)).trans HR0.out))
     have i0 := five_c0 hr3; have i1 := five_c1 hr3; have i2 := five_c2 hr3; have i3 := five_c3 hr3; have i4 := five_c4 hr3
     have z0 := five_fz hr3 0; have z1 := five_fz hr3 1; have z2 := five_fz hr3 2; have z3 := five_fz hr3 3; have z4 := five_fz hr3 4))
 have h5 := set5_heap hr3 (.int .i64 kr) (.int .i64 ir) (.string tr) (.slice pr nr cr) (.slice qr mr dr)
 have HK5 : Keep (One (w.heap.size + 1)) w3 _ := set5_keep w3 (w.heap.size + 1) (.int .i64 kr) (.int .i64 ir) (.string tr) (.slice pr nr cr) (.slice qr mr dr)
 obtain ⟨WE, hWE⟩ : ∃ WE, WE = set5 w3 (w.heap.size + 1) (.int .i64 kr) (.int .i64 ir) (.string tr) (.slice pr nr cr) (.slice qr mr dr) := ⟨_, rfl⟩
 rw [← hWE] at h5 HK5
 unfold set5 at hWE
 rw [← hWE]
 refine bodyPost_ret (results_cell rfl _ _ _ rfl (loadJ5 h5)) rfl ?_
 have s5 := HK5.size
 have b3 : Below w.heap.size w w3 := below_in HBW.out (below_in hb1 (below_in hb2 hb3))
 refine ⟨⟨_, _, _, _, _, _, _, _, _, rfl, hj3.carry fun q hq => ?_⟩, b3.trans (HK5.below (by omega) fun q hq => by unfold One; omega)⟩
 rcases hq with (hq | hq) | hq
 · exact ⟨.inl hq, HK5.block q (by have := HO.out q hq; omega) (by have := HO.out q hq; unfold One; omega)⟩
 · exact ⟨.inr ⟨by have := hq.1; omega, by have := hq.2; omega⟩, HK5.block q (by have := hq.2; omega) (by have := hq.1; unfold One; omega)⟩
 · exact ⟨.inr ⟨by have := hq.1; omega, by have := hq.2; omega⟩, HK5.block q hq.2 (by have := hq.1; unfold One; omega)⟩
end Go.Proofs.YtegcgbjjpgjnmaaGreatDoor
namespace Go.Proofs.YtegcgbjjpgjnmaaGreatDoor
open Go.RowKit
theorem rOrder_new {w : World} {O : Nat → Prop} {j : J} {k i : Int} {t : ByteArray} {pk pl : Option Addr} {nk ck nl cl : Nat} (hO : ∀ x, O x → x < w.heap.size) (hsz : szJ 12 j = true)
    (hj : isJ O w j [.int .i64 k, .int .i64 i, .string t, .slice pk nk ck, .slice pl nl cl]) :
    Calls Tryz.prog 36 #[.agg #[.int .i64 k, .int .i64 i, .string t, .slice pk nk ck, .slice pl nl cl]] w fun x w' => (∃ kr ir tr pr nr cr qr mr dr, x = .returned (.agg #[.int .i64 kr, .int .i64 ir, .string tr, .slice pr nr cr, .slice qr mr dr]) ∧ isJ (fun b => O b ∨ New w w' b) w' (ordR j) [.int .i64 kr, .int .i64 ir, .string tr, .slice pr nr cr, .slice qr mr dr]) ∧ Below w.heap.size w w' := by
 have hbB : Below w.heap.size w ((w.alloc (.cells #[.int .i64 k, .int .i64 i, .string t, .slice pk nk ck, .slice pl nl cl] 25)).alloc (.cells #[.int .i64 0, .int .i64 0, .string ⟨#[]⟩, .slice none 0 0, .slice none 0 0] 25)) := ((Below.refl _ _).alloc (Nat.le_refl _) _).alloc (by simp) _
 obtain ⟨wB, hwB⟩ : ∃ wB, wB = ((w.alloc (.cells #[.int .i64 k, .int .i64 i, .string t, .slice pk nk ck, .slice pl nl cl] 25)).alloc (.cells #[.int .i64 0, .int .i64 0, .string ⟨#[]⟩, .slice none 0 0, .slice none 0 0] 25)) := ⟨_, rfl⟩
 have hA : wB.heap[w.heap.size]? = some (.cells #[.int .i64 k, .int .i64 i, .string t, .slice pk nk ck, .slice pl nl cl] 25 (0, 0)) := by
  rw [hwB, Below.heap_alloc _ _ _ (by simp)]
  exact heap_alloc_new _ _
 have hR : wB.heap[w.heap.size + 1]? = some (.cells #[.int .i64 0, .int .i64 0, .string ⟨#[]⟩, .slice none 0 0, .slice none 0 0] 25 (0, 0)) := by rw [hwB]; exact two_new2 _ _
 rw [← hwB] at hbB
 have hOB : ∀ x, O x → x < wB.heap.size := fun x hx => Nat.lt_of_lt_of_le (hO x hx) hbB.size
 have hjB := hj.carry (O' := O) (w' := wB) fun x hx => ⟨hx, hbB.block x (hO x hx)⟩
 have hG := rGood_any hOB hsz hjB
 have hsA : w.heap.size < wB.heap.size := (Array.getElem?_eq_some_iff.1 hA).1
 have hsR : w.heap.size + 1 < wB.heap.size := (Array.getElem?_eq_some_iff.1 hR).1
 have c0 := five_c0 hA
 cases hg : goodJ 12 j with
 | false =>
  have HZ : Hid (ordR j = J.zero) := by show _ = _; unfold ordR; rw [hg]; rfl
  rw [hg] at hG
  rw [hwB] at hG
  clear hj hjB c0
  go_enter Tryz.func36, Tryz.ntmps36
  go_wp2_with (go_at_call 35; refine hG.mono ?_; rintro x w2 ⟨rfl, hb2⟩
               rw [← hwB] at hb2
               have hres := (hb2.block _ hsR).trans hR
               have i0 := five_c0 hres; have i1 := five_c1 hres; have i2 := five_c2 hres; have i3 := five_c3 hres; have i4 := five_c4 hres
               have z0 := five_fz hres 0; have z1 := five_fz hres 1; have z2 := five_fz hres 2; have z3 := five_fz hres 3; have z4 := five_fz hres 4)
  have h5 := set5_heap hres (.int .i64 0) (.int .i64 0) (.string ⟨#[]⟩) (.slice none 0 0) (.slice none 0 0)
  have HK5 : Keep (One (w.heap.size + 1)) w2 _ := set5_keep w2 (w.heap.size + 1) (.int .i64 0) (.int .i64 0) (.string ⟨#[]⟩) (.slice none 0 0) (.slice none 0 0)
  unfold set5 at h5 HK5
  have k0 := five_c0 h5; have k1 := five_c1 h5; have k2 := five_c2 h5; have k3 := five_c3 h5; have k4 := five_c4 h5
  refine bodyPost_ret (v := .agg #[.int .i64 0, .int .i64 0, .string ⟨#[]⟩, .slice none 0 0, .slice none 0 0]) (by simp [results, Tryz.results36, go_sem, k0, k1, k2, k3, k4]) rfl ?_
  refine ⟨⟨_, _, _, _, _, _, _, _, _, rfl, ?_⟩, below_then3 (below_in hbB hb2) HK5⟩
  rw [HZ.out]
  exact isJ_zero _ _
 | true =>
  have HZ : Hid (ordR j = ord j) := by show _ = _; unfold ordR; rw [hg]; rfl
  have HGG : Hid (goodJ 12 j = true) := hg
  have HJ : Hid (isJ O wB j [.int .i64 k, .int .i64 i, .string t, .slice pk nk ck, .slice pl nl cl]) := hjB
  rw [hg] at hG
  rw [hwB] at hG
  clear hj hjB hg c0
  go_enter Tryz.func36, Tryz.ntmps36
  go_wp2_with (first
   | (go_at_call 35; refine hG.mono ?_; rintro x w2 ⟨rfl, hb2⟩
      rw [← hwB] at hb2
      have hA2 := (hb2.block _ hsA).trans hA
      have c0 := five_c0 hA2; have c1 := five_c1 hA2; have c2 := five_c2 hA2; have c3 := five_c3 hA2; have c4 := five_c4 hA2
      have hArr := rords 12 w2 O j k i t pk pl nk ck nl cl (fun x hx => Nat.lt_of_lt_of_le (hOB x hx) hb2.size) HGG.out hsz (HJ.out.carry fun x hx => ⟨hx, hb2.block x (hOB x hx)⟩))
   | (go_at_call 45; refine hArr.mono ?_; rintro x w4 ⟨⟨kr, ir, tr, pr, nr, cr, qr, mr, dr, rfl, hjr⟩, hb4⟩
      have hB4 := below_in hb2 hb4
      have hres := (hB4.block _ hsR).trans hR
      have i0 := five_c0 hres; have i1 := five_c1 hres; have i2 := five_c2 hres; have i3 := five_c3 hres; have i4 := five_c4 hres
      have z0 := five_fz hres 0; have z1 := five_fz hres 1; have z2 := five_fz hres 2; have z3 := five_fz hres 3; have z4 := five_fz hres 4))
  have h5 := set5_heap hres (.int .i64 kr) (.int .i64 ir) (.string tr) (.slice pr nr cr) (.slice qr mr dr)
  have HK5 : Keep (One (w.heap.size + 1)) w4 _ := set5_keep w4 (w.heap.size + 1) (.int .i64 kr) (.int .i64 ir) (.string tr) (.slice pr nr cr) (.slice qr mr dr)
  unfold set5 at h5 HK5
  have k0 := five_c0 h5; have k1 := five_c1 h5; have k2 := five_c2 h5; have k3 := five_c3 h5; have k4 := five_c4 h5
  refine bodyPost_ret (v := .agg #[.int .i64 kr, .int .i64 ir, .string tr, .slice pr nr cr, .slice qr mr dr]) (by simp [results, Tryz.results36, go_sem, k0, k1, k2, k3, k4]) rfl ?_
  refine ⟨⟨_, _, _, _, _, _, _, _, _, rfl, ?_⟩, below_then3 (below_in hbB hB4) HK5⟩
  rw [HZ.out]
  refine hjr.carry fun x hx => ?_
  have hlt : x < w4.heap.size ∧ x ≠ w.heap.size + 1 := by
   have s2 := hb2.size
   have s4 := hb4.size
   rcases hx with hx | hx
   · have := hO x hx
     exact ⟨by have := hbB.size; omega, by omega⟩
   · have := hx.1
     exact ⟨hx.2, by omega⟩
  refine ⟨?_, HK5.block x hlt.1 (by unfold One; exact hlt.2)⟩
  rcases hx with hx | hx
  · exact .inl hx
  · exact .inr ⟨by have := hx.1; have := hb2.size; omega, Nat.lt_of_lt_of_le hlt.1 HK5.size⟩
end Go.Proofs.YtegcgbjjpgjnmaaGreatDoor
namespace Go.Proofs.YtegcgbjjpgjnmaaGreatDoor
open Go.RowKit Go.Maps
def OrdP (w w' : World) (e : Ev) (x : Ending) : Prop := (∃ p2, x = .returned (valE e p2) ∧ IsE (fun b => b < w'.heap.size) w' e p2) ∧ Below w.heap.size w w'
def set59 (w : World) (b : Nat) (v5 v6 v7 v8 v9 : Value) : World := ((((w.setCell ⟨b, 5, none⟩ v5).setCell ⟨b, 6, none⟩ v6).setCell ⟨b, 7, none⟩ v7).setCell ⟨b, 8, none⟩ v8).setCell ⟨b, 9, none⟩ v9
theorem set59_heap {w : World} {b : Nat} {t : TypeId} {a0 a1 a2 a3 a4 a5 a6 a7 a8 a9 a10 a11 a12 a13 a14 a15 : Value} (h : w.heap[b]? = some (.cells #[a0, a1, a2, a3, a4, a5, a6, a7, a8, a9, a10, a11, a12, a13, a14, a15] t (0, 0))) (v5 v6 v7 v8 v9 : Value) : (set59 w b v5 v6 v7 v8 v9).heap[b]? = some (.cells #[a0, a1, a2, a3, a4, v5, v6, v7, v8, v9, a10, a11, a12, a13, a14, a15] t (0, 0)) := by
 have h5 := heap_setCell_same w b 5 _ _ v5 h
 have h6 := heap_setCell_same _ b 6 _ _ v6 h5
 have h7 := heap_setCell_same _ b 7 _ _ v7 h6
 have h8 := heap_setCell_same _ b 8 _ _ v8 h7
 have h9 := heap_setCell_same _ b 9 _ _ v9 h8
 exact h9
theorem set59_keep (w : World) (b : Nat) (v5 v6 v7 v8 v9 : Value) : Keep (One b) w (set59 w b v5 v6 v7 v8 v9) :=
 Keep.setCell (Keep.setCell (Keep.setCell (Keep.setCell (Keep.setCell (Keep.refl _ _) (fun _ => (rfl : b = b)) _) (fun _ => (rfl : b = b)) _) (fun _ => (rfl : b = b)) _) (fun _ => (rfl : b = b)) _) (fun _ => (rfl : b = b)) _
theorem rOrderE_any {O : Nat → Prop} (e : Ev) (p : Pt) (w : World) (hE : IsE O w e p) (hO : ∀ k, O k → k < w.heap.size) (hz : SzE e) (hg : goodJ 12 e.content = true) :
    Calls Tryz.prog 22 #[valE e p] w fun x w' => OrdP w w' (backE e) x := by
 have hord : ordR e.content = ord e.content := by unfold ordR; rw [if_pos hg]
 obtain ⟨WB, hWB⟩ : ∃ WB, WB = (w.alloc (.cells (cellsE e p).toArray 28)).alloc (.cells #[.string ⟨#[]⟩, .string ⟨#[]⟩, .string ⟨#[]⟩, .bool false, .string ⟨#[]⟩, .int .i64 0, .int .i64 0, .string ⟨#[]⟩, .slice none 0 0, .slice none 0 0, .slice none 0 0, .slice none 0 0, .int .i64 0, .int .i64 0, .string ⟨#[]⟩, .slice none 0 0] 28) := ⟨_, rfl⟩
 have hbw : Below w.heap.size w WB := by rw [hWB]; exact ((Below.refl _ _).alloc (Nat.le_refl _) _).alloc (by simp) _
 have hx0 : WB.heap[w.heap.size]? = some (.cells (cellsE e p).toArray 28 (0, 0)) := by rw [hWB]; exact one_of _ _
 have hr0 : WB.heap[w.heap.size + 1]? = some (.cells #[.string ⟨#[]⟩, .string ⟨#[]⟩, .string ⟨#[]⟩, .bool false, .string ⟨#[]⟩, .int .i64 0, .int .i64 0, .string ⟨#[]⟩, .slice none 0 0, .slice none 0 0, .slice none 0 0, .slice none 0 0, .int .i64 0, .int .i64 0, .string ⟨#[]⟩, .slice none 0 0] 28 (0, 0)) := by rw [hWB]; exact two_at _ _
 have hsB : w.heap.size + 2 ≤ WB.heap.size := by rw [hWB]; simp
 have hIB := hE.below hO hbw
 have hC := rOrder_new (w := WB) (fun x hx => Nat.lt_of_lt_of_le (hO x hx) hbw.size) hz.cont hIB.cont
 rw [hord] at hC
 have HI : Hid (IsE O WB e p) := hIB
 have HO : Hid (∀ k, O k → k < w.heap.size) := hO
 have HBW : Hid (Below w.heap.size w WB) := hbw
 have HBK : Hid (backE e = ⟨e.room, e.typ, e.sender, e.st, e.key, ord e.content, e.prev, e.auth, e.depth, e.ts, e.hash, e.sigs⟩) := rfl
 generalize backE e = BE at HBK ⊢
 generalize ord e.content = OC at hC HBK
 obtain ⟨room, typ, sender, st, key, ⟨k, i, t, ks, l⟩, prev, auth, depth, ts, hash, sigs⟩ := e
 obtain ⟨pk, ck, pl, cl, pp, cp, pa, ca, ps, cs⟩ := p
 simp only [valE, cellsE, J.kind, J.int, J.text, J.keys, J.list] at hWB hx0 hC ⊢
 simp only at HBK
 have q5 := six_c hx0 5 _ rfl; have q6 := six_c hx0 6 _ rfl; have q7 := six_c hx0 7 _ rfl; have q8 := six_c hx0 8 _ rfl; have q9 := six_c hx0 9 _ rfl
 clear hE hO hz hg hord hbw hIB
 go_enter Tryz.func22, Tryz.ntmps22
 go_upto_region 1 with fail
 rw [← hWB]
 clear hWB
 go_upto_region 2 with (first
  | (go_at_call 36; refine hC.mono ?_; rintro x w1 ⟨⟨kr, ir, tr, pr, nr, cr, qr, mr, dr, rfl, hj1⟩, hb1⟩
     have hx1 := (hb1.block w.heap.size (by omega)).trans hx0
     have i5 := six_c hx1 5 _ rfl; have i6 := six_c hx1 6 _ rfl; have i7 := six_c hx1 7 _ rfl; have i8 := six_c hx1 8 _ rfl; have i9 := six_c hx1 9 _ rfl
     have f5 := six_fz hx1 5; have f6 := six_fz hx1 6; have f7 := six_fz hx1 7; have f8 := six_fz hx1 8; have f9 := six_fz hx1 9
     clear q5 q6 q7 q8 q9))
 have hr1 := (hb1.block (w.heap.size + 1) (by omega)).trans hr0
 have hx2 := set59_heap hx1 (.int .i64 kr) (.int .i64 ir) (.string tr) (.slice pr nr cr) (.slice qr mr dr)
 have K2 : Keep (One w.heap.size) w1 _ := set59_keep w1 w.heap.size (.int .i64 kr) (.int .i64 ir) (.string tr) (.slice pr nr cr) (.slice qr mr dr)
 obtain ⟨W2, hW2⟩ : ∃ W2, W2 = set59 w1 w.heap.size (.int .i64 kr) (.int .i64 ir) (.string tr) (.slice pr nr cr) (.slice qr mr dr) := ⟨_, rfl⟩
 rw [← hW2] at hx2 K2
 unfold set59 at hW2
 rw [← hW2]
 have s1 := hb1.size
 have s2 := K2.size
 have hr2 := (K2.block (w.heap.size + 1) (by omega) (by unfold One; omega)).trans hr1
 clear hW2 i5 i6 i7 i8 i9 f5 f6 f7 f8 f9 hx1 hr1
 go_wp2_with (first
  | (refine wpList_load16 rfl _ rfl rfl hx2 ?_)
  | (refine wpList_store16 rfl _ _ rfl rfl hr2 rfl ?_))
 have h16 := set16_heap hr2 (.string room) (.string typ) (.string sender) (.bool st) (.string key) (.int .i64 kr) (.int .i64 ir) (.string tr) (.slice pr nr cr) (.slice qr mr dr) (.slice pp prev.length cp) (.slice pa auth.length ca) (.int .i64 depth) (.int .i64 ts) (.string hash) (.slice ps sigs.length cs)
 have K3 : Keep (One (w.heap.size + 1)) W2 _ := set16_keep W2 (w.heap.size + 1) (.string room) (.string typ) (.string sender) (.bool st) (.string key) (.int .i64 kr) (.int .i64 ir) (.string tr) (.slice pr nr cr) (.slice qr mr dr) (.slice pp prev.length cp) (.slice pa auth.length ca) (.int .i64 depth) (.int .i64 ts) (.string hash) (.slice ps sigs.length cs)
 obtain ⟨W3, hW3⟩ : ∃ W3, W3 = set16 W2 (w.heap.size + 1) (.string room) (.string typ) (.string sender) (.bool st) (.string key) (.int .i64 kr) (.int .i64 ir) (.string tr) (.slice pr nr cr) (.slice qr mr dr) (.slice pp prev.length cp) (.slice pa auth.length ca) (.int .i64 depth) (.int .i64 ts) (.string hash) (.slice ps sigs.length cs) := ⟨_, rfl⟩
 rw [← hW3] at h16 K3 ⊢
 clear hW3
 refine bodyPost_ret (results_cell rfl _ _ _ rfl (loadE h16)) rfl ?_
 obtain ⟨ko, io, txo, kso, lo⟩ := OC
 obtain ⟨k1, k2, k3, k4, k5, _⟩ := isJ_at hj1
 simp only [J.kind, J.int, J.text, J.keys, J.list] at k1 k2 k3 k4 k5
 subst k1 k2 k3 k4 k5
 have s3 := K3.size
 have old : ∀ q, q < w1.heap.size → q ≠ w.heap.size → q ≠ w.heap.size + 1 → W3.heap[q]? = w1.heap[q]? := fun q h1 h2 h3 => (K3.block q (by omega) (by unfold One; omega)).trans (K2.block q h1 (by unfold One; omega))
 have carO : ∀ q, O q → q < W3.heap.size ∧ W3.heap[q]? = WB.heap[q]? := fun q hq => by
  have := HO.out q hq
  exact ⟨by omega, (old q (by omega) (by omega) (by omega)).trans (hb1.block q (by omega))⟩
 have hb3 : Below w.heap.size w W3 := (below_in HBW.out hb1).trans ⟨K3.os.trans K2.os, K3.tape.trans K2.tape, K3.output.trans K2.output, by omega, fun q hq => old q (by omega) (by omega) (by omega)⟩
 refine ⟨⟨⟨pr, cr, qr, dr, pp, cp, pa, ca, ps, cs⟩, ?_, ?_⟩, hb3⟩
 · rw [HBK.out]
   rfl
 · rw [HBK.out]
   refine ⟨?_, HI.out.prev.carry carO, HI.out.auth.carry carO, HI.out.sigs.carry carO⟩
   unfold five
   refine hj1.carry fun q hq => ?_
   rcases hq with hq | hq
   · have := HO.out q hq
     exact ⟨by omega, old q (by omega) (by omega) (by omega)⟩
   · have := hq.1
     have := hq.2
     exact ⟨by omega, old q (by omega) (by omega) (by omega)⟩
end Go.Proofs.YtegcgbjjpgjnmaaGreatDoor
namespace Go.Proofs.YtegcgbjjpgjnmaaGreatDoor
open Go.RowKit
theorem fieldsSig : Tryz.prog.underlying 56 = some (.struct (Tryz.prog.fieldsOf 56)) := by kernel_rfl
theorem stoodSig : Tryz.prog.stoodInHeld 56 = false := by kernel_rfl
theorem fieldsS : (Tryz.prog.fieldsOf 56).toList = [{ name := "Server", type := 9, offset := 0, embedded := false, tag := "", pkgPath := "", byteOffset := 0 }, { name := "Token", type := 9, offset := 1, embedded := false, tag := "", pkgPath := "", byteOffset := 16 }] := by kernel_rfl
theorem sig_neq (w : World) (u v : ByteArray) : (binOp .neq 56 (.agg #[.string u, .string v]) (.agg #[.string u, .string v])).run Tryz.prog w = .ok (.bool false) w := by
 have h9 : Tryz.prog.underlying 9 = some .string := by kernel_rfl
 rw [run_neq_struct, run_equalIn_agg w 9999 56 _ _ fieldsSig stoodSig, fieldsS]
 have p0 : ∀ W, (part 9 #[.string u, .string v] 0).run Tryz.prog W = .ok (.string u) W := fun W => by simp [go_sem, part]
 have p1 : ∀ W, (part 9 #[.string u, .string v] 1).run Tryz.prog W = .ok (.string v) W := fun W => by simp [go_sem, part]
 have e : ∀ (W : World) (a : ByteArray), (Op.equalIn 9999 9 (.string a) (.string a)).run Tryz.prog W = .ok true W := fun W a => by rw [run_equalIn_string W 9998 9 a a h9]; simp
 simp [Op.eqFields, p0, p1, e, Result.andThen]
theorem same_eq {O : Nat → Prop} (e : Ev) (p p2 : Pt) (w : World) (h1 : IsE O w e p) (h2 : IsE O w e p2) (hO : ∀ k, O k → k < w.heap.size) (hz : SzE e) (hg : goodJ 12 e.content = true) :
    Calls Tryz.prog 19 #[valE e p, valE e p2] w fun x w' => x = .returned (.bool true) ∧ Below w.heap.size w w' := by
 obtain ⟨room, typ, sender, st, key, ⟨k, i, t, ks, l⟩, prev, auth, depth, ts, hash, sigs⟩ := e
 obtain ⟨pk, ck, pl, cl, pp, cp, pa, ca, ps, cs⟩ := p
 obtain ⟨pk2, ck2, pl2, cl2, pp2, cp2, pa2, ca2, ps2, cs2⟩ := p2
 obtain ⟨ns, hns⟩ : ∃ n, sigs.length = n := ⟨_, rfl⟩
 have HNS : Hid (sigs.length = ns) := hns
 have hnz : ns ≤ 100000 := by rw [← hns]; exact hz.sigs
 have hc1 : ns ≤ cs := by rw [← hns]; exact h1.sigs.1
 have hc2 : ns ≤ cs2 := by rw [← hns]; exact h2.sigs.1
 have hns' : (⟨room, typ, sender, st, key, ⟨k, i, t, ks, l⟩, prev, auth, depth, ts, hash, sigs⟩ : Ev).sigs.length = ns := hns
 obtain ⟨WA, hWA⟩ : ∃ WA, WA = (w.alloc (.cells #[.string room, .string typ, .string sender, .bool st, .string key, .int .i64 k, .int .i64 i, .string t, .slice pk ks.length ck, .slice pl l.length cl, .slice pp prev.length cp, .slice pa auth.length ca, .int .i64 depth, .int .i64 ts, .string hash, .slice ps ns cs] 28)).alloc (.cells #[.string room, .string typ, .string sender, .bool st, .string key, .int .i64 k, .int .i64 i, .string t, .slice pk2 ks.length ck2, .slice pl2 l.length cl2, .slice pp2 prev.length cp2, .slice pa2 auth.length ca2, .int .i64 depth, .int .i64 ts, .string hash, .slice ps2 ns cs2] 28) := ⟨_, rfl⟩
 have hbA : Below w.heap.size w WA := by rw [hWA]; exact ((Below.refl _ _).alloc (Nat.le_refl _) _).alloc (by simp) _
 have hsA : w.heap.size + 2 ≤ WA.heap.size := by rw [hWA]; simp
 have hxA : WA.heap[w.heap.size]? = some (.cells #[.string room, .string typ, .string sender, .bool st, .string key, .int .i64 k, .int .i64 i, .string t, .slice pk ks.length ck, .slice pl l.length cl, .slice pp prev.length cp, .slice pa auth.length ca, .int .i64 depth, .int .i64 ts, .string hash, .slice ps ns cs] 28 (0, 0)) := by rw [hWA]; exact one_of _ _
 have hxB : WA.heap[w.heap.size + 1]? = some (.cells #[.string room, .string typ, .string sender, .bool st, .string key, .int .i64 k, .int .i64 i, .string t, .slice pk2 ks.length ck2, .slice pl2 l.length cl2, .slice pp2 prev.length cp2, .slice pa2 auth.length ca2, .int .i64 depth, .int .i64 ts, .string hash, .slice ps2 ns cs2] 28 (0, 0)) := by rw [hWA]; exact two_at _ _
 have HC : Hid (∀ W, Below WA.heap.size WA W → (∀ j v, [.string room, .string typ, .string sender, .bool st, .string key, .int .i64 k, .int .i64 i, .string t, .slice pk ks.length ck, .slice pl l.length cl, .slice pp prev.length cp, .slice pa auth.length ca, .int .i64 depth, .int .i64 ts, .string hash, .slice ps ns cs][j]? = some v → W.cell? ⟨w.heap.size, j, none⟩ = some v) ∧ (∀ j v, [.string room, .string typ, .string sender, .bool st, .string key, .int .i64 k, .int .i64 i, .string t, .slice pk2 ks.length ck2, .slice pl2 l.length cl2, .slice pp2 prev.length cp2, .slice pa2 auth.length ca2, .int .i64 depth, .int .i64 ts, .string hash, .slice ps2 ns cs2][j]? = some v → W.cell? ⟨w.heap.size + 1, j, none⟩ = some v)) := fun W hW => ⟨fun j v hj => cell_row ((hW.block _ (by omega)).trans hxA) j v hj, fun j v hj => cell_row ((hW.block _ (by omega)).trans hxB) j v hj⟩
 have hOA : ∀ W, Below WA.heap.size WA W → ∀ k, O k → k < W.heap.size := fun W hW k hk => Nat.lt_of_lt_of_le (hO k hk) (below_in hbA hW).size
 have T1 := strings_eq (h1.below hO hbA).prev (h2.below hO hbA).prev (hOA WA (Below.refl _ _)) hz.prev
 have S2 : Hid (∀ W, Below WA.heap.size WA W → Calls Tryz.prog 38 #[.slice pa auth.length ca, .slice pa2 auth.length ca2] W fun x w' => x = .returned (.bool true) ∧ Below W.heap.size W w') := fun W hW => strings_eq (h1.below hO (below_in hbA hW)).auth (h2.below hO (below_in hbA hW)).auth (hOA W hW) hz.auth
 have S3 : Hid (∀ W, Below WA.heap.size WA W → Calls Tryz.prog 12 #[.agg #[.int .i64 k, .int .i64 i, .string t, .slice pk ks.length ck, .slice pl l.length cl], .agg #[.int .i64 k, .int .i64 i, .string t, .slice pk2 ks.length ck2, .slice pl2 l.length cl2]] W fun x w' => x = .returned (.bool true) ∧ Below W.heap.size W w') := fun W hW => (sames 12 W O ⟨k, i, t, ks, l⟩ ⟨k, i, t, ks, l⟩ k i t pk pl ks.length ck l.length cl k i t pk2 pl2 ks.length ck2 l.length cl2 (hOA W hW) hg hz.cont (h1.below hO (below_in hbA hW)).cont (h2.below hO (below_in hbA hW)).cont).mono (by rintro x w' ⟨⟨b, rfl, hb⟩, hb2⟩; exact ⟨by rw [hb.2 rfl], hb2⟩)
 have SG : Hid (∀ W, Below WA.heap.size WA W → ∀ j, j < ns → ∃ b o b2 o2 u v, ps = some ⟨b, o, none⟩ ∧ ps2 = some ⟨b2, o2, none⟩ ∧ W.cell? ⟨b, o + j * 2, none⟩ = some (.string u) ∧ W.cell? ⟨b, o + j * 2 + 1, none⟩ = some (.string v) ∧ W.cell? ⟨b2, o2 + j * 2, none⟩ = some (.string u) ∧ W.cell? ⟨b2, o2 + j * 2 + 1, none⟩ = some (.string v)) := fun W hW j hj => by
  obtain ⟨b, o, e1, _, x1, x2⟩ := (h1.below hO (below_in hbA hW)).sigs.2 j (by rw [hns']; exact hj)
  obtain ⟨b2, o2, e2, _, y1, y2⟩ := (h2.below hO (below_in hbA hW)).sigs.2 j (by rw [hns']; exact hj)
  exact ⟨b, o, b2, o2, _, _, e1, e2, x1, x2, y1, y2⟩
 have HBA : Hid (Below w.heap.size w WA) := hbA
 simp only [valE, cellsE, J.kind, J.int, J.text, J.keys, J.list] at T1 ⊢
 rw [hns]
 rw [hWA] at T1
 have HWA : Hid (WA = (w.alloc (.cells #[.string room, .string typ, .string sender, .bool st, .string key, .int .i64 k, .int .i64 i, .string t, .slice pk ks.length ck, .slice pl l.length cl, .slice pp prev.length cp, .slice pa auth.length ca, .int .i64 depth, .int .i64 ts, .string hash, .slice ps ns cs] 28)).alloc (.cells #[.string room, .string typ, .string sender, .bool st, .string key, .int .i64 k, .int .i64 i, .string t, .slice pk2 ks.length ck2, .slice pl2 l.length cl2, .slice pp2 prev.length cp2, .slice pa2 auth.length ca2, .int .i64 depth, .int .i64 ts, .string hash, .slice ps2 ns cs2] 28)) := hWA
 clear hWA hxA hxB hbA hsA hOA h1 h2 hz hg hO hns hns'
 go_enter Tryz.func19, Tryz.ntmps19
 go_wp2_with (first
  | (go_at_call 12; refine T3.mono ?_; rintro x w3 ⟨rfl, hb3⟩
     have g3 := below_in g2 hb3)
  | (go_at_call 38; have _g := T2; refine T2.mono ?_; rintro x w2 ⟨rfl, hb2⟩
     have g2 := below_in g1 hb2
     have T3 := S3.out w2 g2
     clear T2
     have u2 := HC.out w2 g2
     have a2_15 := u2.1 15 _ rfl; have b2_15 := u2.2 15 _ rfl; have a2_5 := u2.1 5 _ rfl; have b2_5 := u2.2 5 _ rfl; have a2_6 := u2.1 6 _ rfl; have b2_6 := u2.2 6 _ rfl; have a2_7 := u2.1 7 _ rfl; have b2_7 := u2.2 7 _ rfl; have a2_8 := u2.1 8 _ rfl; have b2_8 := u2.2 8 _ rfl; have a2_9 := u2.1 9 _ rfl; have b2_9 := u2.2 9 _ rfl
     clear u2)
  | (go_at_call 38; refine T1.mono ?_; rintro x w1 ⟨rfl, hb1⟩
     rw [← HWA.out] at hb1
     have g1 := hb1
     have T2 := S2.out w1 g1
     have u1 := HC.out w1 g1
     have a1_11 := u1.1 11 _ rfl; have b1_11 := u1.2 11 _ rfl
     clear u1))
 go_loopw [5] (fun v wr => ∃ m : Nat, v = .int .i64 m ∧ m ≤ ns ∧ Below WA.heap.size WA wr) (fun v _ => ns - (intOf v).toNat)
 case atStart => exact ⟨0, rfl, Nat.zero_le _, g3⟩
 case round =>
  obtain ⟨m, rfl, hm, gr⟩ := hrel
  have ur := (HC.out wr gr).1 15 _ rfl
  have ur2 := (HC.out wr gr).2 15 _ rfl
  by_cases hlt : m < ns
  · have hmi : (m : Int) < (ns : Int) := by omega
    obtain ⟨b, o, b2, o2, u, v, rfl, rfl, x1, x2, y1, y2⟩ := SG.out wr gr m hlt
    have hneq : ∀ W, (binOp .neq 56 (.agg #[.string u, .string v]) (.agg #[.string u, .string v])).run Tryz.prog W = .ok (.bool false) W := fun W => sig_neq W u v
    go_wp2
    refine wp_region_quiet_lit (by kernel_rfl) (by kernel_rfl) ?_
    repeat (any_goals (first | go_big_quiet_step (fail) | quiet_step (fail)))
    refine wpQuiet_nil ?_
    intro _ hw
    obtain ⟨nq, hw⟩ := hw
    subst hw
    go_wp2
    go_roundw
    case rel => exact ⟨m + 1, by go_num, hlt, below_dr gr _⟩
    case measure => simp [intOf]; omega
  · obtain rfl : m = ns := by omega
    go_wp2
    go_ret
    exact ⟨rfl, below_in HBA.out gr⟩
def LeftsE (d : Nat) : Prop := ∀ (w : World) (O : Nat → Prop) (j : J) (k i deep n : Int) (t : ByteArray) (pk pl : Option Addr) (nk ck nl cl : Nat), (∀ x, O x → x < w.heap.size) → deep = (d : Int) → d ≤ 100 → 0 ≤ n → n ≤ 100000 →
 isJ O w j [.int .i64 k, .int .i64 i, .string t, .slice pk nk ck, .slice pl nl cl] →
 Calls Tryz.prog 16 #[.agg #[.int .i64 k, .int .i64 i, .string t, .slice pk nk ck, .slice pl nl cl], .int .i64 n, .int .i64 deep] w fun x w' => (∃ r : Int, x = .returned (.int .i64 r) ∧ r ≤ n ∧ -1 ≤ r ∧ (0 ≤ r → szJ d j = true)) ∧ Below w.heap.size w w'
theorem eleft_zero : LeftsE 0 := by
 intro w O j k i deep n t pk pl nk ck nl cl hO hdeep _ h0 hn _
 subst hdeep
 have hbA : Below w.heap.size w (w.alloc (.cells #[.int .i64 k, .int .i64 i, .string t, .slice pk nk ck, .slice pl nl cl] 25)) := (Below.refl _ _).alloc (Nat.le_refl _) _
 by_cases h1 : n < 1
 · go_enter Tryz.func16, Tryz.ntmps16
   go_wp2
   go_ret
   exact ⟨⟨-1, rfl, by omega, by omega, fun h => absurd h (by decide)⟩, hbA⟩
 · go_enter Tryz.func16, Tryz.ntmps16
   go_wp2
   go_ret
   exact ⟨⟨-1, rfl, by omega, by omega, fun h => absurd h (by decide)⟩, hbA⟩
theorem eleft_step {d : Nat} (V : LeftsE d) : LeftsE (d + 1) := by
 intro w O j k i deep n t pk pl nk ck nl cl hO hdeep hd h0 hn hj
 obtain ⟨kx, ix, tx, ks, l⟩ := j
 unfold isJ at hj
 obtain ⟨pk', ck', pl', cl', e, hk, hl, hs⟩ := hj
 simp only [List.cons.injEq, Value.int.injEq, Value.string.injEq, Value.slice.injEq, true_and, and_true] at e
 obtain ⟨rfl, rfl, rfl, ⟨rfl, rfl, rfl⟩, rfl, rfl, rfl⟩ := e
 have hd1 : 1 ≤ deep := by omega
 have hd2 : deep ≤ 101 := by omega
 have HD : Hid (deep - 1 = (d : Int)) := by show _ = _; omega
 have HDL : Hid (d ≤ 100) := by show _ ≤ _; omega
 clear hdeep hd
 obtain ⟨nk, hnk⟩ : ∃ n, ks.length = n := ⟨_, rfl⟩
 obtain ⟨nl, hnl⟩ : ∃ n, l.length = n := ⟨_, rfl⟩
 have HNK : Hid (ks.length = nk) := hnk
 have HNL : Hid (l.length = nl) := hnl
 have hck := hk.1
 rw [hnk] at hck ⊢
 rw [hnl] at hl ⊢
 clear hnk hnl
 have hbA : Below w.heap.size w (w.alloc (.cells #[.int .i64 k, .int .i64 i, .string t, .slice pk nk ck, .slice pl nl cl] 25)) := (Below.refl _ _).alloc (Nat.le_refl _) _
 have neg : ∀ (w' : World) (x : Ending), x = .returned (.int .i64 (-1)) → Below w.heap.size w w' → (∃ r : Int, x = .returned (.int .i64 r) ∧ r ≤ n ∧ -1 ≤ r ∧ (0 ≤ r → szJ (d + 1) (.mk k i t ks l) = true)) ∧ Below w.heap.size w w' := fun w' x hx hb => ⟨⟨-1, hx, by omega, by omega, fun h => absurd h (by decide)⟩, hb⟩
 have HNEG : Hid (∀ (w' : World) (x : Ending), x = .returned (.int .i64 (-1)) → Below w.heap.size w w' → (∃ r : Int, x = .returned (.int .i64 r) ∧ r ≤ n ∧ -1 ≤ r ∧ (0 ≤ r → szJ (d + 1) (.mk k i t ks l) = true)) ∧ Below w.heap.size w w') := neg
 clear neg
 by_cases h1 : n < 1
 · go_enter Tryz.func16, Tryz.ntmps16
   go_wp2
   go_ret
   exact HNEG.out _ _ rfl hbA
 by_cases h2 : (2000 : Int) < t.size
 · go_enter Tryz.func16, Tryz.ntmps16
   go_wp2
   go_ret
   exact HNEG.out _ _ rfl hbA
 by_cases h3 : (100 : Int) < nk
 · go_enter Tryz.func16, Tryz.ntmps16
   go_wp2
   go_ret
   exact HNEG.out _ _ rfl hbA
 by_cases h4 : (300 : Int) < nl
 · go_enter Tryz.func16, Tryz.ntmps16
   go_wp2
   go_ret
   exact HNEG.out _ _ rfl hbA
 obtain ⟨wB, hwB⟩ : ∃ wB, wB = w.alloc (.cells #[.int .i64 k, .int .i64 i, .string t, .slice pk nk ck, .slice pl nl cl] 25) := ⟨_, rfl⟩
 have hA : wB.heap[w.heap.size]? = some (.cells #[.int .i64 k, .int .i64 i, .string t, .slice pk nk ck, .slice pl nl cl] 25 (0, 0)) := by rw [hwB]; exact heap_alloc_new _ _
 have hsB : w.heap.size < wB.heap.size := (Array.getElem?_eq_some_iff.1 hA).1
 rw [← hwB] at hbA
 have HCA : Hid (∀ W : World, Below wB.heap.size wB W → ∀ n v, [Value.int .i64 k, .int .i64 i, .string t, .slice pk nk ck, .slice pl nl cl][n]? = some v → W.cell? ⟨w.heap.size, n, none⟩ = some v) := fun W hW n v hv =>
  (World.cell?_of_block (a := ⟨w.heap.size, n, none⟩) (hW.block w.heap.size hsB)).trans (cell_row (cur := [.int .i64 k, .int .i64 i, .string t, .slice pk nk ck, .slice pl nl cl]) hA n v hv)
 go_enter Tryz.func16, Tryz.ntmps16
 go_wp2
 rw [← hwB]
 clear hwB hA
 go_loopw [7] (fun v wr => ∃ m : Nat, v = .int .i64 m ∧ m ≤ nk ∧ Hid (∀ x, x < m → (ks.getD x nix).size ≤ 300) ∧ wr = wB) (fun v _ => nk - (intOf v).toNat)
 case atStart => exact ⟨0, rfl, Nat.zero_le _, fun m hm => absurd hm (by omega), rfl⟩
 case round =>
  obtain ⟨m, rfl, hm, HE, rfl⟩ := hrel
  have a3 := HCA.out wr (Below.refl _ _) 3 _ rfl
  by_cases hmk : m < nk
  · have hmi : (m : Int) < (nk : Int) := by omega
    obtain ⟨ka, hpk, hOa, hcka⟩ := hk.2 m (by rw [HNK.out]; exact hmk)
    subst hpk
    have hKA : wr.cell? (ka.add m) = some (.string (ks.getD m nix)) := (World.cell?_of_block (by rw [add_block]; exact hbA.block _ (hO _ hOa))).trans hcka
    obtain ⟨u, hu⟩ : ∃ u, ks.getD m nix = u := ⟨_, rfl⟩
    have HU : Hid (ks.getD m nix = u) := hu
    rw [hu] at hKA
    clear hu hcka
    by_cases hus : (300 : Int) < u.size
    · go_wp2
      go_ret
      exact HNEG.out _ _ rfl hbA
    · go_wp2
      go_roundw
      case rel => exact ⟨m + 1, by go_num, hmk, fun x hx => (Nat.lt_succ_iff_lt_or_eq.1 hx).elim (HE.out x) fun e => by rw [e, HU.out]; omega, trivial⟩
      case measure => simp [intOf]; omega
  · obtain rfl : m = nk := by omega
    have HKS : Hid (ks.all (fun k => decide (k.size ≤ 1000000000)) = true) := by
     show _ = _
     rw [List.all_eq_true]
     intro x hx
     obtain ⟨y, hy, rfl⟩ := List.getElem_of_mem hx
     have := HE.out y (by rw [← HNK.out]; exact hy)
     rw [key_getD hy] at this
     exact decide_eq_true (by omega)
    go_wp2
    go_loopw [1, 8] (fun u v w2 => ∃ (m : Nat) (r : Int), v = .int .i64 m ∧ u = .int .i64 r ∧ m ≤ nl ∧ r ≤ n - 1 ∧ -1 ≤ r ∧ Hid (0 ≤ r → (l.take m).all (szJ d) = true) ∧ Below wr.heap.size wr w2) (fun _ v _ => nl - (intOf v).toNat)
    case atStart => exact ⟨0, n - 1, rfl, rfl, Nat.zero_le _, by omega, by omega, fun _ => rfl, Below.refl _ _⟩
    case round =>
     obtain ⟨m', r, rfl, rfl, hm', hrn, hr0, HT, hb2⟩ := hrel
     have a4 := HCA.out wr hb2 4 _ rfl
     by_cases hml : m' < nl
     · have hmi : (m' : Int) < (nl : Int) := by omega
       by_cases hr : 0 ≤ r
       · have hml1 : m' < l.length := by rw [HNL.out]; exact hml
         have HML : Hid (m' < l.length) := hml1
         obtain ⟨lb, lo, cs, hpl, hOl, hcells, hyj⟩ := isJs.at l 0 m' hs hml1
         subst hpl
         obtain ⟨x0, x1, x2, p3, n3, c3, p4, n4, c4, rfl⟩ := isJ_shape hyj
         have hblk := (hb2.block lb (by have := hO _ hOl; omega)).trans (hbA.block lb (hO _ hOl))
         have cc : ∀ m v, [Value.int .i64 x0, .int .i64 x1, .string x2, .slice p3 n3 c3, .slice p4 n4 c4][m]? = some v → wr.cell? ⟨lb, lo + m' * 5 + m, none⟩ = some v := fun m v h => by
          have := hcells m v h
          rw [Nat.zero_add] at this
          exact (World.cell?_of_block (a := ⟨lb, lo + m' * 5 + m, none⟩) hblk).trans this
         have y0 : wr.cell? ⟨lb, lo + m' * 5, none⟩ = some (.int .i64 x0) := cc 0 _ rfl
         have y1 := cc 1 _ rfl
         have y2 := cc 2 _ rfl
         have y3 := cc 3 _ rfl
         have y4 := cc 4 _ rfl
         have hB2 := below_cat hbA (by omega) hb2
         have hV := V wr O (l.getD m' J.zero) x0 x1 (deep - 1) r x2 p3 p4 n3 c3 n4 c4 (fun b hb => Nat.lt_of_lt_of_le (hO b hb) hB2.size) HD.out HDL.out hr (by omega) (hyj.carry fun b hb => ⟨hb, hB2.block b (hO b hb)⟩)
         clear cc hcells hml1 hyj hblk
         go_wp2_with (go_at_call 16; refine hV.mono ?_; rintro x w4 ⟨⟨r4, rfl, hr4, hr5, hr6⟩, hb4⟩)
         go_roundw
         case rel => exact ⟨m' + 1, r4, by go_num, rfl, hml, by omega, hr5, fun h => by rw [all_take HML.out, HT.out hr, hr6 h]; rfl, below_cat hb2 hb2.size hb4⟩
         case measure => simp [intOf]; omega
       · go_wp2
         go_ret
         refine ⟨⟨r, rfl, by omega, hr0, fun h => absurd h (by omega)⟩, below_cat hbA (by omega) hb2⟩
     · obtain rfl : m' = nl := by omega
       go_wp2
       go_ret
       refine ⟨⟨r, rfl, by omega, hr0, fun h => ?_⟩, below_cat hbA (by omega) hb2⟩
       have ht := HT.out h
       rw [List.take_of_length_le (by rw [HNL.out]; omega)] at ht
       unfold szJ
       rw [HKS.out, ht, HNK.out, HNL.out, decide_eq_true (show t.size ≤ 1000000000 by omega), decide_eq_true (show m ≤ 100000 by omega), decide_eq_true (show m' ≤ 100000 by omega)]
       rfl
theorem elefts : ∀ d, LeftsE d
 | 0 => eleft_zero
 | d + 1 => eleft_step (elefts d)
end Go.Proofs.YtegcgbjjpgjnmaaGreatDoor

/-
  The event of a value: by a contract.
  The event of a value: by a contract.
  The event of a value: by a contract.
  The event of a value, and of bytes: by contracts.
  The law's sample, by a contract.
  Bits of a letter's bytes, as sums and rests.
  Rune, by a contract.
  The document's good values, by contracts.
  Choosing the least key again and again puts keys in order.
  A value that is put in order, as it is being made: its memory.
  The document's order, by contracts.
  The document's Order, by a contract.
  An event's JSON, and an event with its content in order: by contracts.
  The document's order, by a contract that says where the rows lie.
  An event with its content in order, by the document: by a contract.
  Events that are the same, by a contract.
-/
import Derived.Test.YtegcgbjjpgjnmaaGreatDoorC29
import Derived.Laws.BitsAllLaws
import Derived.Deep.QuietTactic
import Derived.Laws.StructEq
set_option maxRecDepth 100000
set_option maxHeartbeats 16000000
namespace Go.Proofs.YtegcgbjjpgjnmaaGreatDoor
open Go.RowKit Go.Maps
theorem from_no {O : Nat → Prop} {w : World} {j : J} {k i : Int} {t : ByteArray} {pk pl : Option Addr} {nk ck nl cl : Nat} (hO : ∀ x, O x → x < w.heap.size) (hj : isJ O w j [.int .i64 k, .int .i64 i, .string t, .slice pk nk ck, .slice pl nl cl]) (hs : szJ 12 j = true) (hn : (ordT j).keys.length ≤ 80000) (hT : Tabs w) (hr : readOk (ordT j) = false) :
    Calls Tryz.prog 17 #[.agg #[.int .i64 k, .int .i64 i, .string t, .slice pk nk ck, .slice pl nl cl]] w fun x w' => (∃ p, x = .returned (.tuple #[valE (fromE (ordT j)).1 p, .int .i64 (fromE (ordT j)).2]) ∧ IsE (fun q => O q ∨ New w w' q) w' (fromE (ordT j)).1 p) ∧ Below w.heap.size w w' := by
 have hN := ordT_neat hs
 have hSz := neat_read hN.1 hN.2
 have HF : Hid (fromE (ordT j) = (Ev.zero, 50)) := by
  show _ = _
  unfold fromE
  rw [hr, if_neg (by decide)]
 obtain ⟨J1, hJ1⟩ : ∃ J1, ordT j = J1 := ⟨_, rfl⟩
 obtain ⟨WB, hWB⟩ : ∃ WB, WB = (w.alloc (.cells #[.int .i64 k, .int .i64 i, .string t, .slice pk nk ck, .slice pl nl cl] 25)).alloc (.cells #[.string ⟨#[]⟩, .string ⟨#[]⟩, .string ⟨#[]⟩, .bool false, .string ⟨#[]⟩, .int .i64 0, .int .i64 0, .string ⟨#[]⟩, .slice none 0 0, .slice none 0 0, .slice none 0 0, .slice none 0 0, .int .i64 0, .int .i64 0, .string ⟨#[]⟩, .slice none 0 0] 28) := ⟨_, rfl⟩
 have hbw : Below w.heap.size w WB := by rw [hWB]; exact ((Below.refl _ _).alloc (Nat.le_refl _) _).alloc (by simp) _
 have hrs : WB.heap[w.heap.size + 1]? = some (.cells #[.string ⟨#[]⟩, .string ⟨#[]⟩, .string ⟨#[]⟩, .bool false, .string ⟨#[]⟩, .int .i64 0, .int .i64 0, .string ⟨#[]⟩, .slice none 0 0, .slice none 0 0, .slice none 0 0, .slice none 0 0, .int .i64 0, .int .i64 0, .string ⟨#[]⟩, .slice none 0 0] 28 (0, 0)) := by rw [hWB]; exact two_at _ _
 have hsB1 : w.heap.size + 2 ≤ WB.heap.size := by rw [hWB]; simp
 have hOr := order_new (w := WB) (O := O) (fun x hx => Nat.lt_of_lt_of_le (hO x hx) hbw.size) hs (hj.carry fun x hx => ⟨hx, hbw.block x (hO x hx)⟩)
 rw [hJ1] at hOr hN hSz hr hn HF ⊢
 have HTB : Hid (Tabs w) := hT
 have HBW : Hid (Below w.heap.size w WB) := hbw
 have HRd : Hid (∀ W k i t pk nk ck pl nl cl, Below WB.heap.size WB W → isJ (fun b => O b ∨ New WB W b) W J1 [.int .i64 k, .int .i64 i, .string t, .slice pk nk ck, .slice pl nl cl] → Calls Tryz.prog 34 #[.agg #[.int .i64 k, .int .i64 i, .string t, .slice pk nk ck, .slice pl nl cl]] W fun x w' => (∃ p, x = .returned (.tuple #[valE (readE J1) p, .bool (readOk J1)]) ∧ IsE (fun q => (O q ∨ New WB W q) ∨ New W w' q) w' (readE J1) p) ∧ Below W.heap.size W w') := fun W k i t pk nk ck pl nl cl hb h => read_any (fun x hx => hx.elim (fun hx => Nat.lt_of_lt_of_le (hO x hx) (Nat.le_trans hbw.size hb.size)) fun hx => hx.2) h hN.1 hN.2 hn
 have HSh : Hid (∀ W p, IsE (fun q => q < W.heap.size) W (readE J1) p → Below w.heap.size w W → Calls Tryz.prog 10 #[valE (readE J1) p] W fun x w' => x = .returned (.int .i64 (shapeE (readE J1))) ∧ Below W.heap.size W w') := fun W p h hb => eShape_any _ p W h (fun _ h => h) hSz (hT.below hb)
 obtain ⟨E1, hE1⟩ : ∃ E1, readE J1 = E1 := ⟨_, rfl⟩
 rw [hE1] at HRd HSh
 rw [hr] at HRd
 have HO : Hid (∀ k, O k → k < w.heap.size) := hO
 clear hj hs hN hSz hT hO hbw hJ1 hE1 hr hn
 rw [hWB] at hOr
 have HWB : Hid (WB = (w.alloc (.cells #[.int .i64 k, .int .i64 i, .string t, .slice pk nk ck, .slice pl nl cl] 25)).alloc (.cells #[.string ⟨#[]⟩, .string ⟨#[]⟩, .string ⟨#[]⟩, .bool false, .string ⟨#[]⟩, .int .i64 0, .int .i64 0, .string ⟨#[]⟩, .slice none 0 0, .slice none 0 0, .slice none 0 0, .slice none 0 0, .int .i64 0, .int .i64 0, .string ⟨#[]⟩, .slice none 0 0] 28)) := hWB
 clear hWB
 go_enter Tryz.func17, Tryz.ntmps17
 go_wp2_with (first
  | (go_at_call 10; refine hSh.mono ?_; rintro x w4 ⟨rfl, hb4⟩
     have hrs4 := (hb4.block (w.heap.size + 1) (by omega) ).trans hrs3
     have hev4 := (hb4.block w2.heap.size (by simp)).trans hev
     have lc := six_all hev4
     have ic := six_all hrs4; have zc := six_fz hrs4)
  | (go_at_call 34; refine hRd.mono ?_; rintro x w2 ⟨⟨p2, rfl, hI2⟩, hb2⟩
     obtain ⟨a0, a1, a2, b3, a4, n5, n6, a7, p8, n8, c8, p9, n9, c9, p10, n10, c10, p11, n11, c11, n12, n13, a14, p15, n15, c15, hv⟩ := six_of E1 p2
     have HV : Hid (valE E1 p2 = .agg #[.string a0, .string a1, .string a2, .bool b3, .string a4, .int .i64 n5, .int .i64 n6, .string a7, .slice p8 n8 c8, .slice p9 n9 c9, .slice p10 n10 c10, .slice p11 n11 c11, .int .i64 n12, .int .i64 n13, .string a14, .slice p15 n15 c15]) := hv
     rw [hv]
     have hw2 := below_in HBW.out (below_in hb1 hb2)
     have s2 := (below_in hb1 hb2).size
     have hsb1 := hb1.size
     have hsb2 := hb2.size
     have hI3 := hI2.carry (O' := fun q => O q ∨ (WB.heap.size ≤ q ∧ q < (w2.alloc (.cells #[.string a0, .string a1, .string a2, .bool b3, .string a4, .int .i64 n5, .int .i64 n6, .string a7, .slice p8 n8 c8, .slice p9 n9 c9, .slice p10 n10 c10, .slice p11 n11 c11, .int .i64 n12, .int .i64 n13, .string a14, .slice p15 n15 c15] 28)).heap.size)) (w' := w2.alloc (.cells #[.string a0, .string a1, .string a2, .bool b3, .string a4, .int .i64 n5, .int .i64 n6, .string a7, .slice p8 n8 c8, .slice p9 n9 c9, .slice p10 n10 c10, .slice p11 n11 c11, .int .i64 n12, .int .i64 n13, .string a14, .slice p15 n15 c15] 28)) fun q hq => by
      have hlt : q < w2.heap.size ∧ (O q ∨ WB.heap.size ≤ q) := by
       rcases hq with (h | h) | h
       · exact ⟨by have := HO.out q h; omega, .inl h⟩
       · exact ⟨by have := h.2; omega, .inr h.1⟩
       · exact ⟨h.2, .inr (by have := h.1; omega)⟩
      exact ⟨hlt.2.elim .inl fun h => .inr ⟨h, by simp; omega⟩, Below.heap_alloc _ _ _ hlt.1⟩
     have hb3 : Below w.heap.size w (w2.alloc (.cells #[.string a0, .string a1, .string a2, .bool b3, .string a4, .int .i64 n5, .int .i64 n6, .string a7, .slice p8 n8 c8, .slice p9 n9 c9, .slice p10 n10 c10, .slice p11 n11 c11, .int .i64 n12, .int .i64 n13, .string a14, .slice p15 n15 c15] 28)) := hw2.alloc hw2.size _
     have hSh := HSh.out _ _ (hI3.carry fun q hq => ⟨hq.elim (fun h => by have := HO.out q h; simp; omega) fun h => h.2, rfl⟩) hb3
     have hev := heap_alloc_new w2 (.cells #[.string a0, .string a1, .string a2, .bool b3, .string a4, .int .i64 n5, .int .i64 n6, .string a7, .slice p8 n8 c8, .slice p9 n9 c9, .slice p10 n10 c10, .slice p11 n11 c11, .int .i64 n12, .int .i64 n13, .string a14, .slice p15 n15 c15] 28)
     have hrs3 := ((below_in hb1 hb2).alloc (Nat.le_trans (Nat.le_refl _) s2) (.cells #[.string a0, .string a1, .string a2, .bool b3, .string a4, .int .i64 n5, .int .i64 n6, .string a7, .slice p8 n8 c8, .slice p9 n9 c9, .slice p10 n10 c10, .slice p11 n11 c11, .int .i64 n12, .int .i64 n13, .string a14, .slice p15 n15 c15] 28)).block (w.heap.size + 1) (by omega) |>.trans hrs
     have hsz3 : w.heap.size + 2 ≤ (w2.alloc (.cells #[.string a0, .string a1, .string a2, .bool b3, .string a4, .int .i64 n5, .int .i64 n6, .string a7, .slice p8 n8 c8, .slice p9 n9 c9, .slice p10 n10 c10, .slice p11 n11 c11, .int .i64 n12, .int .i64 n13, .string a14, .slice p15 n15 c15] 28)).heap.size := by simp; omega
     rw [hv] at hSh
     clear hv
     have ic := six_all hrs3; have zc := six_fz hrs3)
  | (go_at_call 32; refine hOr.mono ?_; rintro x w1 ⟨⟨kr, ir, tr, pr, nr, cr, qr, mr, dr, rfl, hj1⟩, hb1⟩
     rw [← HWB.out] at hb1
     have hRd := HRd.out w1 kr ir tr pr nr cr qr mr dr hb1 (by rw [← HWB.out] at hj1; exact hj1)))
 have h16 := set16_heap hrs3 (.string ⟨#[]⟩) (.string ⟨#[]⟩) (.string ⟨#[]⟩) (.bool false) (.string ⟨#[]⟩) (.int .i64 0) (.int .i64 0) (.string ⟨#[]⟩) (.slice none 0 0) (.slice none 0 0) (.slice none 0 0) (.slice none 0 0) (.int .i64 0) (.int .i64 0) (.string ⟨#[]⟩) (.slice none 0 0)
 have HK16 : Keep (One (w.heap.size + 1)) _ _ := set16_keep (w2.alloc (.cells #[.string a0, .string a1, .string a2, .bool b3, .string a4, .int .i64 n5, .int .i64 n6, .string a7, .slice p8 n8 c8, .slice p9 n9 c9, .slice p10 n10 c10, .slice p11 n11 c11, .int .i64 n12, .int .i64 n13, .string a14, .slice p15 n15 c15] 28)) (w.heap.size + 1) (.string ⟨#[]⟩) (.string ⟨#[]⟩) (.string ⟨#[]⟩) (.bool false) (.string ⟨#[]⟩) (.int .i64 0) (.int .i64 0) (.string ⟨#[]⟩) (.slice none 0 0) (.slice none 0 0) (.slice none 0 0) (.slice none 0 0) (.int .i64 0) (.int .i64 0) (.string ⟨#[]⟩) (.slice none 0 0)
 obtain ⟨WE, hWE⟩ : ∃ WE, WE = set16 (w2.alloc (.cells #[.string a0, .string a1, .string a2, .bool b3, .string a4, .int .i64 n5, .int .i64 n6, .string a7, .slice p8 n8 c8, .slice p9 n9 c9, .slice p10 n10 c10, .slice p11 n11 c11, .int .i64 n12, .int .i64 n13, .string a14, .slice p15 n15 c15] 28)) (w.heap.size + 1) (.string ⟨#[]⟩) (.string ⟨#[]⟩) (.string ⟨#[]⟩) (.bool false) (.string ⟨#[]⟩) (.int .i64 0) (.int .i64 0) (.string ⟨#[]⟩) (.slice none 0 0) (.slice none 0 0) (.slice none 0 0) (.slice none 0 0) (.int .i64 0) (.int .i64 0) (.string ⟨#[]⟩) (.slice none 0 0) := ⟨_, rfl⟩
 rw [← hWE] at h16 HK16
 unfold set16 at hWE
 rw [← hWE]
 clear hWE
 refine bodyPost_ret (results_cell_tmp rfl _ _ _ rfl (loadE h16)) rfl ?_
 have hwF : Below w.heap.size w (w2.alloc (.cells #[.string a0, .string a1, .string a2, .bool b3, .string a4, .int .i64 n5, .int .i64 n6, .string a7, .slice p8 n8 c8, .slice p9 n9 c9, .slice p10 n10 c10, .slice p11 n11 c11, .int .i64 n12, .int .i64 n13, .string a14, .slice p15 n15 c15] 28)) := hb3
 have hszF := hwF.size
 have hbE : Below w.heap.size w WE := hwF.trans (HK16.below (by omega) fun q hq => by unfold One; omega)
 rw [HF.out]
 exact ⟨⟨Pt.zero, rfl, isE_zero _ _⟩, hbE⟩
theorem from_bad {O : Nat → Prop} {w : World} {j : J} {k i : Int} {t : ByteArray} {pk pl : Option Addr} {nk ck nl cl : Nat} (hO : ∀ x, O x → x < w.heap.size) (hj : isJ O w j [.int .i64 k, .int .i64 i, .string t, .slice pk nk ck, .slice pl nl cl]) (hs : szJ 12 j = true) (hn : (ordT j).keys.length ≤ 80000) (hT : Tabs w) (hr : readOk (ordT j) = true) (hx : shapeE (readE (ordT j)) ≠ 0) :
    Calls Tryz.prog 17 #[.agg #[.int .i64 k, .int .i64 i, .string t, .slice pk nk ck, .slice pl nl cl]] w fun x w' => (∃ p, x = .returned (.tuple #[valE (fromE (ordT j)).1 p, .int .i64 (fromE (ordT j)).2]) ∧ IsE (fun q => O q ∨ New w w' q) w' (fromE (ordT j)).1 p) ∧ Below w.heap.size w w' := by
 have hN := ordT_neat hs
 have hSz := neat_read hN.1 hN.2
 have HF : Hid (fromE (ordT j) = (Ev.zero, shapeE (readE (ordT j)))) := by
  show _ = _
  unfold fromE
  rw [if_pos hr, if_neg hx]
 obtain ⟨J1, hJ1⟩ : ∃ J1, ordT j = J1 := ⟨_, rfl⟩
 obtain ⟨WB, hWB⟩ : ∃ WB, WB = (w.alloc (.cells #[.int .i64 k, .int .i64 i, .string t, .slice pk nk ck, .slice pl nl cl] 25)).alloc (.cells #[.string ⟨#[]⟩, .string ⟨#[]⟩, .string ⟨#[]⟩, .bool false, .string ⟨#[]⟩, .int .i64 0, .int .i64 0, .string ⟨#[]⟩, .slice none 0 0, .slice none 0 0, .slice none 0 0, .slice none 0 0, .int .i64 0, .int .i64 0, .string ⟨#[]⟩, .slice none 0 0] 28) := ⟨_, rfl⟩
 have hbw : Below w.heap.size w WB := by rw [hWB]; exact ((Below.refl _ _).alloc (Nat.le_refl _) _).alloc (by simp) _
 have hrs : WB.heap[w.heap.size + 1]? = some (.cells #[.string ⟨#[]⟩, .string ⟨#[]⟩, .string ⟨#[]⟩, .bool false, .string ⟨#[]⟩, .int .i64 0, .int .i64 0, .string ⟨#[]⟩, .slice none 0 0, .slice none 0 0, .slice none 0 0, .slice none 0 0, .int .i64 0, .int .i64 0, .string ⟨#[]⟩, .slice none 0 0] 28 (0, 0)) := by rw [hWB]; exact two_at _ _
 have hsB1 : w.heap.size + 2 ≤ WB.heap.size := by rw [hWB]; simp
 have hOr := order_new (w := WB) (O := O) (fun x hx => Nat.lt_of_lt_of_le (hO x hx) hbw.size) hs (hj.carry fun x hx => ⟨hx, hbw.block x (hO x hx)⟩)
 rw [hJ1] at hOr hN hSz hr hn HF ⊢
 rw [hJ1] at hx
 have HTB : Hid (Tabs w) := hT
 have HBW : Hid (Below w.heap.size w WB) := hbw
 have HRd : Hid (∀ W k i t pk nk ck pl nl cl, Below WB.heap.size WB W → isJ (fun b => O b ∨ New WB W b) W J1 [.int .i64 k, .int .i64 i, .string t, .slice pk nk ck, .slice pl nl cl] → Calls Tryz.prog 34 #[.agg #[.int .i64 k, .int .i64 i, .string t, .slice pk nk ck, .slice pl nl cl]] W fun x w' => (∃ p, x = .returned (.tuple #[valE (readE J1) p, .bool (readOk J1)]) ∧ IsE (fun q => (O q ∨ New WB W q) ∨ New W w' q) w' (readE J1) p) ∧ Below W.heap.size W w') := fun W k i t pk nk ck pl nl cl hb h => read_any (fun x hx => hx.elim (fun hx => Nat.lt_of_lt_of_le (hO x hx) (Nat.le_trans hbw.size hb.size)) fun hx => hx.2) h hN.1 hN.2 hn
 have HSh : Hid (∀ W p, IsE (fun q => q < W.heap.size) W (readE J1) p → Below w.heap.size w W → Calls Tryz.prog 10 #[valE (readE J1) p] W fun x w' => x = .returned (.int .i64 (shapeE (readE J1))) ∧ Below W.heap.size W w') := fun W p h hb => eShape_any _ p W h (fun _ h => h) hSz (hT.below hb)
 obtain ⟨E1, hE1⟩ : ∃ E1, readE J1 = E1 := ⟨_, rfl⟩
 rw [hE1] at HRd HSh HF hx
 rw [hr] at HRd
 have HO : Hid (∀ k, O k → k < w.heap.size) := hO
 clear hj hs hN hSz hT hO hbw hJ1 hE1 hr hn
 rw [hWB] at hOr
 have HWB : Hid (WB = (w.alloc (.cells #[.int .i64 k, .int .i64 i, .string t, .slice pk nk ck, .slice pl nl cl] 25)).alloc (.cells #[.string ⟨#[]⟩, .string ⟨#[]⟩, .string ⟨#[]⟩, .bool false, .string ⟨#[]⟩, .int .i64 0, .int .i64 0, .string ⟨#[]⟩, .slice none 0 0, .slice none 0 0, .slice none 0 0, .slice none 0 0, .int .i64 0, .int .i64 0, .string ⟨#[]⟩, .slice none 0 0] 28)) := hWB
 clear hWB
 go_enter Tryz.func17, Tryz.ntmps17
 go_wp2_with (first
  | (go_at_call 10; refine hSh.mono ?_; rintro x w4 ⟨rfl, hb4⟩
     have hrs4 := (hb4.block (w.heap.size + 1) (by omega) ).trans hrs3
     have hev4 := (hb4.block w2.heap.size (by simp)).trans hev
     have lc := six_all hev4
     have ic := six_all hrs4; have zc := six_fz hrs4)
  | (go_at_call 34; refine hRd.mono ?_; rintro x w2 ⟨⟨p2, rfl, hI2⟩, hb2⟩
     obtain ⟨a0, a1, a2, b3, a4, n5, n6, a7, p8, n8, c8, p9, n9, c9, p10, n10, c10, p11, n11, c11, n12, n13, a14, p15, n15, c15, hv⟩ := six_of E1 p2
     have HV : Hid (valE E1 p2 = .agg #[.string a0, .string a1, .string a2, .bool b3, .string a4, .int .i64 n5, .int .i64 n6, .string a7, .slice p8 n8 c8, .slice p9 n9 c9, .slice p10 n10 c10, .slice p11 n11 c11, .int .i64 n12, .int .i64 n13, .string a14, .slice p15 n15 c15]) := hv
     rw [hv]
     have hw2 := below_in HBW.out (below_in hb1 hb2)
     have s2 := (below_in hb1 hb2).size
     have hsb1 := hb1.size
     have hsb2 := hb2.size
     have hI3 := hI2.carry (O' := fun q => O q ∨ (WB.heap.size ≤ q ∧ q < (w2.alloc (.cells #[.string a0, .string a1, .string a2, .bool b3, .string a4, .int .i64 n5, .int .i64 n6, .string a7, .slice p8 n8 c8, .slice p9 n9 c9, .slice p10 n10 c10, .slice p11 n11 c11, .int .i64 n12, .int .i64 n13, .string a14, .slice p15 n15 c15] 28)).heap.size)) (w' := w2.alloc (.cells #[.string a0, .string a1, .string a2, .bool b3, .string a4, .int .i64 n5, .int .i64 n6, .string a7, .slice p8 n8 c8, .slice p9 n9 c9, .slice p10 n10 c10, .slice p11 n11 c11, .int .i64 n12, .int .i64 n13, .string a14, .slice p15 n15 c15] 28)) fun q hq => by
      have hlt : q < w2.heap.size ∧ (O q ∨ WB.heap.size ≤ q) := by
       rcases hq with (h | h) | h
       · exact ⟨by have := HO.out q h; omega, .inl h⟩
       · exact ⟨by have := h.2; omega, .inr h.1⟩
       · exact ⟨h.2, .inr (by have := h.1; omega)⟩
      exact ⟨hlt.2.elim .inl fun h => .inr ⟨h, by simp; omega⟩, Below.heap_alloc _ _ _ hlt.1⟩
     have hb3 : Below w.heap.size w (w2.alloc (.cells #[.string a0, .string a1, .string a2, .bool b3, .string a4, .int .i64 n5, .int .i64 n6, .string a7, .slice p8 n8 c8, .slice p9 n9 c9, .slice p10 n10 c10, .slice p11 n11 c11, .int .i64 n12, .int .i64 n13, .string a14, .slice p15 n15 c15] 28)) := hw2.alloc hw2.size _
     have hSh := HSh.out _ _ (hI3.carry fun q hq => ⟨hq.elim (fun h => by have := HO.out q h; simp; omega) fun h => h.2, rfl⟩) hb3
     have hev := heap_alloc_new w2 (.cells #[.string a0, .string a1, .string a2, .bool b3, .string a4, .int .i64 n5, .int .i64 n6, .string a7, .slice p8 n8 c8, .slice p9 n9 c9, .slice p10 n10 c10, .slice p11 n11 c11, .int .i64 n12, .int .i64 n13, .string a14, .slice p15 n15 c15] 28)
     have hrs3 := ((below_in hb1 hb2).alloc (Nat.le_trans (Nat.le_refl _) s2) (.cells #[.string a0, .string a1, .string a2, .bool b3, .string a4, .int .i64 n5, .int .i64 n6, .string a7, .slice p8 n8 c8, .slice p9 n9 c9, .slice p10 n10 c10, .slice p11 n11 c11, .int .i64 n12, .int .i64 n13, .string a14, .slice p15 n15 c15] 28)).block (w.heap.size + 1) (by omega) |>.trans hrs
     have hsz3 : w.heap.size + 2 ≤ (w2.alloc (.cells #[.string a0, .string a1, .string a2, .bool b3, .string a4, .int .i64 n5, .int .i64 n6, .string a7, .slice p8 n8 c8, .slice p9 n9 c9, .slice p10 n10 c10, .slice p11 n11 c11, .int .i64 n12, .int .i64 n13, .string a14, .slice p15 n15 c15] 28)).heap.size := by simp; omega
     rw [hv] at hSh
     clear hv
     skip)
  | (go_at_call 32; refine hOr.mono ?_; rintro x w1 ⟨⟨kr, ir, tr, pr, nr, cr, qr, mr, dr, rfl, hj1⟩, hb1⟩
     rw [← HWB.out] at hb1
     have hRd := HRd.out w1 kr ir tr pr nr cr qr mr dr hb1 (by rw [← HWB.out] at hj1; exact hj1)))
 have h16 := set16_heap hrs4 (.string ⟨#[]⟩) (.string ⟨#[]⟩) (.string ⟨#[]⟩) (.bool false) (.string ⟨#[]⟩) (.int .i64 0) (.int .i64 0) (.string ⟨#[]⟩) (.slice none 0 0) (.slice none 0 0) (.slice none 0 0) (.slice none 0 0) (.int .i64 0) (.int .i64 0) (.string ⟨#[]⟩) (.slice none 0 0)
 have HK16 : Keep (One (w.heap.size + 1)) _ _ := set16_keep w4 (w.heap.size + 1) (.string ⟨#[]⟩) (.string ⟨#[]⟩) (.string ⟨#[]⟩) (.bool false) (.string ⟨#[]⟩) (.int .i64 0) (.int .i64 0) (.string ⟨#[]⟩) (.slice none 0 0) (.slice none 0 0) (.slice none 0 0) (.slice none 0 0) (.int .i64 0) (.int .i64 0) (.string ⟨#[]⟩) (.slice none 0 0)
 obtain ⟨WE, hWE⟩ : ∃ WE, WE = set16 w4 (w.heap.size + 1) (.string ⟨#[]⟩) (.string ⟨#[]⟩) (.string ⟨#[]⟩) (.bool false) (.string ⟨#[]⟩) (.int .i64 0) (.int .i64 0) (.string ⟨#[]⟩) (.slice none 0 0) (.slice none 0 0) (.slice none 0 0) (.slice none 0 0) (.int .i64 0) (.int .i64 0) (.string ⟨#[]⟩) (.slice none 0 0) := ⟨_, rfl⟩
 rw [← hWE] at h16 HK16
 unfold set16 at hWE
 rw [← hWE]
 clear hWE
 refine bodyPost_ret (results_cell_tmp rfl _ _ _ rfl (loadE h16)) rfl ?_
 have hwF : Below w.heap.size w w4 := below_in hb3 hb4
 have hszF := hwF.size
 have hbE : Below w.heap.size w WE := hwF.trans (HK16.below (by omega) fun q hq => by unfold One; omega)
 rw [HF.out]
 exact ⟨⟨Pt.zero, rfl, isE_zero _ _⟩, hbE⟩
theorem from_ok {O : Nat → Prop} {w : World} {j : J} {k i : Int} {t : ByteArray} {pk pl : Option Addr} {nk ck nl cl : Nat} (hO : ∀ x, O x → x < w.heap.size) (hj : isJ O w j [.int .i64 k, .int .i64 i, .string t, .slice pk nk ck, .slice pl nl cl]) (hs : szJ 12 j = true) (hn : (ordT j).keys.length ≤ 80000) (hT : Tabs w) (hr : readOk (ordT j) = true) (hx : shapeE (readE (ordT j)) = 0) :
    Calls Tryz.prog 17 #[.agg #[.int .i64 k, .int .i64 i, .string t, .slice pk nk ck, .slice pl nl cl]] w fun x w' => (∃ p, x = .returned (.tuple #[valE (fromE (ordT j)).1 p, .int .i64 (fromE (ordT j)).2]) ∧ IsE (fun q => O q ∨ New w w' q) w' (fromE (ordT j)).1 p) ∧ Below w.heap.size w w' := by
 have hN := ordT_neat hs
 have hSz := neat_read hN.1 hN.2
 have HF : Hid (fromE (ordT j) = (readE (ordT j), 0)) := by
  show _ = _
  unfold fromE
  rw [if_pos hr, if_pos hx]
 obtain ⟨J1, hJ1⟩ : ∃ J1, ordT j = J1 := ⟨_, rfl⟩
 obtain ⟨WB, hWB⟩ : ∃ WB, WB = (w.alloc (.cells #[.int .i64 k, .int .i64 i, .string t, .slice pk nk ck, .slice pl nl cl] 25)).alloc (.cells #[.string ⟨#[]⟩, .string ⟨#[]⟩, .string ⟨#[]⟩, .bool false, .string ⟨#[]⟩, .int .i64 0, .int .i64 0, .string ⟨#[]⟩, .slice none 0 0, .slice none 0 0, .slice none 0 0, .slice none 0 0, .int .i64 0, .int .i64 0, .string ⟨#[]⟩, .slice none 0 0] 28) := ⟨_, rfl⟩
 have hbw : Below w.heap.size w WB := by rw [hWB]; exact ((Below.refl _ _).alloc (Nat.le_refl _) _).alloc (by simp) _
 have hrs : WB.heap[w.heap.size + 1]? = some (.cells #[.string ⟨#[]⟩, .string ⟨#[]⟩, .string ⟨#[]⟩, .bool false, .string ⟨#[]⟩, .int .i64 0, .int .i64 0, .string ⟨#[]⟩, .slice none 0 0, .slice none 0 0, .slice none 0 0, .slice none 0 0, .int .i64 0, .int .i64 0, .string ⟨#[]⟩, .slice none 0 0] 28 (0, 0)) := by rw [hWB]; exact two_at _ _
 have hsB1 : w.heap.size + 2 ≤ WB.heap.size := by rw [hWB]; simp
 have hOr := order_new (w := WB) (O := O) (fun x hx => Nat.lt_of_lt_of_le (hO x hx) hbw.size) hs (hj.carry fun x hx => ⟨hx, hbw.block x (hO x hx)⟩)
 rw [hJ1] at hOr hN hSz hr hn HF ⊢
 rw [hJ1] at hx
 have HTB : Hid (Tabs w) := hT
 have HBW : Hid (Below w.heap.size w WB) := hbw
 have HRd : Hid (∀ W k i t pk nk ck pl nl cl, Below WB.heap.size WB W → isJ (fun b => O b ∨ New WB W b) W J1 [.int .i64 k, .int .i64 i, .string t, .slice pk nk ck, .slice pl nl cl] → Calls Tryz.prog 34 #[.agg #[.int .i64 k, .int .i64 i, .string t, .slice pk nk ck, .slice pl nl cl]] W fun x w' => (∃ p, x = .returned (.tuple #[valE (readE J1) p, .bool (readOk J1)]) ∧ IsE (fun q => (O q ∨ New WB W q) ∨ New W w' q) w' (readE J1) p) ∧ Below W.heap.size W w') := fun W k i t pk nk ck pl nl cl hb h => read_any (fun x hx => hx.elim (fun hx => Nat.lt_of_lt_of_le (hO x hx) (Nat.le_trans hbw.size hb.size)) fun hx => hx.2) h hN.1 hN.2 hn
 have HSh : Hid (∀ W p, IsE (fun q => q < W.heap.size) W (readE J1) p → Below w.heap.size w W → Calls Tryz.prog 10 #[valE (readE J1) p] W fun x w' => x = .returned (.int .i64 (shapeE (readE J1))) ∧ Below W.heap.size W w') := fun W p h hb => eShape_any _ p W h (fun _ h => h) hSz (hT.below hb)
 obtain ⟨E1, hE1⟩ : ∃ E1, readE J1 = E1 := ⟨_, rfl⟩
 rw [hE1] at HRd HSh HF hx
 rw [hr] at HRd
 have HO : Hid (∀ k, O k → k < w.heap.size) := hO
 clear hj hs hN hSz hT hO hbw hJ1 hE1 hr hn
 rw [hWB] at hOr
 have HWB : Hid (WB = (w.alloc (.cells #[.int .i64 k, .int .i64 i, .string t, .slice pk nk ck, .slice pl nl cl] 25)).alloc (.cells #[.string ⟨#[]⟩, .string ⟨#[]⟩, .string ⟨#[]⟩, .bool false, .string ⟨#[]⟩, .int .i64 0, .int .i64 0, .string ⟨#[]⟩, .slice none 0 0, .slice none 0 0, .slice none 0 0, .slice none 0 0, .int .i64 0, .int .i64 0, .string ⟨#[]⟩, .slice none 0 0] 28)) := hWB
 clear hWB
 go_enter Tryz.func17, Tryz.ntmps17
 go_wp2_with (first
  | (go_at_call 10; refine hSh.mono ?_; rintro x w4 ⟨rfl, hb4⟩
     have hrs4 := (hb4.block (w.heap.size + 1) (by omega) ).trans hrs3
     have hev4 := (hb4.block w2.heap.size (by simp)).trans hev
     have lc := six_all hev4
     have ic := six_all hrs4; have zc := six_fz hrs4)
  | (go_at_call 34; refine hRd.mono ?_; rintro x w2 ⟨⟨p2, rfl, hI2⟩, hb2⟩
     obtain ⟨a0, a1, a2, b3, a4, n5, n6, a7, p8, n8, c8, p9, n9, c9, p10, n10, c10, p11, n11, c11, n12, n13, a14, p15, n15, c15, hv⟩ := six_of E1 p2
     have HV : Hid (valE E1 p2 = .agg #[.string a0, .string a1, .string a2, .bool b3, .string a4, .int .i64 n5, .int .i64 n6, .string a7, .slice p8 n8 c8, .slice p9 n9 c9, .slice p10 n10 c10, .slice p11 n11 c11, .int .i64 n12, .int .i64 n13, .string a14, .slice p15 n15 c15]) := hv
     rw [hv]
     have hw2 := below_in HBW.out (below_in hb1 hb2)
     have s2 := (below_in hb1 hb2).size
     have hsb1 := hb1.size
     have hsb2 := hb2.size
     have hI3 := hI2.carry (O' := fun q => O q ∨ (WB.heap.size ≤ q ∧ q < (w2.alloc (.cells #[.string a0, .string a1, .string a2, .bool b3, .string a4, .int .i64 n5, .int .i64 n6, .string a7, .slice p8 n8 c8, .slice p9 n9 c9, .slice p10 n10 c10, .slice p11 n11 c11, .int .i64 n12, .int .i64 n13, .string a14, .slice p15 n15 c15] 28)).heap.size)) (w' := w2.alloc (.cells #[.string a0, .string a1, .string a2, .bool b3, .string a4, .int .i64 n5, .int .i64 n6, .string a7, .slice p8 n8 c8, .slice p9 n9 c9, .slice p10 n10 c10, .slice p11 n11 c11, .int .i64 n12, .int .i64 n13, .string a14, .slice p15 n15 c15] 28)) fun q hq => by
      have hlt : q < w2.heap.size ∧ (O q ∨ WB.heap.size ≤ q) := by
       rcases hq with (h | h) | h
       · exact ⟨by have := HO.out q h; omega, .inl h⟩
       · exact ⟨by have := h.2; omega, .inr h.1⟩
       · exact ⟨h.2, .inr (by have := h.1; omega)⟩
      exact ⟨hlt.2.elim .inl fun h => .inr ⟨h, by simp; omega⟩, Below.heap_alloc _ _ _ hlt.1⟩
     have hb3 : Below w.heap.size w (w2.alloc (.cells #[.string a0, .string a1, .string a2, .bool b3, .string a4, .int .i64 n5, .int .i64 n6, .string a7, .slice p8 n8 c8, .slice p9 n9 c9, .slice p10 n10 c10, .slice p11 n11 c11, .int .i64 n12, .int .i64 n13, .string a14, .slice p15 n15 c15] 28)) := hw2.alloc hw2.size _
     have hSh := HSh.out _ _ (hI3.carry fun q hq => ⟨hq.elim (fun h => by have := HO.out q h; simp; omega) fun h => h.2, rfl⟩) hb3
     have hev := heap_alloc_new w2 (.cells #[.string a0, .string a1, .string a2, .bool b3, .string a4, .int .i64 n5, .int .i64 n6, .string a7, .slice p8 n8 c8, .slice p9 n9 c9, .slice p10 n10 c10, .slice p11 n11 c11, .int .i64 n12, .int .i64 n13, .string a14, .slice p15 n15 c15] 28)
     have hrs3 := ((below_in hb1 hb2).alloc (Nat.le_trans (Nat.le_refl _) s2) (.cells #[.string a0, .string a1, .string a2, .bool b3, .string a4, .int .i64 n5, .int .i64 n6, .string a7, .slice p8 n8 c8, .slice p9 n9 c9, .slice p10 n10 c10, .slice p11 n11 c11, .int .i64 n12, .int .i64 n13, .string a14, .slice p15 n15 c15] 28)).block (w.heap.size + 1) (by omega) |>.trans hrs
     have hsz3 : w.heap.size + 2 ≤ (w2.alloc (.cells #[.string a0, .string a1, .string a2, .bool b3, .string a4, .int .i64 n5, .int .i64 n6, .string a7, .slice p8 n8 c8, .slice p9 n9 c9, .slice p10 n10 c10, .slice p11 n11 c11, .int .i64 n12, .int .i64 n13, .string a14, .slice p15 n15 c15] 28)).heap.size := by simp; omega
     rw [hv] at hSh
     clear hv
     skip)
  | (go_at_call 32; refine hOr.mono ?_; rintro x w1 ⟨⟨kr, ir, tr, pr, nr, cr, qr, mr, dr, rfl, hj1⟩, hb1⟩
     rw [← HWB.out] at hb1
     have hRd := HRd.out w1 kr ir tr pr nr cr qr mr dr hb1 (by rw [← HWB.out] at hj1; exact hj1)))
 have h16 := set16_heap hrs4 (.string a0) (.string a1) (.string a2) (.bool b3) (.string a4) (.int .i64 n5) (.int .i64 n6) (.string a7) (.slice p8 n8 c8) (.slice p9 n9 c9) (.slice p10 n10 c10) (.slice p11 n11 c11) (.int .i64 n12) (.int .i64 n13) (.string a14) (.slice p15 n15 c15)
 have HK16 : Keep (One (w.heap.size + 1)) _ _ := set16_keep w4 (w.heap.size + 1) (.string a0) (.string a1) (.string a2) (.bool b3) (.string a4) (.int .i64 n5) (.int .i64 n6) (.string a7) (.slice p8 n8 c8) (.slice p9 n9 c9) (.slice p10 n10 c10) (.slice p11 n11 c11) (.int .i64 n12) (.int .i64 n13) (.string a14) (.slice p15 n15 c15)
 obtain ⟨WE, hWE⟩ : ∃ WE, WE = set16 w4 (w.heap.size + 1) (.string a0) (.string a1) (.string a2) (.bool b3) (.string a4) (.int .i64 n5) (.int .i64 n6) (.string a7) (.slice p8 n8 c8) (.slice p9 n9 c9) (.slice p10 n10 c10) (.slice p11 n11 c11) (.int .i64 n12) (.int .i64 n13) (.string a14) (.slice p15 n15 c15) := ⟨_, rfl⟩
 rw [← hWE] at h16 HK16
 unfold set16 at hWE
 rw [← hWE]
 clear hWE
 refine bodyPost_ret (results_cell_tmp rfl _ _ _ rfl (loadE h16)) rfl ?_
 have hwF : Below w.heap.size w w4 := below_in hb3 hb4
 have hszF := hwF.size
 have hbE : Below w.heap.size w WE := hwF.trans (HK16.below (by omega) fun q hq => by unfold One; omega)
 rw [HF.out]
 refine ⟨⟨p2, by rw [HV.out]; rfl, hI3.carry fun q hq => ?_⟩, hbE⟩
 have hs4 := hb4.size
 have hse := HK16.size
 have hq3 : q < (w2.alloc (.cells #[.string a0, .string a1, .string a2, .bool b3, .string a4, .int .i64 n5, .int .i64 n6, .string a7, .slice p8 n8 c8, .slice p9 n9 c9, .slice p10 n10 c10, .slice p11 n11 c11, .int .i64 n12, .int .i64 n13, .string a14, .slice p15 n15 c15] 28)).heap.size := by rcases hq with h | h; have := HO.out q h; simp; omega; exact h.2
 refine ⟨?_, (HK16.block q (by omega) (by unfold One; rcases hq with h | h; have := HO.out q h; omega; have := h.1; omega)).trans (hb4.block q hq3)⟩
 rcases hq with h | h
 · exact .inl h
 · exact .inr ⟨by have := h.1; omega, by omega⟩
theorem fromJson_any {O : Nat → Prop} {w : World} {j : J} {k i : Int} {t : ByteArray} {pk pl : Option Addr} {nk ck nl cl : Nat} (hO : ∀ x, O x → x < w.heap.size) (hj : isJ O w j [.int .i64 k, .int .i64 i, .string t, .slice pk nk ck, .slice pl nl cl]) (hs : szJ 12 j = true) (hn : (ordT j).keys.length ≤ 80000) (hT : Tabs w) :
    Calls Tryz.prog 17 #[.agg #[.int .i64 k, .int .i64 i, .string t, .slice pk nk ck, .slice pl nl cl]] w fun x w' => (∃ p, x = .returned (.tuple #[valE (fromE (ordT j)).1 p, .int .i64 (fromE (ordT j)).2]) ∧ IsE (fun q => O q ∨ New w w' q) w' (fromE (ordT j)).1 p) ∧ Below w.heap.size w w' := by
 cases hr : readOk (ordT j) with
 | false => exact from_no hO hj hs hn hT hr
 | true =>
  by_cases hx : shapeE (readE (ordT j)) = 0
  · exact from_ok hO hj hs hn hT hr hx
  · exact from_bad hO hj hs hn hT hr hx
theorem eDecode_ok {w : World} {p : Option Addr} {c : Nat} {rs : List Int} {j : J} {q0 : Nat} (hrd : Rd w.heap.size w p c rs) (hn : rs.length ≤ 1000000) (hd : decode rs = .ok j q0) (hb : Bytes rs) (hk : (ordT j).keys.length ≤ 80000) (hT : Tabs w) :
    Calls Tryz.prog 21 #[.slice p rs.length c] w fun x w' => (∃ pt, x = .returned (.tuple #[valE (fromE (ordT j)).1 pt, .int .i64 (fromE (ordT j)).2]) ∧ IsE (New w w') w' (fromE (ordT j)).1 pt) ∧ Below w.heap.size w w' := by
 have hfit := decode_fit hb hd
 obtain ⟨WB, hWB⟩ : ∃ WB, WB = w.alloc (.cells #[.string ⟨#[]⟩, .string ⟨#[]⟩, .string ⟨#[]⟩, .bool false, .string ⟨#[]⟩, .int .i64 0, .int .i64 0, .string ⟨#[]⟩, .slice none 0 0, .slice none 0 0, .slice none 0 0, .slice none 0 0, .int .i64 0, .int .i64 0, .string ⟨#[]⟩, .slice none 0 0] 28) := ⟨_, rfl⟩
 have hbw : Below w.heap.size w WB := by rw [hWB]; exact (Below.refl _ _).alloc (Nat.le_refl _) _
 have hrs : WB.heap[w.heap.size]? = some (.cells #[.string ⟨#[]⟩, .string ⟨#[]⟩, .string ⟨#[]⟩, .bool false, .string ⟨#[]⟩, .int .i64 0, .int .i64 0, .string ⟨#[]⟩, .slice none 0 0, .slice none 0 0, .slice none 0 0, .slice none 0 0, .int .i64 0, .int .i64 0, .string ⟨#[]⟩, .slice none 0 0] 28 (0, 0)) := by rw [hWB]; exact heap_alloc_new _ _
 have hsB1 : w.heap.size + 1 ≤ WB.heap.size := by rw [hWB]; simp
 have hrB : Rd WB.heap.size WB p c rs := ⟨hrd.1, hrd.2.1, fun j hj => by
  obtain ⟨a, e1, e2, e3⟩ := hrd.2.2 j hj
  exact ⟨a, e1, by omega, (World.cell?_of_block (by rw [add_block]; exact hbw.block _ e2)).trans e3⟩⟩
 have hDe := decode_any hrB hn
 rw [hd] at hDe
 have HFr : Hid (∀ W W1 k i t pk nk ck pl nl cl, Below WB.heap.size WB W → Below W.heap.size W W1 → isJ (New WB W) W j [.int .i64 k, .int .i64 i, .string t, .slice pk nk ck, .slice pl nl cl] → Calls Tryz.prog 17 #[.agg #[.int .i64 k, .int .i64 i, .string t, .slice pk nk ck, .slice pl nl cl]] W1 fun x w' => (∃ p, x = .returned (.tuple #[valE (fromE (ordT j)).1 p, .int .i64 (fromE (ordT j)).2]) ∧ IsE (fun q => New WB W q ∨ New W1 w' q) w' (fromE (ordT j)).1 p) ∧ Below W1.heap.size W1 w') := fun W W1 k i t pk nk ck pl nl cl h1 h2 hj =>
  fromJson_any (fun x hx => Nat.lt_of_lt_of_le hx.2 h2.size) (hj.carry fun x hx => ⟨hx, h2.block x hx.2⟩) hfit.2.2 hk (hT.below (below_in hbw (below_in h1 h2)))
 obtain ⟨F, hF⟩ : ∃ F, fromE (ordT j) = F := ⟨_, rfl⟩
 rw [hF] at HFr ⊢
 obtain ⟨E1, er⟩ := F
 simp only at HFr ⊢
 have HBW : Hid (Below w.heap.size w WB) := hbw
 have HWB : Hid (WB = w.alloc (.cells #[.string ⟨#[]⟩, .string ⟨#[]⟩, .string ⟨#[]⟩, .bool false, .string ⟨#[]⟩, .int .i64 0, .int .i64 0, .string ⟨#[]⟩, .slice none 0 0, .slice none 0 0, .slice none 0 0, .slice none 0 0, .int .i64 0, .int .i64 0, .string ⟨#[]⟩, .slice none 0 0] 28)) := hWB
 rw [hWB] at hDe
 clear hF hd hb hk hT hfit hrB hrd hbw hWB
 go_enter Tryz.func21, Tryz.ntmps21
 go_wp2_with (first
  | (go_at_call 17; refine hFr.mono ?_; rintro x w4 ⟨⟨p4, rfl, hI4⟩, hb4⟩
     obtain ⟨a0, a1, a2, b3, a4, n5, n6, a7, p8, n8, c8, p9, n9, c9, p10, n10, c10, p11, n11, c11, n12, n13, a14, p15, n15, c15, hv⟩ := six_of E1 p4
     have HV : Hid (valE E1 p4 = .agg #[.string a0, .string a1, .string a2, .bool b3, .string a4, .int .i64 n5, .int .i64 n6, .string a7, .slice p8 n8 c8, .slice p9 n9 c9, .slice p10 n10 c10, .slice p11 n11 c11, .int .i64 n12, .int .i64 n13, .string a14, .slice p15 n15 c15]) := hv
     rw [hv]
     clear hv
     have hrs4 := (hb4.block w.heap.size (by simp; omega)).trans ((Below.heap_alloc w1 _ w.heap.size (by omega)).trans ((hb1.block w.heap.size (by omega)).trans hrs))
     have ic := six_all hrs4; have zc := six_fz hrs4)
  | (go_at_call 40; refine hDe.mono ?_; rintro x w1 ⟨⟨k1, i1, t1, pk1, nk1, ck1, pl1, nl1, cl1, rfl, hj1⟩, hb1⟩
     rw [← HWB.out] at hb1 hj1
     have hs1 := hb1.size
     have hFr := HFr.out w1 (w1.alloc (.cells #[.int .i64 k1, .int .i64 i1, .string t1, .slice pk1 nk1 ck1, .slice pl1 nl1 cl1] 25)) k1 i1 t1 pk1 nk1 ck1 pl1 nl1 cl1 hb1 ((Below.refl _ _).alloc (Nat.le_refl _) _) hj1))
 have h16 := set16_heap hrs4 (.string a0) (.string a1) (.string a2) (.bool b3) (.string a4) (.int .i64 n5) (.int .i64 n6) (.string a7) (.slice p8 n8 c8) (.slice p9 n9 c9) (.slice p10 n10 c10) (.slice p11 n11 c11) (.int .i64 n12) (.int .i64 n13) (.string a14) (.slice p15 n15 c15)
 have HK16 : Keep (One w.heap.size) _ _ := set16_keep w4 w.heap.size (.string a0) (.string a1) (.string a2) (.bool b3) (.string a4) (.int .i64 n5) (.int .i64 n6) (.string a7) (.slice p8 n8 c8) (.slice p9 n9 c9) (.slice p10 n10 c10) (.slice p11 n11 c11) (.int .i64 n12) (.int .i64 n13) (.string a14) (.slice p15 n15 c15)
 obtain ⟨WE, hWE⟩ : ∃ WE, WE = set16 w4 w.heap.size (.string a0) (.string a1) (.string a2) (.bool b3) (.string a4) (.int .i64 n5) (.int .i64 n6) (.string a7) (.slice p8 n8 c8) (.slice p9 n9 c9) (.slice p10 n10 c10) (.slice p11 n11 c11) (.int .i64 n12) (.int .i64 n13) (.string a14) (.slice p15 n15 c15) := ⟨_, rfl⟩
 rw [← hWE] at h16 HK16
 unfold set16 at hWE
 rw [← hWE]
 clear hWE
 refine bodyPost_ret (results_cell_tmp rfl _ _ _ rfl (loadE h16)) rfl ?_
 have hw4 : Below w.heap.size w w4 := below_in HBW.out (below_in hb1 (below_in ((Below.refl _ _).alloc (Nat.le_refl _) _) hb4))
 have hs4 := hb4.size
 simp at hs4
 have hse := HK16.size
 have hbE : Below w.heap.size w WE := hw4.trans (HK16.below hw4.size fun q hq => by unfold One; omega)
 refine ⟨⟨p4, by rw [HV.out]; rfl, hI4.carry fun q hq => ?_⟩, hbE⟩
 have hq4 : q < w4.heap.size ∧ WB.heap.size ≤ q := by
  rcases hq with h | h
  · exact ⟨by have := h.2; omega, h.1⟩
  · exact ⟨h.2, by have := h.1; simp at this; omega⟩
 exact ⟨⟨by omega, by omega⟩, HK16.block q hq4.1 (by unfold One; omega)⟩
theorem results_cell {fn : Func} {a : Tmp} {t : TypeId} (h : fn.results = #[.cell a t]) (tmps : Array Value) (P : Program) (w : World) {ad : Addr} {v : Value} (hp : tmps.getD a undef = .pointer (some ad)) (hl : (loadVar t ad).run P w = .ok v w) :
    (results fn tmps).run P w = .ok v w := by
 rw [Array.getD_eq_getD_getElem?] at hp
 simp [results, h, hp, hl, asAddr]
theorem sample_any (w : World) : Calls Tryz.prog 26 #[] w fun x w' => x = .returned (valE sampleE Pt.zero) ∧ Below w.heap.size w w' := by
 have h16 := heap_alloc_new w (.cells #[.string sRoom, .string sType, .string sSender, .bool false, .string ⟨#[]⟩, .int .i64 5, .int .i64 0, .string ⟨#[]⟩, .slice none 0 0, .slice none 0 0, .slice none 0 0, .slice none 0 0, .int .i64 0, .int .i64 0, .string ⟨#[]⟩, .slice none 0 0] 28)
 go_enter Tryz.func26, Tryz.ntmps26
 go_wp2
 refine bodyPost_ret (results_cell rfl _ _ _ rfl (loadE h16)) rfl ?_
 exact ⟨rfl, (Below.refl _ _).alloc (Nat.le_refl _) _⟩
theorem loadJ5 {w : World} {b : Nat} {t : TypeId} {a0 a1 a2 a3 a4 : Value} (h : w.heap[b]? = some (.cells #[a0, a1, a2, a3, a4] t (0, 0))) : (loadVar 25 ⟨b, 0, none⟩).run Tryz.prog w = .ok (.agg #[a0, a1, a2, a3, a4]) w := by
 have k0 := five_c0 h; have k1 := five_c1 h; have k2 := five_c2 h; have k3 := five_c3 h; have k4 := five_c4 h
 simp [loadVar, go_sem, k0, k1, k2, k3, k4]
theorem toJson_any {O : Nat → Prop} (e : Ev) (p : Pt) (w : World) (hE : IsE O w e p) (hO : ∀ k, O k → k < w.heap.size) (hz : SzE e) (hT : Tabs w) (hs : shapedE e = true) :
    Calls Tryz.prog 13 #[valE e p] w fun x w' => (∃ kr ir tr pr nr cr qr mr dr, x = .returned (.agg #[.int .i64 kr, .int .i64 ir, .string tr, .slice pr nr cr, .slice qr mr dr]) ∧ isJ (fun b => O b ∨ New w w' b) w' (ord (toldJ e)) [.int .i64 kr, .int .i64 ir, .string tr, .slice pr nr cr, .slice qr mr dr]) ∧ Below w.heap.size w w' := by
 have hcl := sz_told hz
 have hord : ordT (toldJ e) = ord (toldJ e) := by unfold ordT; rw [if_pos (shaped_good hs)]
 obtain ⟨WB, hWB⟩ : ∃ WB, WB = (w.alloc (.cells (cellsE e p).toArray 28)).alloc (.cells #[.int .i64 0, .int .i64 0, .string ⟨#[]⟩, .slice none 0 0, .slice none 0 0] 25) := ⟨_, rfl⟩
 have hbw : Below w.heap.size w WB := by rw [hWB]; exact ((Below.refl _ _).alloc (Nat.le_refl _) _).alloc (by simp) _
 have hx0 : WB.heap[w.heap.size]? = some (.cells (cellsE e p).toArray 28 (0, 0)) := by rw [hWB]; exact one_of _ _
 have hr0 : WB.heap[w.heap.size + 1]? = some (.cells #[.int .i64 0, .int .i64 0, .string ⟨#[]⟩, .slice none 0 0, .slice none 0 0] 25 (0, 0)) := by rw [hWB]; exact two_at _ _
 have hsB : w.heap.size + 2 ≤ WB.heap.size := by rw [hWB]; simp
 have hSh := shaped_any e p WB (hE.below hO hbw) (fun k hk => Nat.lt_of_lt_of_le (hO k hk) hbw.size) hz (hT.below hbw)
 rw [hs] at hSh
 have HTo : Hid (∀ W, Below WB.heap.size WB W → Calls Tryz.prog 33 #[valE e p] W fun x w' => (∃ pk nk ck pl nl cl, x = .returned (.agg #[.int .i64 5, .int .i64 0, .string nix, .slice pk nk ck, .slice pl nl cl]) ∧ isJ (fun k => O k ∨ New W w' k) w' (toldJ e) [.int .i64 5, .int .i64 0, .string nix, .slice pk nk ck, .slice pl nl cl]) ∧ Below W.heap.size W w') := fun W hW =>
  told_any e p W (hE.below hO (below_in hbw hW)) (fun k hk => Nat.lt_of_lt_of_le (hO k hk) (below_in hbw hW).size) hz
 have HOr : Hid (∀ W W2 pk nk ck pl nl cl, Below w.heap.size w W → Below W.heap.size W W2 → isJ (fun k => O k ∨ New W W2 k) W2 (toldJ e) [.int .i64 5, .int .i64 0, .string nix, .slice pk nk ck, .slice pl nl cl] → Calls Tryz.prog 32 #[.agg #[.int .i64 5, .int .i64 0, .string nix, .slice pk nk ck, .slice pl nl cl]] W2 fun x w' => (∃ kr ir tr pr nr cr qr mr dr, x = .returned (.agg #[.int .i64 kr, .int .i64 ir, .string tr, .slice pr nr cr, .slice qr mr dr]) ∧ isJ (fun b => (O b ∨ New W W2 b) ∨ New W2 w' b) w' (ord (toldJ e)) [.int .i64 kr, .int .i64 ir, .string tr, .slice pr nr cr, .slice qr mr dr]) ∧ Below W2.heap.size W2 w') := fun W W2 pk nk ck pl nl cl h1 h2 hj => by
  have h := order_new (O := fun k => O k ∨ New W W2 k) (fun x hx => hx.elim (fun h => Nat.lt_of_lt_of_le (hO x h) (below_in h1 h2).size) fun h => h.2) hcl hj
  rw [hord] at h
  exact h
 have HBW : Hid (Below w.heap.size w WB) := hbw
 have HO : Hid (∀ k, O k → k < w.heap.size) := hO
 generalize hTJ : ord (toldJ e) = TJ at HOr ⊢
 generalize toldJ e = TE at HTo HOr
 obtain ⟨room, typ, sender, st, key, ⟨k, i, t, ks, l⟩, prev, auth, depth, ts, hash, sigs⟩ := e
 obtain ⟨pk, ck, pl, cl, pp, cp, pa, ca, ps, cs⟩ := p
 simp only [valE, cellsE, J.kind, J.int, J.text, J.keys, J.list] at hWB hx0 hSh HTo ⊢
 have HX0 : Hid (WB.heap[w.heap.size]? = some (.cells #[.string room, .string typ, .string sender, .bool st, .string key, .int .i64 k, .int .i64 i, .string t, .slice pk ks.length ck, .slice pl l.length cl, .slice pp prev.length cp, .slice pa auth.length ca, .int .i64 depth, .int .i64 ts, .string hash, .slice ps sigs.length cs] 28 (0, 0))) := hx0
 have HR0 : Hid (WB.heap[w.heap.size + 1]? = some (.cells #[.int .i64 0, .int .i64 0, .string ⟨#[]⟩, .slice none 0 0, .slice none 0 0] 25 (0, 0))) := hr0
 clear hE hO hz hT hs hcl hord hTJ hr0 hbw
 go_enter Tryz.func13, Tryz.ntmps13
 go_upto_region 1 with fail
 rw [← hWB]
 clear hWB
 go_wp2_with (first
  | (refine wpList_load16 rfl _ rfl rfl hx0 ?_)
  | (go_at_call 31; refine hSh.mono ?_; rintro x w1 ⟨rfl, hb1⟩
     have hx1 := (hb1.block w.heap.size (by omega)).trans hx0
     have hTo := HTo.out w1 hb1
     clear hx0 hSh)
  | (refine wpList_load16 rfl _ rfl rfl hx1 ?_)
  | (go_at_call 33; refine hTo.mono ?_; rintro x w2 ⟨⟨qk, nk, dk, ql, nl, dl, rfl, hj2⟩, hb2⟩
     have hOr := HOr.out w1 w2 qk nk dk ql nl dl (below_in HBW.out hb1) hb2 hj2
     clear hTo hx1)
  | (go_at_call 32; refine hOr.mono ?_; rintro x w3 ⟨⟨kr, ir, tr, pr, nr, cr, qr, mr, dr, rfl, hj3⟩, hb3⟩
     have s1 := hb1.size; have s2 := hb2.size; have s3 := hb3.size
     have hr3 := (hb3.block (w.heap.size + 1) (by omega)).trans ((hb2.block (w.heap.size + 1) (by omega)).trans ((hb1.block (w.heap.size + 1) (by omega)).trans HR0.out))
     have i0 := five_c0 hr3; have i1 := five_c1 hr3; have i2 := five_c2 hr3; have i3 := five_c3 hr3; have i4 := five_c4 hr3
     have z0 := five_fz hr3 0; have z1 := five_fz hr3 1; have z2 := five_fz hr3 2; have z3 := five_fz hr3 3; have z4 := five_fz hr3 4))
 have h5 := set5_heap hr3 (.int .i64 kr) (.int .i64 ir) (.string tr) (.slice pr nr cr) (.slice qr mr dr)
 have HK5 : Keep (One (w.heap.size + 1)) w3 _ := set5_keep w3 (w.heap.size + 1) (.int .i64 kr) (.int .i64 ir) (.string tr) (.slice pr nr cr) (.slice qr mr dr)
 obtain ⟨WE, hWE⟩ : ∃ WE, WE = set5 w3 (w.heap.size + 1) (.int .i64 kr) (.int .i64 ir) (.string tr) (.slice pr nr cr) (.slice qr mr dr) := ⟨_, rfl⟩
 rw [← hWE] at h5 HK5
 unfold set5 at hWE
 rw [← hWE]
 refine bodyPost_ret (results_cell rfl _ _ _ rfl (loadJ5 h5)) rfl ?_
 have s5 := HK5.size
 have b3 : Below w.heap.size w w3 := below_in HBW.out (below_in hb1 (below_in hb2 hb3))
 refine ⟨⟨_, _, _, _, _, _, _, _, _, rfl, hj3.carry fun q hq => ?_⟩, b3.trans (HK5.below (by omega) fun q hq => by unfold One; omega)⟩
 rcases hq with (hq | hq) | hq
 · exact ⟨.inl hq, HK5.block q (by have := HO.out q hq; omega) (by have := HO.out q hq; unfold One; omega)⟩
 · exact ⟨.inr ⟨by have := hq.1; omega, by have := hq.2; omega⟩, HK5.block q (by have := hq.2; omega) (by have := hq.1; unfold One; omega)⟩
 · exact ⟨.inr ⟨by have := hq.1; omega, by have := hq.2; omega⟩, HK5.block q hq.2 (by have := hq.1; unfold One; omega)⟩
end Go.Proofs.YtegcgbjjpgjnmaaGreatDoor

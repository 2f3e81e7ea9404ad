/-
  What event a value says: by a contract.
  What is decoded is good, and in order.
-/
import Derived.Test.YtegcgbjjpgjnmaaGreatDoorC27
set_option maxRecDepth 100000
set_option maxHeartbeats 16000000
namespace Go.Proofs.YtegcgbjjpgjnmaaGreatDoor
open Go.RowKit Go.Maps
theorem read_true_false {O : Nat → Prop} {w : World} {j : J} {k i : Int} {t : ByteArray} {pk pl : Option Addr} {nk ck nl cl : Nat} (hO : ∀ x, O x → x < w.heap.size) (hj : isJ O w j [.int .i64 k, .int .i64 i, .string t, .slice pk nk ck, .slice pl nl cl]) (hkl : j.keys.length ≤ j.list.length) (hd : j.keys.Pairwise (· ≠ ·)) (hn : j.keys.length ≤ 80000) (hl : j.list.length ≤ 100000) (hks : ∀ x ∈ j.keys, x.size ≤ 1000000000) (hv : ∀ x ∈ j.list, Tame x) (hst : rSt j = true) (hbad : rB11 j = false) :
    Calls Tryz.prog 34 #[.agg #[.int .i64 k, .int .i64 i, .string t, .slice pk nk ck, .slice pl nl cl]] w fun x w' => (∃ p, x = .returned (.tuple #[valE (readE j) p, .bool (readOk j)]) ∧ IsE (fun q => O q ∨ New w w' q) w' (readE j) p) ∧ Below w.heap.size w w' := by
 obtain ⟨R, hR⟩ : ∃ R, R = w.heap.size + 1 + 1 + 1 := ⟨_, rfl⟩
 obtain ⟨M, hM⟩ : ∃ M, M = w.heap.size + 1 + 1 := ⟨_, rfl⟩
 obtain ⟨WB, hWB⟩ : ∃ WB, WB = (((w.alloc (.cells #[.int .i64 k, .int .i64 i, .string t, .slice pk nk ck, .slice pl nl cl] 25)).alloc (.cells #[.string ⟨#[]⟩, .string ⟨#[]⟩, .string ⟨#[]⟩, .bool false, .string ⟨#[]⟩, .int .i64 0, .int .i64 0, .string ⟨#[]⟩, .slice none 0 0, .slice none 0 0, .slice none 0 0, .slice none 0 0, .int .i64 0, .int .i64 0, .string ⟨#[]⟩, .slice none 0 0] 28)).alloc (.map #[] 0)).alloc (.cells #[.map (some M), .bool false] 84) := ⟨_, rfl⟩
 have hbw : Below w.heap.size w WB := by rw [hWB]; exact ((((Below.refl _ _).alloc (Nat.le_refl _) _).alloc (by simp) _).alloc (by simp <;> omega) _).alloc (by simp <;> omega) _
 have hsB : WB.heap.size = w.heap.size + 4 := by rw [hWB]; simp
 have hob : WB.heap[R]? = some (.cells #[.map (some M), .bool false] 84 (0, 0)) := by
  rw [hWB]
  have := heap_alloc_new (((w.alloc (.cells #[.int .i64 k, .int .i64 i, .string t, .slice pk nk ck, .slice pl nl cl] 25)).alloc (.cells #[.string ⟨#[]⟩, .string ⟨#[]⟩, .string ⟨#[]⟩, .bool false, .string ⟨#[]⟩, .int .i64 0, .int .i64 0, .string ⟨#[]⟩, .slice none 0 0, .slice none 0 0, .slice none 0 0, .slice none 0 0, .int .i64 0, .int .i64 0, .string ⟨#[]⟩, .slice none 0 0] 28)).alloc (.map #[] 0)) (.cells #[.map (some M), .bool false] 84)
  rw [hR]
  simpa using this
 have hbx : WB.heap[w.heap.size]? = some (.cells #[.int .i64 k, .int .i64 i, .string t, .slice pk nk ck, .slice pl nl cl] 25 (0, 0)) := by
  rw [hWB, Below.heap_alloc _ _ _ (by simp <;> omega), Below.heap_alloc _ _ _ (by simp <;> omega)]; exact one_of _ _
 have hrs : WB.heap[w.heap.size + 1]? = some (.cells #[.string ⟨#[]⟩, .string ⟨#[]⟩, .string ⟨#[]⟩, .bool false, .string ⟨#[]⟩, .int .i64 0, .int .i64 0, .string ⟨#[]⟩, .slice none 0 0, .slice none 0 0, .slice none 0 0, .slice none 0 0, .int .i64 0, .int .i64 0, .string ⟨#[]⟩, .slice none 0 0] 28 (0, 0)) := by
  rw [hWB, Below.heap_alloc _ _ _ (by simp <;> omega), Below.heap_alloc _ _ _ (by simp)]; exact two_at _ _
 have hmap0 : MapIs WB M [] := by
  have h1 := MapIs.made ((w.alloc (.cells #[.int .i64 k, .int .i64 i, .string t, .slice pk nk ck, .slice pl nl cl] 25)).alloc (.cells #[.string ⟨#[]⟩, .string ⟨#[]⟩, .string ⟨#[]⟩, .bool false, .string ⟨#[]⟩, .int .i64 0, .int .i64 0, .string ⟨#[]⟩, .slice none 0 0, .slice none 0 0, .slice none 0 0, .slice none 0 0, .int .i64 0, .int .i64 0, .string ⟨#[]⟩, .slice none 0 0] 28))
  have h2 : ((w.alloc (.cells #[.int .i64 k, .int .i64 i, .string t, .slice pk nk ck, .slice pl nl cl] 25)).alloc (.cells #[.string ⟨#[]⟩, .string ⟨#[]⟩, .string ⟨#[]⟩, .bool false, .string ⟨#[]⟩, .int .i64 0, .int .i64 0, .string ⟨#[]⟩, .slice none 0 0, .slice none 0 0, .slice none 0 0, .slice none 0 0, .int .i64 0, .int .i64 0, .string ⟨#[]⟩, .slice none 0 0] 28)).heap.size = M := by rw [hM]; simp
  rw [h2] at h1
  rw [hWB]
  exact h1.keep (S := fun _ => False) ((Keep.refl _ _).alloc _) (fun h => h)
 have hE0 : ER O WB R M [] false := ⟨hob, ⟨[], hmap0, rfl⟩, by omega, fun q hq => by have := hO q hq; omega⟩
 have hnk := (isJ_at hj).2.2.2.1
 have hnl := (isJ_at hj).2.2.2.2.1
 have hrk := (isJ_at hj).2.2.2.2.2.1
 have hcl := (isJ_at hj).2.2.2.2.2.2.1
 have hjs := (isJ_at hj).2.2.2.2.2.2.2
 have hck := hrk.1
 have HNK : Hid (nk = j.keys.length) := hnk
 have HNL : Hid (nl = j.list.length) := hnl
 have HKL : Hid (j.keys.length ≤ j.list.length) := hkl
 have HD : Hid (j.keys.Pairwise (· ≠ ·)) := hd
 have HKS : Hid (∀ x ∈ j.keys, x.size ≤ 1000000000) := hks
 rw [← hnk] at hn hck hkl
 rw [← hnl] at hl hcl hkl
 have HLT : Hid (R = w.heap.size + 3 ∧ M = w.heap.size + 2) := ⟨by omega, by omega⟩
 have HST : Hid (rSt j = true) := hst
 have HBAD : Hid (rB11 j = false) := hbad
 have HBW : Hid (Below w.heap.size w WB) := hbw
 have HMM := run_makeMap_room Tryz.underlying82
 have T0 := zip_tame hv
 have T1 := del_tame T0 nRoom
 have T2 := del_tame T1 nType
 have T3 := del_tame T2 nSender
 have T4 := del_tame T3 nContent
 have T5 := del_tame T4 nPrev
 have T6 := del_tame T5 nAuth
 have T7 := del_tame T6 nDepth
 have T8 := del_tame T7 nTs
 have T9 := del_tame T8 nHash
 have T10 := del_tame T9 nSigs
 have C0 : Hid (∀ W, ER O W R M (rP0 j) (rB0 j) → Calls Tryz.prog 71 #[.pointer (some ⟨R, 0, none⟩), .string nRoom] W fun x w' => x = .returned (.string (rG0 j).text) ∧ ER O w' R M (rP1 j) (rB1 j) ∧ Keep (Two R M) W w') := fun W h => rtext_any h nRoom (ok_of (by decide))
 have C1 : Hid (∀ W, ER O W R M (rP1 j) (rB1 j) → Calls Tryz.prog 71 #[.pointer (some ⟨R, 0, none⟩), .string nType] W fun x w' => x = .returned (.string (rG1 j).text) ∧ ER O w' R M (rP2 j) (rB2 j) ∧ Keep (Two R M) W w') := fun W h => rtext_any h nType (ok_of (by decide))
 have C2 : Hid (∀ W, ER O W R M (rP2 j) (rB2 j) → Calls Tryz.prog 71 #[.pointer (some ⟨R, 0, none⟩), .string nSender] W fun x w' => x = .returned (.string (rG2 j).text) ∧ ER O w' R M (rP3 j) (rB3 j) ∧ Keep (Two R M) W w') := fun W h => rtext_any h nSender (ok_of (by decide))
 have C3 : Hid (∀ W, ER O W R M (rP3 j) (rB3 j) → Calls Tryz.prog 72 #[.pointer (some ⟨R, 0, none⟩), .string nContent, .int .i64 5] W fun x w' => (∃ k i t pk nk ck pl nl cl, x = .returned (.agg #[.int .i64 k, .int .i64 i, .string t, .slice pk nk ck, .slice pl nl cl]) ∧ isJ O w' (rG3 j) [.int .i64 k, .int .i64 i, .string t, .slice pk nk ck, .slice pl nl cl]) ∧ ER O w' R M (rP4 j) (rB4 j) ∧ Keep (Two R M) W w') := fun W h => take_any h nContent (ok_of (by decide)) 5
 have C4 : Hid (∀ W, ER O W R M (rP4 j) (rB4 j) → Calls Tryz.prog 73 #[.pointer (some ⟨R, 0, none⟩), .string nPrev] W fun x w' => (∃ q c, x = .returned (.slice q (rG4 j).list.length c) ∧ RdK (New W w') w' q c ((rG4 j).list.map J.text)) ∧ ER O w' R M (rP5 j) (rB5 j) ∧ Keep (Two R M) W w') := fun W h => rtexts_any h nPrev (ok_of (by decide)) (get_tame T4 _).1
 have C5 : Hid (∀ W, ER O W R M (rP5 j) (rB5 j) → Calls Tryz.prog 73 #[.pointer (some ⟨R, 0, none⟩), .string nAuth] W fun x w' => (∃ q c, x = .returned (.slice q (rG5 j).list.length c) ∧ RdK (New W w') w' q c ((rG5 j).list.map J.text)) ∧ ER O w' R M (rP6 j) (rB6 j) ∧ Keep (Two R M) W w') := fun W h => rtexts_any h nAuth (ok_of (by decide)) (get_tame T5 _).1
 have C6 : Hid (∀ W, ER O W R M (rP6 j) (rB6 j) → Calls Tryz.prog 74 #[.pointer (some ⟨R, 0, none⟩), .string nDepth] W fun x w' => x = .returned (.int .i64 (rG6 j).int) ∧ ER O w' R M (rP7 j) (rB7 j) ∧ Keep (Two R M) W w') := fun W h => rnumber_any h nDepth (ok_of (by decide))
 have C7 : Hid (∀ W, ER O W R M (rP7 j) (rB7 j) → Calls Tryz.prog 74 #[.pointer (some ⟨R, 0, none⟩), .string nTs] W fun x w' => x = .returned (.int .i64 (rG7 j).int) ∧ ER O w' R M (rP8 j) (rB8 j) ∧ Keep (Two R M) W w') := fun W h => rnumber_any h nTs (ok_of (by decide))
 have C8 : Hid (∀ W, ER O W R M (rP8 j) (rB8 j) → Calls Tryz.prog 71 #[.pointer (some ⟨R, 0, none⟩), .string nHash] W fun x w' => x = .returned (.string (rG8 j).text) ∧ ER O w' R M (rP9 j) (rB9 j) ∧ Keep (Two R M) W w') := fun W h => rtext_any h nHash (ok_of (by decide))
 have C9 : Hid (∀ W, ER O W R M (rP9 j) (rB9 j) → Calls Tryz.prog 75 #[.pointer (some ⟨R, 0, none⟩), .string nSigs] W fun x w' => (∃ q c, x = .returned (.slice q (sigsOf (rG9 j)).length c) ∧ RdS (New W w') w' q c (sigsOf (rG9 j))) ∧ ER O w' R M (rP10 j) (rB10 j) ∧ Keep (Two R M) W w') := fun W h => rsigs_any h nSigs (ok_of (by decide)) (get_tame T9 _).1 (get_tame T9 _).2
 have C10 : Hid (∀ W, ER O W R M (rP10 j) (rB10 j) → Calls Tryz.prog 71 #[.pointer (some ⟨R, 0, none⟩), .string nKey] W fun x w' => x = .returned (.string (rG10 j).text) ∧ ER O w' R M (rP11 j) (rB11 j) ∧ Keep (Two R M) W w') := fun W h => rtext_any h nKey (ok_of (by decide))
 clear hst hbad hj hnk hnl hv hd hks hbw hob hmap0 T0 T1 T2 T3 T4 T5 T6 T7 T8 T9 T10
 go_enter Tryz.func34, Tryz.ntmps34
 go_wp2
 rw [← hR, ← hM, ← hWB]
 have hR1 : w.heap.size + 3 ≤ R := by omega
 have hR2 : R ≤ w.heap.size + 3 := by omega
 have hM1 : w.heap.size + 2 ≤ M := by omega
 have hM2 : M ≤ w.heap.size + 2 := by omega
 have hs1 : WB.heap.size ≤ w.heap.size + 4 := by omega
 have hs2 : w.heap.size + 4 ≤ WB.heap.size := by omega
 clear hWB HMM hR hM hsB
 go_loopw [18] (fun v wr => ∃ m : Nat, v = .int .i64 m ∧ m ≤ nk ∧ ER O wr R M ((rP0 j).take m) false ∧ Keep (One M) WB wr) (fun v _ => nk - (intOf v).toNat)
 case atStart => exact ⟨0, rfl, Nat.zero_le _, by rw [List.take_zero]; exact hE0, Keep.refl _ _⟩
 case round =>
  obtain ⟨m, rfl, hm, hEr, hkr⟩ := hrel
  have hsz := hkr.size
  have hbr := (hkr.block w.heap.size (by omega) (by unfold One; omega)).trans hbx
  obtain ⟨es, hmap, hrel⟩ := hEr.map
  have hr0 := hEr.c0
  by_cases hml : m < nk
  · have hmi : (m : Int) < (nk : Int) := by omega
    have hmi2 : (m : Int) < (nl : Int) := by omega
    have hmk : m < j.keys.length := by rw [← HNK.out]; exact hml
    have hml1 : m < j.list.length := by rw [← HNL.out]; omega
    obtain ⟨ka, hpk, hOk, hck1⟩ := hrk.2 m hmk
    subst hpk
    have hblk0 : ∀ q, O q → wr.heap[q]? = w.heap[q]? := fun q hq => (hkr.block q (by have := hO q hq; omega) (by unfold One; have := hO q hq; omega)).trans (HBW.out.block q (hO q hq))
    have hkc : wr.cell? (ka.add m) = some (.string (j.keys.getD m nix)) := (World.cell?_of_block (by rw [add_block]; exact hblk0 _ hOk)).trans hck1
    obtain ⟨lb, lo, cs, hpl, hOl, hcells, hyj⟩ := isJs.at j.list 0 m hjs hml1
    subst hpl
    obtain ⟨x0, x1, x2, p3, n3, c3, p4, n4, c4, rfl⟩ := isJ_shape hyj
    have hblk := hblk0 lb hOl
    have hkey : j.keys.getD m nix ∈ j.keys := by rw [List.getD_eq_getElem?_getD, List.getElem?_eq_getElem hmk]; exact List.getElem_mem _
    have hok : okS (j.keys.getD m nix) := ok_of (HKS.out _ hkey)
    have hnew := key_new HKL.out HD.out hmk
    rw [← hrel.keys] at hnew
    have hesl : es.length < 90000 := by
     have := congrArg List.length hrel.keys
     rw [List.length_map, List.length_map, List.length_take] at this
     omega
    have HTK : Hid ((rP0 j).take (m + 1) = (rP0 j).take m ++ [(j.keys.getD m nix, j.list.getD m J.zero)]) := zip_take HKL.out hmk
    obtain ⟨u, hu⟩ : ∃ u, j.keys.getD m nix = u := ⟨_, rfl⟩
    rw [hu] at hkc hok hnew HTK
    have hvj : vJ O wr (j.list.getD m J.zero) (.agg #[.int .i64 x0, .int .i64 x1, .string x2, .slice p3 n3 c3, .slice p4 n4 c4]) := ⟨_, _, _, _, _, _, _, _, _, rfl, hyj.carry fun q hq => ⟨hq, hblk0 q hq⟩⟩
    have HVJ : Hid _ := hvj
    have HLB : Hid (lb < w.heap.size) := hO lb hOl
    have hC : ∀ W : World, (∀ q, q < wr.heap.size → q ≠ M → W.heap[q]? = wr.heap[q]?) → W.cell? ⟨R, 0, none⟩ = some (.map (some M)) ∧ W.cell? ⟨w.heap.size, 4, none⟩ = some (.slice (some ⟨lb, lo, none⟩) nl cl) ∧ ∀ n v, [Value.int .i64 x0, .int .i64 x1, .string x2, .slice p3 n3 c3, .slice p4 n4 c4][n]? = some v → W.cell? ⟨lb, lo + m * 5 + n, none⟩ = some v := fun W hW => by
     have hl0 := hO lb hOl
     refine ⟨(World.cell?_of_block (a := ⟨R, 0, none⟩) (hW R (by omega) (by omega))).trans hr0, (World.cell?_of_block (a := ⟨w.heap.size, 4, none⟩) (hW w.heap.size (by omega) (by omega))).trans (five_c4 hbr), fun n v h => ?_⟩
     have := hcells n v h
     rw [Nat.zero_add] at this
     exact (World.cell?_of_block (a := ⟨lb, lo + m * 5 + n, none⟩) ((hW lb (by omega) (by omega)).trans hblk)).trans this
    have HC : Hid _ := hC
    have b3 := five_c3 hbr
    have hmapd : MapIs wr.drew M es := hmap.keep (S := fun _ => False) (Keep.refl _ _).drew (fun h => h)
    have hC0 : ∀ q, q < wr.heap.size → q ≠ M → wr.drew.heap[q]? = wr.heap[q]? := fun q _ _ => rfl
    clear hC hvj hcells hyj hblk0 hu hck1 hkey hblk hr0
    go_wp2
    refine wp_region_in (by kernel_rfl) (fun W => ∀ q, q < wr.heap.size → q ≠ M → W.heap[q]? = wr.heap[q]?) ?_
    change wpIn _ _ _ _ _ _ _ _ (World.drew _)
    refine wpIn_tk (i := 0) (d := some 23) rfl ?_
    refine wpIn_tp (i := 1) (d := some 24) rfl (by (intro wq hq; have q0 := (HC.out wq hq).1; go_simp; first | done | with_reducible rfl)) ?_
    refine wpIn_tk (i := 2) (d := some 25) rfl ?_
    refine wpIn_tk (i := 3) (d := some 26) rfl ?_
    refine wpIn_tp (i := 4) (d := some 27) rfl (by (intro wq hq; have q0 := (HC.out wq hq).2.1; go_simp; first | done | with_reducible rfl)) ?_
    refine wpIn_tk (i := 5) (d := some 28) rfl ?_
    refine wpIn_tk (i := 6) (d := some 29) rfl ?_
    refine wpIn_tp (i := 7) (d := some 30) rfl (by (intro wq hq; have qq := (HC.out wq hq).2.2; have q0 := qq 0 _ rfl; rw [Nat.add_zero] at q0; have q1 := qq 1 _ rfl; have q2 := qq 2 _ rfl; have q3 := qq 3 _ rfl; have q4 := qq 4 _ rfl; clear qq; go_simp; first | done | with_reducible rfl)) ?_
    refine wpIn_do (i := 8) hC0 (by kernel_rfl) rfl (by rfl) ?_
    intro K hK
    refine wp_putM _ _ _ rfl (.agg #[.int .i64 x0, .int .i64 x1, .string x2, .slice p3 n3 c3, .slice p4 n4 c4]) rfl rfl rfl hmapd hok hnew hesl ?_
    intro W2 hm2 hg2
    refine hK _ _ ?_
    clear hK K
    have hg2d : Keep (One M) wr.drew W2 := Keep.of_grown hg2 fun _ _ e => (Option.some.inj e).symm
    have hg2' : Keep (One M) wr W2 := ⟨hg2d.os, hg2d.tape, hg2d.output, hg2d.size, hg2d.block⟩
    have hC1 : ∀ q, q < wr.heap.size → q ≠ M → W2.heap[q]? = wr.heap[q]? := fun q hq hn => hg2'.block q hq hn
    have hE2 : ER O W2 R M ((rP0 j).take m ++ [(u, j.list.getD m J.zero)]) false := ⟨(hg2'.block R (by have := HLT.out; omega) hEr.ne).trans hEr.obj, ⟨_, hm2, RelE.snoc (vJ.carry HVJ.out fun q hq => ⟨hq, hg2'.block q (hEr.low q hq).2.2 (hEr.low q hq).2.1⟩) (hrel.carry fun q hq => ⟨hq, hg2'.block q (hEr.low q hq).2.2 (hEr.low q hq).2.1⟩)⟩, hEr.ne, fun q hq => ⟨(hEr.low q hq).1, (hEr.low q hq).2.1, Nat.lt_of_lt_of_le (hEr.low q hq).2.2 hg2'.size⟩⟩
    refine wpIn_done hC1 (by kernel_rfl) ?_ _
    go_wp2
    go_roundw
    case rel => exact ⟨m + 1, by go_num, hml, by rw [HTK.out]; exact hE2, hkr.then hg2'⟩
    case measure => simp [intOf]; omega
  · obtain rfl : m = nk := by omega
    have hTA : (rP0 j).take m = rP0 j := List.take_of_length_le (by unfold rP0; rw [List.length_zip, ← HNK.out]; omega)
    rw [hTA] at hEr hrel
    clear hTA
    obtain ⟨⟨kz, iz, tz, pz, nz, cz, pz2, nz2, cz2, hvz, _⟩, hsome⟩ := hrel.look nKey
    have hsm : (lookE es ⟨#[107, 101, 121]⟩).isSome = true := hsome.trans HST.out
    clear hsome
    have hEA := hEr.below ((Below.refl _ _).alloc (Nat.le_refl _) (.cells #[.int .i64 kz, .int .i64 iz, .string tz, .slice pz nz cz, .slice pz2 nz2 cz2] 25))
    have D0 := C0.out _ hEA
    have hkw0 : Keep (Two R M) WB (wr.alloc (.cells #[.int .i64 kz, .int .i64 iz, .string tz, .slice pz nz cz, .slice pz2 nz2 cz2] 25)) := (hkr.mono fun q _ e => .inr e).alloc _
    have HW0 : Hid (Keep (Two R M) WB (wr.alloc (.cells #[.int .i64 kz, .int .i64 iz, .string tz, .slice pz nz cz, .slice pz2 nz2 cz2] 25))) := hkw0
    clear hkw0
    go_wp2_with (first
     | (go_at_call 71; have _g := D10; refine D10.mono ?_; rintro x w11 ⟨rfl, hE11, hk10⟩
        have hev11 := (hk10.block w10.heap.size (by simp) (by unfold Two; have := HW10.out.size; omega)).trans hev
        have HW11 : Hid (Keep (Two R M) WB w11) := (HW10.out.alloc _).then hk10
        clear D10
        have K4 : Keep (One w10.heap.size) w11 (w11.setCell ⟨w10.heap.size, 4, none⟩ (.string (rG10 j).text)) := Keep.setCell (Keep.refl _ _) (fun _ => (rfl : w10.heap.size = w10.heap.size)) _
        have hev12 : (w11.setCell ⟨w10.heap.size, 4, none⟩ (.string (rG10 j).text)).heap[w10.heap.size]? = some (.cells #[.string (rG0 j).text, .string (rG1 j).text, .string (rG2 j).text, .bool true, .string (rG10 j).text, .int .i64 kC, .int .i64 iC, .string tC, .slice pkC nkC ckC, .slice plC nlC clC, .slice q4 (rG4 j).list.length c4, .slice q5 (rG5 j).list.length c5, .int .i64 (rG6 j).int, .int .i64 (rG7 j).int, .string (rG8 j).text, .slice q9 (sigsOf (rG9 j)).length c9] 28 (0, 0)) := by rw [heap_setCell_same _ w10.heap.size 4 _ _ _ hev11]; rfl
        have g4 := six_c hev11 4 _ rfl
        have gf4 := six_fz hev11 4
        have hEV := hE11.keep K4 (by unfold One; have := HW10.out.size; omega) (by unfold One; have := HW10.out.size; omega) (fun q hq => by unfold One; have := (hE11.low q hq).2.2; have := (hE10.low q hq).2.2; omega)
        have e1 := hEV.c1
        rw [HBAD.out] at e1
        have e0 := hEV.c0
        obtain ⟨es9, hmap9, hrel9⟩ := hEV.map
        obtain ⟨n9, hn9⟩ : ∃ n, es9.length = n := ⟨_, rfl⟩
        have hlen := hmap9.len
        simp only [hn9] at hlen
        have HN9 : Hid (es9.length = n9) := hn9
        clear hn9
        have hrs9 := (K4.block (w.heap.size + 1) (by have := HW11.out.size; omega) (by unfold One; have := HW10.out.size; omega)).trans ((HW11.out.block (w.heap.size + 1) (by omega) (by unfold Two; omega)).trans hrs)
        have l0 := six_c hev12 0 _ rfl; have l1 := six_c hev12 1 _ rfl; have l2 := six_c hev12 2 _ rfl; have l3 := six_c hev12 3 _ rfl; have l4 := six_c hev12 4 _ rfl; have l5 := six_c hev12 5 _ rfl; have l6 := six_c hev12 6 _ rfl; have l7 := six_c hev12 7 _ rfl; have l8 := six_c hev12 8 _ rfl; have l9 := six_c hev12 9 _ rfl; have l10 := six_c hev12 10 _ rfl; have l11 := six_c hev12 11 _ rfl; have l12 := six_c hev12 12 _ rfl; have l13 := six_c hev12 13 _ rfl; have l14 := six_c hev12 14 _ rfl; have l15 := six_c hev12 15 _ rfl
        have i0 := six_c hrs9 0 _ rfl; have i1 := six_c hrs9 1 _ rfl; have i2 := six_c hrs9 2 _ rfl; have i3 := six_c hrs9 3 _ rfl; have i4 := six_c hrs9 4 _ rfl; have i5 := six_c hrs9 5 _ rfl; have i6 := six_c hrs9 6 _ rfl; have i7 := six_c hrs9 7 _ rfl; have i8 := six_c hrs9 8 _ rfl; have i9 := six_c hrs9 9 _ rfl; have i10 := six_c hrs9 10 _ rfl; have i11 := six_c hrs9 11 _ rfl; have i12 := six_c hrs9 12 _ rfl; have i13 := six_c hrs9 13 _ rfl; have i14 := six_c hrs9 14 _ rfl; have i15 := six_c hrs9 15 _ rfl
        have z0 := six_fz hrs9 0; have z1 := six_fz hrs9 1; have z2 := six_fz hrs9 2; have z3 := six_fz hrs9 3; have z4 := six_fz hrs9 4; have z5 := six_fz hrs9 5; have z6 := six_fz hrs9 6; have z7 := six_fz hrs9 7; have z8 := six_fz hrs9 8; have z9 := six_fz hrs9 9; have z10 := six_fz hrs9 10; have z11 := six_fz hrs9 11; have z12 := six_fz hrs9 12; have z13 := six_fz hrs9 13; have z14 := six_fz hrs9 14; have z15 := six_fz hrs9 15)
     | (go_at_call 75; have _g := D9; refine D9.mono ?_; rintro x w10 ⟨⟨q9, c9, rfl, hq9⟩, hE10, hk9⟩
        have HW10 : Hid (Keep (Two R M) WB w10) := HW9.out.then hk9
        clear D9
        have hEV := hE10.below ((Below.refl _ _).alloc (Nat.le_refl _) (.cells #[.string (rG0 j).text, .string (rG1 j).text, .string (rG2 j).text, .bool true, .string ⟨#[]⟩, .int .i64 kC, .int .i64 iC, .string tC, .slice pkC nkC ckC, .slice plC nlC clC, .slice q4 (rG4 j).list.length c4, .slice q5 (rG5 j).list.length c5, .int .i64 (rG6 j).int, .int .i64 (rG7 j).int, .string (rG8 j).text, .slice q9 (sigsOf (rG9 j)).length c9] 28))
        have D10 := C10.out _ hEV
        have hev := heap_alloc_new w10 (.cells #[.string (rG0 j).text, .string (rG1 j).text, .string (rG2 j).text, .bool true, .string ⟨#[]⟩, .int .i64 kC, .int .i64 iC, .string tC, .slice pkC nkC ckC, .slice plC nlC clC, .slice q4 (rG4 j).list.length c4, .slice q5 (rG5 j).list.length c5, .int .i64 (rG6 j).int, .int .i64 (rG7 j).int, .string (rG8 j).text, .slice q9 (sigsOf (rG9 j)).length c9] 28))
     | (go_at_call 71; have _g := D8; refine D8.mono ?_; rintro x w9 ⟨rfl, hE9, hk8⟩
        have HW9 : Hid (Keep (Two R M) WB w9) := HW8.out.then hk8
        clear D8
        have D9 := C9.out w9 hE9)
     | (go_at_call 74; have _g := D7; refine D7.mono ?_; rintro x w8 ⟨rfl, hE8, hk7⟩
        have HW8 : Hid (Keep (Two R M) WB w8) := HW7.out.then hk7
        clear D7
        have D8 := C8.out w8 hE8)
     | (go_at_call 74; have _g := D6; refine D6.mono ?_; rintro x w7 ⟨rfl, hE7, hk6⟩
        have HW7 : Hid (Keep (Two R M) WB w7) := HW6.out.then hk6
        clear D6
        have D7 := C7.out w7 hE7)
     | (go_at_call 73; have _g := D5; refine D5.mono ?_; rintro x w6 ⟨⟨q5, c5, rfl, hq5⟩, hE6, hk5⟩
        have HW6 : Hid (Keep (Two R M) WB w6) := HW5.out.then hk5
        clear D5
        have D6 := C6.out w6 hE6)
     | (go_at_call 73; have _g := D4; refine D4.mono ?_; rintro x w5 ⟨⟨q4, c4, rfl, hq4⟩, hE5, hk4⟩
        have HW5 : Hid (Keep (Two R M) WB w5) := HW4.out.then hk4
        clear D4
        have D5 := C5.out w5 hE5)
     | (go_at_call 72; have _g := D3; refine D3.mono ?_; rintro x w4 ⟨⟨kC, iC, tC, pkC, nkC, ckC, plC, nlC, clC, rfl, hjC⟩, hE4, hk3⟩
        have HW4 : Hid (Keep (Two R M) WB w4) := HW3.out.then hk3
        clear D3
        have D4 := C4.out w4 hE4)
     | (go_at_call 71; have _g := D2; refine D2.mono ?_; rintro x w3 ⟨rfl, hE3, hk2⟩
        have HW3 : Hid (Keep (Two R M) WB w3) := HW2.out.then hk2
        clear D2
        have D3 := C3.out w3 hE3)
     | (go_at_call 71; have _g := D1; refine D1.mono ?_; rintro x w2 ⟨rfl, hE2, hk1⟩
        have HW2 : Hid (Keep (Two R M) WB w2) := HW1.out.then hk1
        clear D1
        have D2 := C2.out w2 hE2)
     | (go_at_call 71; have _g := D0; refine D0.mono ?_; rintro x w1 ⟨rfl, hE1, hk0⟩
        have HW1 : Hid (Keep (Two R M) WB w1) := HW0.out.then hk0
        clear D0
        have D1 := C1.out w1 hE1)
     | (at_lookup; refine wpList_lookOk rfl _ _ rfl rfl rfl hmap (ok_of (s := ⟨#[107, 101, 121]⟩) (by decide)) _ hvz ?_; rw [hsm]))
    have h16 := set16_heap hrs9 (.string (rG0 j).text) (.string (rG1 j).text) (.string (rG2 j).text) (.bool true) (.string (rG10 j).text) (.int .i64 kC) (.int .i64 iC) (.string tC) (.slice pkC nkC ckC) (.slice plC nlC clC) (.slice q4 (rG4 j).list.length c4) (.slice q5 (rG5 j).list.length c5) (.int .i64 (rG6 j).int) (.int .i64 (rG7 j).int) (.string (rG8 j).text) (.slice q9 (sigsOf (rG9 j)).length c9)
    have HK16 : Keep (One (w.heap.size + 1)) _ _ := set16_keep (w11.setCell ⟨w10.heap.size, 4, none⟩ (.string (rG10 j).text)) (w.heap.size + 1) (.string (rG0 j).text) (.string (rG1 j).text) (.string (rG2 j).text) (.bool true) (.string (rG10 j).text) (.int .i64 kC) (.int .i64 iC) (.string tC) (.slice pkC nkC ckC) (.slice plC nlC clC) (.slice q4 (rG4 j).list.length c4) (.slice q5 (rG5 j).list.length c5) (.int .i64 (rG6 j).int) (.int .i64 (rG7 j).int) (.string (rG8 j).text) (.slice q9 (sigsOf (rG9 j)).length c9)
    obtain ⟨WE, hWE⟩ : ∃ WE, WE = set16 (w11.setCell ⟨w10.heap.size, 4, none⟩ (.string (rG10 j).text)) (w.heap.size + 1) (.string (rG0 j).text) (.string (rG1 j).text) (.string (rG2 j).text) (.bool true) (.string (rG10 j).text) (.int .i64 kC) (.int .i64 iC) (.string tC) (.slice pkC nkC ckC) (.slice plC nlC clC) (.slice q4 (rG4 j).list.length c4) (.slice q5 (rG5 j).list.length c5) (.int .i64 (rG6 j).int) (.int .i64 (rG7 j).int) (.string (rG8 j).text) (.slice q9 (sigsOf (rG9 j)).length c9) := ⟨_, rfl⟩
    rw [← hWE] at h16 HK16
    unfold set16 at hWE
    rw [← hWE]
    clear hWE
    have k0 := six_c h16 0 _ rfl; have k1 := six_c h16 1 _ rfl; have k2 := six_c h16 2 _ rfl; have k3 := six_c h16 3 _ rfl; have k4 := six_c h16 4 _ rfl; have k5 := six_c h16 5 _ rfl; have k6 := six_c h16 6 _ rfl; have k7 := six_c h16 7 _ rfl; have k8 := six_c h16 8 _ rfl; have k9 := six_c h16 9 _ rfl; have k10 := six_c h16 10 _ rfl; have k11 := six_c h16 11 _ rfl; have k12 := six_c h16 12 _ rfl; have k13 := six_c h16 13 _ rfl; have k14 := six_c h16 14 _ rfl; have k15 := six_c h16 15 _ rfl
    refine bodyPost_ret (v := .tuple #[.agg #[.string (rG0 j).text, .string (rG1 j).text, .string (rG2 j).text, .bool true, .string (rG10 j).text, .int .i64 kC, .int .i64 iC, .string tC, .slice pkC nkC ckC, .slice plC nlC clC, .slice q4 (rG4 j).list.length c4, .slice q5 (rG5 j).list.length c5, .int .i64 (rG6 j).int, .int .i64 (rG7 j).int, .string (rG8 j).text, .slice q9 (sigsOf (rG9 j)).length c9], .bool (((n9 : Int) == 0))]) (by simp [results, Tryz.results34, go_sem, k0, k1, k2, k3, k4, k5, k6, k7, k8, k9, k10, k11, k12, k13, k14, k15]) rfl ?_
    have hW10 := HW10.out
    have hsz10 := hW10.size
    have hF10 : Keep (fun q => q = R ∨ q = M ∨ q = w.heap.size + 1 ∨ w10.heap.size ≤ q) w10 WE := (((((Keep.refl (fun q => q = R ∨ q = M ∨ q = w.heap.size + 1 ∨ w10.heap.size ≤ q) w10).alloc (.cells #[.string (rG0 j).text, .string (rG1 j).text, .string (rG2 j).text, .bool true, .string ⟨#[]⟩, .int .i64 kC, .int .i64 iC, .string tC, .slice pkC nkC ckC, .slice plC nlC clC, .slice q4 (rG4 j).list.length c4, .slice q5 (rG5 j).list.length c5, .int .i64 (rG6 j).int, .int .i64 (rG7 j).int, .string (rG8 j).text, .slice q9 (sigsOf (rG9 j)).length c9] 28))).then (hk10.mono fun q _ e => e.elim .inl fun e => .inr (.inl e))).then (K4.mono fun q _ e => .inr (.inr (.inr (by unfold One at e; omega))))).then (HK16.mono fun q _ e => .inr (.inr (.inl e)))
    have hsF := hF10.size
    have cN : ∀ q, WB.heap.size ≤ q → q < w10.heap.size → (O q ∨ New w WE q) ∧ WE.heap[q]? = w10.heap[q]? := fun q h1 h2 => ⟨.inr ⟨by omega, Nat.lt_of_lt_of_le h2 hsF⟩, hF10.block q h2 (fun e => by rcases e with e | e | e | e <;> omega)⟩
    have cO : ∀ q, O q → (O q ∨ New w WE q) ∧ WE.heap[q]? = w4.heap[q]? := fun q hq => ⟨.inl hq, by
     have h0 := hO q hq
     have h1 := HW4.out.block q (by omega) (by unfold Two; omega)
     have h2 := hW10.block q (by omega) (by unfold Two; omega)
     have h3 := hF10.block q (by omega) (fun e => by rcases e with e | e | e | e <;> omega)
     exact h3.trans (h2.trans h1.symm)⟩
    have t4 : Keep (Two R M) w5 w10 := hk5.then (hk6.then (hk7.then (hk8.then hk9)))
    have t5 : Keep (Two R M) w6 w10 := hk6.then (hk7.then (hk8.then hk9))
    have s4 := HW4.out.size
    have s5 := HW5.out.size
    have s9 := HW9.out.size
    refine ⟨⟨⟨pkC, ckC, plC, clC, q4, c4, q5, c5, q9, c9⟩, ?_, ?_⟩, ?_⟩
    · have f := isJ_at hjC
      have hlen9 : n9 = (rP11 j).length := by have := congrArg List.length hrel9.keys; rw [List.length_map, List.length_map] at this; exact HN9.out.symm.trans this
      unfold readOk
      rw [HST.out, HBAD.out]
      simp only [valE, cellsE, readE, HST.out, f.1, f.2.1, f.2.2.1, ← f.2.2.2.1, ← f.2.2.2.2.1, List.length_map]
      rw [← hlen9]
      have hz : ((n9 : Int) == 0) = decide (n9 = 0) := by rw [Bool.eq_iff_iff]; simp
      rw [hz]
      rfl
    · refine ⟨?_, ?_, ?_, ?_⟩
      · have f := isJ_at hjC
        have e : five (readE j).content ⟨pkC, ckC, plC, clC, q4, c4, q5, c5, q9, c9⟩ = [.int .i64 kC, .int .i64 iC, .string tC, .slice pkC nkC ckC, .slice plC nlC clC] := by
         simp only [five, readE, f.1, f.2.1, f.2.2.1, ← f.2.2.2.1, ← f.2.2.2.2.1]
        rw [e]
        exact hjC.carry cO
      · exact hq4.carry fun q hq => ⟨(cN q (by have := hq.1; omega) (Nat.lt_of_lt_of_le hq.2 t4.size)).1, (cN q (by have := hq.1; omega) (Nat.lt_of_lt_of_le hq.2 t4.size)).2.trans (t4.block q hq.2 (by unfold Two; have := hq.1; omega))⟩
      · exact hq5.carry fun q hq => ⟨(cN q (by have := hq.1; omega) (Nat.lt_of_lt_of_le hq.2 t5.size)).1, (cN q (by have := hq.1; omega) (Nat.lt_of_lt_of_le hq.2 t5.size)).2.trans (t5.block q hq.2 (by unfold Two; have := hq.1; omega))⟩
      · exact hq9.carry fun q hq => cN q (by have := hq.1; omega) hq.2
    · refine HBW.out.trans ⟨hF10.os.trans hW10.os, hF10.tape.trans hW10.tape, hF10.output.trans hW10.output, Nat.le_trans hW10.size hsF, fun q hq => ?_⟩
      have h2 := hW10.block q (by omega) (by unfold Two; omega)
      exact (hF10.block q (by omega) (fun e => by rcases e with e | e | e | e <;> omega)).trans h2
end Go.Proofs.YtegcgbjjpgjnmaaGreatDoor
namespace Go.Proofs.YtegcgbjjpgjnmaaGreatDoor
open Go.RowKit
theorem map_good {d : Nat} {ks : List ByteArray} {l : List J} (hlen : ks.length = l.length) (hlet : ks.all letters = true) (hp : ks.Pairwise (· ≠ ·)) (hl : l.all (goodJ d) = true) : goodJ (d + 1) (mapOf ks l) = true := by
 have pk := sorted_keys hlen
 have pv := sorted_vals hlen
 unfold mapOf
 rw [goodJ]
 have e1 : ((sortK (ks.zip l)).map (·.1)).all letters = true := by
  rw [List.all_eq_true] at hlet ⊢
  exact fun x hx => hlet x (pk.mem_iff.1 hx)
 have e2 : noKeyTwice ((sortK (ks.zip l)).map (·.1)) = true := pair_noTwice (pk.symm.pairwise hp fun {_ _} h => h.symm)
 have e3 : ((sortK (ks.zip l)).map (·.2)).all (goodJ d) = true := by
  rw [List.all_eq_true] at hl ⊢
  exact fun x hx => hl x (pv.mem_iff.1 hx)
 rw [e1, e2, e3]
 simp [bare, nix, ByteArray.size]
theorem map_inOrd {ks : List ByteArray} {l : List J} (hlen : ks.length = l.length) (hp : ks.Pairwise (· ≠ ·)) (hl : ∀ x ∈ l, inOrd x = true) : inOrd (mapOf ks l) = true := by
 have pv := sorted_vals hlen
 unfold mapOf
 rw [inOrd, Bool.and_eq_true, inOrdL_all]
 refine ⟨sortK_rises' _ ?_, fun x hx => hl x (pv.mem_iff.1 hx)⟩
 have : ((ks.zip l).map (·.1)).Pairwise (· ≠ ·) := by rw [List.map_fst_zip (by omega)]; exact hp
 exact List.pairwise_map.1 this
theorem map_sz {d : Nat} {ks : List ByteArray} {l : List J} (hlen : ks.length = l.length) (hks : ks.all (fun k => decide (k.size ≤ 1000000000)) = true) (hl : l.all (szJ d) = true) (hn : l.length ≤ 100000) : szJ (d + 1) (mapOf ks l) = true := by
 have pk := sorted_keys hlen
 have pv := sorted_vals hlen
 unfold mapOf szJ
 have e1 : ((sortK (ks.zip l)).map (·.1)).all (fun k => decide (k.size ≤ 1000000000)) = true := by
  rw [List.all_eq_true] at hks ⊢
  exact fun x hx => hks x (pk.mem_iff.1 hx)
 have e3 : ((sortK (ks.zip l)).map (·.2)).all (szJ d) = true := by
  rw [List.all_eq_true] at hl ⊢
  exact fun x hx => hl x (pv.mem_iff.1 hx)
 rw [e1, e3, pk.length_eq, pv.length_eq, decide_eq_true hn, decide_eq_true (by omega : ks.length ≤ 100000)]
 rfl
def Fit (d : Nat) (j : J) : Prop := goodJ d j = true ∧ inOrd j = true ∧ szJ d j = true
theorem Fit.list {d : Nat} {l : List J} (h : ∀ x ∈ l, Fit d x) (hn : l.length ≤ 100000) : Fit (d + 1) (.mk 4 0 nix [] l) := by
 refine ⟨?_, ?_, ?_⟩
 · rw [goodJ]
   have : l.all (goodJ d) = true := List.all_eq_true.2 fun x hx => (h x hx).1
   rw [this]
   simp [bare, nix, ByteArray.size]
 · rw [inOrd, Bool.and_eq_true, inOrdL_all]
   exact ⟨rfl, fun x hx => (h x hx).2.1⟩
 · unfold szJ
   have : l.all (szJ d) = true := List.all_eq_true.2 fun x hx => (h x hx).2.2
   rw [this, decide_eq_true hn]
   rfl
theorem Fit.map {d : Nat} {ks : List ByteArray} {l : List J} (hlen : ks.length = l.length) (hk : ∀ k ∈ ks, letters k = true ∧ k.size ≤ 1000000000) (hp : ks.Pairwise (· ≠ ·)) (h : ∀ x ∈ l, Fit d x) (hn : l.length ≤ 100000) : Fit (d + 1) (mapOf ks l) :=
 ⟨map_good hlen (List.all_eq_true.2 fun k hk' => (hk k hk').1) hp (List.all_eq_true.2 fun x hx => (h x hx).1), map_inOrd hlen hp fun x hx => (h x hx).2.1,
  map_sz hlen (List.all_eq_true.2 fun k hk' => decide_eq_true (hk k hk').2) (List.all_eq_true.2 fun x hx => (h x hx).2.2) hn⟩
theorem list_fit {t : List Int} {d : Nat} {f : Nat → Res J} (hf : ∀ p j q, Fair t p → f p = .ok j q → Fit d j ∧ Fair t q) :
    ∀ (m p : Nat) (acc : List J) (j : J) (q : Nat), Fair t p → (∀ x ∈ acc, Fit d x) → acc.length + m ≤ 100000 → listL t f m p acc = .ok j q → Fit (d + 1) j ∧ Fair t q
 | 0, _, _, _, _, _, _, _, h => by unfold listL at h; cases h
 | m + 1, p, acc, j, q, hp, ha, hn, h => by
  rw [listL_succ] at h
  cases hv : f (blanks t p) with
  | bad e a => rw [hv] at h; cases h
  | ok v r =>
   rw [hv] at h
   obtain ⟨hF, hr⟩ := hf _ v r hp.blanks hv
   have hr' := hr.blanks
   have ha' : ∀ x ∈ acc ++ [v], Fit d x := fun x hx => by
    rcases List.mem_append.1 hx with hx | hx
    · exact ha x hx
    · rw [List.mem_singleton.1 hx]; exact hF
   simp only [Res.bind] at h
   split at h
   · rename_i h93
     cases h
     exact ⟨Fit.list ha' (by simp; omega), hr'.one (by omega)⟩
   · split at h
     · exact list_fit hf m _ (acc ++ [v]) j q (hr'.one (by omega)) ha' (by simp; omega) h
     · cases h
theorem key_fit {t : List Int} (ht : Bytes t) (htl : t.length ≤ 20000) {ks : List ByteArray} {p q : Nat} {k : ByteArray} (hp : Fair t p) (h : keyAt t ks p = .ok k q) : letters k = true ∧ k.size ≤ 1000000000 ∧ (∀ x ∈ ks, x ≠ k) ∧ Fair t q := by
 unfold keyAt at h
 split at h
 · rename_i hb
   cases hq : quoted t p with
   | bad e a => rw [hq] at h; cases h
   | ok s r =>
    rw [hq] at h
    obtain ⟨h1, h2, h3⟩ := quoted_letters ht hp hb hq
    simp only [Res.bind] at h
    split at h
    · cases h
    · rename_i hany
      cases hm : must t 58 (blanks t r) with
      | bad e a => rw [hm] at h; cases h
      | ok u r2 =>
       rw [hm] at h
       cases h
       refine ⟨h1, by omega, fun x hx hxk => hany ?_, (must_fair h2.blanks (by omega) hm).blanks⟩
       exact List.any_eq_true.2 ⟨x, hx, decide_eq_true (by rw [hxk])⟩
 · cases h
theorem pairs_fit {t : List Int} (ht : Bytes t) (htl : t.length ≤ 20000) {d : Nat} {f : Nat → Res J} (hf : ∀ p j q, Fair t p → f p = .ok j q → Fit d j ∧ Fair t q) :
    ∀ (m p : Nat) (ks : List ByteArray) (acc : List J) (j : J) (q : Nat), Fair t p → ks.length = acc.length → (∀ k ∈ ks, letters k = true ∧ k.size ≤ 1000000000) → ks.Pairwise (· ≠ ·) → (∀ x ∈ acc, Fit d x) → acc.length + m ≤ 100000 → pairsL t f m p ks acc = .ok j q → Fit (d + 1) j ∧ Fair t q
 | 0, _, _, _, _, _, _, _, _, _, _, _, h => by unfold pairsL at h; cases h
 | m + 1, p, ks, acc, j, q, hp, hlen, hk, hd, ha, hn, h => by
  rw [pairsL_succ] at h
  cases hkey : keyAt t ks (blanks t p) with
  | bad e a => rw [hkey] at h; cases h
  | ok k r0 =>
   rw [hkey] at h
   obtain ⟨k1, k2, k3, k4⟩ := key_fit ht htl hp.blanks hkey
   simp only [Res.bind] at h
   cases hv : f r0 with
   | bad e a => rw [hv] at h; cases h
   | ok v r =>
    rw [hv] at h
    obtain ⟨hF, hr⟩ := hf _ v r k4 hv
    have hr' := hr.blanks
    have ha' : ∀ x ∈ acc ++ [v], Fit d x := fun x hx => by
     rcases List.mem_append.1 hx with hx | hx
     · exact ha x hx
     · rw [List.mem_singleton.1 hx]; exact hF
    have hk' : ∀ x ∈ ks ++ [k], letters x = true ∧ x.size ≤ 1000000000 := fun x hx => by
     rcases List.mem_append.1 hx with hx | hx
     · exact hk x hx
     · rw [List.mem_singleton.1 hx]; exact ⟨k1, k2⟩
    have hd' : (ks ++ [k]).Pairwise (· ≠ ·) := by
     rw [List.pairwise_append]
     exact ⟨hd, List.pairwise_singleton _ _, fun x hx y hy => by rw [List.mem_singleton.1 hy]; exact k3 x hx⟩
    have hlen' : (ks ++ [k]).length = (acc ++ [v]).length := by simp; exact hlen
    simp only at h
    split at h
    · cases h
      exact ⟨Fit.map hlen' hk' hd' ha' (by simp; omega), hr'.one (by omega)⟩
    · split at h
      · exact pairs_fit ht htl hf m _ (ks ++ [k]) (acc ++ [v]) j q (hr'.one (by omega)) hlen' hk' hd' ha' (by simp; omega) h
      · cases h
theorem sz_flat (d : Nat) (k i : Int) : szJ (d + 1) (.mk k i nix [] []) = true := by
 unfold szJ
 rw [decide_eq_true (show nix.size ≤ 1000000000 by decide)]
 rfl
theorem digs_ge : ∀ (l : List Int) (n : Int), 0 ≤ n → (∀ c ∈ l, isDig c = true) → 0 ≤ l.foldl (fun n c => if n ≤ maxInt then n * 10 + (c - 48) else n) n
 | [], n, h, _ => h
 | c :: l, n, h, hl => by
  rw [List.foldl_cons]
  refine digs_ge l _ ?_ fun x hx => hl x (List.mem_cons_of_mem _ hx)
  have := hl c (List.mem_cons_self ..)
  unfold isDig at this
  simp only [Bool.and_eq_true, decide_eq_true_eq] at this
  split
  · omega
  · exact h
theorem number_fit {t : List Int} {p q : Nat} {j : J} (d : Nat) (hp : Fair t p) (h : number t p = .ok j q) : Fit (d + 1) j ∧ Fair t q := by
 unfold number at h
 have hs : Fair t (if byteAt t p = 45 then p + 1 else p) := by
  split
  · exact hp.one (by omega)
  · exact hp
 generalize hsd : (if byteAt t p = 45 then p + 1 else p) = s at h hs
 split at h
 · rename_i hdig
   simp only at h
   split at h
   · cases h
   · rename_i hno
     cases h
     have hge : 0 ≤ (digits t s).1 := by
      unfold digits
      split
      · exact Int.le_refl _
      · refine digs_ge _ 0 (Int.le_refl _) fun c hc => ?_
        exact List.all_eq_true.1 List.all_takeWhile c hc
     have hfa : Fair t (digits t s).2 := by
      unfold digits
      split
      · exact hs.one (by omega)
      · exact hs.digs
     have hm : -maxInt ≤ (if byteAt t p = 45 then -(digits t s).1 else (digits t s).1) ∧ (if byteAt t p = 45 then -(digits t s).1 else (digits t s).1) ≤ maxInt := by
      unfold maxInt at hno ⊢
      split <;> omega
     refine ⟨⟨?_, rfl, sz_flat d _ _⟩, hfa⟩
     generalize (if byteAt t p = 45 then -(digits t s).1 else (digits t s).1) = n at hm
     rw [goodJ, if_neg (by decide), if_neg (by decide), if_pos rfl, decide_eq_true hm.1, decide_eq_true hm.2]
     simp [bare, nix, ByteArray.size]
 · cases h
theorem flat_fit (d : Nat) (k i : Int) (h : k = 0 ∧ i = 0 ∨ k = 1 ∧ (i = 0 ∨ i = 1)) : Fit (d + 1) (.mk k i nix [] []) := by
 refine ⟨?_, rfl, sz_flat d k i⟩
 rw [goodJ]
 rcases h with ⟨rfl, rfl⟩ | ⟨rfl, rfl | rfl⟩ <;> simp [bare, nix, ByteArray.size]
theorem value_fit {t : List Int} (ht : Bytes t) (htl : t.length ≤ 20000) : ∀ (d p : Nat) (j : J) (q : Nat), Fair t p → value t d p = .ok j q → Fit d j ∧ Fair t q
 | 0, p, j, q, _, h => by
  unfold value at h
  split at h <;> cases h
 | d + 1, p, j, q, hp, h => by
  have hf := fun p' j' q' => value_fit ht htl d p' j' q'
  unfold value at h
  split at h
  · split at h
    · cases hw : word t [110, 117, 108, 108] p with
      | bad e a => rw [hw] at h; cases h
      | ok u r => rw [hw] at h; cases h; exact ⟨flat_fit d 0 0 (.inl ⟨rfl, rfl⟩), word_fair _ _ _ u hp (by intro c hc; simp at hc; omega) hw⟩
    split at h
    · cases hw : word t [116, 114, 117, 101] p with
      | bad e a => rw [hw] at h; cases h
      | ok u r => rw [hw] at h; cases h; exact ⟨flat_fit d 1 1 (.inr ⟨rfl, .inr rfl⟩), word_fair _ _ _ u hp (by intro c hc; simp at hc; omega) hw⟩
    split at h
    · cases hw : word t [102, 97, 108, 115, 101] p with
      | bad e a => rw [hw] at h; cases h
      | ok u r => rw [hw] at h; cases h; exact ⟨flat_fit d 1 0 (.inr ⟨rfl, .inl rfl⟩), word_fair _ _ _ u hp (by intro c hc; simp at hc; omega) hw⟩
    split at h
    · rename_i hb
      cases hq : quoted t p with
      | bad e a => rw [hq] at h; cases h
      | ok s r =>
       rw [hq] at h
       cases h
       obtain ⟨h1, h2, h3⟩ := quoted_letters ht hp hb hq
       refine ⟨⟨?_, rfl, ?_⟩, h2⟩
       · rw [goodJ, if_neg (by decide), if_neg (by decide), if_neg (by decide), if_pos rfl, h1]
         simp [bare]
       · unfold szJ
         rw [decide_eq_true (by omega : (strOfNums s).size ≤ 1000000000)]
         rfl
    split at h
    · unfold listAt at h
      have h1 : Fair t (blanks t (p + 1)) := (hp.one (by omega)).blanks
      split at h
      · cases h
        exact ⟨Fit.list (by simp) (by simp), h1.one (by omega)⟩
      · exact list_fit hf _ _ [] j q h1 (by simp) (by simp; omega) h
    split at h
    · unfold pairsAt at h
      have h1 : Fair t (blanks t (p + 1)) := (hp.one (by omega)).blanks
      split at h
      · cases h
        have := Fit.map (d := d) (ks := []) (l := []) rfl (by simp) List.Pairwise.nil (by simp) (by simp)
        exact ⟨this, h1.one (by omega)⟩
      · exact pairs_fit ht htl hf _ _ [] [] j q h1 rfl (by simp) List.Pairwise.nil (by simp) (by simp; omega) h
    · exact number_fit d hp h
  · cases h
theorem decode_fit {t : List Int} (ht : Bytes t) {j : J} {q : Nat} (h : decode t = .ok j q) : Fit 12 j := by
 unfold decode at h
 split at h
 · cases h
 · rename_i hlen
   split at h
   · cases h
   · rename_i hs
     unfold whole at h
     cases hv : value t 12 (blanks t 0) with
     | bad e a => rw [hv] at h; cases h
     | ok v r =>
      rw [hv] at h
      simp only [Res.bind] at h
      split at h
      · cases h
      · cases h
        exact (value_fit ht (by omega) 12 _ _ _ (fair_of_stray hs).blanks hv).1
end Go.Proofs.YtegcgbjjpgjnmaaGreatDoor

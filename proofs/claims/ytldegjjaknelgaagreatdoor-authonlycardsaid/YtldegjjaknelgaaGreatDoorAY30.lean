/-
  The examples hold: by a contract.
  A verdict hangs on what is wanted alone: the law, walked.
-/
import Derived.Test.YtldegjjaknelgaaGreatDoorAY29
set_option maxRecDepth 100000
set_option maxHeartbeats 64000000
namespace Go.Proofs.YtldegjjaknelgaaGreatDoor
open Go.RowKit
theorem isE_st {w w' : World} {kind key sender kk s : ByteArray} {pk pl : Option Addr} {ck cl : Nat} {e : Ev} (he : e = stE kind key sender (oneJ kk s)) (h : isJ (· < w.heap.size) w (oneJ kk s) [.int .i64 5, .int .i64 0, .string nix, .slice pk 1 ck, .slice pl 1 cl]) (hb : Below w.heap.size w w') : IsE (· < w'.heap.size) w' e ⟨pk, ck, pl, cl, none, 0, none, 0, none, 0⟩ := by
 subst he
 exact ⟨h.carry fun k hk => ⟨Nat.lt_of_lt_of_le hk hb.size, hb.block k hk⟩, RdK.nil _ _, RdK.nil _ _, RdS.nil _ _ _ _⟩
theorem ev_new {w : World} {e : Ev} {p : Pt} (z : Array Value) (h : IsE (· < w.heap.size) w e p) : Below w.heap.size w ((w.alloc (.cells z 28)).setRow w.heap.size (cellsE e p).toArray) ∧ IsV ((w.alloc (.cells z 28)).setRow w.heap.size (cellsE e p).toArray) w.heap.size e p := by
 have hb : Below w.heap.size w ((w.alloc (.cells z 28)).setRow w.heap.size (cellsE e p).toArray) := ((Below.refl _ _).alloc (Nat.le_refl _) _).trans ((keep_setRow _ w.heap.size _).below (by simp) fun q hq e => by unfold OneP at e; omega)
 exact ⟨hb, isV_new h (fun _ h => h) hb (setRow_heap _ _ _ _ _ _ (newP _))⟩
theorem state11_op (kind key sender kk s : ByteArray) (pk : Option Addr) (ck : Nat) (pl : Option Addr) (cl : Nat) (w : World) : Calls Tryz.prog 29 #[.string kind, .string key, .string sender, .agg #[.int .i64 5, .int .i64 0, .string nix, .slice pk 1 ck, .slice pl 1 cl]] w fun x w' =>
    (∃ L : List Value, x = .returned (.agg L.toArray) ∧ Hid (L = cellsE (stE kind key sender (oneJ kk s)) ⟨pk, ck, pl, cl, none, 0, none, 0, none, 0⟩)) ∧ Below w.heap.size w w' :=
 (state11_any kind key sender kk s pk ck pl cl w).mono fun _ _ h => ⟨⟨_, h.1, rfl⟩, h.2⟩
theorem szE_one {r t s k : ByteArray} {st : Bool} {c : J} {pr : List ByteArray} (h1 : r.size ≤ 100) (h2 : t.size ≤ 100) (h3 : s.size ≤ 100) (h4 : k.size ≤ 100) (h5 : szJ 12 c = true) (h6 : pr.length ≤ 1) (h7 : ∀ x ∈ pr, x.size ≤ 100) : SzE ⟨r, t, s, st, k, c, pr, [], 0, 0, nix, []⟩ :=
 ⟨by show r.size ≤ _; omega, by show t.size ≤ _; omega, by show s.size ≤ _; omega, by show k.size ≤ _; omega, Nat.zero_le _, h5, by show pr.length ≤ _; omega, fun x hx => Nat.le_trans (h7 x hx) (by decide), Nat.zero_le _, (fun x hx => by cases hx), Nat.zero_le _, (fun x hx => by cases hx)⟩
theorem sz_C : SzE exC := szE_one (by decide) (by decide) (by decide) (by decide) (by kernel_rfl) (by decide) (fun x hx => by cases hx)
theorem sz_J : SzE exJ := szE_one (by decide) (by decide) (by decide) (by decide) (by kernel_rfl) (by decide) (fun x hx => by simp at hx; subst hx; decide)
theorem sz_M : SzE exM := szE_one (by decide) (by decide) (by decide) (by decide) (by kernel_rfl) (by decide) (fun x hx => by cases hx)
theorem sz_B : SzE exB := szE_one (by decide) (by decide) (by decide) (by decide) (by kernel_rfl) (by decide) (fun x hx => by cases hx)
theorem szK_of {l : List Kn} (h : l.length ≤ 2) (hc : l.all (fun k => szJ 13 k.2.content && decide (k.2.sender.size ≤ 1000000000)) = true) : SzK l := by
 simp only [List.all_eq_true, Bool.and_eq_true, decide_eq_true_eq] at hc
 exact ⟨by omega, fun k hk => (hc k hk).1, fun k hk => (hc k hk).2⟩
theorem szK_0 : SzK [] := szK_of (by decide) rfl
theorem szK_1 : SzK [(nm1, exC)] := szK_of (by decide) (by kernel_rfl)
theorem szK_2 : SzK [(nm1, exC), (nm2, exJ)] := szK_of (by decide) (by kernel_rfl)
theorem prev_put {W : World} {jb : Nat} {pk pl : Option Addr} {ck cl : Nat} (hX : W.heap[jb]? = some (.cells (cellsE exJ0 ⟨pk, ck, pl, cl, none, 0, none, 0, none, 0⟩).toArray 28 (0, 0))) (hJ : isJ (· < jb) W (oneJ nMemb vJoin) [.int .i64 5, .int .i64 0, .string nix, .slice pk 1 ck, .slice pl 1 cl]) :
    Keep (OneP jb) W ((W.alloc (.cells #[.string nm1] 9)).setCell ⟨jb, 10, none⟩ (.slice (some ⟨W.heap.size, 0, none⟩) 1 1)) ∧ IsV ((W.alloc (.cells #[.string nm1] 9)).setCell ⟨jb, 10, none⟩ (.slice (some ⟨W.heap.size, 0, none⟩) 1 1)) jb exJ ⟨pk, ck, pl, cl, some ⟨W.heap.size, 0, none⟩, 1, none, 0, none, 0⟩ := by
 have hlt := objP_lt hX
 have hk0 : Keep (OneP jb) W (W.alloc (.cells #[.string nm1] 9)) := Keep.of_below ((Below.refl _ _).alloc (Nat.le_refl _) _)
 have hk : Keep (OneP jb) W ((W.alloc (.cells #[.string nm1] 9)).setCell ⟨jb, 10, none⟩ (.slice (some ⟨W.heap.size, 0, none⟩) 1 1)) := Keep.setCell (S := OneP jb) (p := ⟨jb, 10, none⟩) hk0 (fun _ => (rfl : jb = jb)) _
 have hX1 : (W.alloc (.cells #[.string nm1] 9)).heap[jb]? = some (.cells (cellsE exJ0 ⟨pk, ck, pl, cl, none, 0, none, 0, none, 0⟩).toArray 28 (0, 0)) := by rw [Below.heap_alloc _ _ _ hlt]; exact hX
 have hN : (W.alloc (.cells #[.string nm1] 9)).heap[W.heap.size]? = some (.cells #[.string nm1] 9 (0, 0)) := newP _
 have hN2 : ((W.alloc (.cells #[.string nm1] 9)).setCell ⟨jb, 10, none⟩ (.slice (some ⟨W.heap.size, 0, none⟩) 1 1)).heap[W.heap.size]? = some (.cells #[.string nm1] 9 (0, 0)) := by
  rw [← hN]
  exact (Keep.setCell (S := OneP jb) (p := ⟨jb, 10, none⟩) (Keep.refl _ _) (fun _ => (rfl : jb = jb)) _).block W.heap.size (by simp) (by unfold OneP; omega)
 refine ⟨hk, ⟨?_, ⟨hJ.carry fun k hk' => ⟨?_, hk.block k (Nat.lt_trans hk' hlt) (by unfold OneP; omega)⟩, ⟨Nat.le_refl _, fun j hj => ?_⟩, RdK.nil _ _, RdS.nil _ _ _ _⟩⟩⟩
 · rw [heap_setCell_same _ jb 10 _ _ _ hX1]; rfl
 · exact Nat.lt_of_lt_of_le (Nat.lt_trans hk' hlt) hk.size
 · obtain rfl : j = 0 := by simp at hj; omega
   refine ⟨⟨W.heap.size, 0, none⟩, rfl, objP_lt hN2, ?_⟩
   exact cellP hN2 0 _ rfl
theorem rd_one {X : World} {b : Nat} {k : Kn} {q : Pt} (hX : X.heap[b]? = some (.cells (cellsK k q).toArray 41 (0, 0))) (hE : IsE (· < X.heap.size) X k.2 q) : RdE (· < X.heap.size) X (some ⟨b, 0, none⟩) 1 [k] :=
 ⟨Nat.le_refl _, fun j hj => by
  obtain rfl : j = 0 := by simp at hj; omega
  exact ⟨b, 0, q, rfl, objP_lt hX, fun n v hv => by rw [show 0 + 0 * 17 + n = n by omega]; exact cellP hX n v (by simpa using hv), hE⟩⟩
theorem rd_two {X : World} {b c : Nat} {k l : Kn} {q r : Pt} (hc : 2 ≤ c) (h1 : ∀ n v, (cellsK k q)[n]? = some v → X.cell? ⟨b, n, none⟩ = some v) (h2 : ∀ n v, (cellsK l r)[n]? = some v → X.cell? ⟨b, 17 + n, none⟩ = some v) (hE : IsE (· < X.heap.size) X k.2 q) (hF : IsE (· < X.heap.size) X l.2 r) : RdE (· < X.heap.size) X (some ⟨b, 0, none⟩) c [k, l] :=
 ⟨hc, fun j hj => by
  have hb : b < X.heap.size := cell_lt (h1 0 _ rfl)
  have hj2 : j < 2 := hj
  match j, hj2 with
  | 0, _ => exact ⟨b, 0, q, rfl, hb, fun n v hv => by rw [show 0 + 0 * 17 + n = n by omega]; exact h1 n v hv, hE⟩
  | 1, _ => exact ⟨b, 0, r, rfl, hb, fun n v hv => by rw [show 0 + 1 * 17 + n = 17 + n by omega]; exact h2 n v hv, hF⟩⟩
theorem awake11_any (w : World) (hT : Tabs w) : Calls Tryz.prog 13 #[] w fun x w' => x = .returned (.bool true) ∧ Below w.heap.size w w' := by
 go_enter Tryz.func13, Tryz.ntmps13
 go_upto_region 3 with (first
  | (go_at_call 30; refine (text11_any _ _ _).mono ?_; rintro x w1 ⟨⟨pkc, ckc, plc, clc, rfl, hjc⟩, hbtc⟩)
  | (go_at_call 29; refine (state11_op _ _ _ nCreator uA pkc ckc plc clc _).mono ?_; rintro x w2 ⟨⟨Lc, rfl, HLc⟩, hbsc⟩)
  | (refine wpList_store_row rfl 28 _ _ rfl w2.heap.size 28 _ Lc.toArray rfl rfl (newP _) (by rw [HLc.out]; exact infoE) (by rw [HLc.out]; rfl) (by rw [HLc.out]; exact one_E _ _) ?_))
 have hevc := ev_new (e := exC) (p := ⟨pkc, ckc, plc, clc, none, 0, none, 0, none, 0⟩) (cellsE Ev.zero Pt.zero).toArray (isE_st rfl hjc hbsc)
 rw [show cellsE exC ⟨pkc, ckc, plc, clc, none, 0, none, 0, none, 0⟩ = Lc from HLc.out.symm] at hevc
 change Code.wp _ _ _ _ ((w2.alloc (.cells (cellsE Ev.zero Pt.zero).toArray 28)).setRow w2.heap.size Lc.toArray)
 generalize (w2.alloc (.cells (cellsE Ev.zero Pt.zero).toArray 28)).setRow w2.heap.size Lc.toArray = WC at hevc
 have hBc : Below w.heap.size w WC := belowP (Below.refl _ _) (belowP (belowP hbtc hbsc) hevc.1)
 have HVc : Hid (∀ X, Below WC.heap.size WC X → IsV X w2.heap.size exC ⟨pkc, ckc, plc, clc, none, 0, none, 0, none, 0⟩) := fun X hX => hevc.2.below hX
 have HJc : Hid (isJ (· < w2.heap.size) WC (oneJ nCreator uA) [.int .i64 5, .int .i64 0, .string nix, .slice pkc 1 ckc, .slice plc 1 clc]) := hjc.carry fun k hk => ⟨Nat.lt_of_lt_of_le hk hbsc.size, (belowP hbsc hevc.1).block k hk⟩
 have hnc : Below w.heap.size w WC := belowP (belowP hbtc hbsc) hevc.1
 have hzc : w.heap.size ≤ w2.heap.size := Nat.le_trans hbtc.size hbsc.size
 clear hevc hjc hbtc hbsc
 go_upto_region 4 with (first
  | (go_at_call 30; refine (text11_any _ _ _).mono ?_; rintro x w3 ⟨⟨pkj, ckj, plj, clj, rfl, hjj⟩, hbtj⟩)
  | (go_at_call 29; refine (state11_op _ _ _ nMemb vJoin pkj ckj plj clj _).mono ?_; rintro x w4 ⟨⟨Lj, rfl, HLj⟩, hbsj⟩)
  | (refine wpList_store_row rfl 28 _ _ rfl w4.heap.size 28 _ Lj.toArray rfl rfl (newP _) (by rw [HLj.out]; exact infoE) (by rw [HLj.out]; rfl) (by rw [HLj.out]; exact one_E _ _) ?_))
 have hevj := ev_new (e := exJ0) (p := ⟨pkj, ckj, plj, clj, none, 0, none, 0, none, 0⟩) (cellsE Ev.zero Pt.zero).toArray (isE_st rfl hjj hbsj)
 rw [show cellsE exJ0 ⟨pkj, ckj, plj, clj, none, 0, none, 0, none, 0⟩ = Lj from HLj.out.symm] at hevj
 change Code.wp _ _ _ _ ((w4.alloc (.cells (cellsE Ev.zero Pt.zero).toArray 28)).setRow w4.heap.size Lj.toArray)
 generalize (w4.alloc (.cells (cellsE Ev.zero Pt.zero).toArray 28)).setRow w4.heap.size Lj.toArray = WJ at hevj
 have hBj : Below w.heap.size w WJ := belowP (hBc) (belowP (belowP hbtj hbsj) hevj.1)
 have HVj : Hid (∀ X, Below WJ.heap.size WJ X → IsV X w4.heap.size exJ0 ⟨pkj, ckj, plj, clj, none, 0, none, 0, none, 0⟩) := fun X hX => hevj.2.below hX
 have HJj : Hid (isJ (· < w4.heap.size) WJ (oneJ nMemb vJoin) [.int .i64 5, .int .i64 0, .string nix, .slice pkj 1 ckj, .slice plj 1 clj]) := hjj.carry fun k hk => ⟨Nat.lt_of_lt_of_le hk hbsj.size, (belowP hbsj hevj.1).block k hk⟩
 have hnj : Below WC.heap.size WC WJ := belowP (belowP hbtj hbsj) hevj.1
 have hzj : WC.heap.size ≤ w4.heap.size := Nat.le_trans hbtj.size hbsj.size
 clear hevj hjj hbtj hbsj
 have hXA := (Below.heap_alloc WJ (.cells #[.string ⟨#[36, 65, 65, 65, 65, 65, 65, 65, 65, 65, 65, 69]⟩] 9) _ (objP_lt (HVj.out WJ (Below.refl _ _)).blk)).trans (HVj.out WJ (Below.refl _ _)).blk
 have cj : (WJ.alloc (.cells #[.string ⟨#[36, 65, 65, 65, 65, 65, 65, 65, 65, 65, 65, 69]⟩] 9)).cell? ⟨w4.heap.size, 10, none⟩ = some (.slice none 0 0) := cellP hXA 10 _ rfl
 have zj := fzP hXA 10
 clear hXA
 go_upto_region 5 with fail
 have hp4 := prev_put (HVj.out WJ (Below.refl _ _)).blk HJj.out
 change Code.wp _ _ _ _ ((WJ.alloc (.cells #[.string nm1] 9)).setCell ⟨w4.heap.size, 10, none⟩ (.slice (some ⟨WJ.heap.size, 0, none⟩) 1 1))
 generalize (WJ.alloc (.cells #[.string nm1] 9)).setCell ⟨w4.heap.size, 10, none⟩ (.slice (some ⟨WJ.heap.size, 0, none⟩) 1 1) = W4 at hp4
 obtain ⟨hk4, hv4⟩ := hp4
 have hn4 : Below WC.heap.size WC W4 := hnj.trans (hk4.below hnj.size fun k hk e => by unfold OneP at e; omega)
 have hB4 : Below w.heap.size w W4 := belowP hBc hn4
 have HC4 : Hid (∀ X, Below W4.heap.size W4 X → IsV X w2.heap.size exC ⟨pkc, ckc, plc, clc, none, 0, none, 0, none, 0⟩) := fun X hX => HVc.out X (belowP hn4 hX)
 have HJ4 : Hid (∀ X, Below W4.heap.size W4 X → IsV X w4.heap.size exJ ⟨pkj, ckj, plj, clj, some ⟨WJ.heap.size, 0, none⟩, 1, none, 0, none, 0⟩) := fun X hX => hv4.below hX
 have HRC : Hid (W4.rangeAt w2.heap.size 0 Lc) := by
  have := (HC4.out W4 (Below.refl _ _)).rangeE
  rw [← HLc.out] at this
  exact this
 clear HVc HVj HJc HJj hk4 hv4 hn4 hnj hnc hBc hBj hzc hzj cj zj
 go_upto_region 6 with (first
  | (refine wpList_load_mid rfl 28 _ rfl w2.heap.size 0 rfl Lc _ HRC.out Tryz.underlying28 rfl (by rw [HLc.out]; exact infoE) ?_)
  | (refine wpList_buildKo rfl _ _ rfl nm1 exC ⟨pkc, ckc, plc, clc, none, 0, none, 0, none, 0⟩ Lc HLc.out rfl rfl fun Mc HMc => ?_)
  | (refine wpList_rowKo rfl _ rfl (nm1, exC) ⟨pkc, ckc, plc, clc, none, 0, none, 0, none, 0⟩ Mc HMc.out rfl ?_))
 obtain ⟨W5, hW5⟩ : ∃ W5, W5 = W4.alloc (.cells Mc.toArray 41) := ⟨_, rfl⟩
 have hb5 : Below W4.heap.size W4 W5 := by rw [hW5]; exact (Below.refl _ _).alloc (Nat.le_refl _) _
 have hX5 : W5.heap[W4.heap.size]? = some (.cells (cellsK (nm1, exC) ⟨pkc, ckc, plc, clc, none, 0, none, 0, none, 0⟩).toArray 41 (0, 0)) := by rw [hW5, HMc.out]; exact newP _
 have HK5 : Hid (∀ X, Below W5.heap.size W5 X → X.heap[W4.heap.size]? = some (.cells (cellsK (nm1, exC) ⟨pkc, ckc, plc, clc, none, 0, none, 0, none, 0⟩).toArray 41 (0, 0))) := fun X hX => (hX.block _ (objP_lt hX5)).trans hX5
 rw [← hW5]
 clear hW5 hX5 HRC
 go_upto_region 7 with (refine wpList_store_row rfl 28 _ _ rfl W5.heap.size 28 _ (cellsE exM Pt.zero).toArray rfl rfl (newP _) infoE rfl (one_E _ _) ?_)
 have hevm := ev_new (w := W5) (e := exM) (p := Pt.zero) (cellsE Ev.zero Pt.zero).toArray ⟨isJ_bareA _ _ _ _ _, RdK.nil _ _, RdK.nil _ _, RdS.nil _ _ _ _⟩
 change Code.wp _ _ _ _ ((W5.alloc (.cells (cellsE Ev.zero Pt.zero).toArray 28)).setRow W5.heap.size (cellsE exM Pt.zero).toArray)
 generalize (W5.alloc (.cells (cellsE Ev.zero Pt.zero).toArray 28)).setRow W5.heap.size (cellsE exM Pt.zero).toArray = W6 at hevm
 obtain ⟨hb6, hv6⟩ := hevm
 have hb46 : Below W4.heap.size W4 W6 := belowP hb5 hb6
 have HJ6 : Hid (∀ X, Below W6.heap.size W6 X → IsV X w4.heap.size exJ ⟨pkj, ckj, plj, clj, some ⟨WJ.heap.size, 0, none⟩, 1, none, 0, none, 0⟩) := fun X hX => HJ4.out X (belowP hb46 hX)
 have HM6 : Hid (∀ X, Below W6.heap.size W6 X → IsV X W5.heap.size exM Pt.zero) := fun X hX => hv6.below hX
 have HC6 : Hid (∀ X, Below W6.heap.size W6 X → IsV X w2.heap.size exC ⟨pkc, ckc, plc, clc, none, 0, none, 0, none, 0⟩) := fun X hX => HC4.out X (belowP hb46 hX)
 have HK6 : Hid (∀ X, Below W6.heap.size W6 X → X.heap[W4.heap.size]? = some (.cells (cellsK (nm1, exC) ⟨pkc, ckc, plc, clc, none, 0, none, 0, none, 0⟩).toArray 41 (0, 0))) := fun X hX => HK5.out X (belowP hb6 hX)
 have hB6 : Below w.heap.size w W6 := belowP hB4 hb46
 obtain ⟨Lp, hLp⟩ : ∃ L, L = cellsE exJ ⟨pkj, ckj, plj, clj, some ⟨WJ.heap.size, 0, none⟩, 1, none, 0, none, 0⟩ := ⟨_, rfl⟩
 have HLp := (show Hid _ from hLp)
 clear hLp
 have HRJ : Hid (W6.rangeAt w4.heap.size 0 Lp) := by
  have := (HJ6.out W6 (Below.refl _ _)).rangeE
  rw [← HLp.out] at this
  exact this
 have HKA : Hid (∀ o : Obj, (W6.alloc o).heap[W4.heap.size]? = some (.cells (cellsK (nm1, exC) ⟨pkc, ckc, plc, clc, none, 0, none, 0, none, 0⟩).toArray 41 (0, 0))) := fun o => HK6.out _ ((Below.refl _ _).alloc (Nat.le_refl _) _)
 clear HJ4 HC4 HK5 hb5 hb6 hv6 hb46 hB4
 go_upto_region 8 with (first
  | (refine wpList_load_mid rfl 28 _ rfl w4.heap.size 0 rfl Lp _ HRJ.out Tryz.underlying28 rfl (by rw [HLp.out]; exact infoE) ?_)
  | (refine wpList_buildKo rfl _ _ rfl nm2 exJ ⟨pkj, ckj, plj, clj, some ⟨WJ.heap.size, 0, none⟩, 1, none, 0, none, 0⟩ Lp HLp.out rfl rfl fun Mp HMp => ?_)
  | (refine wpList_rowKo rfl _ rfl (nm2, exJ) ⟨pkj, ckj, plj, clj, some ⟨WJ.heap.size, 0, none⟩, 1, none, 0, none, 0⟩ Mp HMp.out rfl ?_)
  | (refine wpList_twoK rfl _ _ rfl W4.heap.size W6.heap.size (nm1, exC) (nm2, exJ) ⟨pkc, ckc, plc, clc, none, 0, none, 0, none, 0⟩ ⟨pkj, ckj, plj, clj, some ⟨WJ.heap.size, 0, none⟩, 1, none, 0, none, 0⟩ rfl rfl (HKA.out _) (by rw [HMp.out]; exact newP _) fun c7 W7 hc7 hb7 hf7 hg7 => ?_))
 have hb67 : Below W6.heap.size W6 W7 := belowP ((Below.refl _ _).alloc (Nat.le_refl _) _) hb7
 have hBk : Below w.heap.size w W7 := belowP hB6 hb67
 rw [World.size_alloc] at hf7 hg7
 have HR7 : Hid (∀ X, Below W7.heap.size W7 X → RdE (· < X.heap.size) X (some ⟨W6.heap.size + 1, 0, none⟩) c7 [(nm1, exC), (nm2, exJ)]) := fun X hX =>
  rd_two hc7 (fun n v hv => (hX.cell (p := ⟨_, n, none⟩) (cell_lt (hf7 n v hv))).trans (hf7 n v hv)) (fun n v hv => (hX.cell (p := ⟨_, 17 + n, none⟩) (cell_lt (hg7 n v hv))).trans (hg7 n v hv)) (HC6.out X (belowP hb67 hX)).ev (HJ6.out X (belowP hb67 hX)).ev
 go_upto_region 9 with (first
  | (go_at_call 30; refine (text11_any _ _ _).mono ?_; rintro x w8 ⟨⟨pkb, ckb, plb, clb, rfl, hjb⟩, hbtb⟩)
  | (go_at_call 29; refine (state11_op _ _ _ nMemb vBan pkb ckb plb clb _).mono ?_; rintro x w9 ⟨⟨Lb, rfl, HLb⟩, hbsb⟩)
  | (refine wpList_store_row rfl 28 _ _ rfl w9.heap.size 28 _ Lb.toArray rfl rfl (newP _) (by rw [HLb.out]; exact infoE) (by rw [HLb.out]; rfl) (by rw [HLb.out]; exact one_E _ _) ?_))
 have hevb := ev_new (e := exB) (p := ⟨pkb, ckb, plb, clb, none, 0, none, 0, none, 0⟩) (cellsE Ev.zero Pt.zero).toArray (isE_st rfl hjb hbsb)
 rw [show cellsE exB ⟨pkb, ckb, plb, clb, none, 0, none, 0, none, 0⟩ = Lb from HLb.out.symm] at hevb
 change Code.wp _ _ _ _ ((w9.alloc (.cells (cellsE Ev.zero Pt.zero).toArray 28)).setRow w9.heap.size Lb.toArray)
 generalize (w9.alloc (.cells (cellsE Ev.zero Pt.zero).toArray 28)).setRow w9.heap.size Lb.toArray = WB at hevb
 have hBb : Below w.heap.size w WB := belowP (hBk) (belowP (belowP hbtb hbsb) hevb.1)
 have HVb : Hid (∀ X, Below WB.heap.size WB X → IsV X w9.heap.size exB ⟨pkb, ckb, plb, clb, none, 0, none, 0, none, 0⟩) := fun X hX => hevb.2.below hX
 have HJb : Hid (isJ (· < w9.heap.size) WB (oneJ nMemb vBan) [.int .i64 5, .int .i64 0, .string nix, .slice pkb 1 ckb, .slice plb 1 clb]) := hjb.carry fun k hk => ⟨Nat.lt_of_lt_of_le hk hbsb.size, (belowP hbsb hevb.1).block k hk⟩
 have hnb : Below W7.heap.size W7 WB := belowP (belowP hbtb hbsb) hevb.1
 have hzb : W7.heap.size ≤ w9.heap.size := Nat.le_trans hbtb.size hbsb.size
 clear hevb hjb hbtb hbsb
 have h67B : Below W6.heap.size W6 WB := belowP hb67 hnb
 have HRJ2 : Hid (WB.rangeAt w4.heap.size 0 Lp) := by
  have := (HJ6.out WB h67B).rangeE
  rw [← HLp.out] at this
  exact this
 have hWt : Calls Tryz.prog 14 #[.agg Lp.toArray] WB fun x w' => (∃ q c, x = .returned (.slice q 4 c)) ∧ Below WB.heap.size WB w' := by
  rw [HLp.out]
  refine (wanted_any (HJ6.out WB h67B).ev (fun _ h => h) sz_J).mono fun x w' hh => ⟨?_, hh.2⟩
  obtain ⟨⟨q, c, hx, _⟩, _⟩ := hh
  rw [want_J] at hx
  exact ⟨q, c, hx⟩
 clear HRJ HKA hb7 hf7 hg7
 go_upto_region 10 with (first
  | (refine wpList_load_mid rfl 28 _ rfl w4.heap.size 0 rfl Lp _ HRJ2.out Tryz.underlying28 rfl (by rw [HLp.out]; exact infoE) ?_)
  | (go_at_call 14; refine hWt.mono ?_; rintro x W9 ⟨⟨qw, cw, rfl⟩, hb9⟩))
 have h69 : Below W6.heap.size W6 W9 := belowP h67B hb9
 have h79 : Below W7.heap.size W7 W9 := belowP hnb hb9
 have hB9 : Below w.heap.size w W9 := belowP hBb hb9
 have HT : Hid (∀ X, Below W9.heap.size W9 X → Tabs X) := fun X hX => hT.below (belowP hB9 hX)
 have HBB : Hid (∀ X, Below W9.heap.size W9 X → Below w.heap.size w X) := fun X hX => belowP hB9 hX
 have HE1 : Hid (∀ X, Below W9.heap.size W9 X → (Instr.loadAt 28 (.pointer (some ⟨w2.heap.size, 0, none⟩))).run Tryz.prog X = .ok (.agg (cellsE exC ⟨pkc, ckc, plc, clc, none, 0, none, 0, none, 0⟩).toArray) X) := fun X hX => run_loadAt_mid X w2.heap.size 0 28 (cellsE exC ⟨pkc, ckc, plc, clc, none, 0, none, 0, none, 0⟩) _ (HC6.out X (belowP h69 hX)).rangeE Tryz.underlying28 rfl infoE
 have HE2 : Hid (∀ X, Below W9.heap.size W9 X → (Instr.loadAt 28 (.pointer (some ⟨w4.heap.size, 0, none⟩))).run Tryz.prog X = .ok (.agg (cellsE exJ ⟨pkj, ckj, plj, clj, some ⟨WJ.heap.size, 0, none⟩, 1, none, 0, none, 0⟩).toArray) X) := fun X hX => run_loadAt_mid X w4.heap.size 0 28 (cellsE exJ ⟨pkj, ckj, plj, clj, some ⟨WJ.heap.size, 0, none⟩, 1, none, 0, none, 0⟩) _ (HJ6.out X (belowP h69 hX)).rangeE Tryz.underlying28 rfl infoE
 have HE3 : Hid (∀ X, Below W9.heap.size W9 X → (Instr.loadAt 28 (.pointer (some ⟨W5.heap.size, 0, none⟩))).run Tryz.prog X = .ok (.agg (cellsE exM Pt.zero).toArray) X) := fun X hX => run_loadAt_mid X W5.heap.size 0 28 (cellsE exM Pt.zero) _ (HM6.out X (belowP h69 hX)).rangeE Tryz.underlying28 rfl infoE
 have HE4 : Hid (∀ X, Below W9.heap.size W9 X → (Instr.loadAt 28 (.pointer (some ⟨w9.heap.size, 0, none⟩))).run Tryz.prog X = .ok (.agg (cellsE exB ⟨pkb, ckb, plb, clb, none, 0, none, 0, none, 0⟩).toArray) X) := fun X hX => run_loadAt_mid X w9.heap.size 0 28 (cellsE exB ⟨pkb, ckb, plb, clb, none, 0, none, 0, none, 0⟩) _ (HVb.out X (belowP hb9 hX)).rangeE Tryz.underlying28 rfl infoE
 have HQ1 : Hid (∀ X, Below W9.heap.size W9 X → Calls Tryz.prog 11 #[.agg (cellsE exC ⟨pkc, ckc, plc, clc, none, 0, none, 0, none, 0⟩).toArray, .slice none 0 0] X fun x w' => x = .returned (.int .i64 0) ∧ Below X.heap.size X w') := fun X hX => by
  have := judge_any (l := []) (ps := none) (cs := 0) (HC6.out X (belowP h69 hX)).ev (RdE.nil _ _ _ _) (fun _ h => h) sz_C szK_0 (HT.out X hX)
  rw [judge_C] at this
  exact this
 have HQ2 : Hid (∀ X, Below W9.heap.size W9 X → Calls Tryz.prog 11 #[.agg (cellsE exJ ⟨pkj, ckj, plj, clj, some ⟨WJ.heap.size, 0, none⟩, 1, none, 0, none, 0⟩).toArray, .slice (some ⟨W4.heap.size, 0, none⟩) 1 1] X fun x w' => x = .returned (.int .i64 0) ∧ Below X.heap.size X w') := fun X hX => by
  have := judge_any (HJ6.out X (belowP h69 hX)).ev (rd_one (HK6.out X (belowP h69 hX)) (HC6.out X (belowP h69 hX)).ev) (fun _ h => h) sz_J szK_1 (HT.out X hX)
  rw [judge_J] at this
  exact this
 have HQ3 : Hid (∀ X, Below W9.heap.size W9 X → Calls Tryz.prog 11 #[.agg (cellsE exM Pt.zero).toArray, .slice (some ⟨W6.heap.size + 1, 0, none⟩) 2 c7] X fun x w' => x = .returned (.int .i64 110) ∧ Below X.heap.size X w') := fun X hX => by
  have := judge_any (HM6.out X (belowP h69 hX)).ev (HR7.out X (belowP h79 hX)) (fun _ h => h) sz_M szK_2 (HT.out X hX)
  rw [judge_M] at this
  exact this
 have HQ4 : Hid (∀ X, Below W9.heap.size W9 X → Calls Tryz.prog 11 #[.agg (cellsE exB ⟨pkb, ckb, plb, clb, none, 0, none, 0, none, 0⟩).toArray, .slice (some ⟨W6.heap.size + 1, 0, none⟩) 2 c7] X fun x w' => x = .returned (.int .i64 110) ∧ Below X.heap.size X w') := fun X hX => by
  have := judge_any (HVb.out X (belowP hb9 hX)).ev (HR7.out X (belowP h79 hX)) (fun _ h => h) sz_B szK_2 (HT.out X hX)
  rw [judge_B] at this
  exact this
 have hA0 : Below W9.heap.size W9 W9 := Below.refl _ _
 clear HC6 HJ6 HM6 HVb HR7 HK6 h69 h79 hB9 HT HRJ2 hWt hT hBk hB6 hb67 hnb h67B hBb hb9 HJb hzb
 rw [← HLc.out] at HE1 HQ1
 rw [← HLp.out] at HE2 HQ2
 rw [← HLb.out] at HE4 HQ4
 generalize cellsE exM Pt.zero = LM at HE3 HQ3
 go_wp2_with (first
  | (refine wpList_load_midg (by kernel_rfl) 28 _ rfl w9.heap.size 0 rfl Lb (HE4.out _ hA3) ?_)
  | (refine wpList_load_midg (by kernel_rfl) 28 _ rfl W5.heap.size 0 rfl LM (HE3.out _ hA2) ?_)
  | (refine wpList_load_midg (by kernel_rfl) 28 _ rfl w4.heap.size 0 rfl Lp (HE2.out _ hA1) ?_)
  | (refine wpList_load_midg (by kernel_rfl) 28 _ rfl w2.heap.size 0 rfl Lc (HE1.out _ hA0) ?_)
  | (go_at_call 11; refine (HQ4.out _ hA3).mono ?_; rintro x wd ⟨rfl, hbd⟩; have hA4 := belowP hA3 hbd)
  | (go_at_call 11; refine (HQ3.out _ hA2).mono ?_; rintro x wc ⟨rfl, hbc⟩; have hA3 := belowP hA2 hbc)
  | (go_at_call 11; refine (HQ2.out _ hA1).mono ?_; rintro x wb ⟨rfl, hbb⟩; have hA2 := belowP hA1 hbb)
  | (go_at_call 11; refine (HQ1.out _ hA0).mono ?_; rintro x wa ⟨rfl, hba⟩; have hA1 := belowP hA0 hba))
 go_ret
 exact ⟨rfl, HBB.out _ hA4⟩
theorem own_apart {w : World} {base e e' size n b : Nat} {v : Value} {xs : List Value} {cs : Array Value} {f : Nat × Nat} (h : w.ownsRow base e size v n xs) (hb : w.heap[b]? = some (.cells cs e' f)) (hne : e ≠ e') : v.ownBlock ≠ some b := fun hv => by
 obtain ⟨_, ⟨rfl, _⟩ | ⟨g, cap, cur, rfl, _, hg, _⟩⟩ := h
 · cases hv
 · obtain rfl : g = b := Option.some.inj hv
   rw [hg] at hb
   cases hb
   exact hne rfl
theorem own_stay {w w' : World} {base e size n : Nat} {v : Value} {xs : List Value} (h : w.ownsRow base e size v n xs) (hb : Below w.heap.size w w') : w'.ownsRow base e size v n xs := by
 obtain ⟨h1, ⟨h2, h3⟩ | ⟨g, cap, cur, h2, h3, h4, h5⟩⟩ := h
 · exact ⟨h1, .inl ⟨h2, h3⟩⟩
 · exact ⟨h1, .inr ⟨g, cap, cur, h2, h3, (hb.block g (objP_lt h4)).trans h4, h5⟩⟩
theorem less_sz {ws : List Ent} {l : List Kn} (h : FewK l) (hw : ws.length ≤ 5) : SzK (lessT ws l) :=
 ⟨Nat.le_trans (less_len l) (Nat.le_trans (Nat.mul_le_mul h.len hw) (by decide)), fun k hk => h.sz.cont k (less_mem hk), fun k hk => h.sz.snd k (less_mem hk)⟩
theorem onlyLaw_any {O : Nat → Prop} {w : World} {e : Ev} {p : Pt} {ps : Option Addr} {cs : Nat} {l : List Kn} (h : IsE O w e p) (hst : RdE O w ps cs l) (hO : ∀ b, O b → b < w.heap.size) (hz : BigE e) (hk : ∀ k ∈ l, BigE k.2) (hT : Tabs w) :
    Calls Tryz.prog 5 #[valE e p, .slice ps l.length cs] w fun x w' => x = .returned (.bool true) ∧ Below w.heap.size w w' := by
 obtain ⟨W0, hW0⟩ : ∃ W0, W0 = w.alloc (.cells (cellsE e p).toArray 28) := ⟨_, rfl⟩
 have hb0 : Below w.heap.size w W0 := by rw [hW0]; exact (Below.refl _ _).alloc (Nat.le_refl _) _
 have hX0 : W0.heap[w.heap.size]? = some (.cells (cellsE e p).toArray 28 (0, 0)) := by rw [hW0]; exact newP _
 have hV := isV_new h hO hb0 hX0
 have HV : Hid (∀ X, Below W0.heap.size W0 X → IsV X w.heap.size e p) := fun X hX => hV.below hX
 have HST : Hid (∀ X, Below W0.heap.size W0 X → RdE (· < X.heap.size) X ps cs l) := fun X hX => hst.carry fun k hk => ⟨Nat.lt_of_lt_of_le (hO k hk) (belowP hb0 hX).size, (belowP hb0 hX).block k (hO k hk)⟩
 have HLD : Hid (∀ X, Below W0.heap.size W0 X → (Instr.loadAt 28 (.pointer (some ⟨w.heap.size, 0, none⟩))).run Tryz.prog X = .ok (.agg (cellsE e p).toArray) X) := fun X hX => run_loadAt_mid X w.heap.size 0 28 (cellsE e p) _ (HV.out X hX).rangeE Tryz.underlying28 rfl infoE
 have hFew := eFew_any e p W0 hV.ev (fun _ h => h) hz
 have HK : Hid (∀ X, Below W0.heap.size W0 X → Calls Tryz.prog 10 #[.slice ps l.length cs] X fun x w' => FewKP X w' l x) := fun X hX => few11_any (HST.out X hX) (fun _ h => h) hk
 have HJ : Hid (∀ X, Below W0.heap.size W0 X → ∀ (q : Option Addr) (c : Nat) (m : List Kn), RdE (· < X.heap.size) X q c m → SzK m → FewE e → Calls Tryz.prog 11 #[.agg (cellsE e p).toArray, .slice q m.length c] X fun x w' => x = .returned (.int .i64 (judgeT e m)) ∧ Below X.heap.size X w') := fun X hX q c m hr hs h1 => judge_any (HV.out X hX).ev hr (fun _ h => h) h1.sz hs (hT.below (belowP hb0 hX))
 have HWA : Hid (∀ X, Below W0.heap.size W0 X → FewE e → Calls Tryz.prog 14 #[.agg (cellsE e p).toArray] X fun x w' => (∃ q c, x = .returned (.slice q (wantT e).length c) ∧ RdT (fun b => X.heap.size ≤ b ∧ b < w'.heap.size) w' q c (wantT e)) ∧ Below X.heap.size X w') := fun X hX h1 => wanted_any (HV.out X hX).ev (fun _ h => h) h1.sz
 have HAW : Hid (∀ X, Below W0.heap.size W0 X → Calls Tryz.prog 13 #[] X fun x w' => x = .returned (.bool true) ∧ Below X.heap.size X w') := fun X hX => awake11_any X (hT.below (belowP hb0 hX))
 have HLAW : Hid (judgeT e (lessT (wantT e) l) = judgeT e l) := only_law e l
 have HWL : Hid ((wantT e).length ≤ 5) := want_len e
 have hB0 : Below W0.heap.size W0 W0 := Below.refl _ _
 clear h hst hV hX0 hz hk hT
 unfold valE at hFew ⊢
 generalize wantT e = ws at HWA HLAW HWL
 obtain ⟨n, hn⟩ : ∃ n, l.length = n := ⟨_, rfl⟩
 have HN : Hid (l.length = n) := hn
 rw [hn] at HK ⊢
 clear hn
 go_enter Tryz.func5, Tryz.ntmps5
 go_upto_region 1 with fail
 rw [← hW0]
 clear hW0
 go_upto_region 6 with (first
  | (go_at_call 9; refine hFew.mono ?_; rintro x w1 ⟨⟨b1, rfl, hf1⟩, hB1⟩; cases b1; have hN1 := hB1; clear hB1)
  | (go_at_call 10; refine (HK.out _ hB1).mono ?_; rintro x w2 ⟨⟨b2, rfl, hf2⟩, hb2⟩; have hB2 := belowP hB1 hb2; clear hb2; cases b2; have hN2 := hB2; clear hB2)
  | (go_at_call 14; refine (HWA.out _ hB2 (hf1 (by trivial))).mono ?_; rintro x w3 ⟨⟨pq, cq, rfl, hq⟩, hb3⟩; have hB3 := belowP hB2 hb3; clear hb3)
  | (refine wpList_load_midg (by kernel_rfl) 28 _ rfl w.heap.size 0 rfl (cellsE e p) (HLD.out _ hB2) ?_)
  | (refine wpList_load_midg (by kernel_rfl) 28 _ rfl w.heap.size 0 rfl (cellsE e p) (HLD.out _ hB0) ?_))
 iterate 2
  · go_ret
    first
     | exact ⟨rfl, belowP hb0 hN1⟩
     | exact ⟨rfl, belowP hb0 hN2⟩
 · skip
   have hF1 : FewE e := hf1 (by trivial)
   have hF2 : FewK l := hf2 (by trivial)
   have HFE : Hid (FewE e) := hF1
   have HFK : Hid (FewK l) := hF2
   have hn20 : n ≤ 20 := by rw [← HN.out]; exact hF2.len
   have hcap : n ≤ cs := by rw [← HN.out]; exact (HST.out _ hB3).1
   have hw5 : ws.length ≤ 5 := HWL.out
   have hcq : ws.length ≤ cq := hq.1
   have HQ : Hid (RdT (· < w3.heap.size) w3 pq cq ws) := hq.carry fun k hk => ⟨hk.2, rfl⟩
   have HS3 : Hid (RdE (· < w3.heap.size) w3 ps cs l) := HST.out _ hB3
   clear hF1 hF2 hf1 hf2 hq HK hFew HWA HWL
   go_loopw [6, 7] (fun v i wr => ∃ k : Nat, ∃ L : List Kp, k ≤ n ∧ i = .int .i64 k ∧ Hid (wr.ownsRow w3.heap.size 41 17 v L.length (flatK L)) ∧ Hid (L.map Prod.fst = lessT ws (l.take k)) ∧ Hid (∀ x ∈ L, IsE (· < w3.heap.size) w3 x.1.2 x.2) ∧ Below w3.heap.size w3 wr) (fun _ i _ => n - (intOf i).toNat)
   case atStart => exact ⟨0, [], Nat.zero_le _, rfl, World.ownsRow_nil _ _ _ _, rfl, fun x hx => absurd hx (by simp), Below.refl _ _⟩
   case round =>
    obtain ⟨k, L, hk, rfl, HOW, HML, HEL, hbw⟩ := hrel
    by_cases hlt : k < n
    · have hki : (k : Int) < (n : Int) := by omega
      have hkl : k < l.length := by rw [HN.out]; exact hlt
      obtain ⟨b, o, q, rfl, hOb, hcells, hE⟩ := HS3.out.2 k hkl
      have HNX : Hid (lessT ws (l.take (k + 1)) = lessT ws (l.take k) ++ hitsT ws (l.getD k zK)) := less_take hkl
      generalize l.getD k zK = x at hcells hE HNX
      have HCC : Hid (∀ X, Below w3.heap.size w3 X → X.rangeAt b (o + k * 17) (cellsK x q)) := fun X hX m v hv => (hX.cell (p := ⟨b, o + k * 17 + m, none⟩) hOb).trans (hcells m v hv)
      have HC1 : Hid (wr.rangeAt b (o + k * 17 + 1) (cellsE x.2 q)) := fun m v hv => by
       rw [show o + k * 17 + 1 + m = o + k * 17 + (m + 1) by omega]
       exact HCC.out wr hbw (m + 1) v hv
      have HEX : Hid (IsE (· < w3.heap.size) w3 x.2 q) := hE
      clear hcells hE
      go_upto_region 10 with (first
       | (refine wpList_load_mid rfl 28 _ rfl b (o + k * 17 + 1) rfl (cellsE x.2 q) _ HC1.out Tryz.underlying28 rfl infoE ?_)
       | (refine wpList_store_row rfl 28 _ _ rfl wr.heap.size 28 _ (cellsE x.2 q).toArray rfl rfl (newP _) infoE rfl (one_E _ _) ?_))
      have hbA : Below wr.heap.size wr ((wr.alloc (.cells (cellsE Ev.zero Pt.zero).toArray 28)).setRow wr.heap.size (cellsE x.2 q).toArray) := ((Below.refl _ _).alloc (Nat.le_refl _) _).trans ((keep_setRow _ wr.heap.size _).below (by simp) fun q hq e => by unfold OneP at e; omega)
      have hXA : ((wr.alloc (.cells (cellsE Ev.zero Pt.zero).toArray 28)).setRow wr.heap.size (cellsE x.2 q).toArray).heap[wr.heap.size]? = some (.cells (cellsE x.2 q).toArray 28 (0, 0)) := setRow_heap _ _ _ _ _ _ (newP _)
      change Code.wp _ _ _ _ ((wr.alloc (.cells (cellsE Ev.zero Pt.zero).toArray 28)).setRow wr.heap.size (cellsE x.2 q).toArray)
      generalize ((wr.alloc (.cells (cellsE Ev.zero Pt.zero).toArray 28)).setRow wr.heap.size (cellsE x.2 q).toArray) = W1 at hbA hXA
      have hB1 := belowP hbw hbA
      have HOW1 : Hid (W1.ownsRow w3.heap.size 41 17 _ L.length (flatK L)) := own_stay HOW.out hbA
      obtain ⟨xb, hxb⟩ : ∃ xb, wr.heap.size = xb := ⟨_, rfl⟩
      rw [hxb] at hXA ⊢
      clear hxb
      go_loopw [6, 9] (fun v i wx => ∃ m : Nat, ∃ M : List Kp, m ≤ ws.length ∧ i = .int .i64 m ∧ Hid (wx.ownsRow w3.heap.size 41 17 v M.length (flatK M)) ∧ Hid (M.map Prod.fst = lessT ws (l.take k) ++ hitsT (ws.take m) x) ∧ Hid (∀ x ∈ M, IsE (· < w3.heap.size) w3 x.1.2 x.2) ∧ wx.heap[xb]? = some (.cells (cellsE x.2 q).toArray 28 (0, 0)) ∧ Below w3.heap.size w3 wx) (fun _ i _ => ws.length - (intOf i).toNat)
      case atStart => exact ⟨0, L, Nat.zero_le _, rfl, HOW1, by show _ = _; rw [HML.out]; simp [hitsT], HEL, hXA, hB1⟩
      case round =>
       clear HOW HOW1 HML HEL hXA hB1 hbA
       obtain ⟨m, M, hm, rfl, HOM, HMM, HEM, hXx, hbx⟩ := hrel
       have hML : M.length ≤ 100 := by
        have h1 : M.length = (M.map Prod.fst).length := (List.length_map ..).symm
        rw [h1, HMM.out, List.length_append]
        have h2 := less_len (ws := ws) (l.take k)
        have h3 : (hitsT (ws.take m) x).length ≤ (ws.take m).length := by unfold hitsT; rw [List.length_map]; exact List.length_filter_le ..
        have h4 : (l.take k).length * ws.length ≤ 19 * 5 := Nat.mul_le_mul (by rw [List.length_take]; omega) hw5
        rw [List.length_take] at h3
        omega
       by_cases hlt2 : m < ws.length
       · have hmi : (m : Int) < (ws.length : Int) := by omega
         obtain ⟨b2, o2, rfl, hOb2, c1, c2, _⟩ := HQ.out.2 m hlt2
         have HHT : Hid (hitsT (ws.take (m + 1)) x = hitsT (ws.take m) x ++ cond (isAt (ws.getD m (nix, nix)).1 (ws.getD m (nix, nix)).2 x) [x] []) := hits_take hlt2
         generalize ws.getD m (nix, nix) = t at c1 c2 HHT
         have e1 : wr.cell? ⟨b2, o2 + m * 3, none⟩ = some (.string t.1) := (hbx.cell (p := ⟨b2, o2 + m * 3, none⟩) hOb2).trans c1
         have e2 : wr.cell? ⟨b2, o2 + m * 3 + 1, none⟩ = some (.string t.2) := (hbx.cell (p := ⟨b2, o2 + m * 3 + 1, none⟩) hOb2).trans c2
         have d1 : wr.cell? ⟨xb, 1, none⟩ = some (.string x.2.typ) := cellP hXx 1 _ rfl
         have d3 : wr.cell? ⟨xb, 3, none⟩ = some (.bool x.2.st) := cellP hXx 3 _ rfl
         have d4 : wr.cell? ⟨xb, 4, none⟩ = some (.string x.2.key) := cellP hXx 4 _ rfl
         have HCK := (show Hid _ from HCC.out wr hbx)
         clear c1 c2
         simp only [isAt] at HHT
         generalize x.2.st = st at d3 HHT
         generalize x.2.typ = typ at d1 HHT
         generalize x.2.key = ke at d4 HHT
         generalize t.1 = t1 at e1 HHT
         generalize t.2 = t2 at e2 HHT
         cases st with
         | false =>
          go_wp2
          go_quiet (fail)
          go_wp2
          go_roundw
          case rel => exact ⟨m + 1, M, hlt2, by go_num, own_stay HOM.out (belowN _ _), by show _ = _; rw [HMM.out, HHT.out]; simp, HEM, ((belowN wr _).block _ (objP_lt hXx)).trans hXx, hbx.trans ((belowN wr _).mono hbx.size)⟩
          case measure => simp [intOf]; omega
         | true =>
          cases h1 : (typ.toList == t1.toList) with
          | false =>
           simp only [eqT, h1] at HHT
           go_wp2
           go_quiet (fail)
           go_wp2
           go_roundw
           case rel => exact ⟨m + 1, M, hlt2, by go_num, own_stay HOM.out (belowN _ _), by show _ = _; rw [HMM.out, HHT.out]; simp, HEM, ((belowN wr _).block _ (objP_lt hXx)).trans hXx, hbx.trans ((belowN wr _).mono hbx.size)⟩
           case measure => simp [intOf]; omega
          | true =>
           cases h2 : (ke.toList == t2.toList) with
           | false =>
            simp only [eqT, h1, h2] at HHT
            go_wp2
            go_quiet (fail)
            go_wp2
            go_roundw
            case rel => exact ⟨m + 1, M, hlt2, by go_num, own_stay HOM.out (belowN _ _), by show _ = _; rw [HMM.out, HHT.out]; simp, HEM, ((belowN wr _).block _ (objP_lt hXx)).trans hXx, hbx.trans ((belowN wr _).mono hbx.size)⟩
            case measure => simp [intOf]; omega
           | true =>
            simp only [eqT, h1, h2] at HHT
            go_wp2
            go_quiet (fail)
            have hbd : Below w3.heap.size w3 (wr.drewN nq) := hbx.trans ((belowN wr nq).mono hbx.size)
            have hXd := ((belowN wr nq).block _ (objP_lt hXx)).trans hXx
            have HOD : Hid ((wr.drewN nq).ownsRow w3.heap.size 41 17 _ M.length (flatK M)) := own_stay HOM.out (belowN wr nq)
            obtain ⟨KC, hKC⟩ : ∃ KC, KC = cellsK x q := ⟨_, rfl⟩
            have HKC : Hid (KC = cellsK x q) := hKC
            have HKR : Hid ((wr.drewN nq).rangeAt b (o + k * 17) KC) := by show World.rangeAt _ _ _ _; rw [hKC]; exact HCC.out _ hbd
            clear hKC
            go_wp2_with (first
             | (refine wpList_load_mid rfl 41 _ rfl b (o + k * 17) rfl KC _ HKR.out Tryz.underlying41 rfl (by rw [HKC.out]; exact infoK) ?_)
             | (refine wpList_rowKo rfl _ rfl x q KC HKC.out rfl ?_)
             | (refine wpList_append_kno rfl _ _ rfl w3.heap.size _ M rfl (HOD.out.alloc _) (wr.drewN nq).heap.size 1 (x, q) KC HKC.out rfl (newP _) (by omega) (by simp; exact Nat.le_trans hbx.size (Nat.le_succ _)) fun v9 W9 ho9 hg9 => ?_))
            have hbA9 : Below w3.heap.size w3 W9 := hbd.trans (((Below.refl w3.heap.size _).alloc hbd.size _).trans (grown_below hg9 (by simp; exact Nat.le_trans hbd.size (Nat.le_succ _)) fun k hk => (HOD.out.lt k hk).1))
            have hX9 : W9.heap[xb]? = some (.cells (cellsE x.2 q).toArray 28 (0, 0)) := by
             refine (hg9.block xb ?_ fun hv => own_apart HOD.out hXd (by decide) hv.symm).trans ((((Below.refl _ (wr.drewN nq)).alloc (Nat.le_refl _) _).block xb (objP_lt hXd)).trans hXd)
             have := objP_lt hXd
             simp at this ⊢
             omega
            have HO9 : Hid (W9.ownsRow w3.heap.size 41 17 v9 (M ++ [(x, q)]).length (flatK (M ++ [(x, q)]))) := ho9
            clear ho9
            go_wp2
            go_roundw
            case rel => exact ⟨m + 1, M ++ [(x, q)], hlt2, by go_num, HO9, by show _ = _; rw [List.map_append, HMM.out, HHT.out]; simp, fun y hy => by
             rcases List.mem_append.1 hy with hy | hy
             · exact HEM.out y hy
             · rw [List.mem_singleton.1 hy]; exact HEX.out, hX9, hbA9⟩
            case measure => simp [intOf]; omega
       · obtain rfl : m = ws.length := by omega
         have HNN : Hid (M.map Prod.fst = lessT ws (l.take (k + 1))) := by show _ = _; rw [HMM.out, HNX.out, List.take_length]
         go_wp2
         go_roundw
         case rel => exact ⟨k + 1, M, hlt, by go_num, HOM, HNN, HEM, hbx⟩
         case measure => simp [intOf]; omega
    · obtain rfl : k = n := by omega
      have HML2 : Hid (L.map Prod.fst = lessT ws l) := by show _ = _; rw [HML.out, List.take_of_length_le (by rw [HN.out]; exact Nat.le_refl _)]
      have hRd := rdE_of_own (O := (· < wr.heap.size)) HOW.out (fun y hy => (HEL.out y hy).carry fun b hb => ⟨Nat.lt_of_lt_of_le hb hbw.size, hbw.block b hb⟩) (fun b _ hb => hb)
      rw [HML2.out] at hRd
      obtain ⟨qq, qc, rfl, hRd⟩ := hRd
      have hBW := belowP hB3 hbw
      have HRD : Hid (∀ X, Below wr.heap.size wr X → RdE (· < X.heap.size) X qq qc (lessT ws l)) := fun X hb => hRd.carry fun b hb2 => ⟨Nat.lt_of_lt_of_le hb2 hb.size, hb.block b hb2⟩
      have HJ1 : Hid (∀ X, Below wr.heap.size wr X → Calls Tryz.prog 11 #[.agg (cellsE e p).toArray, .slice qq (lessT ws l).length qc] X fun x w' => x = .returned (.int .i64 (judgeT e l)) ∧ Below X.heap.size X w') := fun X hb => by
       have := HJ.out X (belowP hBW hb) qq qc _ (HRD.out X hb) (less_sz HFK.out hw5) HFE.out
       rw [HLAW.out] at this
       exact this
      have HJ2 : Hid (∀ X, Below wr.heap.size wr X → Calls Tryz.prog 11 #[.agg (cellsE e p).toArray, .slice ps k cs] X fun x w' => x = .returned (.int .i64 (judgeT e l)) ∧ Below X.heap.size X w') := fun X hb => by
       have := HJ.out X (belowP hBW hb) ps cs _ (HST.out X (belowP hBW hb)) HFK.out.sz HFE.out
       rw [HN.out] at this
       exact this
      have HLX : Hid (∀ X, Below wr.heap.size wr X → (Instr.loadAt 28 (.pointer (some ⟨w.heap.size, 0, none⟩))).run Tryz.prog X = .ok (.agg (cellsE e p).toArray) X) := fun X hb => HLD.out X (belowP hBW hb)
      have HAV : Hid (∀ X, Below wr.heap.size wr X → Calls Tryz.prog 13 #[] X fun x w' => x = .returned (.bool true) ∧ Below X.heap.size X w') := fun X hb => HAW.out X (belowP hBW hb)
      have HBW : Hid (∀ X, Below wr.heap.size wr X → Below w.heap.size w X) := fun X hb => belowP hb0 (belowP hBW hb)
      clear HJ HLAW HRD hRd HML HML2 HOW HEL HST HV HLD HAW HS3 HQ HFE HFK
      generalize judgeT e l = jt at HJ1 HJ2
      generalize (lessT ws l).length = ln at HJ1 ⊢
      have hjj : (jt == jt) = true := beq_self_eq_true _
      go_upto_region 14 with fail
      refine wp_region_in (by kernel_rfl) (fun w' => Below wr.heap.size wr w') ?_
      change wpIn _ _ _ _ _ _ _ _ (World.drew _)
      have hD : Below wr.heap.size wr wr.drew := (Below.refl _ _).drew
      refine wpIn_take (i := 0) (d := (some 66)) (v := (.agg (cellsE e p).toArray)) (a' := ?aqe0) rfl rfl (by kernel_rfl) (by kernel_rfl) (by kernel_rfl) (fun _ _ _ h => h) (Or.inl ⟨by rfl, ?yqe0⟩) ?fqe0 ?_
      case yqe0 => exact fun wq hq => exec_loadR rfl rfl (HLX.out wq hq)
      case fqe0 => (go_frame; rfl)
      refine wpIn_tk (i := 1) (d := some 67) rfl ?_
      refine wpIn_take (i := 3) (d := (some 69)) (v := (.agg (cellsE e p).toArray)) (a' := ?aqe3) rfl rfl (by kernel_rfl) (by kernel_rfl) (by kernel_rfl) (fun _ _ _ h => h) (Or.inl ⟨by rfl, ?yqe3⟩) ?fqe3 ?_
      case yqe3 => exact fun wq hq => exec_loadR rfl rfl (HLX.out wq hq)
      case fqe3 => (go_frame; rfl)
      refine wpIn_tk (i := 4) (d := some 70) rfl ?_
      refine wpIn_do (i := 2) hD (by kernel_rfl) rfl (by rfl) ?_
      intro K hK
      go_simp
      go_wp2_with (go_at_call 11; refine (HJ1.out _ hD).mono ?_; rintro x w7 ⟨rfl, hbw7⟩)
      have hD2 : Below wr.heap.size wr w7 := belowP hD hbw7
      refine wpIn_do (i := 5) hD2 (by kernel_rfl) rfl (by rfl) ?_
      intro K hK
      go_simp
      go_wp2_with (go_at_call 11; refine (HJ2.out _ hD2).mono ?_; rintro x w8 ⟨rfl, hbw8⟩)
      have hD25 : Below wr.heap.size wr w8 := belowP hD2 hbw8
      refine wpIn_tk (i := 6) (d := some 72) rfl ?_
      refine wpIn_tk (i := 7) (d := some 73) rfl ?_
      refine wpIn_do (i := 8) hD25 (by kernel_rfl) rfl (by rfl) ?_
      intro K hK
      go_simp
      go_wp2_with (go_at_call 13; refine (HAV.out _ hD25).mono ?_; rintro x w9 ⟨rfl, hbw9⟩)
      have hD258 : Below wr.heap.size wr w9 := belowP hD25 hbw9
      refine wpIn_tk (i := 9) (d := some 75) rfl ?_
      refine wpIn_tk (i := 10) (d := some 4) rfl ?_
      refine wpIn_done hD258 (by kernel_rfl) ?_ _
      go_wp2
      go_ret
      exact ⟨rfl, HBW.out _ hD258⟩
end Go.Proofs.YtldegjjaknelgaaGreatDoor

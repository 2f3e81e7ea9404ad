/-
  Events that are the same, without signatures: by a contract.
  The events of the law's examples.
  The event of a value: by a contract.
  The event of a value: by a contract.
  The event of a value: by a contract.
  The event of a value, and of bytes: by contracts.
  The law's sample, by a contract.
-/
import Derived.Test.YtegcgbjjpgjnmaaGreatDoorB29
set_option maxRecDepth 100000
set_option maxHeartbeats 16000000
namespace Go.Proofs.YtegcgbjjpgjnmaaGreatDoor
open Go.RowKit
theorem same_eq0 {O : Nat → Prop} (e : Ev) (p p2 : Pt) (w : World) (h1 : IsE O w e p) (h2 : IsE O w e p2) (hO : ∀ k, O k → k < w.heap.size) (hz : SzE e) (hg : goodJ 12 e.content = true) (hs : e.sigs = []) :
    Calls Tryz.prog 19 #[valE e p, valE e p2] w fun x w' => x = .returned (.bool true) ∧ Below w.heap.size w w' := by
 obtain ⟨room, typ, sender, st, key, ⟨k, i, t, ks, l⟩, prev, auth, depth, ts, hash, sigs⟩ := e
 obtain ⟨pk, ck, pl, cl, pp, cp, pa, ca, ps, cs⟩ := p
 obtain ⟨pk2, ck2, pl2, cl2, pp2, cp2, pa2, ca2, ps2, cs2⟩ := p2
 simp only at hs
 subst hs
 obtain ⟨WA, hWA⟩ : ∃ WA, WA = (w.alloc (.cells #[.string room, .string typ, .string sender, .bool st, .string key, .int .i64 k, .int .i64 i, .string t, .slice pk ks.length ck, .slice pl l.length cl, .slice pp prev.length cp, .slice pa auth.length ca, .int .i64 depth, .int .i64 ts, .string hash, .slice ps 0 cs] 28)).alloc (.cells #[.string room, .string typ, .string sender, .bool st, .string key, .int .i64 k, .int .i64 i, .string t, .slice pk2 ks.length ck2, .slice pl2 l.length cl2, .slice pp2 prev.length cp2, .slice pa2 auth.length ca2, .int .i64 depth, .int .i64 ts, .string hash, .slice ps2 0 cs2] 28) := ⟨_, rfl⟩
 have hbA : Below w.heap.size w WA := by rw [hWA]; exact ((Below.refl _ _).alloc (Nat.le_refl _) _).alloc (by simp) _
 have hsA : w.heap.size + 2 ≤ WA.heap.size := by rw [hWA]; simp
 have hxA : WA.heap[w.heap.size]? = some (.cells #[.string room, .string typ, .string sender, .bool st, .string key, .int .i64 k, .int .i64 i, .string t, .slice pk ks.length ck, .slice pl l.length cl, .slice pp prev.length cp, .slice pa auth.length ca, .int .i64 depth, .int .i64 ts, .string hash, .slice ps 0 cs] 28 (0, 0)) := by rw [hWA]; exact one_of _ _
 have hxB : WA.heap[w.heap.size + 1]? = some (.cells #[.string room, .string typ, .string sender, .bool st, .string key, .int .i64 k, .int .i64 i, .string t, .slice pk2 ks.length ck2, .slice pl2 l.length cl2, .slice pp2 prev.length cp2, .slice pa2 auth.length ca2, .int .i64 depth, .int .i64 ts, .string hash, .slice ps2 0 cs2] 28 (0, 0)) := by rw [hWA]; exact two_at _ _
 have HC : Hid (∀ W, Below WA.heap.size WA W → (∀ j v, [.string room, .string typ, .string sender, .bool st, .string key, .int .i64 k, .int .i64 i, .string t, .slice pk ks.length ck, .slice pl l.length cl, .slice pp prev.length cp, .slice pa auth.length ca, .int .i64 depth, .int .i64 ts, .string hash, .slice ps 0 cs][j]? = some v → W.cell? ⟨w.heap.size, j, none⟩ = some v) ∧ (∀ j v, [.string room, .string typ, .string sender, .bool st, .string key, .int .i64 k, .int .i64 i, .string t, .slice pk2 ks.length ck2, .slice pl2 l.length cl2, .slice pp2 prev.length cp2, .slice pa2 auth.length ca2, .int .i64 depth, .int .i64 ts, .string hash, .slice ps2 0 cs2][j]? = some v → W.cell? ⟨w.heap.size + 1, j, none⟩ = some v)) := fun W hW => ⟨fun j v hj => cell_row ((hW.block _ (by omega)).trans hxA) j v hj, fun j v hj => cell_row ((hW.block _ (by omega)).trans hxB) j v hj⟩
 have hOA : ∀ W, Below WA.heap.size WA W → ∀ k, O k → k < W.heap.size := fun W hW k hk => Nat.lt_of_lt_of_le (hO k hk) (below_in hbA hW).size
 have T1 := strings_eq (h1.below hO hbA).prev (h2.below hO hbA).prev (hOA WA (Below.refl _ _)) hz.prev
 have S2 : Hid (∀ W, Below WA.heap.size WA W → Calls Tryz.prog 38 #[.slice pa auth.length ca, .slice pa2 auth.length ca2] W fun x w' => x = .returned (.bool true) ∧ Below W.heap.size W w') := fun W hW => strings_eq (h1.below hO (below_in hbA hW)).auth (h2.below hO (below_in hbA hW)).auth (hOA W hW) hz.auth
 have S3 : Hid (∀ W, Below WA.heap.size WA W → Calls Tryz.prog 12 #[.agg #[.int .i64 k, .int .i64 i, .string t, .slice pk ks.length ck, .slice pl l.length cl], .agg #[.int .i64 k, .int .i64 i, .string t, .slice pk2 ks.length ck2, .slice pl2 l.length cl2]] W fun x w' => x = .returned (.bool true) ∧ Below W.heap.size W w') := fun W hW => (sames 12 W O ⟨k, i, t, ks, l⟩ ⟨k, i, t, ks, l⟩ k i t pk pl ks.length ck l.length cl k i t pk2 pl2 ks.length ck2 l.length cl2 (hOA W hW) hg hz.cont (h1.below hO (below_in hbA hW)).cont (h2.below hO (below_in hbA hW)).cont).mono (by rintro x w' ⟨⟨b, rfl, hb⟩, hb2⟩; exact ⟨by rw [hb.2 rfl], hb2⟩)
 have HBA : Hid (Below w.heap.size w WA) := hbA
 simp only [valE, cellsE, J.kind, J.int, J.text, J.keys, J.list, List.length_nil] at T1 ⊢
 rw [hWA] at T1
 have HWA : Hid (WA = (w.alloc (.cells #[.string room, .string typ, .string sender, .bool st, .string key, .int .i64 k, .int .i64 i, .string t, .slice pk ks.length ck, .slice pl l.length cl, .slice pp prev.length cp, .slice pa auth.length ca, .int .i64 depth, .int .i64 ts, .string hash, .slice ps 0 cs] 28)).alloc (.cells #[.string room, .string typ, .string sender, .bool st, .string key, .int .i64 k, .int .i64 i, .string t, .slice pk2 ks.length ck2, .slice pl2 l.length cl2, .slice pp2 prev.length cp2, .slice pa2 auth.length ca2, .int .i64 depth, .int .i64 ts, .string hash, .slice ps2 0 cs2] 28)) := hWA
 clear hWA hxA hxB hbA hsA hOA h1 h2 hz hg hO
 go_enter Tryz.func19, Tryz.ntmps19
 go_wp2_with (first
  | (go_at_call 12; refine T3.mono ?_; rintro x w3 ⟨rfl, hb3⟩
     have g3 := below_in g2 hb3)
  | (go_at_call 38; have _g := T2; refine T2.mono ?_; rintro x w2 ⟨rfl, hb2⟩
     have g2 := below_in g1 hb2
     have T3 := S3.out w2 g2
     clear T2
     have u2 := HC.out w2 g2
     have a2_15 := u2.1 15 _ rfl; have b2_15 := u2.2 15 _ rfl; have a2_5 := u2.1 5 _ rfl; have b2_5 := u2.2 5 _ rfl; have a2_6 := u2.1 6 _ rfl; have b2_6 := u2.2 6 _ rfl; have a2_7 := u2.1 7 _ rfl; have b2_7 := u2.2 7 _ rfl; have a2_8 := u2.1 8 _ rfl; have b2_8 := u2.2 8 _ rfl; have a2_9 := u2.1 9 _ rfl; have b2_9 := u2.2 9 _ rfl
     clear u2)
  | (go_at_call 38; refine T1.mono ?_; rintro x w1 ⟨rfl, hb1⟩
     rw [← HWA.out] at hb1
     have g1 := hb1
     have T2 := S2.out w1 g1
     have u1 := HC.out w1 g1
     have a1_11 := u1.1 11 _ rfl; have b1_11 := u1.2 11 _ rfl
     clear u1))
 go_loopw [5] (fun v wr => v = .int .i64 0 ∧ Below WA.heap.size WA wr) (fun _ _ => 0)
 case atStart => exact ⟨rfl, g3⟩
 case round =>
  obtain ⟨rfl, gr⟩ := hrel
  have ur := (HC.out wr gr).1 15 _ rfl
  go_wp2
  go_ret
  exact ⟨rfl, below_in HBA.out gr⟩
end Go.Proofs.YtegcgbjjpgjnmaaGreatDoor
namespace Go.Proofs.YtegcgbjjpgjnmaaGreatDoor
open Go.RowKit Go.Maps
def sRoom : ByteArray := ⟨#[33, 114, 58, 115, 49]⟩
def sType : ByteArray := ⟨#[109, 46, 114, 111, 111, 109, 46, 109, 101, 115, 115, 97, 103, 101]⟩
def sSender : ByteArray := ⟨#[64, 97, 110, 110, 58, 115, 49]⟩
def sTok : ByteArray := ⟨#[65, 65, 65, 65, 65, 65, 65, 65, 65, 65, 69]⟩
def sampleE : Ev := ⟨sRoom, sType, sSender, false, nix, .mk 5 0 nix [] [], [], [], 0, 0, nix, []⟩
def sampleF : Ev := ⟨sRoom, sType, sSender, false, ⟨#[107]⟩, .mk 5 0 nix [] [], [], [], 0, 0, nix, []⟩
def sampleG : Ev := ⟨sRoom, sType, sSender, false, nix, .mk 5 0 nix [] [], [], [], 0, 0, nix, [(⟨#[98]⟩, sTok), (⟨#[97]⟩, sTok)]⟩
def sampleH : Ev := ⟨sRoom, sType, sSender, false, nix, .mk 0 0 nix [] [], [], [], 0, 0, nix, []⟩
theorem shape_E : shapeE sampleE = 0 := by kernel_rfl
theorem shape_F : shapeE sampleF = 50 := by kernel_rfl
theorem shape_G : shapeE sampleG = 50 := by kernel_rfl
theorem shape_H : shapeE sampleH = 50 := by kernel_rfl
theorem shaped_E : shapedE sampleE = true := by kernel_rfl
theorem len_E : (encB sampleE).length ≤ 16384 := of_decide_eq_true (by kernel_rfl)
theorem from_E : fromE (ord (toldJ sampleE)) = (sampleE, 0) := by kernel_rfl
theorem keys_E : (ordT (ord (toldJ sampleE))).keys.length ≤ 80000 := of_decide_eq_true (by kernel_rfl)
theorem sz_sample (key : ByteArray) (hk : key.size ≤ 1000000000) (sg : List (ByteArray × ByteArray)) (h1 : sg.length ≤ 100000) (h2 : ∀ x ∈ sg, x.1.size ≤ 1000000000 ∧ x.2.size ≤ 1000000000) (c : J) (hc : szJ 12 c = true) : SzE ⟨sRoom, sType, sSender, false, key, c, [], [], 0, 0, nix, sg⟩ :=
 ⟨(by decide : sRoom.size ≤ 1000000000), (by decide : sType.size ≤ 1000000000), (by decide : sSender.size ≤ 1000000000), hk, (by decide : nix.size ≤ 1000000000), hc, (by decide : ([] : List ByteArray).length ≤ 100000), fun x hx => (by cases hx), (by decide : ([] : List ByteArray).length ≤ 100000), fun x hx => (by cases hx), h1, h2⟩
theorem from_no {O : Nat → Prop} {w : World} {j : J} {k i : Int} {t : ByteArray} {pk pl : Option Addr} {nk ck nl cl : Nat} (hO : ∀ x, O x → x < w.heap.size) (hj : isJ O w j [.int .i64 k, .int .i64 i, .string t, .slice pk nk ck, .slice pl nl cl]) (hs : szJ 12 j = true) (hn : (ordT j).keys.length ≤ 80000) (hT : Tabs w) (hr : readOk (ordT j) = false) :
    Calls Tryz.prog 17 #[.agg #[.int .i64 k, .int .i64 i, .string t, .slice pk nk ck, .slice pl nl cl]] w fun x w' => (∃ p, x = .returned (.tuple #[valE (fromE (ordT j)).1 p, .int .i64 (fromE (ordT j)).2]) ∧ IsE (fun q => O q ∨ New w w' q) w' (fromE (ordT j)).1 p) ∧ Below w.heap.size w w' := by
 have hN := ordT_neat hs
 have hSz := neat_read hN.1 hN.2
 have HF : Hid (fromE (ordT j) = (Ev.zero, 50)) := by
  show _ = _
  unfold fromE
  rw [hr, if_neg (by decide)]
 obtain ⟨J1, hJ1⟩ : ∃ J1, ordT j = J1 := ⟨_, rfl⟩
 obtain ⟨WB, hWB⟩ : ∃ WB, WB = (w.alloc (.cells #[.int .i64 k, .int .i64 i, .string t, .slice pk nk ck, .slice pl nl cl] 25)).alloc (.cells #[.string ⟨#[]⟩, .string ⟨#[]⟩, .string ⟨#[]⟩, .bool false, .string ⟨#[]⟩, .int .i64 0, .int .i64 0, .string ⟨#[]⟩, .slice none 0 0, .slice none 0 0, .slice none 0 0, .slice none 0 0, .int .i64 0, .int .i64 0, .string ⟨#[]⟩, .slice none 0 0] 28) := ⟨_, rfl⟩
 have hbw : Below w.heap.size w WB := by rw [hWB]; exact ((Below.refl _ _).alloc (Nat.le_refl _) _).alloc (by simp) _
 have hrs : WB.heap[w.heap.size + 1]? = some (.cells #[.string ⟨#[]⟩, .string ⟨#[]⟩, .string ⟨#[]⟩, .bool false, .string ⟨#[]⟩, .int .i64 0, .int .i64 0, .string ⟨#[]⟩, .slice none 0 0, .slice none 0 0, .slice none 0 0, .slice none 0 0, .int .i64 0, .int .i64 0, .string ⟨#[]⟩, .slice none 0 0] 28 (0, 0)) := by rw [hWB]; exact two_at _ _
 have hsB1 : w.heap.size + 2 ≤ WB.heap.size := by rw [hWB]; simp
 have hOr := order_new (w := WB) (O := O) (fun x hx => Nat.lt_of_lt_of_le (hO x hx) hbw.size) hs (hj.carry fun x hx => ⟨hx, hbw.block x (hO x hx)⟩)
 rw [hJ1] at hOr hN hSz hr hn HF ⊢
 have HTB : Hid (Tabs w) := hT
 have HBW : Hid (Below w.heap.size w WB) := hbw
 have HRd : Hid (∀ W k i t pk nk ck pl nl cl, Below WB.heap.size WB W → isJ (fun b => O b ∨ New WB W b) W J1 [.int .i64 k, .int .i64 i, .string t, .slice pk nk ck, .slice pl nl cl] → Calls Tryz.prog 34 #[.agg #[.int .i64 k, .int .i64 i, .string t, .slice pk nk ck, .slice pl nl cl]] W fun x w' => (∃ p, x = .returned (.tuple #[valE (readE J1) p, .bool (readOk J1)]) ∧ IsE (fun q => (O q ∨ New WB W q) ∨ New W w' q) w' (readE J1) p) ∧ Below W.heap.size W w') := fun W k i t pk nk ck pl nl cl hb h => read_any (fun x hx => hx.elim (fun hx => Nat.lt_of_lt_of_le (hO x hx) (Nat.le_trans hbw.size hb.size)) fun hx => hx.2) h hN.1 hN.2 hn
 have HSh : Hid (∀ W p, IsE (fun q => q < W.heap.size) W (readE J1) p → Below w.heap.size w W → Calls Tryz.prog 10 #[valE (readE J1) p] W fun x w' => x = .returned (.int .i64 (shapeE (readE J1))) ∧ Below W.heap.size W w') := fun W p h hb => eShape_any _ p W h (fun _ h => h) hSz (hT.below hb)
 obtain ⟨E1, hE1⟩ : ∃ E1, readE J1 = E1 := ⟨_, rfl⟩
 rw [hE1] at HRd HSh
 rw [hr] at HRd
 have HO : Hid (∀ k, O k → k < w.heap.size) := hO
 clear hj hs hN hSz hT hO hbw hJ1 hE1 hr hn
 rw [hWB] at hOr
 have HWB : Hid (WB = (w.alloc (.cells #[.int .i64 k, .int .i64 i, .string t, .slice pk nk ck, .slice pl nl cl] 25)).alloc (.cells #[.string ⟨#[]⟩, .string ⟨#[]⟩, .string ⟨#[]⟩, .bool false, .string ⟨#[]⟩, .int .i64 0, .int .i64 0, .string ⟨#[]⟩, .slice none 0 0, .slice none 0 0, .slice none 0 0, .slice none 0 0, .int .i64 0, .int .i64 0, .string ⟨#[]⟩, .slice none 0 0] 28)) := hWB
 clear hWB
 go_enter Tryz.func17, Tryz.ntmps17
 go_wp2_with (first
  | (go_at_call 10; refine hSh.mono ?_; rintro x w4 ⟨rfl, hb4⟩
     have hrs4 := (hb4.block (w.heap.size + 1) (by omega) ).trans hrs3
     have hev4 := (hb4.block w2.heap.size (by simp)).trans hev
     have lc := six_all hev4
     have ic := six_all hrs4; have zc := six_fz hrs4)
  | (go_at_call 34; refine hRd.mono ?_; rintro x w2 ⟨⟨p2, rfl, hI2⟩, hb2⟩
     obtain ⟨a0, a1, a2, b3, a4, n5, n6, a7, p8, n8, c8, p9, n9, c9, p10, n10, c10, p11, n11, c11, n12, n13, a14, p15, n15, c15, hv⟩ := six_of E1 p2
     have HV : Hid (valE E1 p2 = .agg #[.string a0, .string a1, .string a2, .bool b3, .string a4, .int .i64 n5, .int .i64 n6, .string a7, .slice p8 n8 c8, .slice p9 n9 c9, .slice p10 n10 c10, .slice p11 n11 c11, .int .i64 n12, .int .i64 n13, .string a14, .slice p15 n15 c15]) := hv
     rw [hv]
     have hw2 := below_in HBW.out (below_in hb1 hb2)
     have s2 := (below_in hb1 hb2).size
     have hsb1 := hb1.size
     have hsb2 := hb2.size
     have hI3 := hI2.carry (O' := fun q => O q ∨ (WB.heap.size ≤ q ∧ q < (w2.alloc (.cells #[.string a0, .string a1, .string a2, .bool b3, .string a4, .int .i64 n5, .int .i64 n6, .string a7, .slice p8 n8 c8, .slice p9 n9 c9, .slice p10 n10 c10, .slice p11 n11 c11, .int .i64 n12, .int .i64 n13, .string a14, .slice p15 n15 c15] 28)).heap.size)) (w' := w2.alloc (.cells #[.string a0, .string a1, .string a2, .bool b3, .string a4, .int .i64 n5, .int .i64 n6, .string a7, .slice p8 n8 c8, .slice p9 n9 c9, .slice p10 n10 c10, .slice p11 n11 c11, .int .i64 n12, .int .i64 n13, .string a14, .slice p15 n15 c15] 28)) fun q hq => by
      have hlt : q < w2.heap.size ∧ (O q ∨ WB.heap.size ≤ q) := by
       rcases hq with (h | h) | h
       · exact ⟨by have := HO.out q h; omega, .inl h⟩
       · exact ⟨by have := h.2; omega, .inr h.1⟩
       · exact ⟨h.2, .inr (by have := h.1; omega)⟩
      exact ⟨hlt.2.elim .inl fun h => .inr ⟨h, by simp; omega⟩, Below.heap_alloc _ _ _ hlt.1⟩
     have hb3 : Below w.heap.size w (w2.alloc (.cells #[.string a0, .string a1, .string a2, .bool b3, .string a4, .int .i64 n5, .int .i64 n6, .string a7, .slice p8 n8 c8, .slice p9 n9 c9, .slice p10 n10 c10, .slice p11 n11 c11, .int .i64 n12, .int .i64 n13, .string a14, .slice p15 n15 c15] 28)) := hw2.alloc hw2.size _
     have hSh := HSh.out _ _ (hI3.carry fun q hq => ⟨hq.elim (fun h => by have := HO.out q h; simp; omega) fun h => h.2, rfl⟩) hb3
     have hev := heap_alloc_new w2 (.cells #[.string a0, .string a1, .string a2, .bool b3, .string a4, .int .i64 n5, .int .i64 n6, .string a7, .slice p8 n8 c8, .slice p9 n9 c9, .slice p10 n10 c10, .slice p11 n11 c11, .int .i64 n12, .int .i64 n13, .string a14, .slice p15 n15 c15] 28)
     have hrs3 := ((below_in hb1 hb2).alloc (Nat.le_trans (Nat.le_refl _) s2) (.cells #[.string a0, .string a1, .string a2, .bool b3, .string a4, .int .i64 n5, .int .i64 n6, .string a7, .slice p8 n8 c8, .slice p9 n9 c9, .slice p10 n10 c10, .slice p11 n11 c11, .int .i64 n12, .int .i64 n13, .string a14, .slice p15 n15 c15] 28)).block (w.heap.size + 1) (by omega) |>.trans hrs
     have hsz3 : w.heap.size + 2 ≤ (w2.alloc (.cells #[.string a0, .string a1, .string a2, .bool b3, .string a4, .int .i64 n5, .int .i64 n6, .string a7, .slice p8 n8 c8, .slice p9 n9 c9, .slice p10 n10 c10, .slice p11 n11 c11, .int .i64 n12, .int .i64 n13, .string a14, .slice p15 n15 c15] 28)).heap.size := by simp; omega
     rw [hv] at hSh
     clear hv
     have ic := six_all hrs3; have zc := six_fz hrs3)
  | (go_at_call 32; refine hOr.mono ?_; rintro x w1 ⟨⟨kr, ir, tr, pr, nr, cr, qr, mr, dr, rfl, hj1⟩, hb1⟩
     rw [← HWB.out] at hb1
     have hRd := HRd.out w1 kr ir tr pr nr cr qr mr dr hb1 (by rw [← HWB.out] at hj1; exact hj1)))
 have h16 := set16_heap hrs3 (.string ⟨#[]⟩) (.string ⟨#[]⟩) (.string ⟨#[]⟩) (.bool false) (.string ⟨#[]⟩) (.int .i64 0) (.int .i64 0) (.string ⟨#[]⟩) (.slice none 0 0) (.slice none 0 0) (.slice none 0 0) (.slice none 0 0) (.int .i64 0) (.int .i64 0) (.string ⟨#[]⟩) (.slice none 0 0)
 have HK16 : Keep (One (w.heap.size + 1)) _ _ := set16_keep (w2.alloc (.cells #[.string a0, .string a1, .string a2, .bool b3, .string a4, .int .i64 n5, .int .i64 n6, .string a7, .slice p8 n8 c8, .slice p9 n9 c9, .slice p10 n10 c10, .slice p11 n11 c11, .int .i64 n12, .int .i64 n13, .string a14, .slice p15 n15 c15] 28)) (w.heap.size + 1) (.string ⟨#[]⟩) (.string ⟨#[]⟩) (.string ⟨#[]⟩) (.bool false) (.string ⟨#[]⟩) (.int .i64 0) (.int .i64 0) (.string ⟨#[]⟩) (.slice none 0 0) (.slice none 0 0) (.slice none 0 0) (.slice none 0 0) (.int .i64 0) (.int .i64 0) (.string ⟨#[]⟩) (.slice none 0 0)
 obtain ⟨WE, hWE⟩ : ∃ WE, WE = set16 (w2.alloc (.cells #[.string a0, .string a1, .string a2, .bool b3, .string a4, .int .i64 n5, .int .i64 n6, .string a7, .slice p8 n8 c8, .slice p9 n9 c9, .slice p10 n10 c10, .slice p11 n11 c11, .int .i64 n12, .int .i64 n13, .string a14, .slice p15 n15 c15] 28)) (w.heap.size + 1) (.string ⟨#[]⟩) (.string ⟨#[]⟩) (.string ⟨#[]⟩) (.bool false) (.string ⟨#[]⟩) (.int .i64 0) (.int .i64 0) (.string ⟨#[]⟩) (.slice none 0 0) (.slice none 0 0) (.slice none 0 0) (.slice none 0 0) (.int .i64 0) (.int .i64 0) (.string ⟨#[]⟩) (.slice none 0 0) := ⟨_, rfl⟩
 rw [← hWE] at h16 HK16
 unfold set16 at hWE
 rw [← hWE]
 clear hWE
 refine bodyPost_ret (results_cell_tmp rfl _ _ _ rfl (loadE h16)) rfl ?_
 have hwF : Below w.heap.size w (w2.alloc (.cells #[.string a0, .string a1, .string a2, .bool b3, .string a4, .int .i64 n5, .int .i64 n6, .string a7, .slice p8 n8 c8, .slice p9 n9 c9, .slice p10 n10 c10, .slice p11 n11 c11, .int .i64 n12, .int .i64 n13, .string a14, .slice p15 n15 c15] 28)) := hb3
 have hszF := hwF.size
 have hbE : Below w.heap.size w WE := hwF.trans (HK16.below (by omega) fun q hq => by unfold One; omega)
 rw [HF.out]
 exact ⟨⟨Pt.zero, rfl, isE_zero _ _⟩, hbE⟩
theorem from_bad {O : Nat → Prop} {w : World} {j : J} {k i : Int} {t : ByteArray} {pk pl : Option Addr} {nk ck nl cl : Nat} (hO : ∀ x, O x → x < w.heap.size) (hj : isJ O w j [.int .i64 k, .int .i64 i, .string t, .slice pk nk ck, .slice pl nl cl]) (hs : szJ 12 j = true) (hn : (ordT j).keys.length ≤ 80000) (hT : Tabs w) (hr : readOk (ordT j) = true) (hx : shapeE (readE (ordT j)) ≠ 0) :
    Calls Tryz.prog 17 #[.agg #[.int .i64 k, .int .i64 i, .string t, .slice pk nk ck, .slice pl nl cl]] w fun x w' => (∃ p, x = .returned (.tuple #[valE (fromE (ordT j)).1 p, .int .i64 (fromE (ordT j)).2]) ∧ IsE (fun q => O q ∨ New w w' q) w' (fromE (ordT j)).1 p) ∧ Below w.heap.size w w' := by
 have hN := ordT_neat hs
 have hSz := neat_read hN.1 hN.2
 have HF : Hid (fromE (ordT j) = (Ev.zero, shapeE (readE (ordT j)))) := by
  show _ = _
  unfold fromE
  rw [if_pos hr, if_neg hx]
 obtain ⟨J1, hJ1⟩ : ∃ J1, ordT j = J1 := ⟨_, rfl⟩
 obtain ⟨WB, hWB⟩ : ∃ WB, WB = (w.alloc (.cells #[.int .i64 k, .int .i64 i, .string t, .slice pk nk ck, .slice pl nl cl] 25)).alloc (.cells #[.string ⟨#[]⟩, .string ⟨#[]⟩, .string ⟨#[]⟩, .bool false, .string ⟨#[]⟩, .int .i64 0, .int .i64 0, .string ⟨#[]⟩, .slice none 0 0, .slice none 0 0, .slice none 0 0, .slice none 0 0, .int .i64 0, .int .i64 0, .string ⟨#[]⟩, .slice none 0 0] 28) := ⟨_, rfl⟩
 have hbw : Below w.heap.size w WB := by rw [hWB]; exact ((Below.refl _ _).alloc (Nat.le_refl _) _).alloc (by simp) _
 have hrs : WB.heap[w.heap.size + 1]? = some (.cells #[.string ⟨#[]⟩, .string ⟨#[]⟩, .string ⟨#[]⟩, .bool false, .string ⟨#[]⟩, .int .i64 0, .int .i64 0, .string ⟨#[]⟩, .slice none 0 0, .slice none 0 0, .slice none 0 0, .slice none 0 0, .int .i64 0, .int .i64 0, .string ⟨#[]⟩, .slice none 0 0] 28 (0, 0)) := by rw [hWB]; exact two_at _ _
 have hsB1 : w.heap.size + 2 ≤ WB.heap.size := by rw [hWB]; simp
 have hOr := order_new (w := WB) (O := O) (fun x hx => Nat.lt_of_lt_of_le (hO x hx) hbw.size) hs (hj.carry fun x hx => ⟨hx, hbw.block x (hO x hx)⟩)
 rw [hJ1] at hOr hN hSz hr hn HF ⊢
 rw [hJ1] at hx
 have HTB : Hid (Tabs w) := hT
 have HBW : Hid (Below w.heap.size w WB) := hbw
 have HRd : Hid (∀ W k i t pk nk ck pl nl cl, Below WB.heap.size WB W → isJ (fun b => O b ∨ New WB W b) W J1 [.int .i64 k, .int .i64 i, .string t, .slice pk nk ck, .slice pl nl cl] → Calls Tryz.prog 34 #[.agg #[.int .i64 k, .int .i64 i, .string t, .slice pk nk ck, .slice pl nl cl]] W fun x w' => (∃ p, x = .returned (.tuple #[valE (readE J1) p, .bool (readOk J1)]) ∧ IsE (fun q => (O q ∨ New WB W q) ∨ New W w' q) w' (readE J1) p) ∧ Below W.heap.size W w') := fun W k i t pk nk ck pl nl cl hb h => read_any (fun x hx => hx.elim (fun hx => Nat.lt_of_lt_of_le (hO x hx) (Nat.le_trans hbw.size hb.size)) fun hx => hx.2) h hN.1 hN.2 hn
 have HSh : Hid (∀ W p, IsE (fun q => q < W.heap.size) W (readE J1) p → Below w.heap.size w W → Calls Tryz.prog 10 #[valE (readE J1) p] W fun x w' => x = .returned (.int .i64 (shapeE (readE J1))) ∧ Below W.heap.size W w') := fun W p h hb => eShape_any _ p W h (fun _ h => h) hSz (hT.below hb)
 obtain ⟨E1, hE1⟩ : ∃ E1, readE J1 = E1 := ⟨_, rfl⟩
 rw [hE1] at HRd HSh HF hx
 rw [hr] at HRd
 have HO : Hid (∀ k, O k → k < w.heap.size) := hO
 clear hj hs hN hSz hT hO hbw hJ1 hE1 hr hn
 rw [hWB] at hOr
 have HWB : Hid (WB = (w.alloc (.cells #[.int .i64 k, .int .i64 i, .string t, .slice pk nk ck, .slice pl nl cl] 25)).alloc (.cells #[.string ⟨#[]⟩, .string ⟨#[]⟩, .string ⟨#[]⟩, .bool false, .string ⟨#[]⟩, .int .i64 0, .int .i64 0, .string ⟨#[]⟩, .slice none 0 0, .slice none 0 0, .slice none 0 0, .slice none 0 0, .int .i64 0, .int .i64 0, .string ⟨#[]⟩, .slice none 0 0] 28)) := hWB
 clear hWB
 go_enter Tryz.func17, Tryz.ntmps17
 go_wp2_with (first
  | (go_at_call 10; refine hSh.mono ?_; rintro x w4 ⟨rfl, hb4⟩
     have hrs4 := (hb4.block (w.heap.size + 1) (by omega) ).trans hrs3
     have hev4 := (hb4.block w2.heap.size (by simp)).trans hev
     have lc := six_all hev4
     have ic := six_all hrs4; have zc := six_fz hrs4)
  | (go_at_call 34; refine hRd.mono ?_; rintro x w2 ⟨⟨p2, rfl, hI2⟩, hb2⟩
     obtain ⟨a0, a1, a2, b3, a4, n5, n6, a7, p8, n8, c8, p9, n9, c9, p10, n10, c10, p11, n11, c11, n12, n13, a14, p15, n15, c15, hv⟩ := six_of E1 p2
     have HV : Hid (valE E1 p2 = .agg #[.string a0, .string a1, .string a2, .bool b3, .string a4, .int .i64 n5, .int .i64 n6, .string a7, .slice p8 n8 c8, .slice p9 n9 c9, .slice p10 n10 c10, .slice p11 n11 c11, .int .i64 n12, .int .i64 n13, .string a14, .slice p15 n15 c15]) := hv
     rw [hv]
     have hw2 := below_in HBW.out (below_in hb1 hb2)
     have s2 := (below_in hb1 hb2).size
     have hsb1 := hb1.size
     have hsb2 := hb2.size
     have hI3 := hI2.carry (O' := fun q => O q ∨ (WB.heap.size ≤ q ∧ q < (w2.alloc (.cells #[.string a0, .string a1, .string a2, .bool b3, .string a4, .int .i64 n5, .int .i64 n6, .string a7, .slice p8 n8 c8, .slice p9 n9 c9, .slice p10 n10 c10, .slice p11 n11 c11, .int .i64 n12, .int .i64 n13, .string a14, .slice p15 n15 c15] 28)).heap.size)) (w' := w2.alloc (.cells #[.string a0, .string a1, .string a2, .bool b3, .string a4, .int .i64 n5, .int .i64 n6, .string a7, .slice p8 n8 c8, .slice p9 n9 c9, .slice p10 n10 c10, .slice p11 n11 c11, .int .i64 n12, .int .i64 n13, .string a14, .slice p15 n15 c15] 28)) fun q hq => by
      have hlt : q < w2.heap.size ∧ (O q ∨ WB.heap.size ≤ q) := by
       rcases hq with (h | h) | h
       · exact ⟨by have := HO.out q h; omega, .inl h⟩
       · exact ⟨by have := h.2; omega, .inr h.1⟩
       · exact ⟨h.2, .inr (by have := h.1; omega)⟩
      exact ⟨hlt.2.elim .inl fun h => .inr ⟨h, by simp; omega⟩, Below.heap_alloc _ _ _ hlt.1⟩
     have hb3 : Below w.heap.size w (w2.alloc (.cells #[.string a0, .string a1, .string a2, .bool b3, .string a4, .int .i64 n5, .int .i64 n6, .string a7, .slice p8 n8 c8, .slice p9 n9 c9, .slice p10 n10 c10, .slice p11 n11 c11, .int .i64 n12, .int .i64 n13, .string a14, .slice p15 n15 c15] 28)) := hw2.alloc hw2.size _
     have hSh := HSh.out _ _ (hI3.carry fun q hq => ⟨hq.elim (fun h => by have := HO.out q h; simp; omega) fun h => h.2, rfl⟩) hb3
     have hev := heap_alloc_new w2 (.cells #[.string a0, .string a1, .string a2, .bool b3, .string a4, .int .i64 n5, .int .i64 n6, .string a7, .slice p8 n8 c8, .slice p9 n9 c9, .slice p10 n10 c10, .slice p11 n11 c11, .int .i64 n12, .int .i64 n13, .string a14, .slice p15 n15 c15] 28)
     have hrs3 := ((below_in hb1 hb2).alloc (Nat.le_trans (Nat.le_refl _) s2) (.cells #[.string a0, .string a1, .string a2, .bool b3, .string a4, .int .i64 n5, .int .i64 n6, .string a7, .slice p8 n8 c8, .slice p9 n9 c9, .slice p10 n10 c10, .slice p11 n11 c11, .int .i64 n12, .int .i64 n13, .string a14, .slice p15 n15 c15] 28)).block (w.heap.size + 1) (by omega) |>.trans hrs
     have hsz3 : w.heap.size + 2 ≤ (w2.alloc (.cells #[.string a0, .string a1, .string a2, .bool b3, .string a4, .int .i64 n5, .int .i64 n6, .string a7, .slice p8 n8 c8, .slice p9 n9 c9, .slice p10 n10 c10, .slice p11 n11 c11, .int .i64 n12, .int .i64 n13, .string a14, .slice p15 n15 c15] 28)).heap.size := by simp; omega
     rw [hv] at hSh
     clear hv
     skip)
  | (go_at_call 32; refine hOr.mono ?_; rintro x w1 ⟨⟨kr, ir, tr, pr, nr, cr, qr, mr, dr, rfl, hj1⟩, hb1⟩
     rw [← HWB.out] at hb1
     have hRd := HRd.out w1 kr ir tr pr nr cr qr mr dr hb1 (by rw [← HWB.out] at hj1; exact hj1)))
 have h16 := set16_heap hrs4 (.string ⟨#[]⟩) (.string ⟨#[]⟩) (.string ⟨#[]⟩) (.bool false) (.string ⟨#[]⟩) (.int .i64 0) (.int .i64 0) (.string ⟨#[]⟩) (.slice none 0 0) (.slice none 0 0) (.slice none 0 0) (.slice none 0 0) (.int .i64 0) (.int .i64 0) (.string ⟨#[]⟩) (.slice none 0 0)
 have HK16 : Keep (One (w.heap.size + 1)) _ _ := set16_keep w4 (w.heap.size + 1) (.string ⟨#[]⟩) (.string ⟨#[]⟩) (.string ⟨#[]⟩) (.bool false) (.string ⟨#[]⟩) (.int .i64 0) (.int .i64 0) (.string ⟨#[]⟩) (.slice none 0 0) (.slice none 0 0) (.slice none 0 0) (.slice none 0 0) (.int .i64 0) (.int .i64 0) (.string ⟨#[]⟩) (.slice none 0 0)
 obtain ⟨WE, hWE⟩ : ∃ WE, WE = set16 w4 (w.heap.size + 1) (.string ⟨#[]⟩) (.string ⟨#[]⟩) (.string ⟨#[]⟩) (.bool false) (.string ⟨#[]⟩) (.int .i64 0) (.int .i64 0) (.string ⟨#[]⟩) (.slice none 0 0) (.slice none 0 0) (.slice none 0 0) (.slice none 0 0) (.int .i64 0) (.int .i64 0) (.string ⟨#[]⟩) (.slice none 0 0) := ⟨_, rfl⟩
 rw [← hWE] at h16 HK16
 unfold set16 at hWE
 rw [← hWE]
 clear hWE
 refine bodyPost_ret (results_cell_tmp rfl _ _ _ rfl (loadE h16)) rfl ?_
 have hwF : Below w.heap.size w w4 := below_in hb3 hb4
 have hszF := hwF.size
 have hbE : Below w.heap.size w WE := hwF.trans (HK16.below (by omega) fun q hq => by unfold One; omega)
 rw [HF.out]
 exact ⟨⟨Pt.zero, rfl, isE_zero _ _⟩, hbE⟩
theorem from_ok {O : Nat → Prop} {w : World} {j : J} {k i : Int} {t : ByteArray} {pk pl : Option Addr} {nk ck nl cl : Nat} (hO : ∀ x, O x → x < w.heap.size) (hj : isJ O w j [.int .i64 k, .int .i64 i, .string t, .slice pk nk ck, .slice pl nl cl]) (hs : szJ 12 j = true) (hn : (ordT j).keys.length ≤ 80000) (hT : Tabs w) (hr : readOk (ordT j) = true) (hx : shapeE (readE (ordT j)) = 0) :
    Calls Tryz.prog 17 #[.agg #[.int .i64 k, .int .i64 i, .string t, .slice pk nk ck, .slice pl nl cl]] w fun x w' => (∃ p, x = .returned (.tuple #[valE (fromE (ordT j)).1 p, .int .i64 (fromE (ordT j)).2]) ∧ IsE (fun q => O q ∨ New w w' q) w' (fromE (ordT j)).1 p) ∧ Below w.heap.size w w' := by
 have hN := ordT_neat hs
 have hSz := neat_read hN.1 hN.2
 have HF : Hid (fromE (ordT j) = (readE (ordT j), 0)) := by
  show _ = _
  unfold fromE
  rw [if_pos hr, if_pos hx]
 obtain ⟨J1, hJ1⟩ : ∃ J1, ordT j = J1 := ⟨_, rfl⟩
 obtain ⟨WB, hWB⟩ : ∃ WB, WB = (w.alloc (.cells #[.int .i64 k, .int .i64 i, .string t, .slice pk nk ck, .slice pl nl cl] 25)).alloc (.cells #[.string ⟨#[]⟩, .string ⟨#[]⟩, .string ⟨#[]⟩, .bool false, .string ⟨#[]⟩, .int .i64 0, .int .i64 0, .string ⟨#[]⟩, .slice none 0 0, .slice none 0 0, .slice none 0 0, .slice none 0 0, .int .i64 0, .int .i64 0, .string ⟨#[]⟩, .slice none 0 0] 28) := ⟨_, rfl⟩
 have hbw : Below w.heap.size w WB := by rw [hWB]; exact ((Below.refl _ _).alloc (Nat.le_refl _) _).alloc (by simp) _
 have hrs : WB.heap[w.heap.size + 1]? = some (.cells #[.string ⟨#[]⟩, .string ⟨#[]⟩, .string ⟨#[]⟩, .bool false, .string ⟨#[]⟩, .int .i64 0, .int .i64 0, .string ⟨#[]⟩, .slice none 0 0, .slice none 0 0, .slice none 0 0, .slice none 0 0, .int .i64 0, .int .i64 0, .string ⟨#[]⟩, .slice none 0 0] 28 (0, 0)) := by rw [hWB]; exact two_at _ _
 have hsB1 : w.heap.size + 2 ≤ WB.heap.size := by rw [hWB]; simp
 have hOr := order_new (w := WB) (O := O) (fun x hx => Nat.lt_of_lt_of_le (hO x hx) hbw.size) hs (hj.carry fun x hx => ⟨hx, hbw.block x (hO x hx)⟩)
 rw [hJ1] at hOr hN hSz hr hn HF ⊢
 rw [hJ1] at hx
 have HTB : Hid (Tabs w) := hT
 have HBW : Hid (Below w.heap.size w WB) := hbw
 have HRd : Hid (∀ W k i t pk nk ck pl nl cl, Below WB.heap.size WB W → isJ (fun b => O b ∨ New WB W b) W J1 [.int .i64 k, .int .i64 i, .string t, .slice pk nk ck, .slice pl nl cl] → Calls Tryz.prog 34 #[.agg #[.int .i64 k, .int .i64 i, .string t, .slice pk nk ck, .slice pl nl cl]] W fun x w' => (∃ p, x = .returned (.tuple #[valE (readE J1) p, .bool (readOk J1)]) ∧ IsE (fun q => (O q ∨ New WB W q) ∨ New W w' q) w' (readE J1) p) ∧ Below W.heap.size W w') := fun W k i t pk nk ck pl nl cl hb h => read_any (fun x hx => hx.elim (fun hx => Nat.lt_of_lt_of_le (hO x hx) (Nat.le_trans hbw.size hb.size)) fun hx => hx.2) h hN.1 hN.2 hn
 have HSh : Hid (∀ W p, IsE (fun q => q < W.heap.size) W (readE J1) p → Below w.heap.size w W → Calls Tryz.prog 10 #[valE (readE J1) p] W fun x w' => x = .returned (.int .i64 (shapeE (readE J1))) ∧ Below W.heap.size W w') := fun W p h hb => eShape_any _ p W h (fun _ h => h) hSz (hT.below hb)
 obtain ⟨E1, hE1⟩ : ∃ E1, readE J1 = E1 := ⟨_, rfl⟩
 rw [hE1] at HRd HSh HF hx
 rw [hr] at HRd
 have HO : Hid (∀ k, O k → k < w.heap.size) := hO
 clear hj hs hN hSz hT hO hbw hJ1 hE1 hr hn
 rw [hWB] at hOr
 have HWB : Hid (WB = (w.alloc (.cells #[.int .i64 k, .int .i64 i, .string t, .slice pk nk ck, .slice pl nl cl] 25)).alloc (.cells #[.string ⟨#[]⟩, .string ⟨#[]⟩, .string ⟨#[]⟩, .bool false, .string ⟨#[]⟩, .int .i64 0, .int .i64 0, .string ⟨#[]⟩, .slice none 0 0, .slice none 0 0, .slice none 0 0, .slice none 0 0, .int .i64 0, .int .i64 0, .string ⟨#[]⟩, .slice none 0 0] 28)) := hWB
 clear hWB
 go_enter Tryz.func17, Tryz.ntmps17
 go_wp2_with (first
  | (go_at_call 10; refine hSh.mono ?_; rintro x w4 ⟨rfl, hb4⟩
     have hrs4 := (hb4.block (w.heap.size + 1) (by omega) ).trans hrs3
     have hev4 := (hb4.block w2.heap.size (by simp)).trans hev
     have lc := six_all hev4
     have ic := six_all hrs4; have zc := six_fz hrs4)
  | (go_at_call 34; refine hRd.mono ?_; rintro x w2 ⟨⟨p2, rfl, hI2⟩, hb2⟩
     obtain ⟨a0, a1, a2, b3, a4, n5, n6, a7, p8, n8, c8, p9, n9, c9, p10, n10, c10, p11, n11, c11, n12, n13, a14, p15, n15, c15, hv⟩ := six_of E1 p2
     have HV : Hid (valE E1 p2 = .agg #[.string a0, .string a1, .string a2, .bool b3, .string a4, .int .i64 n5, .int .i64 n6, .string a7, .slice p8 n8 c8, .slice p9 n9 c9, .slice p10 n10 c10, .slice p11 n11 c11, .int .i64 n12, .int .i64 n13, .string a14, .slice p15 n15 c15]) := hv
     rw [hv]
     have hw2 := below_in HBW.out (below_in hb1 hb2)
     have s2 := (below_in hb1 hb2).size
     have hsb1 := hb1.size
     have hsb2 := hb2.size
     have hI3 := hI2.carry (O' := fun q => O q ∨ (WB.heap.size ≤ q ∧ q < (w2.alloc (.cells #[.string a0, .string a1, .string a2, .bool b3, .string a4, .int .i64 n5, .int .i64 n6, .string a7, .slice p8 n8 c8, .slice p9 n9 c9, .slice p10 n10 c10, .slice p11 n11 c11, .int .i64 n12, .int .i64 n13, .string a14, .slice p15 n15 c15] 28)).heap.size)) (w' := w2.alloc (.cells #[.string a0, .string a1, .string a2, .bool b3, .string a4, .int .i64 n5, .int .i64 n6, .string a7, .slice p8 n8 c8, .slice p9 n9 c9, .slice p10 n10 c10, .slice p11 n11 c11, .int .i64 n12, .int .i64 n13, .string a14, .slice p15 n15 c15] 28)) fun q hq => by
      have hlt : q < w2.heap.size ∧ (O q ∨ WB.heap.size ≤ q) := by
       rcases hq with (h | h) | h
       · exact ⟨by have := HO.out q h; omega, .inl h⟩
       · exact ⟨by have := h.2; omega, .inr h.1⟩
       · exact ⟨h.2, .inr (by have := h.1; omega)⟩
      exact ⟨hlt.2.elim .inl fun h => .inr ⟨h, by simp; omega⟩, Below.heap_alloc _ _ _ hlt.1⟩
     have hb3 : Below w.heap.size w (w2.alloc (.cells #[.string a0, .string a1, .string a2, .bool b3, .string a4, .int .i64 n5, .int .i64 n6, .string a7, .slice p8 n8 c8, .slice p9 n9 c9, .slice p10 n10 c10, .slice p11 n11 c11, .int .i64 n12, .int .i64 n13, .string a14, .slice p15 n15 c15] 28)) := hw2.alloc hw2.size _
     have hSh := HSh.out _ _ (hI3.carry fun q hq => ⟨hq.elim (fun h => by have := HO.out q h; simp; omega) fun h => h.2, rfl⟩) hb3
     have hev := heap_alloc_new w2 (.cells #[.string a0, .string a1, .string a2, .bool b3, .string a4, .int .i64 n5, .int .i64 n6, .string a7, .slice p8 n8 c8, .slice p9 n9 c9, .slice p10 n10 c10, .slice p11 n11 c11, .int .i64 n12, .int .i64 n13, .string a14, .slice p15 n15 c15] 28)
     have hrs3 := ((below_in hb1 hb2).alloc (Nat.le_trans (Nat.le_refl _) s2) (.cells #[.string a0, .string a1, .string a2, .bool b3, .string a4, .int .i64 n5, .int .i64 n6, .string a7, .slice p8 n8 c8, .slice p9 n9 c9, .slice p10 n10 c10, .slice p11 n11 c11, .int .i64 n12, .int .i64 n13, .string a14, .slice p15 n15 c15] 28)).block (w.heap.size + 1) (by omega) |>.trans hrs
     have hsz3 : w.heap.size + 2 ≤ (w2.alloc (.cells #[.string a0, .string a1, .string a2, .bool b3, .string a4, .int .i64 n5, .int .i64 n6, .string a7, .slice p8 n8 c8, .slice p9 n9 c9, .slice p10 n10 c10, .slice p11 n11 c11, .int .i64 n12, .int .i64 n13, .string a14, .slice p15 n15 c15] 28)).heap.size := by simp; omega
     rw [hv] at hSh
     clear hv
     skip)
  | (go_at_call 32; refine hOr.mono ?_; rintro x w1 ⟨⟨kr, ir, tr, pr, nr, cr, qr, mr, dr, rfl, hj1⟩, hb1⟩
     rw [← HWB.out] at hb1
     have hRd := HRd.out w1 kr ir tr pr nr cr qr mr dr hb1 (by rw [← HWB.out] at hj1; exact hj1)))
 have h16 := set16_heap hrs4 (.string a0) (.string a1) (.string a2) (.bool b3) (.string a4) (.int .i64 n5) (.int .i64 n6) (.string a7) (.slice p8 n8 c8) (.slice p9 n9 c9) (.slice p10 n10 c10) (.slice p11 n11 c11) (.int .i64 n12) (.int .i64 n13) (.string a14) (.slice p15 n15 c15)
 have HK16 : Keep (One (w.heap.size + 1)) _ _ := set16_keep w4 (w.heap.size + 1) (.string a0) (.string a1) (.string a2) (.bool b3) (.string a4) (.int .i64 n5) (.int .i64 n6) (.string a7) (.slice p8 n8 c8) (.slice p9 n9 c9) (.slice p10 n10 c10) (.slice p11 n11 c11) (.int .i64 n12) (.int .i64 n13) (.string a14) (.slice p15 n15 c15)
 obtain ⟨WE, hWE⟩ : ∃ WE, WE = set16 w4 (w.heap.size + 1) (.string a0) (.string a1) (.string a2) (.bool b3) (.string a4) (.int .i64 n5) (.int .i64 n6) (.string a7) (.slice p8 n8 c8) (.slice p9 n9 c9) (.slice p10 n10 c10) (.slice p11 n11 c11) (.int .i64 n12) (.int .i64 n13) (.string a14) (.slice p15 n15 c15) := ⟨_, rfl⟩
 rw [← hWE] at h16 HK16
 unfold set16 at hWE
 rw [← hWE]
 clear hWE
 refine bodyPost_ret (results_cell_tmp rfl _ _ _ rfl (loadE h16)) rfl ?_
 have hwF : Below w.heap.size w w4 := below_in hb3 hb4
 have hszF := hwF.size
 have hbE : Below w.heap.size w WE := hwF.trans (HK16.below (by omega) fun q hq => by unfold One; omega)
 rw [HF.out]
 refine ⟨⟨p2, by rw [HV.out]; rfl, hI3.carry fun q hq => ?_⟩, hbE⟩
 have hs4 := hb4.size
 have hse := HK16.size
 have hq3 : q < (w2.alloc (.cells #[.string a0, .string a1, .string a2, .bool b3, .string a4, .int .i64 n5, .int .i64 n6, .string a7, .slice p8 n8 c8, .slice p9 n9 c9, .slice p10 n10 c10, .slice p11 n11 c11, .int .i64 n12, .int .i64 n13, .string a14, .slice p15 n15 c15] 28)).heap.size := by rcases hq with h | h; have := HO.out q h; simp; omega; exact h.2
 refine ⟨?_, (HK16.block q (by omega) (by unfold One; rcases hq with h | h; have := HO.out q h; omega; have := h.1; omega)).trans (hb4.block q hq3)⟩
 rcases hq with h | h
 · exact .inl h
 · exact .inr ⟨by have := h.1; omega, by omega⟩
theorem fromJson_any {O : Nat → Prop} {w : World} {j : J} {k i : Int} {t : ByteArray} {pk pl : Option Addr} {nk ck nl cl : Nat} (hO : ∀ x, O x → x < w.heap.size) (hj : isJ O w j [.int .i64 k, .int .i64 i, .string t, .slice pk nk ck, .slice pl nl cl]) (hs : szJ 12 j = true) (hn : (ordT j).keys.length ≤ 80000) (hT : Tabs w) :
    Calls Tryz.prog 17 #[.agg #[.int .i64 k, .int .i64 i, .string t, .slice pk nk ck, .slice pl nl cl]] w fun x w' => (∃ p, x = .returned (.tuple #[valE (fromE (ordT j)).1 p, .int .i64 (fromE (ordT j)).2]) ∧ IsE (fun q => O q ∨ New w w' q) w' (fromE (ordT j)).1 p) ∧ Below w.heap.size w w' := by
 cases hr : readOk (ordT j) with
 | false => exact from_no hO hj hs hn hT hr
 | true =>
  by_cases hx : shapeE (readE (ordT j)) = 0
  · exact from_ok hO hj hs hn hT hr hx
  · exact from_bad hO hj hs hn hT hr hx
theorem eDecode_ok {w : World} {p : Option Addr} {c : Nat} {rs : List Int} {j : J} {q0 : Nat} (hrd : Rd w.heap.size w p c rs) (hn : rs.length ≤ 1000000) (hd : decode rs = .ok j q0) (hb : Bytes rs) (hk : (ordT j).keys.length ≤ 80000) (hT : Tabs w) :
    Calls Tryz.prog 21 #[.slice p rs.length c] w fun x w' => (∃ pt, x = .returned (.tuple #[valE (fromE (ordT j)).1 pt, .int .i64 (fromE (ordT j)).2]) ∧ IsE (New w w') w' (fromE (ordT j)).1 pt) ∧ Below w.heap.size w w' := by
 have hfit := decode_fit hb hd
 obtain ⟨WB, hWB⟩ : ∃ WB, WB = w.alloc (.cells #[.string ⟨#[]⟩, .string ⟨#[]⟩, .string ⟨#[]⟩, .bool false, .string ⟨#[]⟩, .int .i64 0, .int .i64 0, .string ⟨#[]⟩, .slice none 0 0, .slice none 0 0, .slice none 0 0, .slice none 0 0, .int .i64 0, .int .i64 0, .string ⟨#[]⟩, .slice none 0 0] 28) := ⟨_, rfl⟩
 have hbw : Below w.heap.size w WB := by rw [hWB]; exact (Below.refl _ _).alloc (Nat.le_refl _) _
 have hrs : WB.heap[w.heap.size]? = some (.cells #[.string ⟨#[]⟩, .string ⟨#[]⟩, .string ⟨#[]⟩, .bool false, .string ⟨#[]⟩, .int .i64 0, .int .i64 0, .string ⟨#[]⟩, .slice none 0 0, .slice none 0 0, .slice none 0 0, .slice none 0 0, .int .i64 0, .int .i64 0, .string ⟨#[]⟩, .slice none 0 0] 28 (0, 0)) := by rw [hWB]; exact heap_alloc_new _ _
 have hsB1 : w.heap.size + 1 ≤ WB.heap.size := by rw [hWB]; simp
 have hrB : Rd WB.heap.size WB p c rs := ⟨hrd.1, hrd.2.1, fun j hj => by
  obtain ⟨a, e1, e2, e3⟩ := hrd.2.2 j hj
  exact ⟨a, e1, by omega, (World.cell?_of_block (by rw [add_block]; exact hbw.block _ e2)).trans e3⟩⟩
 have hDe := decode_any hrB hn
 rw [hd] at hDe
 have HFr : Hid (∀ W W1 k i t pk nk ck pl nl cl, Below WB.heap.size WB W → Below W.heap.size W W1 → isJ (New WB W) W j [.int .i64 k, .int .i64 i, .string t, .slice pk nk ck, .slice pl nl cl] → Calls Tryz.prog 17 #[.agg #[.int .i64 k, .int .i64 i, .string t, .slice pk nk ck, .slice pl nl cl]] W1 fun x w' => (∃ p, x = .returned (.tuple #[valE (fromE (ordT j)).1 p, .int .i64 (fromE (ordT j)).2]) ∧ IsE (fun q => New WB W q ∨ New W1 w' q) w' (fromE (ordT j)).1 p) ∧ Below W1.heap.size W1 w') := fun W W1 k i t pk nk ck pl nl cl h1 h2 hj =>
  fromJson_any (fun x hx => Nat.lt_of_lt_of_le hx.2 h2.size) (hj.carry fun x hx => ⟨hx, h2.block x hx.2⟩) hfit.2.2 hk (hT.below (below_in hbw (below_in h1 h2)))
 obtain ⟨F, hF⟩ : ∃ F, fromE (ordT j) = F := ⟨_, rfl⟩
 rw [hF] at HFr ⊢
 obtain ⟨E1, er⟩ := F
 simp only at HFr ⊢
 have HBW : Hid (Below w.heap.size w WB) := hbw
 have HWB : Hid (WB = w.alloc (.cells #[.string ⟨#[]⟩, .string ⟨#[]⟩, .string ⟨#[]⟩, .bool false, .string ⟨#[]⟩, .int .i64 0, .int .i64 0, .string ⟨#[]⟩, .slice none 0 0, .slice none 0 0, .slice none 0 0, .slice none 0 0, .int .i64 0, .int .i64 0, .string ⟨#[]⟩, .slice none 0 0] 28)) := hWB
 rw [hWB] at hDe
 clear hF hd hb hk hT hfit hrB hrd hbw hWB
 go_enter Tryz.func21, Tryz.ntmps21
 go_wp2_with (first
  | (go_at_call 17; refine hFr.mono ?_; rintro x w4 ⟨⟨p4, rfl, hI4⟩, hb4⟩
     obtain ⟨a0, a1, a2, b3, a4, n5, n6, a7, p8, n8, c8, p9, n9, c9, p10, n10, c10, p11, n11, c11, n12, n13, a14, p15, n15, c15, hv⟩ := six_of E1 p4
     have HV : Hid (valE E1 p4 = .agg #[.string a0, .string a1, .string a2, .bool b3, .string a4, .int .i64 n5, .int .i64 n6, .string a7, .slice p8 n8 c8, .slice p9 n9 c9, .slice p10 n10 c10, .slice p11 n11 c11, .int .i64 n12, .int .i64 n13, .string a14, .slice p15 n15 c15]) := hv
     rw [hv]
     clear hv
     have hrs4 := (hb4.block w.heap.size (by simp; omega)).trans ((Below.heap_alloc w1 _ w.heap.size (by omega)).trans ((hb1.block w.heap.size (by omega)).trans hrs))
     have ic := six_all hrs4; have zc := six_fz hrs4)
  | (go_at_call 40; refine hDe.mono ?_; rintro x w1 ⟨⟨k1, i1, t1, pk1, nk1, ck1, pl1, nl1, cl1, rfl, hj1⟩, hb1⟩
     rw [← HWB.out] at hb1 hj1
     have hs1 := hb1.size
     have hFr := HFr.out w1 (w1.alloc (.cells #[.int .i64 k1, .int .i64 i1, .string t1, .slice pk1 nk1 ck1, .slice pl1 nl1 cl1] 25)) k1 i1 t1 pk1 nk1 ck1 pl1 nl1 cl1 hb1 ((Below.refl _ _).alloc (Nat.le_refl _) _) hj1))
 have h16 := set16_heap hrs4 (.string a0) (.string a1) (.string a2) (.bool b3) (.string a4) (.int .i64 n5) (.int .i64 n6) (.string a7) (.slice p8 n8 c8) (.slice p9 n9 c9) (.slice p10 n10 c10) (.slice p11 n11 c11) (.int .i64 n12) (.int .i64 n13) (.string a14) (.slice p15 n15 c15)
 have HK16 : Keep (One w.heap.size) _ _ := set16_keep w4 w.heap.size (.string a0) (.string a1) (.string a2) (.bool b3) (.string a4) (.int .i64 n5) (.int .i64 n6) (.string a7) (.slice p8 n8 c8) (.slice p9 n9 c9) (.slice p10 n10 c10) (.slice p11 n11 c11) (.int .i64 n12) (.int .i64 n13) (.string a14) (.slice p15 n15 c15)
 obtain ⟨WE, hWE⟩ : ∃ WE, WE = set16 w4 w.heap.size (.string a0) (.string a1) (.string a2) (.bool b3) (.string a4) (.int .i64 n5) (.int .i64 n6) (.string a7) (.slice p8 n8 c8) (.slice p9 n9 c9) (.slice p10 n10 c10) (.slice p11 n11 c11) (.int .i64 n12) (.int .i64 n13) (.string a14) (.slice p15 n15 c15) := ⟨_, rfl⟩
 rw [← hWE] at h16 HK16
 unfold set16 at hWE
 rw [← hWE]
 clear hWE
 refine bodyPost_ret (results_cell_tmp rfl _ _ _ rfl (loadE h16)) rfl ?_
 have hw4 : Below w.heap.size w w4 := below_in HBW.out (below_in hb1 (below_in ((Below.refl _ _).alloc (Nat.le_refl _) _) hb4))
 have hs4 := hb4.size
 simp at hs4
 have hse := HK16.size
 have hbE : Below w.heap.size w WE := hw4.trans (HK16.below hw4.size fun q hq => by unfold One; omega)
 refine ⟨⟨p4, by rw [HV.out]; rfl, hI4.carry fun q hq => ?_⟩, hbE⟩
 have hq4 : q < w4.heap.size ∧ WB.heap.size ≤ q := by
  rcases hq with h | h
  · exact ⟨by have := h.2; omega, h.1⟩
  · exact ⟨h.2, by have := h.1; simp at this; omega⟩
 exact ⟨⟨by omega, by omega⟩, HK16.block q hq4.1 (by unfold One; omega)⟩
theorem results_cell {fn : Func} {a : Tmp} {t : TypeId} (h : fn.results = #[.cell a t]) (tmps : Array Value) (P : Program) (w : World) {ad : Addr} {v : Value} (hp : tmps.getD a undef = .pointer (some ad)) (hl : (loadVar t ad).run P w = .ok v w) :
    (results fn tmps).run P w = .ok v w := by
 rw [Array.getD_eq_getD_getElem?] at hp
 simp [results, h, hp, hl, asAddr]
theorem sample_any (w : World) : Calls Tryz.prog 26 #[] w fun x w' => x = .returned (valE sampleE Pt.zero) ∧ Below w.heap.size w w' := by
 have h16 := heap_alloc_new w (.cells #[.string sRoom, .string sType, .string sSender, .bool false, .string ⟨#[]⟩, .int .i64 5, .int .i64 0, .string ⟨#[]⟩, .slice none 0 0, .slice none 0 0, .slice none 0 0, .slice none 0 0, .int .i64 0, .int .i64 0, .string ⟨#[]⟩, .slice none 0 0] 28)
 go_enter Tryz.func26, Tryz.ntmps26
 go_wp2
 refine bodyPost_ret (results_cell rfl _ _ _ rfl (loadE h16)) rfl ?_
 exact ⟨rfl, (Below.refl _ _).alloc (Nat.le_refl _) _⟩
end Go.Proofs.YtegcgbjjpgjnmaaGreatDoor

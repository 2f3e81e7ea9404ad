/-
  EventNames, by a contract.
-/
import Derived.Test.YtegcgbjjpgjnmaaGreatDoorC33
set_option maxRecDepth 100000
set_option maxHeartbeats 16000000
namespace Go.Proofs.YtegcgbjjpgjnmaaGreatDoor
open Go Go.RowKit Go.Maps
theorem loadAt5 {w : World} {b : Nat} {t : TypeId} {u0 u1 u2 u3 u4 : Value} (h : w.heap[b]? = some (.cells #[u0, u1, u2, u3, u4] t (0, 0))) : (Instr.loadAt 25 (.pointer (some ⟨b, 0, none⟩))).run Tryz.prog w = .ok (.agg #[u0, u1, u2, u3, u4]) w := by
 have k0 := five_c0 h; have k1 := five_c1 h; have k2 := five_c2 h; have k3 := five_c3 h; have k4 := five_c4 h
 simp [Instr.loadAt, go_sem, k0, k1, k2, k3, k4]
theorem wpList_load5 {w : World} {ops : Array Oper} {rest : List Oper} {o : Oper} {a : Act} {Q : Exit → Act → World → Prop} {b : Nat} {t : TypeId} {u0 u1 u2 u3 u4 : Value} (hg : Region.wanted o (yielded ops a.tmps) = true) (m : Operand) (hop : o.op = Op.load 25 m) (hm : a.eval m = .pointer (some ⟨b, 0, none⟩)) (h : w.heap[b]? = some (.cells #[u0, u1, u2, u3, u4] t (0, 0)))
    (hK : wpList Tryz.prog ops Q rest (a.put o.dst (.agg #[u0, u1, u2, u3, u4])) w) : wpList Tryz.prog ops Q (o :: rest) a w := by
 have hl := loadAt5 h
 simp only [wpList, hg, if_true]
 refine Or.inl ?_
 unfold Oper.wp
 simp [execOp, hop, hm, hl, Result.andThen]
 exact hK
theorem left_two {O : Nat → Prop} {w : World} {v : J} {vk vi : Int} {vt : ByteArray} {vpk vpl : Option Addr} {vnk vck vnl vcl : Nat} (hO : ∀ b, O b → b < w.heap.size) (hv : isJ O w v [.int .i64 vk, .int .i64 vi, .string vt, .slice vpk vnk vck, .slice vpl vnl vcl]) :
    Calls Tryz.prog 16 #[.agg #[.int .i64 vk, .int .i64 vi, .string vt, .slice vpk vnk vck, .slice vpl vnl vcl], .int .i64 300, .int .i64 20] w fun x w' => ((∃ r : Int, r < 0 ∧ -1 ≤ r ∧ x = .returned (.int .i64 r)) ∨ (∃ r : Int, 0 ≤ r ∧ r ≤ 300 ∧ x = .returned (.int .i64 r) ∧ szJ 20 v = true)) ∧ Below w.heap.size w w' := by
 refine (elefts 20 w O v vk vi 20 300 vt vpk vpl vnk vck vnl vcl hO rfl (by decide) (by decide) (by decide) hv).mono ?_
 rintro x w' ⟨⟨r, h1, h2, h3, h4⟩, hb⟩
 refine ⟨?_, hb⟩
 rcases Int.lt_or_le r 0 with h | h
 · exact .inl ⟨r, h, h3, h1⟩
 · exact .inr ⟨r, h, h2, h1, h4 h⟩
theorem sz_put {j v : J} {key : ByteArray} (hj : szJ 12 j = true) (hk : key.size ≤ 1000000000) (hv : szJ 11 v = true) (hn : j.keys.length < 100000) (hl : j.list.length < 100000) : szJ 12 (.mk 5 0 nix (j.keys ++ [key]) (j.list ++ [v])) = true := by
 obtain ⟨_, _, p3, _, p5⟩ := sz_parts hj
 unfold szJ
 simp only [Bool.and_eq_true, decide_eq_true_eq, List.all_eq_true, List.length_append, List.length_singleton]
 refine ⟨by decide, by omega, fun x hx => ?_, by omega, fun x hx => ?_⟩
 · rcases List.mem_append.1 hx with hx | hx
   · exact p3 x hx
   · rw [List.mem_singleton.1 hx]; exact hk
 · rcases List.mem_append.1 hx with hx | hx
   · exact p5 x hx
   · rw [List.mem_singleton.1 hx]; exact hv
theorem key_list : nKey.toList = [107, 101, 121] := by kernel_rfl
theorem key_no {key : ByteArray} (h : key ≠ nKey) : (key.toList == [107, 101, 121]) = false := by rw [← key_list]; exact str_ne h
theorem key_yes {key : ByteArray} (h : key = nKey) : (key.toList == [107, 101, 121]) = true := by rw [h, key_list]; rfl
theorem toJson_names {O : Nat → Prop} (e : Ev) (p : Pt) (w : World) (hE : IsE O w e p) (hO : ∀ k, O k → k < w.heap.size) (hz : SzE e) (hT : Tabs w) (hs : shapedE e = true) :
    Calls Tryz.prog 13 #[valE e p] w fun x w' => (∃ ti tt ak ck al cl n, x = .returned (.agg #[.int .i64 5, .int .i64 ti, .string tt, .slice (some ak) n ck, .slice (some al) n cl]) ∧ n ≤ 11 ∧ isJ (fun b => O b ∨ New w w' b) w' (toldJ (backE e)) [.int .i64 5, .int .i64 ti, .string tt, .slice (some ak) n ck, .slice (some al) n cl]) ∧ Below w.heap.size w w' := by
 refine (toJson_any e p w hE hO hz hT hs).mono ?_
 rintro x w' ⟨⟨kr, ir, tr, pr, nr, cr, qr, mr, dr, rfl, hj⟩, hb⟩
 rw [ord_told hs] at hj
 have hat := isJ_at hj
 have hlen : (toldJ (backE e)).keys.length = (toldJ (backE e)).list.length := by
  show ((pairsE (backE e)).map (·.1)).length = ((pairsE (backE e)).map (·.2)).length
  rw [List.length_map, List.length_map]
 have h11 : (toldJ (backE e)).keys.length ≤ 11 := by
  show ((pairsE (backE e)).map (·.1)).length ≤ 11
  rw [List.length_map]
  exact pairs_len _
 have h1 : 0 < (toldJ (backE e)).keys.length := by
  show 0 < ((pairsE (backE e)).map (·.1)).length
  rw [keys_told]
  split <;> decide
 obtain ⟨ak, rfl, _⟩ := hat.2.2.2.2.2.1.2 0 h1
 obtain ⟨b, o, cs, rfl, _⟩ := isJs.at _ 0 0 hat.2.2.2.2.2.2.2 (by rw [← hlen]; exact h1)
 have e1 : (toldJ (backE e)).kind = kr := hat.1
 have e2 := hat.2.2.2.1
 have e3 := hat.2.2.2.2.1
 obtain rfl : kr = 5 := e1.symm
 obtain rfl : nr = mr := by rw [e2, e3, hlen]
 exact ⟨⟨ir, tr, ak, cr, _, dr, nr, rfl, by rw [e2]; exact h11, hj⟩, hb⟩
theorem names_any (e : Ev) (p : Pt) (key : ByteArray) (v : J) (vk vi : Int) (vt : ByteArray) (vpk vpl : Option Addr) (vnk vck vnl vcl : Nat) (w : World) (hE : IsE (fun k => k < w.heap.size) w e p) (hv : isJ (fun k => k < w.heap.size) w v [.int .i64 vk, .int .i64 vi, .string vt, .slice vpk vnk vck, .slice vpl vnl vcl]) (hb : BigE e) (hT : Tabs w) :
    Calls Tryz.prog 7 #[valE e p, .string key, .agg #[.int .i64 vk, .int .i64 vi, .string vt, .slice vpk vnk vck, .slice vpl vnl vcl]] w fun x w' => x = .returned (.bool true) ∧ Below w.heap.size w w' := by
 obtain ⟨a0, a1, a2, b3, a4, n5, n6, a7, p8, n8, c8, p9, n9, c9, p10, n10, c10, p11, n11, c11, n12, n13, a14, p15, n15, c15, hve⟩ := six_of e p
 obtain ⟨WB, hWB⟩ : ∃ WB, WB = (w.alloc (.cells #[.string a0, .string a1, .string a2, .bool b3, .string a4, .int .i64 n5, .int .i64 n6, .string a7, .slice p8 n8 c8, .slice p9 n9 c9, .slice p10 n10 c10, .slice p11 n11 c11, .int .i64 n12, .int .i64 n13, .string a14, .slice p15 n15 c15] 28)).alloc (.cells #[.int .i64 vk, .int .i64 vi, .string vt, .slice vpk vnk vck, .slice vpl vnl vcl] 25) := ⟨_, rfl⟩
 have hbw : Below w.heap.size w WB := by rw [hWB]; exact ((Below.refl _ _).alloc (Nat.le_refl _) _).alloc (by simp) _
 have hx0 : WB.heap[w.heap.size]? = some (.cells #[.string a0, .string a1, .string a2, .bool b3, .string a4, .int .i64 n5, .int .i64 n6, .string a7, .slice p8 n8 c8, .slice p9 n9 c9, .slice p10 n10 c10, .slice p11 n11 c11, .int .i64 n12, .int .i64 n13, .string a14, .slice p15 n15 c15] 28 (0, 0)) := by rw [hWB]; exact one_of _ _
 have hy0 : WB.heap[w.heap.size + 1]? = some (.cells #[.int .i64 vk, .int .i64 vi, .string vt, .slice vpk vnk vck, .slice vpl vnl vcl] 25 (0, 0)) := by rw [hWB]; exact two_at _ _
 have hsB : w.heap.size + 1 < WB.heap.size := by rw [hWB]; simp
 have HI : Hid (∀ W, Below w.heap.size w W → IsE (fun k => k < w.heap.size) W e p) := fun W h => hE.below (fun k hk => hk) h
 have HV : Hid (∀ W, Below w.heap.size w W → isJ (fun k => k < w.heap.size) W v [.int .i64 vk, .int .i64 vi, .string vt, .slice vpk vnk vck, .slice vpl vnl vcl]) := fun W h => hv.carry fun k hk => ⟨hk, h.block k hk⟩
 have HL : Hid (∀ W, Below w.heap.size w W → ∀ k, k < w.heap.size → k < W.heap.size) := fun W h k hk => Nat.lt_of_lt_of_le hk h.size
 have HT : Hid (∀ W, Below w.heap.size w W → Tabs W) := fun W h => hT.below h
 have HBW : Hid (Below w.heap.size w WB) := hbw
 have hFew := few_two e p WB (HI.out WB hbw) (HL.out WB hbw) hb
 have HAW : Hid (∀ W, Below w.heap.size w W → Calls Tryz.prog 15 #[] W fun x w' => x = .returned (.bool true) ∧ Below W.heap.size W w') := fun W h => awake_any W (HT.out W h)
 have HSH : Hid (SzE e → ∀ W, Below w.heap.size w W → Calls Tryz.prog 10 #[valE e p] W fun x w' => ((x = .returned (.int .i64 0) ∧ shapedE e = true ∧ (encB e).length ≤ 16384) ∨ ∃ n, n ≠ 0 ∧ x = .returned (.int .i64 n)) ∧ Below W.heap.size W w') := fun hz W h => shape_two e p W (HI.out W h) (HL.out W h) hz (HT.out W h)
 have HLF : Hid (∀ W, Below w.heap.size w W → Calls Tryz.prog 16 #[.agg #[.int .i64 vk, .int .i64 vi, .string vt, .slice vpk vnk vck, .slice vpl vnl vcl], .int .i64 300, .int .i64 20] W fun x w' => ((∃ r : Int, r < 0 ∧ -1 ≤ r ∧ x = .returned (.int .i64 r)) ∨ (∃ r : Int, 0 ≤ r ∧ r ≤ 300 ∧ x = .returned (.int .i64 r) ∧ szJ 20 v = true)) ∧ Below W.heap.size W w') := fun W h => left_two (HL.out W h) (HV.out W h)
 rw [hve] at hFew HSH ⊢
 have HVE : Hid (valE e p = .agg #[.string a0, .string a1, .string a2, .bool b3, .string a4, .int .i64 n5, .int .i64 n6, .string a7, .slice p8 n8 c8, .slice p9 n9 c9, .slice p10 n10 c10, .slice p11 n11 c11, .int .i64 n12, .int .i64 n13, .string a14, .slice p15 n15 c15]) := hve
 clear hE hb hT hve hbw hv
 by_cases hkl : (300 : Int) < key.size
 · have hkd : decide ((300 : Int) < (key.size : Int)) = true := decide_eq_true hkl
   go_enter Tryz.func7, Tryz.ntmps7
   go_upto_region 1 with fail
   rw [← hWB]
   clear hWB
   go_wp2_with (first
    | (refine wpList_load16 rfl _ rfl rfl hx0 ?_)
    | (go_at_call 9; refine hFew.mono ?_; rintro x w1 ⟨rfl | ⟨rfl, hfew⟩, hb1⟩ <;>
        (have B1 : Hid (Below w.heap.size w w1) := below_in HBW.out hb1
         have hAw := HAW.out w1 B1.out
         clear hx0 hFew hsB hb1))
    | (go_at_call 15; refine hAw.mono ?_; rintro x w9 ⟨rfl, hb9⟩))
   all_goals (go_ret; exact ⟨rfl, below_in B1.out hb9⟩)
 · have hkd : decide ((300 : Int) < (key.size : Int)) = false := decide_eq_false hkl
   go_enter Tryz.func7, Tryz.ntmps7
   go_upto_region 1 with fail
   rw [← hWB]
   clear hWB
   go_upto_region 3 with (first
    | (refine wpList_load16 rfl _ rfl rfl hx0 ?_)
    | (go_at_call 9; refine hFew.mono ?_; rintro x w1 ⟨rfl | ⟨rfl, hfew⟩, hb1⟩ <;>
        (have B1 : Hid (Below w.heap.size w w1) := below_in HBW.out hb1
         have hx1 := (hb1.block w.heap.size (by omega)).trans hx0
         have hy1 := (hb1.block (w.heap.size + 1) (by omega)).trans hy0
         have s1 : w.heap.size + 1 < w1.heap.size := Nat.lt_of_lt_of_le hsB hb1.size
         have hAw := HAW.out w1 B1.out
         have hLf := HLF.out w1 B1.out
         clear hx0 hy0 hFew hsB hb1))
    | (refine wpList_load5 (by rfl) _ rfl rfl hy1 ?_)
    | (go_at_call 16; refine hLf.mono ?_; rintro x w2 ⟨⟨rl, hr1, hr2, rfl⟩ | ⟨rl, hr1, hr2, rfl, hsv⟩, hb2⟩ <;>
        (have B2 : Hid (Below w.heap.size w w2) := below_in B1.out hb2
         have hx2 := (hb2.block w.heap.size (by omega)).trans hx1
         have hy2 := (hb2.block (w.heap.size + 1) (by omega)).trans hy1
         have s2 : w.heap.size + 1 < w2.heap.size := Nat.lt_of_lt_of_le s1 hb2.size
         have hSh := HSH.out hfew.sz w2 B2.out
         have hAw2 := HAW.out w2 B2.out
         have hrd : decide (rl < 0) = true ∨ decide (rl < 0) = false := by cases decide (rl < 0) <;> simp
         first | (have hrd2 : decide (rl < 0) = true := decide_eq_true hr1) | (have hrd2 : decide (rl < 0) = false := decide_eq_false (by omega))
         clear hAw hLf hx1 hy1 hb2 s1 hrd))
    | (refine wpList_load16g (by rfl) _ rfl rfl hx2 ?_)
    | (go_at_call 10; refine hSh.mono ?_; rintro x w3 ⟨⟨rfl, hs, hl⟩ | ⟨n, hn, rfl⟩, hb3⟩ <;>
        (have B3 : Hid (Below w.heap.size w w3) := below_in B2.out hb3
         have hx3 := (hb3.block w.heap.size (by omega)).trans hx2
         have hy3 := (hb3.block (w.heap.size + 1) (by omega)).trans hy2
         have s3 : w.heap.size + 1 < w3.heap.size := Nat.lt_of_lt_of_le s2 hb3.size
         have hAw3 := HAW.out w3 B3.out
         clear hAw2 hSh hx2 hy2 hb3 s2))
    | (go_at_call 15; refine hAw3.mono ?_; rintro x w9 ⟨rfl, hb9⟩)
    | (go_at_call 15; refine hAw2.mono ?_; rintro x w9 ⟨rfl, hb9⟩)
    | (go_at_call 15; refine hAw.mono ?_; rintro x w9 ⟨rfl, hb9⟩))
   all_goals (first
    | (go_ret; first | exact ⟨rfl, below_in B3.out hb9⟩ | exact ⟨rfl, below_in B2.out hb9⟩ | exact ⟨rfl, below_in B1.out hb9⟩)
    | skip)
   clear hAw3
   have hz := hfew.sz
   have hbs := back_shaped hs
   have HSV : Hid (szJ 11 v = true) := sz_less 11 20 _ (by decide) hsv
   have HKZ : Hid (key.size ≤ 300) := by show _ ≤ _; omega
   have HSZ : Hid (szJ 12 (toldJ (backE e)) = true) := sz_told (back_sz hz hs)
   have HN1 : Hid (key ∈ (toldJ (backE e)).keys → key ∈ names10 ∨ key = nKey) := told_names
   have HN2 : Hid (key ∉ (toldJ (backE e)).keys → key ∉ names10) := fun h h' => h (names_told h')
   have hTJ := toJson_names e p w3 (HI.out w3 B3.out) (HL.out w3 B3.out) hz (HT.out w3 B3.out) hs
   rw [HVE.out] at hTJ
   obtain ⟨tj, htj⟩ : ∃ tj, toldJ (backE e) = tj := ⟨_, rfl⟩
   rw [htj] at hTJ HSZ HN1 HN2
   have HK5 : Hid (tj.kind = 5) := by show _ = _; rw [← htj]; rfl
   clear htj hfew hz hs hl hsv hbs hkd
   go_upto_region 4 with (first
    | (refine wpList_load16 rfl _ rfl rfl hx3 ?_)
    | (go_at_call 13; refine hTJ.mono ?_; rintro x w4 ⟨⟨ti, tt, ak, ckk, al, cll, n, rfl, hn11, hj4⟩, hb4⟩))
   have s4 := hb4.size
   obtain ⟨W5, hW5⟩ : ∃ W5, W5 = w4.alloc (.cells #[.int .i64 5, .int .i64 ti, .string tt, .slice (some ak) n ckk, .slice (some al) n cll] 25) := ⟨_, rfl⟩
   have b5 : Below w4.heap.size w4 W5 := by rw [hW5]; exact (Below.refl _ _).alloc (Nat.le_refl _) _
   have ht5 : W5.heap[w4.heap.size]? = some (.cells #[.int .i64 5, .int .i64 ti, .string tt, .slice (some ak) n ckk, .slice (some al) n cll] 25 (0, 0)) := by rw [hW5]; exact heap_alloc_new _ _
   have s5 : w4.heap.size < W5.heap.size := by rw [hW5]; simp
   have hy5 := (b5.block (w.heap.size + 1) (by omega)).trans ((hb4.block (w.heap.size + 1) (by omega)).trans hy3)
   have B5 : Hid (Below w.heap.size w W5) := below_in (below_in B3.out hb4) b5
   have hj5 : isJ (fun b => b < w4.heap.size) W5 tj [.int .i64 5, .int .i64 ti, .string tt, .slice (some ak) n ckk, .slice (some al) n cll] := hj4.carry fun b hb => by
    have hlt : b < w4.heap.size := by
     rcases hb with hb | hb
     · omega
     · exact hb.2
    exact ⟨hlt, b5.block b hlt⟩
   rw [← hW5]
   clear hW5 hj4 hb4 b5 hx3 hy3 hTJ B3
   have hGe := rGet_any key (w := W5) (fun b hb => Nat.lt_trans hb s5) hj5 (by omega)
   have HJ5 : Hid (isJ (fun b => b < w4.heap.size) W5 tj [.int .i64 5, .int .i64 ti, .string tt, .slice (some ak) n ckk, .slice (some al) n cll]) := hj5
   clear hj5
   go_upto_region 5 with (first
    | (refine wpList_load5 (by rfl) _ rfl rfl ht5 ?_)
    | (go_at_call 24; refine hGe.mono ?_; rintro x w6 ⟨⟨gk, gi, gt, gpk, gnk, gck, gpl, gnl, gcl, ⟨rfl, hin⟩ | ⟨rfl, hin⟩⟩, hb6⟩))
   all_goals (
    have s6 := hb6.size
    obtain ⟨W7, hW7⟩ : ∃ W7, W7 = w6.alloc (.cells #[.int .i64 gk, .int .i64 gi, .string gt, .slice gpk gnk gck, .slice gpl gnl gcl] 25) := ⟨_, rfl⟩
    have b7 : Below W5.heap.size W5 W7 := by rw [hW7]; exact hb6.alloc hb6.size _
    have s7 := b7.size
    have hy7 := (b7.block (w.heap.size + 1) (by omega)).trans hy5
    have ht7 := (b7.block w4.heap.size (by omega)).trans ht5
    have B7 : Hid (Below w.heap.size w W7) := below_in B5.out b7
    have HJ7 : Hid (isJ (fun b => b < w4.heap.size) W7 tj [.int .i64 5, .int .i64 ti, .string tt, .slice (some ak) n ckk, .slice (some al) n cll]) := HJ5.out.carry fun b hb => ⟨hb, b7.block b (by omega)⟩
    rw [← hW7]
    clear hW7 hb6 hy5 ht5 b7 HJ5 hGe)
   · have HD : Hid (key ∈ names10 ∨ key = nKey) := HN1.out hin
     go_wp2
     obtain ⟨W8, hW8⟩ : ∃ W8, W8 = W7.alloc (.cells #[.int .i64 5, .int .i64 0, .string ⟨#[]⟩, .slice none 0 0, .slice none 0 0] 25) := ⟨_, rfl⟩
     have b8 : Below W7.heap.size W7 W8 := by rw [hW8]; exact (Below.refl _ _).alloc (Nat.le_refl _) _
     have hl8 : W8.heap[W7.heap.size]? = some (.cells #[.int .i64 5, .int .i64 0, .string ⟨#[]⟩, .slice none 0 0, .slice none 0 0] 25 (0, 0)) := by rw [hW8]; exact heap_alloc_new _ _
     have s8 : W7.heap.size < W8.heap.size := by rw [hW8]; simp
     have s47 : w4.heap.size < W7.heap.size := by omega
     have ht8 := (b8.block w4.heap.size s47).trans ht7
     have B8 : Hid (Below w.heap.size w W8) := below_in B7.out b8
     have HJ8 : Hid (isJ (fun b => b < w4.heap.size) W8 tj [.int .i64 5, .int .i64 ti, .string tt, .slice (some ak) n ckk, .slice (some al) n cll]) := HJ7.out.carry fun b hb => ⟨hb, b8.block b (Nat.lt_trans hb s47)⟩
     have HKL : Hid (tj.keys.length = n ∧ tj.list.length = n) := ⟨(isJ_at HJ7.out).2.2.2.1.symm, (isJ_at HJ7.out).2.2.2.2.1.symm⟩
     have HLL : Hid (n ≤ ckk ∧ n ≤ cll) := by
      have h := isJ_at HJ7.out
      exact ⟨by have := h.2.2.2.2.2.1.1; rw [HKL.out.1] at this; exact this, by have := h.2.2.2.2.2.2.1; rw [HKL.out.2] at this; exact this⟩
     rw [← hW8]
     have lst := LessI.start tj key hl8
     have sw4 : w.heap.size ≤ W7.heap.size := B7.out.size
     clear hW8 b8 hl8 ht7 hy7 HJ7 B7
     obtain ⟨L, hL⟩ : ∃ L, W7.heap.size = L := ⟨_, rfl⟩
     rw [hL] at lst s8 s47 sw4 ⊢
     clear hL
     go_loopw [13] (fun v wr => ∃ (m : Nat) (q1 : Option Addr) (c1 : Nat) (q2 : Option Addr) (c2 k : Nat), v = .int .i64 m ∧ m ≤ n ∧ LessI tj key W8 L m q1 c1 q2 c2 k wr) (fun v _ => n - (intOf v).toNat)
     case atStart => exact ⟨0, none, 0, none, 0, 0, rfl, Nat.zero_le _, lst⟩
     case round =>
      clear lst
      obtain ⟨m, q1, c1, q2, c2, k, rfl, hm, hI⟩ := hrel
      have sR := hI.keep.size
      have htr := (hI.keep.block w4.heap.size (by omega) (by unfold One; omega)).trans ht8
      have t3 := five_c3 htr; have t4 := five_c4 htr
      obtain ⟨hck, hcl⟩ := HLL.out
      by_cases hlt : m < n
      · have hmi : (m : Int) < (n : Int) := by omega
        have HJR : Hid (isJ (fun b => b < w4.heap.size) wr tj [.int .i64 5, .int .i64 ti, .string tt, .slice (some ak) n ckk, .slice (some al) n cll]) := HJ8.out.carry fun b hb => ⟨hb, hI.keep.block b (by omega) (by unfold One; omega)⟩
        obtain ⟨ad, ead, hOa, hka⟩ := (isJ_at HJR.out).2.2.2.2.2.1.2 m (by rw [HKL.out.1]; exact hlt)
        cases ead
        obtain ⟨lb, lo, cs, hpl, hOl, hcells, hyj⟩ := isJs.at tj.list 0 m (isJ_at HJR.out).2.2.2.2.2.2.2 (by rw [HKL.out.2]; exact hlt)
        cases hpl
        obtain ⟨x0, x1, x2, p3, n3, c3, p4, n4, c4, rfl⟩ := isJ_shape hyj
        rw [Nat.zero_add] at hcells
        have y0 : wr.cell? ⟨lb, lo + m * 5, none⟩ = some (.int .i64 x0) := hcells 0 _ rfl
        have y1 := hcells 1 _ rfl
        have y2 := hcells 2 _ rfl
        have y3 := hcells 3 _ rfl
        have y4 := hcells 4 _ rfl
        have HYJ : Hid (isJ (fun b => b < w4.heap.size) wr (tj.list.getD m J.zero) [.int .i64 x0, .int .i64 x1, .string x2, .slice p3 n3 c3, .slice p4 n4 c4]) := hyj
        clear hcells hyj
        obtain ⟨u, hu⟩ : ∃ u, tj.keys.getD m nix = u := ⟨_, rfl⟩
        have HU : Hid (tj.keys.getD m nix = u) := hu
        rw [hu] at hka
        clear hu
        by_cases hk : u = key
        · have hsq : (u.toList == key.toList) = true := by rw [hk]; exact str_eq key
          go_wp2
          go_roundw
          case rel => exact ⟨m + 1, q1, c1, q2, c2, k, by go_num, hlt, hI.skip HKL.out.1 HKL.out.2 hlt (HU.out.trans hk)⟩
          case measure => simp [intOf]; omega
        · have hsq := str_ne hk
          have HLt : Hid (L < wr.heap.size) := (by omega : L < wr.heap.size)
          have hob := hI.obj
          have hj1 : isJ (fun b => b < wr.heap.size ∧ b ≠ L) wr.drew (lessJ tj key m) [.int .i64 5, .int .i64 0, .string ⟨#[]⟩, .slice q1 k c1, .slice q2 k c2] := isJ.carry (w := wr) (w' := wr.drew) (O := fun b => b < wr.heap.size ∧ b ≠ L) (O' := fun b => b < wr.heap.size ∧ b ≠ L) (fun b hb => ⟨hb, rfl⟩) _ _ hI.isj
          have hj2 : isJ (fun b => b < wr.heap.size ∧ b ≠ L) wr.drew (tj.list.getD m J.zero) [.int .i64 x0, .int .i64 x1, .string x2, .slice p3 n3 c3, .slice p4 n4 c4] := isJ.carry (w := wr) (w' := wr.drew) (O := fun b => b < w4.heap.size) (O' := fun b => b < wr.heap.size ∧ b ≠ L) (fun b hb => ⟨⟨by omega, by omega⟩, rfl⟩) _ _ HYJ.out
          have hkm := hI.kl
          have hPu := rPut_any u (fun b hb => hb.1) hj1 hj2 hI.n1 hI.n2 (by omega) (by omega)
          clear hj1 hj2
          have hQ : Hid (∀ wq, Keep (One L) wr wq → wq.cell? ⟨w4.heap.size, 3, none⟩ = some (.slice (some ak) n ckk) ∧ wq.cell? ⟨w4.heap.size, 4, none⟩ = some (.slice (some ⟨lb, lo, none⟩) n cll) ∧ wq.cell? (ak.add m) = some (.string u) ∧ wq.cell? ⟨lb, lo + m * 5, none⟩ = some (.int .i64 x0) ∧ wq.cell? ⟨lb, lo + m * 5 + 1, none⟩ = some (.int .i64 x1) ∧ wq.cell? ⟨lb, lo + m * 5 + 2, none⟩ = some (.string x2) ∧ wq.cell? ⟨lb, lo + m * 5 + 3, none⟩ = some (.slice p3 n3 c3) ∧ wq.cell? ⟨lb, lo + m * 5 + 4, none⟩ = some (.slice p4 n4 c4)) := fun wq hq => by
           have hlb : lb < wr.heap.size ∧ ¬ One L lb := ⟨by omega, by unfold One; omega⟩
           exact ⟨(hq.cell (p := ⟨w4.heap.size, 3, none⟩) (show w4.heap.size < wr.heap.size by omega) (show ¬ One L w4.heap.size by unfold One; omega)).trans t3, (hq.cell (p := ⟨w4.heap.size, 4, none⟩) (show w4.heap.size < wr.heap.size by omega) (show ¬ One L w4.heap.size by unfold One; omega)).trans t4, (hq.cell (by rw [add_block]; omega) (by rw [add_block]; unfold One; omega)).trans hka, (hq.cell (p := ⟨lb, lo + m * 5, none⟩) hlb.1 hlb.2).trans y0, (hq.cell (p := ⟨lb, lo + m * 5 + 1, none⟩) hlb.1 hlb.2).trans y1, (hq.cell (p := ⟨lb, lo + m * 5 + 2, none⟩) hlb.1 hlb.2).trans y2, (hq.cell (p := ⟨lb, lo + m * 5 + 3, none⟩) hlb.1 hlb.2).trans y3, (hq.cell (p := ⟨lb, lo + m * 5 + 4, none⟩) hlb.1 hlb.2).trans y4⟩
          go_wp2
          have hC0 : Keep (One L) wr wr.drew := (Keep.refl _ _).drew
          refine wp_region_in (by kernel_rfl) (fun w' => Keep (One L) wr w') ?_
          change wpIn _ _ _ _ _ _ _ _ (World.drew _)
          refine wpIn_tk (i := 1) (d := some 78) rfl ?_
          refine wpIn_tp (i := 2) (d := some 79) rfl (by (intro wq hq; obtain ⟨q3, q4, qk, e0, e1, e2, e3, e4⟩ := hQ.out wq hq; go_simp; first | done | with_reducible rfl)) ?_
          refine wpIn_tk (i := 3) (d := some 80) rfl ?_
          refine wpIn_tk (i := 4) (d := some 81) rfl ?_
          refine wpIn_tp (i := 5) (d := some 82) rfl (by (intro wq hq; obtain ⟨q3, q4, qk, e0, e1, e2, e3, e4⟩ := hQ.out wq hq; go_simp; first | done | with_reducible rfl)) ?_
          refine wpIn_tk (i := 6) (d := some 83) rfl ?_
          refine wpIn_tp (i := 7) (d := some 84) rfl (by (intro wq hq; obtain ⟨q3, q4, qk, e0, e1, e2, e3, e4⟩ := hQ.out wq hq; go_simp; first | done | with_reducible rfl)) ?_
          refine wpIn_tk (i := 8) (d := some 85) rfl ?_
          refine wpIn_tk (i := 9) (d := some 86) rfl ?_
          refine wpIn_tp (i := 10) (d := some 87) rfl (by (intro wq hq; obtain ⟨q3, q4, qk, e0, e1, e2, e3, e4⟩ := hQ.out wq hq; go_simp; first | done | with_reducible rfl)) ?_
          have j0 := five_c0 hob; have j1 := five_c1 hob; have j2 := five_c2 hob; have j3 := five_c3 hob; have j4 := five_c4 hob
          refine wpIn_do (i := 0) hC0 (by kernel_rfl) rfl (by rfl) ?_
          intro K hK
          go_simp
          refine hK _ _ ?_
          clear hK K
          refine wpIn_do (i := 11) hC0 (by kernel_rfl) rfl (by rfl) ?_
          intro K hK
          go_simp
          go_wp2_with (go_at_call 25; refine hPu.mono ?_; rintro x w10 ⟨⟨b1, d1, b2, d2, rfl, hj10⟩, hb10⟩)
          have hb10' : Below wr.heap.size wr w10 := ⟨hb10.os, hb10.tape, hb10.output, hb10.size, hb10.block⟩
          have hl10 := (hb10'.block L HLt.out).trans hob
          clear j0 j1 j2 j3 j4
          have i0 := five_c0 hl10; have i1 := five_c1 hl10; have i2 := five_c2 hl10; have i3 := five_c3 hl10; have i4 := five_c4 hl10
          have z0 := five_fz hl10 0; have z1 := five_fz hl10 1; have z2 := five_fz hl10 2; have z3 := five_fz hl10 3; have z4 := five_fz hl10 4
          have C10 : Keep (One L) wr w10 := Keep.of_below hb10'
          refine wpIn_do (i := 12) C10 (by kernel_rfl) rfl (by rfl) ?_
          intro K hK
          go_simp
          refine hK _ _ ?_
          clear hK K
          have h5 := set5_heap hl10 (.int .i64 5) (.int .i64 0) (.string ⟨#[]⟩) (.slice (some ⟨b1, 0, none⟩) (k + 1) d1) (.slice (some ⟨b2, 0, none⟩) (k + 1) d2)
          have HK5 : Keep (One L) w10 _ := set5_keep w10 L (.int .i64 5) (.int .i64 0) (.string ⟨#[]⟩) (.slice (some ⟨b1, 0, none⟩) (k + 1) d1) (.slice (some ⟨b2, 0, none⟩) (k + 1) d2)
          obtain ⟨WE, hWE⟩ : ∃ WE, WE = set5 w10 L (.int .i64 5) (.int .i64 0) (.string ⟨#[]⟩) (.slice (some ⟨b1, 0, none⟩) (k + 1) d1) (.slice (some ⟨b2, 0, none⟩) (k + 1) d2) := ⟨_, rfl⟩
          rw [← hWE] at h5 HK5
          unfold set5 at hWE
          rw [← hWE]
          refine wpIn_done (C10.then HK5) (by kernel_rfl) ?_ _
          have HPUT := hI.put HLt.out HKL.out.1 HKL.out.2 hlt (by rw [HU.out]; exact hk) hb10' (by rw [HU.out]; exact hj10) h5 HK5
          clear i0 i1 i2 i3 i4 z0 z1 z2 z3 z4 hWE
          go_wp2
          go_roundw
          case rel => exact ⟨m + 1, _, _, _, _, _, by go_num, hlt, HPUT⟩
          case measure => simp [intOf]; omega
      · obtain rfl : m = n := by omega
        have hob := hI.obj
        obtain ⟨F, hF⟩ : ∃ F, fromE (ordT (lessJ tj key m)) = F := ⟨_, rfl⟩
        have HFL : Hid (F.2 ≠ 0 ∨ (key = nKey ∧ F.1.st = false)) := by
         rw [← hF]
         exact from_less rfl less_no HD.out
        have B11 : Hid (Below w.heap.size w wr) := B8.out.trans (hI.keep.below B8.out.size fun q hq => by unfold One; omega)
        have hFr : Calls Tryz.prog 17 #[.agg #[.int .i64 5, .int .i64 0, .string ⟨#[]⟩, .slice q1 k c1, .slice q2 k c2]] wr fun x w' => (∃ p, x = .returned (.tuple #[valE F.1 p, .int .i64 F.2])) ∧ Below wr.heap.size wr w' := by
         have h := fromJson_any (fun x hx => hx.1) hI.isj (less_sz HSZ.out (by omega)) (less_keys tj key (by omega)) (HT.out wr B11.out)
         rw [hF] at h
         exact h.mono (by rintro x w' ⟨⟨p, hx, _⟩, hb⟩; exact ⟨⟨p, hx⟩, hb⟩)
        clear hF hI
        obtain ⟨⟨eroom, etyp, esender, est, ekey, econt, eprev, eauth, edepth, ets, ehash, esigs⟩, er⟩ := F
        simp only at HFL hFr
        go_upto_region 16 with (first
         | (refine wpList_load5 (by rfl) _ rfl rfl hob ?_)
         | (go_at_call 17; refine hFr.mono ?_; rintro x w12 ⟨⟨p12, rfl⟩, hb12⟩
            obtain ⟨pk2, ck2, pl2, cl2, pp2, cp2, pa2, ca2, ps2, cs2⟩ := p12
            simp only [valE, cellsE]
            obtain ⟨ek, ei, et, eks, els⟩ := econt
            simp only [J.kind, J.int, J.text, J.keys, J.list]))
        obtain ⟨W13, hW13⟩ : ∃ W13, W13 = w12.alloc (.cells #[.string eroom, .string etyp, .string esender, .bool est, .string ekey, .int .i64 ek, .int .i64 ei, .string et, .slice pk2 eks.length ck2, .slice pl2 els.length cl2, .slice pp2 eprev.length cp2, .slice pa2 eauth.length ca2, .int .i64 edepth, .int .i64 ets, .string ehash, .slice ps2 esigs.length cs2] 28) := ⟨_, rfl⟩
        have B13 : Hid (Below w.heap.size w W13) := by rw [hW13]; exact below_in (below_in B11.out hb12) ((Below.refl _ _).alloc (Nat.le_refl _) _)
        have hf13 : W13.heap[w12.heap.size]? = some (.cells #[.string eroom, .string etyp, .string esender, .bool est, .string ekey, .int .i64 ek, .int .i64 ei, .string et, .slice pk2 eks.length ck2, .slice pl2 els.length cl2, .slice pp2 eprev.length cp2, .slice pa2 eauth.length ca2, .int .i64 edepth, .int .i64 ets, .string ehash, .slice ps2 esigs.length cs2] 28 (0, 0)) := by rw [hW13]; exact heap_alloc_new _ _
        rw [← hW13]
        clear hW13 hFr hb12
        have hAw := HAW.out W13 B13.out
        have f3 := six_c hf13 3 _ rfl
        by_cases her : er = 0
        · have hor := HFL.out.resolve_left (fun h => h her)
          have hky := key_yes hor.1
          have hst := hor.2
          clear hor
          obtain rfl : est = false := hst
          subst her
          go_wp2_with (go_at_call 15; refine hAw.mono ?_; rintro x w14 ⟨rfl, hb14⟩)
          go_ret
          exact ⟨rfl, below_in B13.out hb14⟩
        · have hd1 : (er == 0) = false := by simpa using her
          have hd2 : decide (er = 0) = false := decide_eq_false her
          go_wp2_with (go_at_call 15; refine hAw.mono ?_; rintro x w14 ⟨rfl, hb14⟩)
          go_ret
          exact ⟨rfl, below_in B13.out hb14⟩
   · by_cases hkey : key = nKey
     · have HD : Hid (key ∈ names10 ∨ key = nKey) := .inr hkey
       have hs := key_yes hkey
       clear hkey
       go_wp2
       obtain ⟨W8, hW8⟩ : ∃ W8, W8 = W7.alloc (.cells #[.int .i64 5, .int .i64 0, .string ⟨#[]⟩, .slice none 0 0, .slice none 0 0] 25) := ⟨_, rfl⟩
       have b8 : Below W7.heap.size W7 W8 := by rw [hW8]; exact (Below.refl _ _).alloc (Nat.le_refl _) _
       have hl8 : W8.heap[W7.heap.size]? = some (.cells #[.int .i64 5, .int .i64 0, .string ⟨#[]⟩, .slice none 0 0, .slice none 0 0] 25 (0, 0)) := by rw [hW8]; exact heap_alloc_new _ _
       have s8 : W7.heap.size < W8.heap.size := by rw [hW8]; simp
       have s47 : w4.heap.size < W7.heap.size := by omega
       have ht8 := (b8.block w4.heap.size s47).trans ht7
       have B8 : Hid (Below w.heap.size w W8) := below_in B7.out b8
       have HJ8 : Hid (isJ (fun b => b < w4.heap.size) W8 tj [.int .i64 5, .int .i64 ti, .string tt, .slice (some ak) n ckk, .slice (some al) n cll]) := HJ7.out.carry fun b hb => ⟨hb, b8.block b (Nat.lt_trans hb s47)⟩
       have HKL : Hid (tj.keys.length = n ∧ tj.list.length = n) := ⟨(isJ_at HJ7.out).2.2.2.1.symm, (isJ_at HJ7.out).2.2.2.2.1.symm⟩
       have HLL : Hid (n ≤ ckk ∧ n ≤ cll) := by
        have h := isJ_at HJ7.out
        exact ⟨by have := h.2.2.2.2.2.1.1; rw [HKL.out.1] at this; exact this, by have := h.2.2.2.2.2.2.1; rw [HKL.out.2] at this; exact this⟩
       rw [← hW8]
       have lst := LessI.start tj key hl8
       have sw4 : w.heap.size ≤ W7.heap.size := B7.out.size
       clear hW8 b8 hl8 ht7 hy7 HJ7 B7
       obtain ⟨L, hL⟩ : ∃ L, W7.heap.size = L := ⟨_, rfl⟩
       rw [hL] at lst s8 s47 sw4 ⊢
       clear hL
       go_loopw [13] (fun v wr => ∃ (m : Nat) (q1 : Option Addr) (c1 : Nat) (q2 : Option Addr) (c2 k : Nat), v = .int .i64 m ∧ m ≤ n ∧ LessI tj key W8 L m q1 c1 q2 c2 k wr) (fun v _ => n - (intOf v).toNat)
       case atStart => exact ⟨0, none, 0, none, 0, 0, rfl, Nat.zero_le _, lst⟩
       case round =>
        clear lst
        obtain ⟨m, q1, c1, q2, c2, k, rfl, hm, hI⟩ := hrel
        have sR := hI.keep.size
        have htr := (hI.keep.block w4.heap.size (by omega) (by unfold One; omega)).trans ht8
        have t3 := five_c3 htr; have t4 := five_c4 htr
        obtain ⟨hck, hcl⟩ := HLL.out
        by_cases hlt : m < n
        · have hmi : (m : Int) < (n : Int) := by omega
          have HJR : Hid (isJ (fun b => b < w4.heap.size) wr tj [.int .i64 5, .int .i64 ti, .string tt, .slice (some ak) n ckk, .slice (some al) n cll]) := HJ8.out.carry fun b hb => ⟨hb, hI.keep.block b (by omega) (by unfold One; omega)⟩
          obtain ⟨ad, ead, hOa, hka⟩ := (isJ_at HJR.out).2.2.2.2.2.1.2 m (by rw [HKL.out.1]; exact hlt)
          cases ead
          obtain ⟨lb, lo, cs, hpl, hOl, hcells, hyj⟩ := isJs.at tj.list 0 m (isJ_at HJR.out).2.2.2.2.2.2.2 (by rw [HKL.out.2]; exact hlt)
          cases hpl
          obtain ⟨x0, x1, x2, p3, n3, c3, p4, n4, c4, rfl⟩ := isJ_shape hyj
          rw [Nat.zero_add] at hcells
          have y0 : wr.cell? ⟨lb, lo + m * 5, none⟩ = some (.int .i64 x0) := hcells 0 _ rfl
          have y1 := hcells 1 _ rfl
          have y2 := hcells 2 _ rfl
          have y3 := hcells 3 _ rfl
          have y4 := hcells 4 _ rfl
          have HYJ : Hid (isJ (fun b => b < w4.heap.size) wr (tj.list.getD m J.zero) [.int .i64 x0, .int .i64 x1, .string x2, .slice p3 n3 c3, .slice p4 n4 c4]) := hyj
          clear hcells hyj
          obtain ⟨u, hu⟩ : ∃ u, tj.keys.getD m nix = u := ⟨_, rfl⟩
          have HU : Hid (tj.keys.getD m nix = u) := hu
          rw [hu] at hka
          clear hu
          by_cases hk : u = key
          · have hsq : (u.toList == key.toList) = true := by rw [hk]; exact str_eq key
            go_wp2
            go_roundw
            case rel => exact ⟨m + 1, q1, c1, q2, c2, k, by go_num, hlt, hI.skip HKL.out.1 HKL.out.2 hlt (HU.out.trans hk)⟩
            case measure => simp [intOf]; omega
          · have hsq := str_ne hk
            have HLt : Hid (L < wr.heap.size) := (by omega : L < wr.heap.size)
            have hob := hI.obj
            have hj1 : isJ (fun b => b < wr.heap.size ∧ b ≠ L) wr.drew (lessJ tj key m) [.int .i64 5, .int .i64 0, .string ⟨#[]⟩, .slice q1 k c1, .slice q2 k c2] := isJ.carry (w := wr) (w' := wr.drew) (O := fun b => b < wr.heap.size ∧ b ≠ L) (O' := fun b => b < wr.heap.size ∧ b ≠ L) (fun b hb => ⟨hb, rfl⟩) _ _ hI.isj
            have hj2 : isJ (fun b => b < wr.heap.size ∧ b ≠ L) wr.drew (tj.list.getD m J.zero) [.int .i64 x0, .int .i64 x1, .string x2, .slice p3 n3 c3, .slice p4 n4 c4] := isJ.carry (w := wr) (w' := wr.drew) (O := fun b => b < w4.heap.size) (O' := fun b => b < wr.heap.size ∧ b ≠ L) (fun b hb => ⟨⟨by omega, by omega⟩, rfl⟩) _ _ HYJ.out
            have hkm := hI.kl
            have hPu := rPut_any u (fun b hb => hb.1) hj1 hj2 hI.n1 hI.n2 (by omega) (by omega)
            clear hj1 hj2
            have hQ : Hid (∀ wq, Keep (One L) wr wq → wq.cell? ⟨w4.heap.size, 3, none⟩ = some (.slice (some ak) n ckk) ∧ wq.cell? ⟨w4.heap.size, 4, none⟩ = some (.slice (some ⟨lb, lo, none⟩) n cll) ∧ wq.cell? (ak.add m) = some (.string u) ∧ wq.cell? ⟨lb, lo + m * 5, none⟩ = some (.int .i64 x0) ∧ wq.cell? ⟨lb, lo + m * 5 + 1, none⟩ = some (.int .i64 x1) ∧ wq.cell? ⟨lb, lo + m * 5 + 2, none⟩ = some (.string x2) ∧ wq.cell? ⟨lb, lo + m * 5 + 3, none⟩ = some (.slice p3 n3 c3) ∧ wq.cell? ⟨lb, lo + m * 5 + 4, none⟩ = some (.slice p4 n4 c4)) := fun wq hq => by
             have hlb : lb < wr.heap.size ∧ ¬ One L lb := ⟨by omega, by unfold One; omega⟩
             exact ⟨(hq.cell (p := ⟨w4.heap.size, 3, none⟩) (show w4.heap.size < wr.heap.size by omega) (show ¬ One L w4.heap.size by unfold One; omega)).trans t3, (hq.cell (p := ⟨w4.heap.size, 4, none⟩) (show w4.heap.size < wr.heap.size by omega) (show ¬ One L w4.heap.size by unfold One; omega)).trans t4, (hq.cell (by rw [add_block]; omega) (by rw [add_block]; unfold One; omega)).trans hka, (hq.cell (p := ⟨lb, lo + m * 5, none⟩) hlb.1 hlb.2).trans y0, (hq.cell (p := ⟨lb, lo + m * 5 + 1, none⟩) hlb.1 hlb.2).trans y1, (hq.cell (p := ⟨lb, lo + m * 5 + 2, none⟩) hlb.1 hlb.2).trans y2, (hq.cell (p := ⟨lb, lo + m * 5 + 3, none⟩) hlb.1 hlb.2).trans y3, (hq.cell (p := ⟨lb, lo + m * 5 + 4, none⟩) hlb.1 hlb.2).trans y4⟩
            go_wp2
            have hC0 : Keep (One L) wr wr.drew := (Keep.refl _ _).drew
            refine wp_region_in (by kernel_rfl) (fun w' => Keep (One L) wr w') ?_
            change wpIn _ _ _ _ _ _ _ _ (World.drew _)
            refine wpIn_tk (i := 1) (d := some 78) rfl ?_
            refine wpIn_tp (i := 2) (d := some 79) rfl (by (intro wq hq; obtain ⟨q3, q4, qk, e0, e1, e2, e3, e4⟩ := hQ.out wq hq; go_simp; first | done | with_reducible rfl)) ?_
            refine wpIn_tk (i := 3) (d := some 80) rfl ?_
            refine wpIn_tk (i := 4) (d := some 81) rfl ?_
            refine wpIn_tp (i := 5) (d := some 82) rfl (by (intro wq hq; obtain ⟨q3, q4, qk, e0, e1, e2, e3, e4⟩ := hQ.out wq hq; go_simp; first | done | with_reducible rfl)) ?_
            refine wpIn_tk (i := 6) (d := some 83) rfl ?_
            refine wpIn_tp (i := 7) (d := some 84) rfl (by (intro wq hq; obtain ⟨q3, q4, qk, e0, e1, e2, e3, e4⟩ := hQ.out wq hq; go_simp; first | done | with_reducible rfl)) ?_
            refine wpIn_tk (i := 8) (d := some 85) rfl ?_
            refine wpIn_tk (i := 9) (d := some 86) rfl ?_
            refine wpIn_tp (i := 10) (d := some 87) rfl (by (intro wq hq; obtain ⟨q3, q4, qk, e0, e1, e2, e3, e4⟩ := hQ.out wq hq; go_simp; first | done | with_reducible rfl)) ?_
            have j0 := five_c0 hob; have j1 := five_c1 hob; have j2 := five_c2 hob; have j3 := five_c3 hob; have j4 := five_c4 hob
            refine wpIn_do (i := 0) hC0 (by kernel_rfl) rfl (by rfl) ?_
            intro K hK
            go_simp
            refine hK _ _ ?_
            clear hK K
            refine wpIn_do (i := 11) hC0 (by kernel_rfl) rfl (by rfl) ?_
            intro K hK
            go_simp
            go_wp2_with (go_at_call 25; refine hPu.mono ?_; rintro x w10 ⟨⟨b1, d1, b2, d2, rfl, hj10⟩, hb10⟩)
            have hb10' : Below wr.heap.size wr w10 := ⟨hb10.os, hb10.tape, hb10.output, hb10.size, hb10.block⟩
            have hl10 := (hb10'.block L HLt.out).trans hob
            clear j0 j1 j2 j3 j4
            have i0 := five_c0 hl10; have i1 := five_c1 hl10; have i2 := five_c2 hl10; have i3 := five_c3 hl10; have i4 := five_c4 hl10
            have z0 := five_fz hl10 0; have z1 := five_fz hl10 1; have z2 := five_fz hl10 2; have z3 := five_fz hl10 3; have z4 := five_fz hl10 4
            have C10 : Keep (One L) wr w10 := Keep.of_below hb10'
            refine wpIn_do (i := 12) C10 (by kernel_rfl) rfl (by rfl) ?_
            intro K hK
            go_simp
            refine hK _ _ ?_
            clear hK K
            have h5 := set5_heap hl10 (.int .i64 5) (.int .i64 0) (.string ⟨#[]⟩) (.slice (some ⟨b1, 0, none⟩) (k + 1) d1) (.slice (some ⟨b2, 0, none⟩) (k + 1) d2)
            have HK5 : Keep (One L) w10 _ := set5_keep w10 L (.int .i64 5) (.int .i64 0) (.string ⟨#[]⟩) (.slice (some ⟨b1, 0, none⟩) (k + 1) d1) (.slice (some ⟨b2, 0, none⟩) (k + 1) d2)
            obtain ⟨WE, hWE⟩ : ∃ WE, WE = set5 w10 L (.int .i64 5) (.int .i64 0) (.string ⟨#[]⟩) (.slice (some ⟨b1, 0, none⟩) (k + 1) d1) (.slice (some ⟨b2, 0, none⟩) (k + 1) d2) := ⟨_, rfl⟩
            rw [← hWE] at h5 HK5
            unfold set5 at hWE
            rw [← hWE]
            refine wpIn_done (C10.then HK5) (by kernel_rfl) ?_ _
            have HPUT := hI.put HLt.out HKL.out.1 HKL.out.2 hlt (by rw [HU.out]; exact hk) hb10' (by rw [HU.out]; exact hj10) h5 HK5
            clear i0 i1 i2 i3 i4 z0 z1 z2 z3 z4 hWE
            go_wp2
            go_roundw
            case rel => exact ⟨m + 1, _, _, _, _, _, by go_num, hlt, HPUT⟩
            case measure => simp [intOf]; omega
        · obtain rfl : m = n := by omega
          have hob := hI.obj
          obtain ⟨F, hF⟩ : ∃ F, fromE (ordT (lessJ tj key m)) = F := ⟨_, rfl⟩
          have HFL : Hid (F.2 ≠ 0 ∨ (key = nKey ∧ F.1.st = false)) := by
           rw [← hF]
           exact from_less rfl less_no HD.out
          have B11 : Hid (Below w.heap.size w wr) := B8.out.trans (hI.keep.below B8.out.size fun q hq => by unfold One; omega)
          have hFr : Calls Tryz.prog 17 #[.agg #[.int .i64 5, .int .i64 0, .string ⟨#[]⟩, .slice q1 k c1, .slice q2 k c2]] wr fun x w' => (∃ p, x = .returned (.tuple #[valE F.1 p, .int .i64 F.2])) ∧ Below wr.heap.size wr w' := by
           have h := fromJson_any (fun x hx => hx.1) hI.isj (less_sz HSZ.out (by omega)) (less_keys tj key (by omega)) (HT.out wr B11.out)
           rw [hF] at h
           exact h.mono (by rintro x w' ⟨⟨p, hx, _⟩, hb⟩; exact ⟨⟨p, hx⟩, hb⟩)
          clear hF hI
          obtain ⟨⟨eroom, etyp, esender, est, ekey, econt, eprev, eauth, edepth, ets, ehash, esigs⟩, er⟩ := F
          simp only at HFL hFr
          go_upto_region 16 with (first
           | (refine wpList_load5 (by rfl) _ rfl rfl hob ?_)
           | (go_at_call 17; refine hFr.mono ?_; rintro x w12 ⟨⟨p12, rfl⟩, hb12⟩
              obtain ⟨pk2, ck2, pl2, cl2, pp2, cp2, pa2, ca2, ps2, cs2⟩ := p12
              simp only [valE, cellsE]
              obtain ⟨ek, ei, et, eks, els⟩ := econt
              simp only [J.kind, J.int, J.text, J.keys, J.list]))
          obtain ⟨W13, hW13⟩ : ∃ W13, W13 = w12.alloc (.cells #[.string eroom, .string etyp, .string esender, .bool est, .string ekey, .int .i64 ek, .int .i64 ei, .string et, .slice pk2 eks.length ck2, .slice pl2 els.length cl2, .slice pp2 eprev.length cp2, .slice pa2 eauth.length ca2, .int .i64 edepth, .int .i64 ets, .string ehash, .slice ps2 esigs.length cs2] 28) := ⟨_, rfl⟩
          have B13 : Hid (Below w.heap.size w W13) := by rw [hW13]; exact below_in (below_in B11.out hb12) ((Below.refl _ _).alloc (Nat.le_refl _) _)
          have hf13 : W13.heap[w12.heap.size]? = some (.cells #[.string eroom, .string etyp, .string esender, .bool est, .string ekey, .int .i64 ek, .int .i64 ei, .string et, .slice pk2 eks.length ck2, .slice pl2 els.length cl2, .slice pp2 eprev.length cp2, .slice pa2 eauth.length ca2, .int .i64 edepth, .int .i64 ets, .string ehash, .slice ps2 esigs.length cs2] 28 (0, 0)) := by rw [hW13]; exact heap_alloc_new _ _
          rw [← hW13]
          clear hW13 hFr hb12
          have hAw := HAW.out W13 B13.out
          have f3 := six_c hf13 3 _ rfl
          by_cases her : er = 0
          · have hor := HFL.out.resolve_left (fun h => h her)
            have hky := key_yes hor.1
            have hst := hor.2
            clear hor
            obtain rfl : est = false := hst
            subst her
            go_wp2_with (go_at_call 15; refine hAw.mono ?_; rintro x w14 ⟨rfl, hb14⟩)
            go_ret
            exact ⟨rfl, below_in B13.out hb14⟩
          · have hd1 : (er == 0) = false := by simpa using her
            have hd2 : decide (er = 0) = false := decide_eq_false her
            go_wp2_with (go_at_call 15; refine hAw.mono ?_; rintro x w14 ⟨rfl, hb14⟩)
            go_ret
            exact ⟨rfl, below_in B13.out hb14⟩
     · have hs := key_no hkey
       go_upto_region 6 with fail
       have s47 : w4.heap.size < W7.heap.size := by omega
       have hPu := rPut_any key (O := fun b => b < w4.heap.size) (fun b hb => Nat.lt_trans hb s47) HJ7.out ((HV.out W7 B7.out).carry fun b hb => ⟨(by omega : b < w4.heap.size), rfl⟩) (fun h => by cases h) (fun h => by cases h) (by omega) (by omega)
       have HKL : Hid (tj.keys.length = n ∧ tj.list.length = n) := ⟨(isJ_at HJ7.out).2.2.2.1.symm, (isJ_at HJ7.out).2.2.2.2.1.symm⟩
       obtain ⟨F, hF⟩ : ∃ F, fromE (ordT (.mk 5 0 nix (tj.keys ++ [key]) (tj.list ++ [v]))) = F := ⟨_, rfl⟩
       have HFN : Hid (F.2 ≠ 0) := by
        rw [← hF]
        exact from_more (x := key) rfl (by show (tj.keys ++ [key]).length ≤ (tj.list ++ [v]).length; rw [List.length_append, List.length_append, HKL.out.1, HKL.out.2]; exact Nat.le_refl _) (by show key ∈ tj.keys ++ [key]; simp) (HN2.out hin) hkey
       have HSP : Hid (szJ 12 (.mk 5 0 nix (tj.keys ++ [key]) (tj.list ++ [v])) = true) := sz_put HSZ.out (Nat.le_trans HKZ.out (by decide)) HSV.out (by rw [HKL.out.1]; omega) (by rw [HKL.out.2]; omega)
       have HKS : Hid ((ordT (.mk 5 0 nix (tj.keys ++ [key]) (tj.list ++ [v]))).keys.length ≤ 80000) := ordT_keys (by show (tj.keys ++ [key]).length ≤ 80000; rw [List.length_append, HKL.out.1, List.length_singleton]; omega) rfl
       have HFR : Hid (∀ W, Below W7.heap.size W7 W → ∀ ti2 tt2 a1 n1 c1 a2 n2 c2, isJ (fun b => b < w4.heap.size ∨ New W7 W b) W (.mk 5 0 nix (tj.keys ++ [key]) (tj.list ++ [v])) [.int .i64 5, .int .i64 ti2, .string tt2, .slice a1 n1 c1, .slice a2 n2 c2] → Calls Tryz.prog 17 #[.agg #[.int .i64 5, .int .i64 ti2, .string tt2, .slice a1 n1 c1, .slice a2 n2 c2]] W fun x w' => (∃ p, x = .returned (.tuple #[valE F.1 p, .int .i64 F.2])) ∧ Below W.heap.size W w') := fun W hW ti2 tt2 a1 n1 c1 a2 n2 c2 hj => by
        have h := fromJson_any (fun x hx => hx.elim (fun h => Nat.lt_of_lt_of_le (Nat.lt_trans h s47) hW.size) fun h => h.2) hj HSP.out HKS.out (HT.out W (below_in B7.out hW))
        rw [hF] at h
        exact h.mono (by rintro x w' ⟨⟨p, hx, _⟩, hb⟩; exact ⟨⟨p, hx⟩, hb⟩)
       clear hF
       obtain ⟨E1, er⟩ := F
       simp only at HFN HFR
       have her : er ≠ 0 := HFN.out
       go_upto_region 7 with (first
        | (refine wpList_load5 (by rfl) _ rfl rfl ht7 ?_)
        | (refine wpList_load5 (by rfl) _ rfl rfl hy7 ?_)
        | (go_at_call 25; refine hPu.mono ?_; rintro x w8 ⟨⟨b1, c1, b2, c2, rfl, hj8⟩, hb8⟩
           have hFr := HFR.out w8 hb8 0 ⟨#[]⟩ _ _ _ _ _ _ hj8
           have B8 : Hid (Below w.heap.size w w8) := below_in B7.out hb8
           clear hPu hj8 hb8)
        | (go_at_call 17; refine hFr.mono ?_; rintro x w9 ⟨⟨p9, rfl⟩, hb9⟩
           obtain ⟨a0f, a1f, a2f, b3f, a4f, n5f, n6f, a7f, p8f, n8f, c8f, p9f, n9f, c9f, p10f, n10f, c10f, p11f, n11f, c11f, n12f, n13f, a14f, p15f, n15f, c15f, hvf⟩ := six_of E1 p9
           rw [hvf]
           clear hvf))
       obtain ⟨W10, hW10⟩ : ∃ W10, W10 = w9.alloc (.cells #[.string a0f, .string a1f, .string a2f, .bool b3f, .string a4f, .int .i64 n5f, .int .i64 n6f, .string a7f, .slice p8f n8f c8f, .slice p9f n9f c9f, .slice p10f n10f c10f, .slice p11f n11f c11f, .int .i64 n12f, .int .i64 n13f, .string a14f, .slice p15f n15f c15f] 28) := ⟨_, rfl⟩
       have B10 : Hid (Below w.heap.size w W10) := by rw [hW10]; exact below_in (below_in B8.out hb9) ((Below.refl _ _).alloc (Nat.le_refl _) _)
       rw [← hW10]
       clear hW10 hFr hb9
       have hAw := HAW.out W10 B10.out
       have hd1 : (er == 0) = false := by simpa using her
       have hd2 : decide (er = 0) = false := decide_eq_false her
       have hd3 : (er != 0) = true := by simpa using her
       go_wp2_with (go_at_call 15; refine hAw.mono ?_; rintro x w11 ⟨rfl, hb11⟩)
       go_ret
       exact ⟨rfl, below_in B10.out hb11⟩
end Go.Proofs.YtegcgbjjpgjnmaaGreatDoor

/-
  A value put in order, by a contract.
  Good and Encode, by contracts.
  What is good is good in order, and no longer.
  What was put in order is in order, stays as it is, and is read back.
  Bytes that are letters: what is encoded is so.
  A text that is written is of letters.
  What is encoded is of letters, is decoded, and is bytes.
  What is encoded is bytes; and Encode's answer is read by Decode.
  The document's letters, by contracts: Letter, and Bad given Rune.
  Chapter 1's examples, as the reader and the writer have them.
  awake, by a contract.
  How many of so many values are left, by a contract: what is small is nowhere too long.
  Order, by a contract.
-/
import Derived.Test.YtegcgbjjpgjnmaaGreatDoorC13
import Derived.Lib.SlBytesConst
set_option maxRecDepth 100000
set_option maxHeartbeats 16000000
namespace Go.Proofs.YtegcgbjjpgjnmaaGreatDoor
open Go.RowKit
theorem good_sub {d : Nat} {k i : Int} {t : ByteArray} {ks : List ByteArray} {l : List J} (h : goodJ (d + 1) (.mk k i t ks l) = true) : l.all (goodJ d) = true ∧ (k = 5 → ks.length = l.length ∧ ks.Pairwise (· ≠ ·)) ∧ (k ≠ 5 → ks = []) := by
 rw [goodJ, Bool.and_eq_true] at h
 obtain ⟨hb, h⟩ := h
 unfold bare at hb
 simp only [Bool.and_eq_true, Bool.or_eq_true, decide_eq_true_eq] at hb
 obtain ⟨⟨⟨_, _⟩, hk⟩, hl⟩ := hb
 refine ⟨?_, fun e => ?_, fun e => ?_⟩
 · by_cases k4 : k = 4
   · subst k4; simpa using h
   · by_cases k5 : k = 5
     · subst k5
       simp at h
       rw [List.all_eq_true]
       exact h.2
     · have : l = [] := List.eq_nil_of_length_eq_zero (by omega)
       subst this; rfl
 · subst e
   rw [if_neg (by decide), if_neg (by decide), if_neg (by decide), if_neg (by decide), if_neg (by decide), if_pos rfl] at h
   simp only [Bool.and_eq_true, decide_eq_true_eq] at h
   exact ⟨h.1.1, noTwice_pair h.1.2.2⟩
 · exact List.eq_nil_of_length_eq_zero (by omega)
theorem ai_start {O : Nat → Prop} {w : World} (hO : ∀ x, O x → x < w.heap.size) (cs5 : Array Value) : AI O (w.heap.size + 2) w.heap.size ((w.alloc (.cells cs5 25)).alloc zJ) cs5 [] (.slice none 0 0) ((w.alloc (.cells cs5 25)).alloc zJ) := by
 refine ⟨?_, ?_, ⟨[], World.ownsRow_nil _ _ _ _, rfl⟩, Below.refl _ _, by simp, by omega, hO⟩
 · rw [Below.heap_alloc _ _ _ (by simp)]; exact heap_alloc_new _ _
 · have := heap_alloc_new (w.alloc (.cells cs5 25)) zJ
   rw [show (w.alloc (.cells cs5 25)).heap.size = w.heap.size + 1 by simp] at this
   exact this
theorem ai_below {O : Nat → Prop} {w wr : World} {cs5 : Array Value} {acc : List J} {vl : Value} (h : AI O (w.heap.size + 2) w.heap.size ((w.alloc (.cells cs5 25)).alloc zJ) cs5 acc vl wr) : Below w.heap.size w wr := by
 have h1 : Below w.heap.size w ((w.alloc (.cells cs5 25)).alloc zJ) := ((Below.refl _ _).alloc (Nat.le_refl _) _).alloc (by simp) _
 have h2 := h.below
 exact h1.trans ⟨h2.os, h2.tape, h2.output, h2.size, fun k hk => h2.block k (by omega)⟩
theorem arr_below {w wr W5 : World} (h : Below w.heap.size w wr) (HK5 : Keep (One (w.heap.size + 1)) wr W5) : Below w.heap.size w W5 :=
 h.trans (HK5.below h.size fun k hk => by unfold One; omega)
theorem arr_fin {w wr W5 : World} {O : Nat → Prop} {j : J} {cs : List Value} (HK5 : Keep (One (w.heap.size + 1)) wr W5) (hj : isJ (fun x => O x ∨ (w.heap.size + 2 ≤ x ∧ x < wr.heap.size)) wr j cs) (hO : ∀ x, O x → x < w.heap.size) (hs : w.heap.size + 2 ≤ wr.heap.size) : isJ (fun x => O x ∨ New w W5 x) W5 j cs := by
 have hss := HK5.size
 refine hj.carry fun k hk => ?_
 rcases hk with hk | hk
 · have := hO k hk
   exact ⟨.inl hk, HK5.block k (by omega) (by unfold One; omega)⟩
 · exact ⟨.inr ⟨by have := hk.1; omega, by have := hk.2; omega⟩, HK5.block k hk.2 (by unfold One; have := hk.1; omega)⟩
theorem arrs_succ {d : Nat} (V : Arrs d) : Arrs (d + 1) := by
 intro w O j k i t pk pl nk ck nl cl hO hg hsz hj
 cases j with
 | mk k' i' t' ks l =>
  unfold isJ at hj
  obtain ⟨pk', ck', pl', cl', e, hrk, hlc, hjs⟩ := hj
  cases e
  unfold szJ at hsz
  simp only [Bool.and_eq_true, decide_eq_true_eq] at hsz
  obtain ⟨ht, hkl, hkz, hll, hls⟩ := hsz
  obtain ⟨hgl, hg5, hgn⟩ := good_sub hg
  have HG5 : Hid (k = 5 → ks.length = l.length ∧ ks.Pairwise (· ≠ ·)) := hg5
  have HGN : Hid (k ≠ 5 → ks = []) := hgn
  clear hg5 hgn hg hkz
  obtain ⟨n, hn⟩ : ∃ n, l.length = n := ⟨_, rfl⟩
  have HN : Hid (l.length = n) := hn
  obtain ⟨m, hm⟩ : ∃ m, ks.length = m := ⟨_, rfl⟩
  have HM : Hid (ks.length = m) := hm
  rw [hn, hm]
  rw [hn] at hll hlc
  rw [hm] at hkl
  have hai0 := ai_start hO #[.int .i64 k, .int .i64 i, .string t, .slice pk m ck, .slice pl n cl]
  clear hn hm
  go_enter Tryz.func65, Tryz.ntmps65
  go_wp2
  go_loopw [3, 9] (fun vl iv wr => ∃ q : Nat, iv = .int .i64 q ∧ q ≤ n ∧ AI O (w.heap.size + 2) w.heap.size ((w.alloc (.cells #[.int .i64 k, .int .i64 i, .string t, .slice pk m ck, .slice pl n cl] 25)).alloc zJ) #[.int .i64 k, .int .i64 i, .string t, .slice pk m ck, .slice pl n cl] (ordL (l.take q)) vl wr) (fun _ iv _ => n - (intOf iv).toNat)
  case atStart => exact ⟨0, rfl, Nat.zero_le _, by rw [List.take_zero]; exact hai0⟩
  case round =>
   clear hai0
   obtain ⟨q, rfl, hq, hai⟩ := hrel
   obtain ⟨xs0, hE0, _⟩ := hai.vals
   obtain ⟨sl1, sl2, sl3, rfl⟩ := own_slice hE0
   clear hE0
   have c0 := five_c0 hai.box; have c1 := five_c1 hai.box; have c2 := five_c2 hai.box; have c3 := five_c3 hai.box; have c4 := five_c4 hai.box
   have hbw := ai_below hai
   by_cases hql : q < n
   · have hql' : q < l.length := by rw [HN.out]; exact hql
     have HQL : Hid (q < l.length) := hql'
     obtain ⟨lb, lo, cs, hpl, hOb, hcells, hyj⟩ := isJs.at l 0 q hjs hql'
     subst hpl
     obtain ⟨kv, iv, tv, pv, nv, cv, qv, mv, dv, rfl⟩ := isJ_shape hyj
     have hblk := hbw.block lb (hO lb hOb)
     have cc : ∀ m v, [Value.int .i64 kv, .int .i64 iv, .string tv, .slice pv nv cv, .slice qv mv dv][m]? = some v → wr.cell? ⟨lb, lo + q * 5 + m, none⟩ = some v := fun m v h => by
      have := hcells m v h
      rw [Nat.zero_add] at this
      exact (World.cell?_of_block (a := ⟨lb, lo + q * 5 + m, none⟩) hblk).trans this
     have y0 : wr.cell? ⟨lb, lo + q * 5, none⟩ = some (.int .i64 kv) := cc 0 _ rfl
     have y1 := cc 1 _ rfl
     have y2 := cc 2 _ rfl
     have y3 := cc 3 _ rfl
     have y4 := cc 4 _ rfl
     clear cc hcells hql'
     have hqc : (q : Int) < (n : Int) := by omega
     have hai1 := hai.alloc (.cells #[.int .i64 kv, .int .i64 iv, .string tv, .slice pv nv cv, .slice qv mv dv] 25)
     have hb1 := ai_below hai1
     have hV := V (wr.alloc (.cells #[.int .i64 kv, .int .i64 iv, .string tv, .slice pv nv cv, .slice qv mv dv] 25)) O (l.getD q J.zero) kv iv tv pv qv nv cv mv dv (fun x hx => Nat.lt_of_lt_of_le (hO x hx) hb1.size) (all_at hgl HQL.out) (all_at hls HQL.out) (hyj.carry fun x hx => ⟨hx, hb1.block x (hO x hx)⟩)
     go_wp2_with (first
      | (go_at_call 65; refine hV.mono ?_; rintro x w4 ⟨kr, ir, tr, pr, nr, cr, qr, mr, dr, rfl, hjr, hb4⟩
         have hy := hai1.new hb4 hjr (.cells #[.int .i64 kr, .int .i64 ir, .string tr, .slice pr nr cr, .slice qr mr dr] 25)
         have hai4 := (hai1.more hb4).alloc (.cells #[.int .i64 kr, .int .i64 ir, .string tr, .slice pr nr cr, .slice qr mr dr] 25)
         obtain ⟨xs, hv1, hv2⟩ := hai4.vals)
      | (at_builtin; refine wpList_app rfl _ _ 23 rfl (w.heap.size + 2) 25 (.agg #[.int .i64 0, .int .i64 0, .string ⟨#[]⟩, .slice none 0 0, .slice none 0 0]) 5 80 Tryz.underlying23 Tryz.info25 rfl (by decide) (by decide) (.slice sl1 sl2 sl3) (ordL (l.take q)).length xs rfl hv1 _ [.int .i64 kr, .int .i64 ir, .string tr, .slice pr nr cr, .slice qr mr dr] rfl rfl (cells_at5 rfl) one5 (by rw [ordL_length, List.length_take]; omega) hai4.size ?_
         intro vl2 W5 hown5 hg5 hat5
         obtain ⟨q5, n5, c5, hE5⟩ := own_slice hown5
         subst hE5
         have hai5 := hai4.push hv1 hv2 hy hown5 hg5 hat5
         clear hown5 hg5 hat5))
     go_roundw
     case rel => exact ⟨q + 1, by go_num, hql, by rw [take_snoc HQL.out, ordL_snoc]; exact hai5⟩
     case measure => simp [intOf]; omega
   · obtain rfl : q = n := by omega
     have hlt : l.take q = l := List.take_of_length_le (by rw [HN.out]; omega)
     rw [hlt] at hai
     clear hlt
     obtain ⟨xs, hv1, hv2⟩ := hai.vals
     obtain ⟨q2, c2', hvl, hc2, hrj⟩ := own_js hv1 hv2
     have hrj' : isJs (fun x => O x ∨ (w.heap.size + 2 ≤ x ∧ x < wr.heap.size)) wr q2 0 (ordL l) := hrj.carry fun x hx => ⟨by
      rcases hx with (hx | hx) | hx
      · exact .inl hx
      · exact .inr ⟨hx.1, hx.2.1⟩
      · exact .inr hx, rfl⟩
     have HRJ : Hid (isJs (fun x => O x ∨ (w.heap.size + 2 ≤ x ∧ x < wr.heap.size)) wr q2 0 (ordL l)) := hrj'
     have HC2 : Hid ((ordL l).length ≤ c2') := hc2
     have HOL : Hid ((ordL l).length = q) := (ordL_length l).trans HN.out
     rw [HOL.out] at hvl
     cases hvl
     have hrkR : RdK (fun x => O x ∨ (w.heap.size + 2 ≤ x ∧ x < wr.heap.size)) wr pk ck ks := hrk.carry fun x hx => ⟨.inl hx, hbw.block x (hO x hx)⟩
     have HRK : Hid (RdK (fun x => O x ∨ (w.heap.size + 2 ≤ x ∧ x < wr.heap.size)) wr pk ck ks) := hrkR
     have hOw : ∀ x, (O x ∨ (w.heap.size + 2 ≤ x ∧ x < wr.heap.size)) → x < wr.heap.size := fun x hx => by
      rcases hx with hx | hx
      · have := hO x hx; have := hbw.size; omega
      · exact hx.2
     have i0 := five_c0 hai.res; have i1 := five_c1 hai.res; have i2 := five_c2 hai.res; have i3 := five_c3 hai.res; have i4 := five_c4 hai.res
     have z0 := five_fz hai.res 0; have z1 := five_fz hai.res 1; have z2 := five_fz hai.res 2; have z3 := five_fz hai.res 3; have z4 := five_fz hai.res 4
     have hsR := hai.size
     clear hrj hrj' hrkR hc2 hv1 hv2 hrk hjs
     by_cases k5 : k = 5
     · subst k5
       obtain ⟨hkn, hdist⟩ := HG5.out rfl
       have hmo := mapOf_any (cl := sl3) HRK.out HRJ.out (by rw [HOL.out, ← HN.out]; exact hkn) hOw (by rw [HM.out]; exact hkl) hdist
       rw [HM.out, HOL.out] at hmo
       clear hkn hdist
       go_wp2_with (first
       | (go_at_call 104; refine hmo.mono ?_; rintro x w8 ⟨csr, rfl, hjr, hb8⟩
          obtain ⟨kr, ir, tr, pr, nr, cr, qr, mr, dr, hcs⟩ := isJ_shape hjr
          obtain rfl : csr = #[.int .i64 kr, .int .i64 ir, .string tr, .slice pr nr cr, .slice qr mr dr] := by rw [← Array.toList_inj]; exact hcs
          have hres8 := (hb8.block _ (Array.getElem?_eq_some_iff.1 hai.res).1).trans hai.res
          have j0 := five_c0 hres8; have j1 := five_c1 hres8; have j2 := five_c2 hres8; have j3 := five_c3 hres8; have j4 := five_c4 hres8
          have x0 := five_fz hres8 0; have x1 := five_fz hres8 1; have x2 := five_fz hres8 2; have x3 := five_fz hres8 3; have x4 := five_fz hres8 4))
       have h5 := set5_heap hres8 (.int .i64 kr) (.int .i64 ir) (.string tr) (.slice pr nr cr) (.slice qr mr dr)
       have HK5 : Keep (One (w.heap.size + 1)) w8 _ := set5_keep w8 (w.heap.size + 1) (.int .i64 kr) (.int .i64 ir) (.string tr) (.slice pr nr cr) (.slice qr mr dr)
       unfold set5 at h5 HK5
       have k0 := five_c0 h5; have k1 := five_c1 h5; have k2 := five_c2 h5; have k3 := five_c3 h5; have k4 := five_c4 h5
       refine bodyPost_ret (v := .agg #[.int .i64 kr, .int .i64 ir, .string tr, .slice pr nr cr, .slice qr mr dr]) (by simp [results, Tryz.results65, go_sem, k0, k1, k2, k3, k4]) rfl ?_
       have hbE := arr_below (below_in hbw hb8) HK5
       refine ⟨_, _, _, _, _, _, _, _, _, rfl, ?_, hbE⟩
       have e : ord (.mk 5 i t ks l) = mapOf ks (ordL l) := by rw [ord, if_pos rfl]
       rw [e]
       exact arr_fin HK5 (hjr.carry fun x hx => ⟨by
        rcases hx with (hx | hx) | hx
        · exact .inl hx
        · exact .inr ⟨hx.1, by have := hb8.size; have := hx.2; omega⟩
        · exact .inr ⟨by have := hx.1; omega, hx.2⟩, rfl⟩) (fun x hx => hO x hx) (by have := hb8.size; omega)
     · have HE : Hid (ord (.mk k i t ks l) = .mk k i t [] (ordL l)) := by show _ = _; rw [ord, if_neg k5]
       go_wp2
       have h5 := set5_heap hai.res (.int .i64 k) (.int .i64 i) (.string t) (.slice none 0 0) (.slice sl1 q sl3)
       have HK5 : Keep (One (w.heap.size + 1)) wr _ := set5_keep wr (w.heap.size + 1) (.int .i64 k) (.int .i64 i) (.string t) (.slice none 0 0) (.slice sl1 q sl3)
       unfold set5 at h5 HK5
       have k0 := five_c0 h5; have k1 := five_c1 h5; have k2 := five_c2 h5; have k3 := five_c3 h5; have k4 := five_c4 h5
       refine bodyPost_ret (v := .agg #[.int .i64 k, .int .i64 i, .string t, .slice none 0 0, .slice sl1 q sl3]) (by simp [results, Tryz.results65, go_sem, k0, k1, k2, k3, k4]) rfl ?_
       have hbE := arr_below hbw HK5
       refine ⟨_, _, _, _, _, _, _, _, _, rfl, ?_, hbE⟩
       rw [HE.out]
       refine arr_fin HK5 (cs := _) ?_ (fun x hx => hO x hx) hsR
       unfold isJ
       exact ⟨none, 0, sl1, sl3, by rw [HOL.out]; rfl, RdK.nil _ _, HC2.out, HRJ.out⟩
theorem arrs : ∀ d, Arrs d
 | 0 => arrs_zero
 | d + 1 => arrs_succ (arrs d)
theorem box_stays {w w2 : World} {cs : Array Value} {t : TypeId} (h : Below (w.alloc (.cells cs t)).heap.size (w.alloc (.cells cs t)) w2) : w2.heap[w.heap.size]? = some (.cells cs t (0, 0)) ∧ Below w.heap.size w w2 :=
 ⟨by rw [h.block w.heap.size (by simp)]; exact heap_alloc_new _ _, below_in ((Below.refl _ _).alloc (Nat.le_refl _) _) h⟩
theorem good_any {w : World} {O : Nat → Prop} {j : J} {k i : Int} {t : ByteArray} {pk pl : Option Addr} {nk ck nl cl : Nat} (hO : ∀ x, O x → x < w.heap.size) (hsz : szJ 12 j = true)
    (hj : isJ O w j [.int .i64 k, .int .i64 i, .string t, .slice pk nk ck, .slice pl nl cl]) :
    Calls Tryz.prog 64 #[.agg #[.int .i64 k, .int .i64 i, .string t, .slice pk nk ck, .slice pl nl cl]] w fun x w' => x = .returned (.bool (goodJ 12 j)) ∧ Below w.heap.size w w' := by
 have hG := goods 12 (Nat.le_refl _) (w.alloc (.cells #[.int .i64 k, .int .i64 i, .string t, .slice pk nk ck, .slice pl nl cl] 25)) O j k i 1 t pk pl nk ck nl cl (fun x hx => by have := hO x hx; simp; omega) rfl hsz
  (hj.carry fun x hx => ⟨hx, Below.heap_alloc _ _ _ (hO x hx)⟩)
 go_enter Tryz.func64, Tryz.ntmps64
 go_wp2_with (go_at_call 103; refine hG.mono ?_; rintro x w2 ⟨rfl, hb2⟩)
 go_ret
 exact ⟨rfl, (box_stays hb2).2⟩
def encTold (w w' : World) (j : J) (x : Ending) : Prop :=
 (goodJ 12 j = false → x = .returned (.tuple #[.slice none 0 0, .int .i64 1])) ∧
 (goodJ 12 j = true → 16384 < (enc' (ord j)).length → x = .returned (.tuple #[.slice none 0 0, .int .i64 13])) ∧
 (goodJ 12 j = true → (enc' (ord j)).length ≤ 16384 → ∃ v, x = .returned (.tuple #[v, .int .i64 0]) ∧ w'.ownsRow w.heap.size 5 1 v (enc' (ord j)).length ((enc' (ord j)).map (Value.int .u8))) ∧ Below w.heap.size w w'
theorem own_lower {w : World} {B B' e size n : Nat} {v : Value} {xs : List Value} (h : w.ownsRow B e size v n xs) (hB : B' ≤ B) : w.ownsRow B' e size v n xs := by
 refine ⟨h.1, ?_⟩
 rcases h.2 with hn | ⟨g, cap, cur, rfl, hg, rest⟩
 · exact .inl hn
 · exact .inr ⟨g, cap, cur, rfl, by omega, rest⟩
theorem encode_any {w : World} {O : Nat → Prop} {j : J} {k i : Int} {t : ByteArray} {pk pl : Option Addr} {nk ck nl cl : Nat} (hO : ∀ x, O x → x < w.heap.size) (hsz : szJ 12 j = true) (hT : Tab w.heap.size w) (hfit : goodJ 12 j = true → fitJ 12 (ord j) = true)
    (hj : isJ O w j [.int .i64 k, .int .i64 i, .string t, .slice pk nk ck, .slice pl nl cl]) :
    Calls Tryz.prog 39 #[.agg #[.int .i64 k, .int .i64 i, .string t, .slice pk nk ck, .slice pl nl cl]] w fun x w' => encTold w w' j x := by
 have hG := good_any (w := w.alloc (.cells #[.int .i64 k, .int .i64 i, .string t, .slice pk nk ck, .slice pl nl cl] 25)) (O := O) (fun x hx => by have := hO x hx; simp; omega) hsz (hj.carry fun x hx => ⟨hx, Below.heap_alloc _ _ _ (hO x hx)⟩)
 cases hg : goodJ 12 j with
 | false =>
  rw [hg] at hG
  go_enter Tryz.func39, Tryz.ntmps39
  go_wp2_with (go_at_call 64; refine hG.mono ?_; rintro x w2 ⟨rfl, hb2⟩)
  go_ret2
  refine ⟨fun _ => rfl, fun h => ?_, fun h => ?_, (box_stays hb2).2⟩
  · rw [hg] at h; cases h
  · rw [hg] at h; cases h
 | true =>
  have HF : Hid (fitJ 12 (ord j) = true) := hfit hg
  have HGG : Hid (goodJ 12 j = true) := hg
  rw [hg] at hG
  clear hfit hg
  by_cases hlong : 16384 < (enc' (ord j)).length
  · have HLG : Hid (16384 < (enc' (ord j)).length) := hlong
    clear hlong
    go_enter Tryz.func39, Tryz.ntmps39
    go_wp2_with (first
     | (go_at_call 64; refine hG.mono ?_; rintro x w2 ⟨rfl, hb2⟩
        obtain ⟨hv, hbw⟩ := box_stays hb2
        have hbK : Below w.heap.size w (w2.alloc (.cells #[.slice none 0 0] 92)) := hbw.alloc hbw.size _
        have hv3 : (w2.alloc (.cells #[.slice none 0 0] 92)).heap[w.heap.size]? = some (.cells #[.int .i64 k, .int .i64 i, .string t, .slice pk nk ck, .slice pl nl cl] 25 (0, 0)) := by
         rw [Below.heap_alloc _ _ _ (Array.getElem?_eq_some_iff.1 hv).1]; exact hv
        have c0 := five_c0 hv3; have c1 := five_c1 hv3; have c2 := five_c2 hv3; have c3 := five_c3 hv3; have c4 := five_c4 hv3
        have hA := arrs 12 (w2.alloc (.cells #[.slice none 0 0] 92)) O j k i t pk pl nk ck nl cl (fun x hx => Nat.lt_of_lt_of_le (hO x hx) hbK.size) HGG.out hsz (hj.carry fun x hx => ⟨hx, hbK.block x (hO x hx)⟩))
     | (go_at_call 65; refine hA.mono ?_; rintro x w4 ⟨kr, ir, tr, pr, nr, cr, qr, mr, dr, rfl, hjr, hb4⟩
        have hK4 : w4.heap[w2.heap.size]? = some (.cells #[.slice none 0 0] 92 (0, 0)) := by rw [hb4.block _ (by simp)]; exact heap_alloc_new _ _
        have hbw4 := below_in hbK hb4
        have hs4 := hb4.size
        have hw4 : Wtr w4 w4.heap.size w2.heap.size [] := ⟨⟨_, hK4, World.ownsRow_nil _ _ _ _⟩, by simp at hs4; omega, Nat.le_refl _⟩
        have hT4 : Tab w2.heap.size w4 := fun w' h' => hT w' (hbw4.trans ⟨h'.os, h'.tape, h'.output, h'.size, fun x hx => h'.block x (by have := hbw.size; omega)⟩)
        have hW := writes 12 w4 w4.heap.size w2.heap.size [] (fun x => O x ∨ New (w2.alloc (.cells #[.slice none 0 0] 92)) w4 x) (ord j) kr ir tr pr qr nr cr mr dr hw4 (by simp) (fun x hx => by
         rcases hx with hx | hx
         · have := hO x hx; have := hbw.size; have := hbw4.size
           exact ⟨by simp at hs4; omega, by omega⟩
         · have e1 := hx.1; have e2 := hx.2
           simp at e1
           exact ⟨e2, by omega⟩) hT4 HF.out hjr)
     | (go_at_call 77; refine hW.mono ?_; rintro x w5 ⟨rfl, ⟨out, hput, hol, hw5⟩, hn5⟩
        have hlg := long_any hw5
        have hb5 := hn5.below (K := w2.heap.size) (by simp at hs4; omega) (by simp at hs4; omega)
        have hbw5 : Below w.heap.size w w5 := hbw4.trans ⟨hb5.os, hb5.tape, hb5.output, hb5.size, fun x hx => hb5.block x (by have := hbw.size; omega)⟩
        have hol2 : 16384 < out.length := by
         have hlo := HLG.out
         rcases hput with ⟨h1, _⟩ | ⟨_, h2⟩
         · rw [List.nil_append] at h1; omega
         · exact h2
        rw [decide_eq_true hol2] at hlg)
     | (go_at_call 78; refine hlg.mono ?_; rintro x w' ⟨rfl, rfl⟩))
    go_ret2
    refine ⟨fun h => ?_, fun _ _ => rfl, fun _ h => ?_, hbw5⟩
    · rw [HGG.out] at h; cases h
    · have := HLG.out; omega
  · have HLG : Hid ((enc' (ord j)).length ≤ 16384) := by show _ ≤ _; omega
    clear hlong
    go_enter Tryz.func39, Tryz.ntmps39
    go_wp2_with (first
     | (go_at_call 64; refine hG.mono ?_; rintro x w2 ⟨rfl, hb2⟩
        obtain ⟨hv, hbw⟩ := box_stays hb2
        have hbK : Below w.heap.size w (w2.alloc (.cells #[.slice none 0 0] 92)) := hbw.alloc hbw.size _
        have hv3 : (w2.alloc (.cells #[.slice none 0 0] 92)).heap[w.heap.size]? = some (.cells #[.int .i64 k, .int .i64 i, .string t, .slice pk nk ck, .slice pl nl cl] 25 (0, 0)) := by
         rw [Below.heap_alloc _ _ _ (Array.getElem?_eq_some_iff.1 hv).1]; exact hv
        have c0 := five_c0 hv3; have c1 := five_c1 hv3; have c2 := five_c2 hv3; have c3 := five_c3 hv3; have c4 := five_c4 hv3
        have hA := arrs 12 (w2.alloc (.cells #[.slice none 0 0] 92)) O j k i t pk pl nk ck nl cl (fun x hx => Nat.lt_of_lt_of_le (hO x hx) hbK.size) HGG.out hsz (hj.carry fun x hx => ⟨hx, hbK.block x (hO x hx)⟩))
     | (go_at_call 65; refine hA.mono ?_; rintro x w4 ⟨kr, ir, tr, pr, nr, cr, qr, mr, dr, rfl, hjr, hb4⟩
        have hK4 : w4.heap[w2.heap.size]? = some (.cells #[.slice none 0 0] 92 (0, 0)) := by rw [hb4.block _ (by simp)]; exact heap_alloc_new _ _
        have hbw4 := below_in hbK hb4
        have hs4 := hb4.size
        have hw4 : Wtr w4 w4.heap.size w2.heap.size [] := ⟨⟨_, hK4, World.ownsRow_nil _ _ _ _⟩, by simp at hs4; omega, Nat.le_refl _⟩
        have hT4 : Tab w2.heap.size w4 := fun w' h' => hT w' (hbw4.trans ⟨h'.os, h'.tape, h'.output, h'.size, fun x hx => h'.block x (by have := hbw.size; omega)⟩)
        have hW := writes 12 w4 w4.heap.size w2.heap.size [] (fun x => O x ∨ New (w2.alloc (.cells #[.slice none 0 0] 92)) w4 x) (ord j) kr ir tr pr qr nr cr mr dr hw4 (by simp) (fun x hx => by
         rcases hx with hx | hx
         · have := hO x hx; have := hbw.size; have := hbw4.size
           exact ⟨by simp at hs4; omega, by omega⟩
         · have e1 := hx.1; have e2 := hx.2
           simp at e1
           exact ⟨e2, by omega⟩) hT4 HF.out hjr)
     | (go_at_call 77; refine hW.mono ?_; rintro x w5 ⟨rfl, ⟨out, hput, hol, hw5⟩, hn5⟩
        have hlg := long_any hw5
        have hb5 := hn5.below (K := w2.heap.size) (by simp at hs4; omega) (by simp at hs4; omega)
        have hbw5 : Below w.heap.size w w5 := hbw4.trans ⟨hb5.os, hb5.tape, hb5.output, hb5.size, fun x hx => hb5.block x (by have := hbw.size; omega)⟩
        have hout : out = enc' (ord j) := by
         have hlo := HLG.out
         rcases hput with ⟨_, h2⟩ | ⟨h1, _⟩
         · rw [List.nil_append] at h2; exact h2
         · rw [List.nil_append] at h1; omega
        have HOUT : Hid (out = enc' (ord j)) := hout
        have hol2 : ¬ 16384 < out.length := by rw [hout]; have := HLG.out; omega
        clear hout
        rw [decide_eq_false hol2] at hlg
        obtain ⟨v5, h51, h52⟩ := hw5.row
        have d0 := one_c0 h51
        obtain ⟨q5, n5, c5, hE5⟩ := own_slice h52
        subst hE5)
     | (go_at_call 78; refine hlg.mono ?_; rintro x w' ⟨rfl, rfl⟩))
    go_ret2
    refine ⟨fun h => ?_, fun _ h => ?_, fun _ _ => ⟨_, rfl, ?_⟩, hbw5⟩
    · rw [HGG.out] at h; cases h
    · have := HLG.out; omega
    · rw [HOUT.out] at h52
      exact own_lower h52 (by have := hbw4.size; omega)
theorem mem_ordL {x : J} : ∀ {l : List J}, x ∈ ordL l → ∃ y ∈ l, x = ord y
 | [], h => by simp [ordL] at h
 | j :: r, h => by
  rw [ordL] at h
  rcases List.mem_cons.1 h with rfl | h
  · exact ⟨j, List.mem_cons_self .., rfl⟩
  · obtain ⟨y, hy, e⟩ := mem_ordL h
    exact ⟨y, List.mem_cons_of_mem _ hy, e⟩
section
variable {ks : List ByteArray} {l : List J}
theorem sorted_keys (hl : ks.length = l.length) : ((sortK (ks.zip l)).map (·.1)).Perm ks := by
 have := (sortK_perm (ks.zip l)).map (·.1)
 rw [List.map_fst_zip (by omega)] at this
 exact this
theorem sorted_vals (hl : ks.length = l.length) : ((sortK (ks.zip l)).map (·.2)).Perm l := by
 have := (sortK_perm (ks.zip l)).map (·.2)
 rw [List.map_snd_zip (by omega)] at this
 exact this
end
theorem good_ord : ∀ (d : Nat) (j : J), goodJ d j = true → goodJ d (ord j) = true
 | 0, j, h => by unfold goodJ at h; cases h
 | d + 1, .mk k i t ks l, h => by
  obtain ⟨hgl, hg5, hgn⟩ := good_sub h
  have hall : ∀ x ∈ ordL l, goodJ d x = true := fun x hx => by
   obtain ⟨y, hy, rfl⟩ := mem_ordL hx
   exact good_ord d y (List.all_eq_true.1 hgl y hy)
  rw [ord]
  by_cases k5 : k = 5
  · subst k5
    rw [if_pos rfl]
    obtain ⟨hlen, hp⟩ := hg5 rfl
    have hlen' : ks.length = (ordL l).length := by rw [ordL_length]; exact hlen
    have pk := sorted_keys hlen'
    have pv := sorted_vals hlen'
    have hlet : ks.all letters = true := by
     rw [goodJ, Bool.and_eq_true] at h
     have h2 := h.2
     rw [if_neg (by decide), if_neg (by decide), if_neg (by decide), if_neg (by decide), if_neg (by decide), if_pos rfl] at h2
     simp only [Bool.and_eq_true] at h2
     exact h2.1.2.1
    unfold mapOf
    rw [goodJ]
    have e1 : ((sortK (ks.zip (ordL l))).map (·.1)).all letters = true := by
     rw [List.all_eq_true] at hlet ⊢
     exact fun x hx => hlet x (pk.mem_iff.1 hx)
    have e2 : noKeyTwice ((sortK (ks.zip (ordL l))).map (·.1)) = true := pair_noTwice (pk.symm.pairwise hp fun {_ _} h => h.symm)
    have e3 : ((sortK (ks.zip (ordL l))).map (·.2)).all (goodJ d) = true := by
     rw [List.all_eq_true]
     exact fun x hx => hall x (pv.mem_iff.1 hx)
    rw [e1, e2, e3]
    simp [bare, nix, ByteArray.size]
  · rw [if_neg k5]
    have hks := hgn k5
    subst hks
    rw [goodJ, Bool.and_eq_true] at h ⊢
    have hal : (ordL l).all (goodJ d) = true := List.all_eq_true.2 hall
    refine ⟨by have := h.1; rw [bare_eq] at this ⊢; rw [ordL_length]; exact this, ?_⟩
    have h2 := h.2
    rw [hal]
    rw [hgl] at h2
    rw [if_neg k5] at h2 ⊢
    exact h2
theorem wide_ord : ∀ (d : Nat) (j : J), goodJ d j = true → szJ d j = true → wideJ d (ord j) = true
 | 0, j, _, _ => by unfold wideJ; rfl
 | d + 1, .mk k i t ks l, hg, h => by
  obtain ⟨hgl, hg5, _⟩ := good_sub hg
  unfold szJ at h
  simp only [Bool.and_eq_true, decide_eq_true_eq] at h
  obtain ⟨_, _, _, hll, hls⟩ := h
  have hall : ∀ x ∈ ordL l, wideJ d x = true := fun x hx => by
   obtain ⟨y, hy, rfl⟩ := mem_ordL hx
   exact wide_ord d y (List.all_eq_true.1 hgl y hy) (List.all_eq_true.1 hls y hy)
  rw [ord]
  by_cases k5 : k = 5
  · subst k5
    rw [if_pos rfl]
    obtain ⟨hlen, _⟩ := hg5 rfl
    have hlen' : ks.length = (ordL l).length := by rw [ordL_length]; exact hlen
    have pv := sorted_vals hlen'
    unfold mapOf wideJ
    rw [Bool.and_eq_true]
    refine ⟨decide_eq_true ?_, List.all_eq_true.2 fun x hx => hall x (pv.mem_iff.1 hx)⟩
    rw [pv.length_eq, ordL_length]; exact hll
  · rw [if_neg k5]
    unfold wideJ
    rw [Bool.and_eq_true]
    exact ⟨decide_eq_true (by rw [ordL_length]; exact hll), List.all_eq_true.2 hall⟩
theorem fit_ord {d : Nat} {j : J} (hg : goodJ d j = true) (hs : szJ d j = true) : fitJ d (ord j) = true := by
 unfold fitJ
 rw [good_ord d j hg, wide_ord d j hg hs]; rfl
theorem inOrdL_all : ∀ l : List J, inOrdL l = true ↔ ∀ x ∈ l, inOrd x = true
 | [] => by simp [inOrdL]
 | j :: r => by
  rw [inOrdL, Bool.and_eq_true, inOrdL_all r]
  simp
theorem inOrd_ord : ∀ (d : Nat) (j : J), goodJ d j = true → inOrd (ord j) = true
 | 0, j, h => by unfold goodJ at h; cases h
 | d + 1, .mk k i t ks l, h => by
  obtain ⟨hgl, hg5, hgn⟩ := good_sub h
  have hall : ∀ x ∈ ordL l, inOrd x = true := fun x hx => by
   obtain ⟨y, hy, rfl⟩ := mem_ordL hx
   exact inOrd_ord d y (List.all_eq_true.1 hgl y hy)
  rw [ord]
  by_cases k5 : k = 5
  · subst k5
    rw [if_pos rfl]
    obtain ⟨hlen, hp⟩ := hg5 rfl
    have hlen' : ks.length = (ordL l).length := by rw [ordL_length]; exact hlen
    have pv := sorted_vals hlen'
    unfold mapOf
    rw [inOrd, Bool.and_eq_true, inOrdL_all]
    refine ⟨sortK_rises' _ ?_, fun x hx => hall x (pv.mem_iff.1 hx)⟩
    have : ((ks.zip (ordL l)).map (·.1)).Pairwise (· ≠ ·) := by rw [List.map_fst_zip (by omega)]; exact hp
    exact List.pairwise_map.1 this
  · rw [if_neg k5]
    rw [inOrd, Bool.and_eq_true, inOrdL_all]
    exact ⟨rfl, hall⟩
theorem ord_same : ∀ (d : Nat) (j : J), goodJ d j = true → inOrd j = true → ord j = j
 | 0, j, h, _ => by unfold goodJ at h; cases h
 | d + 1, .mk k i t ks l, h, ho => by
  obtain ⟨hgl, hg5, hgn⟩ := good_sub h
  rw [inOrd, Bool.and_eq_true, inOrdL_all] at ho
  have hl : ∀ (r : List J), (∀ x ∈ r, x ∈ l) → ordL r = r := by
   intro r
   induction r with
   | nil => intro _; rfl
   | cons y r ih =>
    intro hr
    rw [ordL, ih fun x hx => hr x (List.mem_cons_of_mem _ hx), ord_same d y (List.all_eq_true.1 hgl y (hr y (List.mem_cons_self ..))) (ho.2 y (hr y (List.mem_cons_self ..)))]
  rw [ord, hl l fun x hx => hx]
  by_cases k5 : k = 5
  · subst k5
    rw [if_pos rfl]
    obtain ⟨hlen, hp⟩ := hg5 rfl
    unfold mapOf
    have hr : rises ((ks.zip l).map (·.1)) = true := by rw [List.map_fst_zip (by omega)]; exact ho.1
    rw [sortK_rises _ hr, List.map_fst_zip (by omega), List.map_snd_zip (by omega)]
    rw [goodJ, Bool.and_eq_true] at h
    have hb := h.1
    unfold bare at hb
    simp only [Bool.and_eq_true, Bool.or_eq_true, decide_eq_true_eq] at hb
    obtain ⟨⟨⟨h1, h2⟩, _⟩, _⟩ := hb
    have e1 : i = 0 := by omega
    have e2 : t = nix := nix_of (by omega)
    rw [e1, e2]
  · rw [if_neg k5, hgn k5]
theorem whole_ord {j : J} (hg : goodJ 12 j = true) : whole (enc' (ord j)) = .ok (ord j) (enc' (ord j)).length := whole_back (ord j) (good_ord 12 j hg) (inOrd_ord 12 j hg)
theorem rune_same {t u : List Int} {p q : Nat} {c : Int} {wd : Nat} (h : runeAt u p = (c, wd)) (h0 : wd ≠ 0) (he : ∀ i, i < wd → byteAt t (q + i) = byteAt u (p + i)) : runeAt t q = (c, wd) := by
 have g0 : byteAt t q = byteAt u p := he 0 (by omega)
 have cont : ∀ i, i < wd → contAt t (q + i) = contAt u (p + i) := fun i hi => by unfold contAt; rw [he i hi]
 unfold runeAt at h ⊢
 rw [g0]
 split at h
 · rename_i a; rw [if_pos a]; exact h
 · rename_i a
   rw [if_neg a]
   split at h
   · rename_i b
     have hw : wd = 2 := by
      split at h
      · exact (Prod.mk.inj h).2.symm
      · exact absurd (Prod.mk.inj h).2.symm h0
     subst hw
     have e1 := cont 1 (by omega)
     have f1 := he 1 (by omega)
     rw [e1, f1, if_pos b]
     exact h
   · rename_i b
     have nb : ¬ (decide (byteAt u p / 32 = 6) && contAt t (q + 1)) = true := by
      intro hb
      simp only [Bool.and_eq_true, decide_eq_true_eq] at hb
      by_cases hw : 1 < wd
      · rw [cont 1 hw] at hb
        exact b (by simp [hb.1, hb.2])
      · split at h
        · rename_i x; simp only [Bool.and_eq_true, decide_eq_true_eq] at x; omega
        · split at h
          · rename_i x; simp only [Bool.and_eq_true, decide_eq_true_eq] at x; omega
          · exact absurd (Prod.mk.inj h).2.symm h0
     rw [if_neg nb]
     split at h
     · rename_i d
       have hw : wd = 3 := by
        split at h
        · exact (Prod.mk.inj h).2.symm
        · exact absurd (Prod.mk.inj h).2.symm h0
       subst hw
       rw [cont 1 (by omega), cont 2 (by omega), he 1 (by omega), he 2 (by omega), if_pos d]
       exact h
     · rename_i d
       split at h
       · rename_i f
         have hw : wd = 4 := by
          split at h
          · exact (Prod.mk.inj h).2.symm
          · exact absurd (Prod.mk.inj h).2.symm h0
         subst hw
         have nd : ¬ (decide (byteAt u p / 16 = 14) && contAt t (q + 1) && contAt t (q + 2)) = true := by
          rw [cont 1 (by omega), cont 2 (by omega)]; exact d
         rw [if_neg nd, cont 1 (by omega), cont 2 (by omega), cont 3 (by omega), he 1 (by omega), he 2 (by omega), he 3 (by omega), if_pos f]
         exact h
       · exact absurd (Prod.mk.inj h).2.symm h0
def Fair (t : List Int) (p : Nat) : Prop := ∀ m, strayL t m p = none
theorem Fair.end {t : List Int} {p : Nat} (h : t.length ≤ p) : Fair t p := fun m => by
 cases m with
 | zero => rfl
 | succ m => unfold strayL; rw [if_neg (by omega)]
theorem Fair.step {t : List Int} {p wd : Nat} {c : Int} (hr : runeAt t p = (c, wd)) (h0 : wd ≠ 0) (h : Fair t (p + wd)) : Fair t p := fun m => by
 cases m with
 | zero => rfl
 | succ m =>
  unfold strayL
  split
  · rw [hr, if_neg h0]; exact h m
  · rfl
theorem byte_at_drop {t l r : List Int} {p i : Nat} (hd : t.drop p = l ++ r) (hi : i < l.length) : byteAt t (p + i) = l.getD i 0 := by
 unfold byteAt
 have : t[p + i]? = (l ++ r)[i]? := by rw [← hd, List.getElem?_drop]
 rw [List.getD_eq_getElem?_getD, this, List.getElem?_append_left hi, List.getD_eq_getElem?_getD]
theorem Fair.ascii {t : List Int} : ∀ (l r : List Int) (p : Nat), (∀ c ∈ l, 0 ≤ c ∧ c < 128) → t.drop p = l ++ r → Fair t (p + l.length) → Fair t p
 | [], _, p, _, _, h => by simpa using h
 | a :: l, r, p, hl, hd, h => by
  have ha := hl a (List.mem_cons_self ..)
  have hb : byteAt t p = a := byte_head (by simpa using hd)
  have hr : runeAt t p = (a, 1) := by unfold runeAt; rw [hb, if_pos ha.2]
  refine Fair.step hr (by decide) (Fair.ascii l r (p + 1) (fun c hc => hl c (List.mem_cons_of_mem _ hc)) (drop_tail (by simpa using hd)) ?_)
  rw [show p + 1 + l.length = p + (a :: l).length by simp; omega]
  exact h
theorem rune_low {t : List Int} {p : Nat} (h : byteAt t p < 128) : runeAt t p = (byteAt t p, 1) := by unfold runeAt; rw [if_pos h]
theorem rune_hi {t : List Int} {p : Nat} {c : Int} {wd : Nat} (hr : runeAt t p = (c, wd)) (h : ¬ byteAt t p < 128) : ∀ i, i < wd → 128 ≤ byteAt t (p + i) := by
 have cont : ∀ i, contAt t i = true → 128 ≤ byteAt t i := fun i hi => by have := (cont_lt hi).2; omega
 have k0 : 128 ≤ byteAt t p := by omega
 unfold runeAt at hr
 rw [if_neg h] at hr
 intro i hi
 split at hr
 · rename_i b
   simp only [Bool.and_eq_true, decide_eq_true_eq] at b
   have hw : wd ≤ 2 := by split at hr <;> (have := (Prod.mk.inj hr).2; omega)
   match i, hi with
   | 0, _ => exact k0
   | 1, _ => exact cont _ b.2
   | i + 2, hi => omega
 · split at hr
   · rename_i b
     simp only [Bool.and_eq_true, decide_eq_true_eq] at b
     have hw : wd ≤ 3 := by split at hr <;> (have := (Prod.mk.inj hr).2; omega)
     match i, hi with
     | 0, _ => exact k0
     | 1, _ => exact cont _ b.1.2
     | 2, _ => exact cont _ b.2
     | i + 3, hi => omega
   · split at hr
     · rename_i b
       simp only [Bool.and_eq_true, decide_eq_true_eq] at b
       have hw : wd ≤ 4 := by split at hr <;> (have := (Prod.mk.inj hr).2; omega)
       match i, hi with
       | 0, _ => exact k0
       | 1, _ => exact cont _ b.1.1.2
       | 2, _ => exact cont _ b.1.2
       | 3, _ => exact cont _ b.2
       | i + 4, hi => omega
     · have := (Prod.mk.inj hr).2; omega
theorem escByte_ascii {c : Int} (h : 0 ≤ c ∧ c < 128) : ∀ x ∈ escByte c, 0 ≤ x ∧ x < 128 := by
 unfold escByte hexd
 repeat' split
 all_goals
  intro x hx
  simp at hx
  omega
theorem Fair.flat {t : List Int} (s : ByteArray) : ∀ (m pos q : Nat) (r : List Int), s.size ≤ pos + m → strayL (ints s) m pos = none → t.drop q = ((ints s).drop pos).flatMap escByte ++ r → Fair t (q + (((ints s).drop pos).flatMap escByte).length) → Fair t q
 | 0, pos, q, r, hm, _, hd, h => by
  rw [List.drop_eq_nil_of_le (by rw [ints_length]; omega)] at h
  simpa using h
 | m + 1, pos, q, r, hm, hs, hd, h => by
  by_cases hp : pos < s.size
  · unfold strayL at hs
    rw [ints_length, if_pos hp] at hs
    obtain ⟨⟨c, wd⟩, hr⟩ : ∃ r, runeAt (ints s) pos = r := ⟨_, rfl⟩
    rw [hr] at hs
    have h0 : wd ≠ 0 := fun e => by simp only [e, if_true] at hs; cases hs
    simp only [if_neg h0] at hs
    obtain ⟨he, hle, hc0, hc1⟩ := rune_esc (byte_bd s) (by rw [ints_length]; exact hp) hr h0
    have hsplit : (ints s).drop pos = ((ints s).drop pos).take wd ++ (ints s).drop (pos + wd) := by
     rw [← List.drop_drop]
     exact (List.take_append_drop wd _).symm
    rw [hsplit, List.flatMap_append, he, List.append_assoc] at hd
    rw [hsplit, List.flatMap_append, he, List.length_append, ← Nat.add_assoc] at h
    have hrest := Fair.flat s m (pos + wd) (q + (escRune c).length) r (by omega) hs (drop_app hd) h
    by_cases hb : byteAt (ints s) pos < 128
    · have e := rune_low hb
      rw [hr] at e
      obtain ⟨rfl, rfl⟩ := Prod.mk.inj e
      have ec : escRune (byteAt (ints s) pos) = escByte (byteAt (ints s) pos) := by unfold escRune; rw [if_pos hb]
      rw [ec] at hd hrest
      exact Fair.ascii _ _ q (escByte_ascii ⟨hc0, hb⟩) hd hrest
    · have hi := rune_hi hr hb
      have hlen : (((ints s).drop pos).take wd).length = wd := by
       rw [List.length_take, List.length_drop]
       rw [ints_length] at hle ⊢
       omega
      have et : escRune c = ((ints s).drop pos).take wd := by
       rw [← he]
       refine esc_high _ fun x hx => ?_
       obtain ⟨i, hi', rfl⟩ := List.getElem_of_mem hx
       rw [hlen] at hi'
       have := hi i hi'
       unfold byteAt at this
       rw [List.getD_eq_getElem?_getD, List.getElem?_eq_getElem (by rw [ints_length] at hle ⊢; omega)] at this
       simpa using this
      rw [et, hlen] at hrest
      rw [et] at hd
      refine Fair.step (rune_same hr h0 fun i hi' => ?_) h0 hrest
      rw [byte_at_drop hd (by rw [hlen]; exact hi')]
      unfold byteAt
      rw [List.getD_eq_getElem?_getD, List.getElem?_take, if_pos hi', List.getElem?_drop, List.getD_eq_getElem?_getD]
  · rw [List.drop_eq_nil_of_le (by rw [ints_length]; omega)] at h
    simpa using h
theorem Fair.quote {t r : List Int} {s : ByteArray} {q : Nat} (hs : stray (ints s) = none) (hd : t.drop q = quote (ints s) ++ r) (h : Fair t (q + (quote (ints s)).length)) : Fair t q := by
 unfold Go.Proofs.YtegcgbjjpgjnmaaGreatDoor.quote at hd h
 have hd1 : t.drop q = [34] ++ ((ints s).flatMap escByte ++ ([34] ++ r)) := by rw [hd]; simp
 have hd2 := drop_app hd1
 have hd3 := drop_app hd2
 refine Fair.ascii [34] _ q (by intro c hc; simp at hc; omega) hd1 ?_
 unfold stray at hs
 rw [ints_length] at hs
 refine Fair.flat s s.size 0 (q + 1) _ (by omega) hs (by simpa using hd2) ?_
 refine Fair.ascii [34] r _ (by intro c hc; simp at hc; omega) (by simpa using hd3) ?_
 simp only [List.length_cons, List.length_append, List.drop_zero, List.length_nil] at h ⊢
 rw [show q + 1 + ((ints s).flatMap escByte).length + (0 + 1) = q + (((ints s).flatMap escByte).length + (0 + 1) + 1) by omega]
 exact h
def Pure (l : List Int) : Prop := ∀ (t r : List Int) (q : Nat), t.drop q = l ++ r → Fair t (q + l.length) → Fair t q
theorem Pure.nil : Pure [] := fun _ _ _ _ h => by simpa using h
theorem Pure.app {a b : List Int} (ha : Pure a) (hb : Pure b) : Pure (a ++ b) := fun t r q hd h => by
 rw [List.append_assoc] at hd
 rw [List.length_append, ← Nat.add_assoc] at h
 exact ha t _ q hd (hb t r _ (drop_app hd) h)
theorem Pure.ascii {l : List Int} (h : ∀ c ∈ l, 0 ≤ c ∧ c < 128) : Pure l := fun _ r q hd hf => Fair.ascii l r q h hd hf
theorem Pure.text {s : ByteArray} (h : letters s = true) : Pure (quote (ints s)) := fun _ _ _ hd hf => Fair.quote (Option.isNone_iff_eq_none.1 h) hd hf
theorem Pure.one {c : Int} (h : 0 ≤ c ∧ c < 128) : Pure [c] := Pure.ascii fun x hx => by rw [List.mem_singleton.1 hx]; exact h
theorem Pure.cons {c : Int} {l : List Int} (h : 0 ≤ c ∧ c < 128) (hl : Pure l) : Pure (c :: l) := (Pure.one h).app hl
theorem pure_comma (b : Bool) : Pure (if b then [] else [44]) := by
 cases b
 · exact Pure.one (by decide)
 · exact Pure.nil
theorem pure_list : ∀ (l : List J) (b : Bool), (∀ j ∈ l, Pure (enc' j)) → Pure (encL b l)
 | [], b, _ => by rw [encL]; exact Pure.nil
 | j :: r, b, h => by
  rw [encL_cons]
  exact (pure_comma b).app ((h j (List.mem_cons_self ..)).app (pure_list r false fun x hx => h x (List.mem_cons_of_mem _ hx)))
theorem letters_nix : letters nix = true := by decide
theorem headD_letters {ks : List ByteArray} (h : ∀ k ∈ ks, letters k = true) : letters (ks.headD nix) = true := by
 cases ks with
 | nil => exact letters_nix
 | cons k r => exact h k (List.mem_cons_self ..)
theorem pure_pairs : ∀ (l : List J) (ks : List ByteArray) (b : Bool), (∀ k ∈ ks, letters k = true) → (∀ j ∈ l, Pure (enc' j)) → Pure (encP b ks l)
 | [], ks, b, _, _ => by rw [encP]; exact Pure.nil
 | j :: r, ks, b, hk, h => by
  rw [encP_cons]
  exact (pure_comma b).app ((Pure.text (headD_letters hk)).app (Pure.cons (by decide) ((h j (List.mem_cons_self ..)).app (pure_pairs r ks.tail false (fun k hk' => hk k (List.mem_of_mem_tail hk')) fun x hx => h x (List.mem_cons_of_mem _ hx)))))
theorem dig_bd {c : Int} (h : isDig c = true) : 0 ≤ c ∧ c < 128 := by
 unfold isDig at h
 simp only [Bool.and_eq_true, decide_eq_true_eq] at h
 omega
theorem numB_ascii (n : Int) : ∀ c ∈ numB n, 0 ≤ c ∧ c < 128 := by
 intro c hc
 unfold numB Lib.itoa at hc
 split at hc
 · rw [List.map_cons] at hc
   rcases List.mem_cons.1 hc with rfl | hc
   · decide
   · exact dig_bd (ten_dig _ c hc)
 · exact dig_bd (ten_dig _ c hc)
theorem pure_enc : ∀ (d : Nat) (j : J), goodJ d j = true → Pure (enc' j)
 | 0, j, h => by unfold goodJ at h; cases h
 | d + 1, .mk k i t ks l, h => by
  obtain ⟨hgl, hg5, hgn⟩ := good_sub h
  have hall : ∀ x ∈ l, Pure (enc' x) := fun x hx => pure_enc d x (List.all_eq_true.1 hgl x hx)
  rw [goodJ, Bool.and_eq_true] at h
  have h2 := h.2
  rw [enc']
  split
  · exact Pure.ascii (by intro c hc; simp at hc; omega)
  · rename_i k0
    rw [if_neg k0] at h2
    split
    · split <;> exact Pure.ascii (by intro c hc; simp at hc; omega)
    · rename_i k1
      rw [if_neg k1] at h2
      split
      · exact Pure.ascii (numB_ascii i)
      · rename_i k2
        rw [if_neg k2] at h2
        split
        · rename_i k3
          rw [if_pos k3] at h2
          exact Pure.text h2
        · rename_i k3
          rw [if_neg k3] at h2
          split
          · exact Pure.cons (by decide) ((pure_list l true hall).app (Pure.one (by decide)))
          · rename_i k4
            rw [if_neg k4] at h2
            split
            · rename_i k5
              rw [if_pos k5] at h2
              simp only [Bool.and_eq_true] at h2
              exact Pure.cons (by decide) ((pure_pairs l ks true (List.all_eq_true.1 h2.1.2.1) hall).app (Pure.one (by decide)))
            · exact Pure.nil
theorem stray_enc {d : Nat} {j : J} (h : goodJ d j = true) : stray (enc' j) = none := by
 unfold stray
 exact pure_enc d j h (enc' j) [] 0 (by simp) (Fair.end (by omega)) _
theorem decode_enc {j : J} (hg : goodJ 12 j = true) (hl : (enc' (ord j)).length ≤ 16384) : decode (enc' (ord j)) = .ok (ord j) (enc' (ord j)).length := by
 unfold decode
 rw [if_neg (by omega), stray_enc (good_ord 12 j hg)]
 exact whole_ord hg
def Bytes (l : List Int) : Prop := ∀ c ∈ l, 0 ≤ c ∧ c ≤ 255
theorem Bytes.nil : Bytes [] := fun _ h => by cases h
theorem Bytes.app {a b : List Int} (ha : Bytes a) (hb : Bytes b) : Bytes (a ++ b) := fun c hc => (List.mem_append.1 hc).elim (ha c) (hb c)
theorem Bytes.cons {c : Int} {l : List Int} (h : 0 ≤ c ∧ c ≤ 255) (hl : Bytes l) : Bytes (c :: l) := fun x hx => by
 rcases List.mem_cons.1 hx with rfl | hx
 · exact h
 · exact hl x hx
theorem ints_bytes (s : ByteArray) : Bytes (ints s) := fun c hc => by
 unfold ints at hc
 obtain ⟨x, _, rfl⟩ := List.mem_map.1 hc
 have := x.toNat_lt
 omega
theorem quote_bd (s : ByteArray) : Bytes (quote (ints s)) := by
 unfold quote
 refine Bytes.cons (by decide) (Bytes.app (fun c hc => ?_) (Bytes.cons (by decide) Bytes.nil))
 obtain ⟨x, hx, hc⟩ := List.mem_flatMap.1 hc
 exact (escByte_bd (ints_bytes s x hx)).1 c hc
theorem comma_bd (b : Bool) : Bytes (if b then [] else [44]) := by
 cases b
 · exact Bytes.cons (by decide) Bytes.nil
 · exact Bytes.nil
theorem encL_bd : ∀ (l : List J) (b : Bool), (∀ j ∈ l, Bytes (enc' j)) → Bytes (encL b l)
 | [], b, _ => by rw [encL]; exact Bytes.nil
 | j :: r, b, h => by
  rw [encL_cons]
  exact (comma_bd b).app ((h j (List.mem_cons_self ..)).app (encL_bd r false fun x hx => h x (List.mem_cons_of_mem _ hx)))
theorem encP_bd : ∀ (l : List J) (ks : List ByteArray) (b : Bool), (∀ j ∈ l, Bytes (enc' j)) → Bytes (encP b ks l)
 | [], ks, b, _ => by rw [encP]; exact Bytes.nil
 | j :: r, ks, b, h => by
  rw [encP_cons]
  exact (comma_bd b).app ((quote_bd _).app (Bytes.cons (by decide) ((h j (List.mem_cons_self ..)).app (encP_bd r ks.tail false fun x hx => h x (List.mem_cons_of_mem _ hx)))))
theorem enc_bd : ∀ (d : Nat) (j : J), goodJ d j = true → Bytes (enc' j)
 | 0, j, h => by unfold goodJ at h; cases h
 | d + 1, .mk k i t ks l, h => by
  obtain ⟨hgl, _, _⟩ := good_sub h
  have hall : ∀ x ∈ l, Bytes (enc' x) := fun x hx => enc_bd d x (List.all_eq_true.1 hgl x hx)
  rw [enc']
  split
  · intro c hc; simp at hc; omega
  · split
    · split <;> (intro c hc; simp at hc; omega)
    · split
      · intro c hc; have := numB_ascii i c hc; omega
      · split
        · exact quote_bd t
        · split
          · exact Bytes.cons (by decide) ((encL_bd l true hall).app (Bytes.cons (by decide) Bytes.nil))
          · split
            · exact Bytes.cons (by decide) ((encP_bd l ks true hall).app (Bytes.cons (by decide) Bytes.nil))
            · exact Bytes.nil
theorem enc_rd {w w' : World} {j : J} {v : Value} (hg : goodJ 12 j = true) (h : w'.ownsRow w.heap.size 5 1 v (enc' (ord j)).length ((enc' (ord j)).map (Value.int .u8))) : ∃ q c, v = .slice q (enc' (ord j)).length c ∧ Rd w'.heap.size w' q c (enc' (ord j)) :=
 own_rd h (enc_bd 12 (ord j) (good_ord 12 j hg))
theorem below_cat {B : Nat} {a b c : World} (h : Below B a b) (hB : B ≤ b.heap.size) (g : Below b.heap.size b c) : Below B a c := h.trans ⟨g.os, g.tape, g.output, g.size, fun k hk => g.block k (by omega)⟩
theorem key_getD {ks : List ByteArray} {m : Nat} (hm : m < ks.length) : ks.getD m nix = ks[m] := by
 rw [List.getD_eq_getElem?_getD, List.getElem?_eq_getElem hm]; rfl
theorem sz_less : ∀ (d e : Nat) (j : J), d ≤ e → szJ e j = true → szJ d j = true
 | 0, _, _, _, _ => by unfold szJ; rfl
 | d + 1, 0, _, h, _ => by omega
 | d + 1, e + 1, .mk k i t ks l, h, hs => by
  unfold szJ at hs ⊢
  simp only [Bool.and_eq_true] at hs ⊢
  refine ⟨hs.1, hs.2.1, hs.2.2.1, hs.2.2.2.1, ?_⟩
  rw [List.all_eq_true]
  intro x hx
  exact sz_less d e x (by omega) (List.all_eq_true.1 hs.2.2.2.2 x hx)
def ordT (j : J) : J := if goodJ 12 j = true then ord j else J.zero
theorem two_new {w : World} (o1 o2 : Obj) : ((w.alloc o1).alloc o2).heap[w.heap.size + 1]? = some o2 := by
 have := heap_alloc_new (w.alloc o1) o2
 simpa using this
theorem below_then2 {w w2 w3 : World} (h : Below w.heap.size w w2) (hk : Keep (One (w.heap.size + 1)) w2 w3) : Below w.heap.size w w3 :=
 h.trans (hk.below h.size fun k hk' e => by unfold One at e; omega)
end Go.Proofs.YtegcgbjjpgjnmaaGreatDoor

/-
  A list that is put in order, one value after another.
  A value put in order, by a contract.
  Good and Encode, by contracts.
  What is good is good in order, and no longer.
  What was put in order is in order, stays as it is, and is read back.
  Bytes that are letters: what is encoded is so.
  A text that is written is of letters.
  What is encoded is of letters, is decoded, and is bytes.
  What is encoded is bytes; and Encode's answer is read by Decode.
  The document's letters, by contracts: Letter, and Bad given Rune.
  Chapter 1's examples, as the reader and the writer have them.
  awake, by a contract.
  How many of so many values are left, by a contract: what is small is nowhere too long.
  Order, by a contract.
  Levels as plain data: rows of names, what changes from one to the next, who may change it.
  Levels as they lie in memory; who has which level: by contracts.
  Blocks of cells that are stored into, read, and rows of names in a block.
  Values in order, and what stands under a key of them.
  A key found in a row that rises: by contracts.
  What the reader of a content tells: by contracts.
-/
import Derived.Test.YtimhpglfolbomabGreatRL08
import Derived.Lib.SlBytesConst
import Derived.Deep.Cut
set_option maxRecDepth 100000
set_option maxHeartbeats 16000000
namespace Go.Proofs.YtimhpglfolbomabGreat
open Go.RowKit
def Elo (O : Nat → Prop) (B : Nat) (v : Value) (w : World) : Nat → Prop := fun k => O k ∨ (B ≤ k ∧ k < w.heap.size ∧ v.ownBlock ≠ some k)
structure AI (O : Nat → Prop) (B b : Nat) (WA : World) (cs5 : Array Value) (acc : List J) (vl : Value) (wr : World) : Prop where
 box : wr.heap[b]? = some (.cells cs5 38 (0, 0))
 res : wr.heap[b + 1]? = some (.cells #[.int .i64 0, .int .i64 0, .string ⟨#[]⟩, .slice none 0 0, .slice none 0 0] 38 (0, 0))
 vals : ∃ xs, wr.ownsRow B 38 5 vl acc.length xs ∧ isRow (Elo O B vl wr) wr acc xs
 below : Below B WA wr
 szA : WA.heap.size = B
 lt : b + 1 < B
 low : ∀ k, O k → k < b
section
variable {O : Nat → Prop} {B b : Nat} {WA W W4 W5 : World} {cs5 : Array Value} {acc : List J} {vl vl' : Value} {o1 o2 : Obj} {y : J} {cs xs : List Value}
theorem AI.size (h : AI O B b WA cs5 acc vl W) : B ≤ W.heap.size := by have := h.below.size; have := h.szA; omega
theorem AI.more (h : AI O B b WA cs5 acc vl W) (hb : Below W.heap.size W W4) : AI O B b WA cs5 acc vl W4 := by
 have hs := h.size
 have hlt := h.lt
 have hss := hb.size
 obtain ⟨xs, h1, h2⟩ := h.vals
 have kp : Keep (fun _ => False) W W4 := Keep.of_below hb
 refine ⟨(hb.block b (by omega)).trans h.box, (hb.block (b + 1) (by omega)).trans h.res, ⟨xs, own_keep h1 kp fun _ _ h => h, h2.carry fun k hk => ?_⟩, h.below.trans ⟨hb.os, hb.tape, hb.output, hb.size, fun k hk => hb.block k (by omega)⟩, h.szA, hlt, h.low⟩
 rcases hk with hk | hk
 · have := h.low k hk
   exact ⟨.inl hk, hb.block k (by omega)⟩
 · exact ⟨.inr ⟨hk.1, by have := hk.2.1; omega, hk.2.2⟩, hb.block k hk.2.1⟩
theorem AI.alloc (h : AI O B b WA cs5 acc vl W) (o : Obj) : AI O B b WA cs5 acc vl (W.alloc o) := h.more ((Below.refl _ _).alloc (Nat.le_refl _) o)
theorem AI.push (h : AI O B b WA cs5 acc vl W) (h1 : W.ownsRow B 38 5 vl acc.length xs) (h2 : isRow (Elo O B vl W) W acc xs) (hy : isJ (Elo O B vl W) W y cs)
    (hown : W5.ownsRow B 38 5 vl' (acc.length + 1) (xs ++ cs)) (hg : W.grownBy W5 vl.ownBlock) (hat : vl'.ownBlock = vl.ownBlock ∨ vl'.ownBlock = some W.heap.size) : AI O B b WA cs5 (acc ++ [y]) vl' W5 := by
 have hs := h.size
 have hlt := h.lt
 have hss := hg.size
 have hgv := own_ge h1
 have low : ∀ k, k < B → W5.heap[k]? = W.heap[k]? := fun k hk => hg.block k (by omega) fun e => by have := (hgv k e.symm).1; omega
 have carry : ∀ k, Elo O B vl W k → Elo O B vl' W5 k ∧ W5.heap[k]? = W.heap[k]? := by
  intro k hk
  rcases hk with hk | hk
  · have := h.low k hk
    exact ⟨.inl hk, low k (by omega)⟩
  · refine ⟨.inr ⟨hk.1, by have := hk.2.1; omega, fun e => ?_⟩, hg.block k hk.2.1 fun e => hk.2.2 e.symm⟩
    rcases hat with h' | h'
    · exact hk.2.2 (h' ▸ e)
    · rw [h'] at e
      have := Option.some.inj e
      have := hk.2.1
      omega
 exact ⟨(low b (by omega)).trans h.box, (low (b + 1) (by omega)).trans h.res, ⟨xs ++ cs, by rw [List.length_append]; exact hown, isRow.snoc hy.five (hy.carry carry) acc xs (h2.carry carry)⟩, h.below.trans ⟨hg.os, hg.tape, hg.output, hg.size, low⟩, h.szA, hlt, h.low⟩
theorem AI.new (h : AI O B b WA cs5 acc vl W) (hb : Below W.heap.size W W4) (hy : isJ (fun k => O k ∨ New W W4 k) W4 y cs) (o : Obj) : isJ (Elo O B vl (W4.alloc o)) (W4.alloc o) y cs := by
 have hs := h.size
 have hss := hb.size
 obtain ⟨xs, h1, _⟩ := h.vals
 refine hy.carry fun k hk => ?_
 rcases hk with hk | hk
 · have := h.low k hk
   have := h.lt
   exact ⟨.inl hk, Below.heap_alloc _ _ _ (by omega)⟩
 · have e1 := hk.1
   have e2 := hk.2
   exact ⟨.inr ⟨by omega, by simp; omega, fun e => by have := (own_ge h1 k e).2; omega⟩, Below.heap_alloc _ _ _ e2⟩
end
theorem ordL_length : ∀ l : List J, (ordL l).length = l.length
 | [] => by simp [ordL]
 | j :: r => by simp [ordL, ordL_length r]
theorem ordL_snoc (j : J) : ∀ l : List J, ordL (l ++ [j]) = ordL l ++ [ord j]
 | [] => by simp [ordL]
 | i :: r => by simp [ordL, ordL_snoc j r]
def Arrs (d : Nat) : Prop := ∀ (w : World) (O : Nat → Prop) (j : J) (k i : Int) (t : ByteArray) (pk pl : Option Addr) (nk ck nl cl : Nat), (∀ x, O x → x < w.heap.size) → goodJ d j = true → szJ d j = true →
 isJ O w j [.int .i64 k, .int .i64 i, .string t, .slice pk nk ck, .slice pl nl cl] →
 Calls Tryz.prog 106 #[.agg #[.int .i64 k, .int .i64 i, .string t, .slice pk nk ck, .slice pl nl cl]] w fun x w' => ∃ k i t pk nk ck pl nl cl, x = .returned (.agg #[.int .i64 k, .int .i64 i, .string t, .slice pk nk ck, .slice pl nl cl]) ∧
  isJ (fun x => O x ∨ New w w' x) w' (ord j) [.int .i64 k, .int .i64 i, .string t, .slice pk nk ck, .slice pl nl cl] ∧ Below w.heap.size w w'
theorem arrs_zero : Arrs 0 := by
 intro w O j k i t pk pl nk ck nl cl hO hg
 unfold goodJ at hg
 cases hg
theorem good_sub {d : Nat} {k i : Int} {t : ByteArray} {ks : List ByteArray} {l : List J} (h : goodJ (d + 1) (.mk k i t ks l) = true) : l.all (goodJ d) = true ∧ (k = 5 → ks.length = l.length ∧ ks.Pairwise (· ≠ ·)) ∧ (k ≠ 5 → ks = []) := by
 rw [goodJ, Bool.and_eq_true] at h
 obtain ⟨hb, h⟩ := h
 unfold bare at hb
 simp only [Bool.and_eq_true, Bool.or_eq_true, decide_eq_true_eq] at hb
 obtain ⟨⟨⟨_, _⟩, hk⟩, hl⟩ := hb
 refine ⟨?_, fun e => ?_, fun e => ?_⟩
 · by_cases k4 : k = 4
   · subst k4; simpa using h
   · by_cases k5 : k = 5
     · subst k5
       simp at h
       rw [List.all_eq_true]
       exact h.2
     · have : l = [] := List.eq_nil_of_length_eq_zero (by omega)
       subst this; rfl
 · subst e
   rw [if_neg (by decide), if_neg (by decide), if_neg (by decide), if_neg (by decide), if_neg (by decide), if_pos rfl] at h
   simp only [Bool.and_eq_true, decide_eq_true_eq] at h
   exact ⟨h.1.1, noTwice_pair h.1.2.2⟩
 · exact List.eq_nil_of_length_eq_zero (by omega)
theorem ai_start {O : Nat → Prop} {w : World} (hO : ∀ x, O x → x < w.heap.size) (cs5 : Array Value) : AI O (w.heap.size + 2) w.heap.size ((w.alloc (.cells cs5 38)).alloc zJ) cs5 [] (.slice none 0 0) ((w.alloc (.cells cs5 38)).alloc zJ) := by
 refine ⟨?_, ?_, ⟨[], World.ownsRow_nil _ _ _ _, rfl⟩, Below.refl _ _, by simp, by omega, hO⟩
 · rw [Below.heap_alloc _ _ _ (by simp)]; exact heap_alloc_new _ _
 · have := heap_alloc_new (w.alloc (.cells cs5 38)) zJ
   rw [show (w.alloc (.cells cs5 38)).heap.size = w.heap.size + 1 by simp] at this
   exact this
theorem ai_below {O : Nat → Prop} {w wr : World} {cs5 : Array Value} {acc : List J} {vl : Value} (h : AI O (w.heap.size + 2) w.heap.size ((w.alloc (.cells cs5 38)).alloc zJ) cs5 acc vl wr) : Below w.heap.size w wr := by
 have h1 : Below w.heap.size w ((w.alloc (.cells cs5 38)).alloc zJ) := ((Below.refl _ _).alloc (Nat.le_refl _) _).alloc (by simp) _
 have h2 := h.below
 exact h1.trans ⟨h2.os, h2.tape, h2.output, h2.size, fun k hk => h2.block k (by omega)⟩
theorem arr_below {w wr W5 : World} (h : Below w.heap.size w wr) (HK5 : Keep (One (w.heap.size + 1)) wr W5) : Below w.heap.size w W5 :=
 h.trans (HK5.below h.size fun k hk => by unfold One; omega)
theorem arr_fin {w wr W5 : World} {O : Nat → Prop} {j : J} {cs : List Value} (HK5 : Keep (One (w.heap.size + 1)) wr W5) (hj : isJ (fun x => O x ∨ (w.heap.size + 2 ≤ x ∧ x < wr.heap.size)) wr j cs) (hO : ∀ x, O x → x < w.heap.size) (hs : w.heap.size + 2 ≤ wr.heap.size) : isJ (fun x => O x ∨ New w W5 x) W5 j cs := by
 have hss := HK5.size
 refine hj.carry fun k hk => ?_
 rcases hk with hk | hk
 · have := hO k hk
   exact ⟨.inl hk, HK5.block k (by omega) (by unfold One; omega)⟩
 · exact ⟨.inr ⟨by have := hk.1; omega, by have := hk.2; omega⟩, HK5.block k hk.2 (by unfold One; have := hk.1; omega)⟩
theorem arrs_succ {d : Nat} (V : Arrs d) : Arrs (d + 1) := by
 intro w O j k i t pk pl nk ck nl cl hO hg hsz hj
 cases j with
 | mk k' i' t' ks l =>
  unfold isJ at hj
  obtain ⟨pk', ck', pl', cl', e, hrk, hlc, hjs⟩ := hj
  cases e
  unfold szJ at hsz
  simp only [Bool.and_eq_true, decide_eq_true_eq] at hsz
  obtain ⟨ht, hkl, hkz, hll, hls⟩ := hsz
  obtain ⟨hgl, hg5, hgn⟩ := good_sub hg
  have HG5 : Hid (k = 5 → ks.length = l.length ∧ ks.Pairwise (· ≠ ·)) := hg5
  have HGN : Hid (k ≠ 5 → ks = []) := hgn
  clear hg5 hgn hg hkz
  obtain ⟨n, hn⟩ : ∃ n, l.length = n := ⟨_, rfl⟩
  have HN : Hid (l.length = n) := hn
  obtain ⟨m, hm⟩ : ∃ m, ks.length = m := ⟨_, rfl⟩
  have HM : Hid (ks.length = m) := hm
  rw [hn, hm]
  rw [hn] at hll hlc
  rw [hm] at hkl
  have hai0 := ai_start hO #[.int .i64 k, .int .i64 i, .string t, .slice pk m ck, .slice pl n cl]
  clear hn hm
  go_enter Tryz.func106, Tryz.ntmps106
  go_wp2
  go_loopw [3, 9] (fun vl iv wr => ∃ q : Nat, iv = .int .i64 q ∧ q ≤ n ∧ AI O (w.heap.size + 2) w.heap.size ((w.alloc (.cells #[.int .i64 k, .int .i64 i, .string t, .slice pk m ck, .slice pl n cl] 38)).alloc zJ) #[.int .i64 k, .int .i64 i, .string t, .slice pk m ck, .slice pl n cl] (ordL (l.take q)) vl wr) (fun _ iv _ => n - (intOf iv).toNat)
  case atStart => exact ⟨0, rfl, Nat.zero_le _, by rw [List.take_zero]; exact hai0⟩
  case round =>
   clear hai0
   obtain ⟨q, rfl, hq, hai⟩ := hrel
   obtain ⟨xs0, hE0, _⟩ := hai.vals
   obtain ⟨sl1, sl2, sl3, rfl⟩ := own_slice hE0
   clear hE0
   have c0 := five_c0 hai.box; have c1 := five_c1 hai.box; have c2 := five_c2 hai.box; have c3 := five_c3 hai.box; have c4 := five_c4 hai.box
   have hbw := ai_below hai
   by_cases hql : q < n
   · have hql' : q < l.length := by rw [HN.out]; exact hql
     have HQL : Hid (q < l.length) := hql'
     obtain ⟨lb, lo, cs, hpl, hOb, hcells, hyj⟩ := isJs.at l 0 q hjs hql'
     subst hpl
     obtain ⟨kv, iv, tv, pv, nv, cv, qv, mv, dv, rfl⟩ := isJ_shape hyj
     have hblk := hbw.block lb (hO lb hOb)
     have cc : ∀ m v, [Value.int .i64 kv, .int .i64 iv, .string tv, .slice pv nv cv, .slice qv mv dv][m]? = some v → wr.cell? ⟨lb, lo + q * 5 + m, none⟩ = some v := fun m v h => by
      have := hcells m v h
      rw [Nat.zero_add] at this
      exact (World.cell?_of_block (a := ⟨lb, lo + q * 5 + m, none⟩) hblk).trans this
     have y0 : wr.cell? ⟨lb, lo + q * 5, none⟩ = some (.int .i64 kv) := cc 0 _ rfl
     have y1 := cc 1 _ rfl
     have y2 := cc 2 _ rfl
     have y3 := cc 3 _ rfl
     have y4 := cc 4 _ rfl
     clear cc hcells hql'
     have hqc : (q : Int) < (n : Int) := by omega
     have hai1 := hai.alloc (.cells #[.int .i64 kv, .int .i64 iv, .string tv, .slice pv nv cv, .slice qv mv dv] 38)
     have hb1 := ai_below hai1
     have hV := V (wr.alloc (.cells #[.int .i64 kv, .int .i64 iv, .string tv, .slice pv nv cv, .slice qv mv dv] 38)) O (l.getD q J.zero) kv iv tv pv qv nv cv mv dv (fun x hx => Nat.lt_of_lt_of_le (hO x hx) hb1.size) (all_at hgl HQL.out) (all_at hls HQL.out) (hyj.carry fun x hx => ⟨hx, hb1.block x (hO x hx)⟩)
     go_wp2_with (first
      | (go_at_call 106; refine hV.mono ?_; rintro x w4 ⟨kr, ir, tr, pr, nr, cr, qr, mr, dr, rfl, hjr, hb4⟩
         have hy := hai1.new hb4 hjr (.cells #[.int .i64 kr, .int .i64 ir, .string tr, .slice pr nr cr, .slice qr mr dr] 38)
         have hai4 := (hai1.more hb4).alloc (.cells #[.int .i64 kr, .int .i64 ir, .string tr, .slice pr nr cr, .slice qr mr dr] 38)
         obtain ⟨xs, hv1, hv2⟩ := hai4.vals)
      | (at_builtin; refine wpList_app rfl _ _ 36 rfl (w.heap.size + 2) 38 (.agg #[.int .i64 0, .int .i64 0, .string ⟨#[]⟩, .slice none 0 0, .slice none 0 0]) 5 80 Tryz.underlying36 Tryz.info38 rfl (by decide) (by decide) (.slice sl1 sl2 sl3) (ordL (l.take q)).length xs rfl hv1 _ [.int .i64 kr, .int .i64 ir, .string tr, .slice pr nr cr, .slice qr mr dr] rfl rfl (cells_at5 rfl) one5 (by rw [ordL_length, List.length_take]; omega) hai4.size ?_
         intro vl2 W5 hown5 hg5 hat5
         obtain ⟨q5, n5, c5, hE5⟩ := own_slice hown5
         subst hE5
         have hai5 := hai4.push hv1 hv2 hy hown5 hg5 hat5
         clear hown5 hg5 hat5))
     go_roundw
     case rel => exact ⟨q + 1, by go_num, hql, by rw [take_snoc HQL.out, ordL_snoc]; exact hai5⟩
     case measure => simp [intOf]; omega
   · obtain rfl : q = n := by omega
     have hlt : l.take q = l := List.take_of_length_le (by rw [HN.out]; omega)
     rw [hlt] at hai
     clear hlt
     obtain ⟨xs, hv1, hv2⟩ := hai.vals
     obtain ⟨q2, c2', hvl, hc2, hrj⟩ := own_js hv1 hv2
     have hrj' : isJs (fun x => O x ∨ (w.heap.size + 2 ≤ x ∧ x < wr.heap.size)) wr q2 0 (ordL l) := hrj.carry fun x hx => ⟨by
      rcases hx with (hx | hx) | hx
      · exact .inl hx
      · exact .inr ⟨hx.1, hx.2.1⟩
      · exact .inr hx, rfl⟩
     have HRJ : Hid (isJs (fun x => O x ∨ (w.heap.size + 2 ≤ x ∧ x < wr.heap.size)) wr q2 0 (ordL l)) := hrj'
     have HC2 : Hid ((ordL l).length ≤ c2') := hc2
     have HOL : Hid ((ordL l).length = q) := (ordL_length l).trans HN.out
     rw [HOL.out] at hvl
     cases hvl
     have hrkR : RdK (fun x => O x ∨ (w.heap.size + 2 ≤ x ∧ x < wr.heap.size)) wr pk ck ks := hrk.carry fun x hx => ⟨.inl hx, hbw.block x (hO x hx)⟩
     have HRK : Hid (RdK (fun x => O x ∨ (w.heap.size + 2 ≤ x ∧ x < wr.heap.size)) wr pk ck ks) := hrkR
     have hOw : ∀ x, (O x ∨ (w.heap.size + 2 ≤ x ∧ x < wr.heap.size)) → x < wr.heap.size := fun x hx => by
      rcases hx with hx | hx
      · have := hO x hx; have := hbw.size; omega
      · exact hx.2
     have i0 := five_c0 hai.res; have i1 := five_c1 hai.res; have i2 := five_c2 hai.res; have i3 := five_c3 hai.res; have i4 := five_c4 hai.res
     have z0 := five_fz hai.res 0; have z1 := five_fz hai.res 1; have z2 := five_fz hai.res 2; have z3 := five_fz hai.res 3; have z4 := five_fz hai.res 4
     have hsR := hai.size
     clear hrj hrj' hrkR hc2 hv1 hv2 hrk hjs
     by_cases k5 : k = 5
     · subst k5
       obtain ⟨hkn, hdist⟩ := HG5.out rfl
       have hmo := mapOf_any (cl := sl3) HRK.out HRJ.out (by rw [HOL.out, ← HN.out]; exact hkn) hOw (by rw [HM.out]; exact hkl) hdist
       rw [HM.out, HOL.out] at hmo
       clear hkn hdist
       go_wp2_with (first
       | (go_at_call 123; refine hmo.mono ?_; rintro x w8 ⟨csr, rfl, hjr, hb8⟩
          obtain ⟨kr, ir, tr, pr, nr, cr, qr, mr, dr, hcs⟩ := isJ_shape hjr
          obtain rfl : csr = #[.int .i64 kr, .int .i64 ir, .string tr, .slice pr nr cr, .slice qr mr dr] := by rw [← Array.toList_inj]; exact hcs
          have hres8 := (hb8.block _ (Array.getElem?_eq_some_iff.1 hai.res).1).trans hai.res
          have j0 := five_c0 hres8; have j1 := five_c1 hres8; have j2 := five_c2 hres8; have j3 := five_c3 hres8; have j4 := five_c4 hres8
          have x0 := five_fz hres8 0; have x1 := five_fz hres8 1; have x2 := five_fz hres8 2; have x3 := five_fz hres8 3; have x4 := five_fz hres8 4))
       have h5 := set5_heap hres8 (.int .i64 kr) (.int .i64 ir) (.string tr) (.slice pr nr cr) (.slice qr mr dr)
       have HK5 : Keep (One (w.heap.size + 1)) w8 _ := set5_keep w8 (w.heap.size + 1) (.int .i64 kr) (.int .i64 ir) (.string tr) (.slice pr nr cr) (.slice qr mr dr)
       unfold set5 at h5 HK5
       have k0 := five_c0 h5; have k1 := five_c1 h5; have k2 := five_c2 h5; have k3 := five_c3 h5; have k4 := five_c4 h5
       refine bodyPost_ret (v := .agg #[.int .i64 kr, .int .i64 ir, .string tr, .slice pr nr cr, .slice qr mr dr]) (by simp [results, Tryz.results106, go_sem, k0, k1, k2, k3, k4]) rfl ?_
       have hbE := arr_below (below_in hbw hb8) HK5
       refine ⟨_, _, _, _, _, _, _, _, _, rfl, ?_, hbE⟩
       have e : ord (.mk 5 i t ks l) = mapOf ks (ordL l) := by rw [ord, if_pos rfl]
       rw [e]
       exact arr_fin HK5 (hjr.carry fun x hx => ⟨by
        rcases hx with (hx | hx) | hx
        · exact .inl hx
        · exact .inr ⟨hx.1, by have := hb8.size; have := hx.2; omega⟩
        · exact .inr ⟨by have := hx.1; omega, hx.2⟩, rfl⟩) (fun x hx => hO x hx) (by have := hb8.size; omega)
     · have HE : Hid (ord (.mk k i t ks l) = .mk k i t [] (ordL l)) := by show _ = _; rw [ord, if_neg k5]
       go_wp2
       have h5 := set5_heap hai.res (.int .i64 k) (.int .i64 i) (.string t) (.slice none 0 0) (.slice sl1 q sl3)
       have HK5 : Keep (One (w.heap.size + 1)) wr _ := set5_keep wr (w.heap.size + 1) (.int .i64 k) (.int .i64 i) (.string t) (.slice none 0 0) (.slice sl1 q sl3)
       unfold set5 at h5 HK5
       have k0 := five_c0 h5; have k1 := five_c1 h5; have k2 := five_c2 h5; have k3 := five_c3 h5; have k4 := five_c4 h5
       refine bodyPost_ret (v := .agg #[.int .i64 k, .int .i64 i, .string t, .slice none 0 0, .slice sl1 q sl3]) (by simp [results, Tryz.results106, go_sem, k0, k1, k2, k3, k4]) rfl ?_
       have hbE := arr_below hbw HK5
       refine ⟨_, _, _, _, _, _, _, _, _, rfl, ?_, hbE⟩
       rw [HE.out]
       refine arr_fin HK5 (cs := _) ?_ (fun x hx => hO x hx) hsR
       unfold isJ
       exact ⟨none, 0, sl1, sl3, by rw [HOL.out]; rfl, RdK.nil _ _, HC2.out, HRJ.out⟩
theorem arrs : ∀ d, Arrs d
 | 0 => arrs_zero
 | d + 1 => arrs_succ (arrs d)
theorem box_stays {w w2 : World} {cs : Array Value} {t : TypeId} (h : Below (w.alloc (.cells cs t)).heap.size (w.alloc (.cells cs t)) w2) : w2.heap[w.heap.size]? = some (.cells cs t (0, 0)) ∧ Below w.heap.size w w2 :=
 ⟨by rw [h.block w.heap.size (by simp)]; exact heap_alloc_new _ _, below_in ((Below.refl _ _).alloc (Nat.le_refl _) _) h⟩
theorem good_any {w : World} {O : Nat → Prop} {j : J} {k i : Int} {t : ByteArray} {pk pl : Option Addr} {nk ck nl cl : Nat} (hO : ∀ x, O x → x < w.heap.size) (hsz : szJ 12 j = true)
    (hj : isJ O w j [.int .i64 k, .int .i64 i, .string t, .slice pk nk ck, .slice pl nl cl]) :
    Calls Tryz.prog 105 #[.agg #[.int .i64 k, .int .i64 i, .string t, .slice pk nk ck, .slice pl nl cl]] w fun x w' => x = .returned (.bool (goodJ 12 j)) ∧ Below w.heap.size w w' := by
 have hG := goods 12 (Nat.le_refl _) (w.alloc (.cells #[.int .i64 k, .int .i64 i, .string t, .slice pk nk ck, .slice pl nl cl] 38)) O j k i 1 t pk pl nk ck nl cl (fun x hx => by have := hO x hx; simp; omega) rfl hsz
  (hj.carry fun x hx => ⟨hx, Below.heap_alloc _ _ _ (hO x hx)⟩)
 go_enter Tryz.func105, Tryz.ntmps105
 go_wp2_with (go_at_call 122; refine hG.mono ?_; rintro x w2 ⟨rfl, hb2⟩)
 go_ret
 exact ⟨rfl, (box_stays hb2).2⟩
theorem mem_ordL {x : J} : ∀ {l : List J}, x ∈ ordL l → ∃ y ∈ l, x = ord y
 | [], h => by simp [ordL] at h
 | j :: r, h => by
  rw [ordL] at h
  rcases List.mem_cons.1 h with rfl | h
  · exact ⟨j, List.mem_cons_self .., rfl⟩
  · obtain ⟨y, hy, e⟩ := mem_ordL h
    exact ⟨y, List.mem_cons_of_mem _ hy, e⟩
section
variable {ks : List ByteArray} {l : List J}
theorem sorted_keys (hl : ks.length = l.length) : ((sortK (ks.zip l)).map (·.1)).Perm ks := by
 have := (sortK_perm (ks.zip l)).map (·.1)
 rw [List.map_fst_zip (by omega)] at this
 exact this
theorem sorted_vals (hl : ks.length = l.length) : ((sortK (ks.zip l)).map (·.2)).Perm l := by
 have := (sortK_perm (ks.zip l)).map (·.2)
 rw [List.map_snd_zip (by omega)] at this
 exact this
end
theorem good_ord : ∀ (d : Nat) (j : J), goodJ d j = true → goodJ d (ord j) = true
 | 0, j, h => by unfold goodJ at h; cases h
 | d + 1, .mk k i t ks l, h => by
  obtain ⟨hgl, hg5, hgn⟩ := good_sub h
  have hall : ∀ x ∈ ordL l, goodJ d x = true := fun x hx => by
   obtain ⟨y, hy, rfl⟩ := mem_ordL hx
   exact good_ord d y (List.all_eq_true.1 hgl y hy)
  rw [ord]
  by_cases k5 : k = 5
  · subst k5
    rw [if_pos rfl]
    obtain ⟨hlen, hp⟩ := hg5 rfl
    have hlen' : ks.length = (ordL l).length := by rw [ordL_length]; exact hlen
    have pk := sorted_keys hlen'
    have pv := sorted_vals hlen'
    have hlet : ks.all letters = true := by
     rw [goodJ, Bool.and_eq_true] at h
     have h2 := h.2
     rw [if_neg (by decide), if_neg (by decide), if_neg (by decide), if_neg (by decide), if_neg (by decide), if_pos rfl] at h2
     simp only [Bool.and_eq_true] at h2
     exact h2.1.2.1
    unfold mapOf
    rw [goodJ]
    have e1 : ((sortK (ks.zip (ordL l))).map (·.1)).all letters = true := by
     rw [List.all_eq_true] at hlet ⊢
     exact fun x hx => hlet x (pk.mem_iff.1 hx)
    have e2 : noKeyTwice ((sortK (ks.zip (ordL l))).map (·.1)) = true := pair_noTwice (pk.symm.pairwise hp fun {_ _} h => h.symm)
    have e3 : ((sortK (ks.zip (ordL l))).map (·.2)).all (goodJ d) = true := by
     rw [List.all_eq_true]
     exact fun x hx => hall x (pv.mem_iff.1 hx)
    rw [e1, e2, e3]
    simp [bare, nix, ByteArray.size]
  · rw [if_neg k5]
    have hks := hgn k5
    subst hks
    rw [goodJ, Bool.and_eq_true] at h ⊢
    have hal : (ordL l).all (goodJ d) = true := List.all_eq_true.2 hall
    refine ⟨by have := h.1; rw [bare_eq] at this ⊢; rw [ordL_length]; exact this, ?_⟩
    have h2 := h.2
    rw [hal]
    rw [hgl] at h2
    rw [if_neg k5] at h2 ⊢
    exact h2
theorem inOrdL_all : ∀ l : List J, inOrdL l = true ↔ ∀ x ∈ l, inOrd x = true
 | [] => by simp [inOrdL]
 | j :: r => by
  rw [inOrdL, Bool.and_eq_true, inOrdL_all r]
  simp
theorem inOrd_ord : ∀ (d : Nat) (j : J), goodJ d j = true → inOrd (ord j) = true
 | 0, j, h => by unfold goodJ at h; cases h
 | d + 1, .mk k i t ks l, h => by
  obtain ⟨hgl, hg5, hgn⟩ := good_sub h
  have hall : ∀ x ∈ ordL l, inOrd x = true := fun x hx => by
   obtain ⟨y, hy, rfl⟩ := mem_ordL hx
   exact inOrd_ord d y (List.all_eq_true.1 hgl y hy)
  rw [ord]
  by_cases k5 : k = 5
  · subst k5
    rw [if_pos rfl]
    obtain ⟨hlen, hp⟩ := hg5 rfl
    have hlen' : ks.length = (ordL l).length := by rw [ordL_length]; exact hlen
    have pv := sorted_vals hlen'
    unfold mapOf
    rw [inOrd, Bool.and_eq_true, inOrdL_all]
    refine ⟨sortK_rises' _ ?_, fun x hx => hall x (pv.mem_iff.1 hx)⟩
    have : ((ks.zip (ordL l)).map (·.1)).Pairwise (· ≠ ·) := by rw [List.map_fst_zip (by omega)]; exact hp
    exact List.pairwise_map.1 this
  · rw [if_neg k5]
    rw [inOrd, Bool.and_eq_true, inOrdL_all]
    exact ⟨rfl, hall⟩
theorem below_cat {B : Nat} {a b c : World} (h : Below B a b) (hB : B ≤ b.heap.size) (g : Below b.heap.size b c) : Below B a c := h.trans ⟨g.os, g.tape, g.output, g.size, fun k hk => g.block k (by omega)⟩
theorem key_getD {ks : List ByteArray} {m : Nat} (hm : m < ks.length) : ks.getD m nix = ks[m] := by
 rw [List.getD_eq_getElem?_getD, List.getElem?_eq_getElem hm]; rfl
def ordT (j : J) : J := if goodJ 12 j = true then ord j else J.zero
theorem two_new {w : World} (o1 o2 : Obj) : ((w.alloc o1).alloc o2).heap[w.heap.size + 1]? = some o2 := by
 have := heap_alloc_new (w.alloc o1) o2
 simpa using this
theorem below_then2 {w w2 w3 : World} (h : Below w.heap.size w w2) (hk : Keep (One (w.heap.size + 1)) w2 w3) : Below w.heap.size w w3 :=
 h.trans (hk.below h.size fun k hk' e => by unfold One at e; omega)
theorem order_any {w : World} {O : Nat → Prop} {j : J} {k i : Int} {t : ByteArray} {pk pl : Option Addr} {nk ck nl cl : Nat} (hO : ∀ x, O x → x < w.heap.size) (hsz : szJ 12 j = true)
    (hj : isJ O w j [.int .i64 k, .int .i64 i, .string t, .slice pk nk ck, .slice pl nl cl]) :
    Calls Tryz.prog 77 #[.agg #[.int .i64 k, .int .i64 i, .string t, .slice pk nk ck, .slice pl nl cl]] w fun x w' => (∃ kr ir tr pr nr cr qr mr dr, x = .returned (.agg #[.int .i64 kr, .int .i64 ir, .string tr, .slice pr nr cr, .slice qr mr dr]) ∧ isJ (fun b => b < w'.heap.size) w' (ordT j) [.int .i64 kr, .int .i64 ir, .string tr, .slice pr nr cr, .slice qr mr dr]) ∧ Below w.heap.size w w' := by
 have hbB : Below w.heap.size w ((w.alloc (.cells #[.int .i64 k, .int .i64 i, .string t, .slice pk nk ck, .slice pl nl cl] 38)).alloc (.cells #[.int .i64 0, .int .i64 0, .string ⟨#[]⟩, .slice none 0 0, .slice none 0 0] 38)) := ((Below.refl _ _).alloc (Nat.le_refl _) _).alloc (by simp) _
 obtain ⟨wB, hwB⟩ : ∃ wB, wB = ((w.alloc (.cells #[.int .i64 k, .int .i64 i, .string t, .slice pk nk ck, .slice pl nl cl] 38)).alloc (.cells #[.int .i64 0, .int .i64 0, .string ⟨#[]⟩, .slice none 0 0, .slice none 0 0] 38)) := ⟨_, rfl⟩
 have hA : wB.heap[w.heap.size]? = some (.cells #[.int .i64 k, .int .i64 i, .string t, .slice pk nk ck, .slice pl nl cl] 38 (0, 0)) := by
  rw [hwB, Below.heap_alloc _ _ _ (by simp)]
  exact heap_alloc_new _ _
 have hR : wB.heap[w.heap.size + 1]? = some (.cells #[.int .i64 0, .int .i64 0, .string ⟨#[]⟩, .slice none 0 0, .slice none 0 0] 38 (0, 0)) := by rw [hwB]; exact two_new _ _
 rw [← hwB] at hbB
 have hOB : ∀ x, O x → x < wB.heap.size := fun x hx => Nat.lt_of_lt_of_le (hO x hx) hbB.size
 have hjB := hj.carry (O' := O) (w' := wB) fun x hx => ⟨hx, hbB.block x (hO x hx)⟩
 have hG := good_any hOB hsz hjB
 have hsA : w.heap.size < wB.heap.size := (Array.getElem?_eq_some_iff.1 hA).1
 have hsR : w.heap.size + 1 < wB.heap.size := (Array.getElem?_eq_some_iff.1 hR).1
 have c0 := five_c0 hA
 cases hg : goodJ 12 j with
 | false =>
  have HZ : Hid (ordT j = J.zero) := by show _ = _; unfold ordT; rw [hg]; rfl
  rw [hg] at hG
  rw [hwB] at hG
  clear hj hjB c0
  go_enter Tryz.func77, Tryz.ntmps77
  go_wp2_with (go_at_call 105; refine hG.mono ?_; rintro x w2 ⟨rfl, hb2⟩
               rw [← hwB] at hb2
               have hres := (hb2.block _ hsR).trans hR
               have i0 := five_c0 hres; have i1 := five_c1 hres; have i2 := five_c2 hres; have i3 := five_c3 hres; have i4 := five_c4 hres
               have z0 := five_fz hres 0; have z1 := five_fz hres 1; have z2 := five_fz hres 2; have z3 := five_fz hres 3; have z4 := five_fz hres 4)
  have h5 := set5_heap hres (.int .i64 0) (.int .i64 0) (.string ⟨#[]⟩) (.slice none 0 0) (.slice none 0 0)
  have HK5 : Keep (One (w.heap.size + 1)) w2 _ := set5_keep w2 (w.heap.size + 1) (.int .i64 0) (.int .i64 0) (.string ⟨#[]⟩) (.slice none 0 0) (.slice none 0 0)
  unfold set5 at h5 HK5
  have k0 := five_c0 h5; have k1 := five_c1 h5; have k2 := five_c2 h5; have k3 := five_c3 h5; have k4 := five_c4 h5
  refine bodyPost_ret (v := .agg #[.int .i64 0, .int .i64 0, .string ⟨#[]⟩, .slice none 0 0, .slice none 0 0]) (by simp [results, Tryz.results77, go_sem, k0, k1, k2, k3, k4]) rfl ?_
  refine ⟨⟨_, _, _, _, _, _, _, _, _, rfl, ?_⟩, below_then2 (below_in hbB hb2) HK5⟩
  rw [HZ.out]
  exact isJ_zero _ _
 | true =>
  have HZ : Hid (ordT j = ord j) := by show _ = _; unfold ordT; rw [hg]; rfl
  have HGG : Hid (goodJ 12 j = true) := hg
  have HJ : Hid (isJ O wB j [.int .i64 k, .int .i64 i, .string t, .slice pk nk ck, .slice pl nl cl]) := hjB
  rw [hg] at hG
  rw [hwB] at hG
  clear hj hjB hg c0
  go_enter Tryz.func77, Tryz.ntmps77
  go_wp2_with (first
   | (go_at_call 105; refine hG.mono ?_; rintro x w2 ⟨rfl, hb2⟩
      rw [← hwB] at hb2
      have hA2 := (hb2.block _ hsA).trans hA
      have c0 := five_c0 hA2; have c1 := five_c1 hA2; have c2 := five_c2 hA2; have c3 := five_c3 hA2; have c4 := five_c4 hA2
      have hArr := arrs 12 w2 O j k i t pk pl nk ck nl cl (fun x hx => Nat.lt_of_lt_of_le (hOB x hx) hb2.size) HGG.out hsz (HJ.out.carry fun x hx => ⟨hx, hb2.block x (hOB x hx)⟩))
   | (go_at_call 106; refine hArr.mono ?_; rintro x w4 ⟨kr, ir, tr, pr, nr, cr, qr, mr, dr, rfl, hjr, hb4⟩
      have hB4 := below_in hb2 hb4
      have hres := (hB4.block _ hsR).trans hR
      have i0 := five_c0 hres; have i1 := five_c1 hres; have i2 := five_c2 hres; have i3 := five_c3 hres; have i4 := five_c4 hres
      have z0 := five_fz hres 0; have z1 := five_fz hres 1; have z2 := five_fz hres 2; have z3 := five_fz hres 3; have z4 := five_fz hres 4))
  have h5 := set5_heap hres (.int .i64 kr) (.int .i64 ir) (.string tr) (.slice pr nr cr) (.slice qr mr dr)
  have HK5 : Keep (One (w.heap.size + 1)) w4 _ := set5_keep w4 (w.heap.size + 1) (.int .i64 kr) (.int .i64 ir) (.string tr) (.slice pr nr cr) (.slice qr mr dr)
  unfold set5 at h5 HK5
  have k0 := five_c0 h5; have k1 := five_c1 h5; have k2 := five_c2 h5; have k3 := five_c3 h5; have k4 := five_c4 h5
  refine bodyPost_ret (v := .agg #[.int .i64 kr, .int .i64 ir, .string tr, .slice pr nr cr, .slice qr mr dr]) (by simp [results, Tryz.results77, go_sem, k0, k1, k2, k3, k4]) rfl ?_
  refine ⟨⟨_, _, _, _, _, _, _, _, _, rfl, ?_⟩, below_then2 (below_in hbB hB4) HK5⟩
  rw [HZ.out]
  refine hjr.carry fun x hx => ?_
  have hlt : x < w4.heap.size ∧ x ≠ w.heap.size + 1 := by
   have s2 := hb2.size
   have s4 := hb4.size
   rcases hx with hx | hx
   · have := hO x hx
     exact ⟨by have := hbB.size; omega, by omega⟩
   · have := hx.1
     exact ⟨hx.2, by omega⟩
  exact ⟨Nat.lt_of_lt_of_le hlt.1 HK5.size, HK5.block x hlt.1 (by unfold One; exact hlt.2)⟩
abbrev Nms := List (ByteArray × Int)
theorem toListP_inj {a b : ByteArray} (h : a.toList = b.toList) : a = b := by
 rw [Lib.toList_data, Lib.toList_data] at h
 cases a; cases b
 exact congrArg ByteArray.mk (Array.toList_inj.1 h)
theorem bytes_eq {a b : ByteArray} : (a.toList == b.toList) = true ↔ a = b := by
 constructor
 · intro h
   exact toListP_inj (by simpa using h)
 · rintro rfl; simp
def fnd : Nms → ByteArray → Option Int
 | [], _ => none
 | p :: r, s => if p.1.toList == s.toList then some p.2 else fnd r s
theorem fnd_append (a b : Nms) (s : ByteArray) : fnd (a ++ b) s = match fnd a s with | some x => some x | none => fnd b s := by
 induction a with
 | nil => rfl
 | cons p r ih =>
  simp only [List.cons_append, fnd]
  split
  · rfl
  · exact ih
theorem takeP_one {α : Type} {l : List α} {k : Nat} {z : α} (h : k < l.length) : l.take (k + 1) = l.take k ++ [l.getD k z] := by
 rw [List.take_add_one, List.getElem?_eq_getElem h, List.getD_eq_getElem?_getD, List.getElem?_eq_getElem h]; rfl
theorem takeP_all {α : Type} {l : List α} {k : Nat} {z : α} (h : k < l.length) : l = l.take k ++ (l.getD k z :: l.drop (k + 1)) := by
 rw [List.getD_eq_getElem?_getD, List.getElem?_eq_getElem h, Option.getD_some, ← List.drop_eq_getElem_cons h, List.take_append_drop]
abbrev zN : ByteArray × Int := (⟨#[]⟩, 0)
theorem fnd_miss {l : Nms} {s : ByteArray} {k : Nat} (h : fnd (l.take k) s = none) (hk : k < l.length) (he : ((l.getD k zN).1.toList == s.toList) = false) : fnd (l.take (k + 1)) s = none := by
 rw [takeP_one (z := zN) hk, fnd_append, h]
 simp only [fnd, he]
 rfl
theorem fnd_hit {l : Nms} {s : ByteArray} {k : Nat} (h : fnd (l.take k) s = none) (hk : k < l.length) (he : ((l.getD k zN).1.toList == s.toList) = true) : fnd l s = some (l.getD k zN).2 := by
 conv => lhs; rw [takeP_all (z := zN) hk, fnd_append, h]
 simp only [fnd, he, if_pos]
structure Lv where
 ban : Int
 kick : Int
 invite : Int
 redact : Int
 state : Int
 events : Int
 users : Int
 byUser : Nms
 byType : Nms
def usr (l : Lv) (u : ByteArray) : Int := (fnd l.byUser u).getD l.users
abbrev kBan : ByteArray := ⟨#[98, 97, 110]⟩
abbrev kKick : ByteArray := ⟨#[107, 105, 99, 107]⟩
abbrev kInvite : ByteArray := ⟨#[105, 110, 118, 105, 116, 101]⟩
abbrev kRedact : ByteArray := ⟨#[114, 101, 100, 97, 99, 116]⟩
abbrev kState : ByteArray := ⟨#[115, 116, 97, 116, 101, 95, 100, 101, 102, 97, 117, 108, 116]⟩
abbrev kEvents : ByteArray := ⟨#[101, 118, 101, 110, 116, 115, 95, 100, 101, 102, 97, 117, 108, 116]⟩
abbrev kUsers : ByteArray := ⟨#[117, 115, 101, 114, 115, 95, 100, 101, 102, 97, 117, 108, 116]⟩
abbrev kByUser : ByteArray := ⟨#[117, 115, 101, 114, 115]⟩
abbrev kByType : ByteArray := ⟨#[101, 118, 101, 110, 116, 115]⟩
theorem addP_flat (b o j : Nat) : (⟨b, o, none⟩ : Addr).add j = ⟨b, o + j, none⟩ := by unfold Addr.add; split <;> simp_all
def RdN (O : Nat → Prop) (w : World) (p : Option Addr) (c : Nat) (l : Nms) : Prop :=
 (l.length ≤ c ∧ (p = none → c = 0)) ∧ (l ≠ [] → ∃ b o, p = some ⟨b, o, none⟩ ∧ O b ∧ ∀ j x, l[j]? = some x → w.cell? ⟨b, o + j * 2, none⟩ = some (.string x.1) ∧ w.cell? ⟨b, o + j * 2 + 1, none⟩ = some (.int .i64 x.2))
theorem RdN.nil (O : Nat → Prop) (w : World) (p : Option Addr) (c : Nat) (h : p = none → c = 0) : RdN O w p c [] := ⟨⟨Nat.zero_le _, h⟩, fun h => absurd rfl h⟩
theorem RdN.carry {O O' : Nat → Prop} {w w' : World} {p : Option Addr} {c : Nat} {l : Nms} (h : RdN O w p c l) (hO : ∀ k, O k → O' k ∧ w'.heap[k]? = w.heap[k]?) : RdN O' w' p c l :=
 ⟨h.1, fun hn => by
  obtain ⟨b, o, hp, hb, hc⟩ := h.2 hn
  exact ⟨b, o, hp, (hO b hb).1, fun j x hj => ⟨(World.cell?_of_block (hO b hb).2).trans (hc j x hj).1, (World.cell?_of_block (hO b hb).2).trans (hc j x hj).2⟩⟩⟩
theorem RdN.below {O : Nat → Prop} {w w' : World} {p : Option Addr} {c : Nat} {l : Nms} {B : Nat} (h : RdN O w p c l) (hO : ∀ k, O k → k < B) (hb : Below B w w') : RdN O w' p c l := h.carry fun k hk => ⟨hk, hb.block k (hO k hk)⟩
theorem RdN.at {O : Nat → Prop} {w : World} {p : Option Addr} {c : Nat} {l : Nms} (h : RdN O w p c l) {j : Nat} (hj : j < l.length) : ∃ b o, p = some ⟨b, o, none⟩ ∧ O b ∧ w.cell? ⟨b, o + j * 2, none⟩ = some (.string (l.getD j zN).1) ∧ w.cell? ⟨b, o + j * 2 + 1, none⟩ = some (.int .i64 (l.getD j zN).2) := by
 obtain ⟨b, o, hp, hb, hc⟩ := h.2 (by rintro rfl; simp at hj)
 have := hc j (l.getD j zN) (by rw [List.getD_eq_getElem?_getD, List.getElem?_eq_getElem hj]; rfl)
 exact ⟨b, o, hp, hb, this.1, this.2⟩
def SzN (l : Nms) : Prop := l.length ≤ 100000 ∧ ∀ p ∈ l, p.1.size ≤ 1000000000
structure Pl where
 pu : Option Addr
 cu : Nat
 pt : Option Addr
 ct : Nat
abbrev cellsL (l : Lv) (p : Pl) : List Value := [.int .i64 l.ban, .int .i64 l.kick, .int .i64 l.invite, .int .i64 l.redact, .int .i64 l.state, .int .i64 l.events, .int .i64 l.users, .slice p.pu l.byUser.length p.cu, .slice p.pt l.byType.length p.ct]
abbrev valL (l : Lv) (p : Pl) : Value := .agg (cellsL l p).toArray
structure IsL (O : Nat → Prop) (w : World) (l : Lv) (p : Pl) : Prop where
 us : RdN O w p.pu p.cu l.byUser
 ty : RdN O w p.pt p.ct l.byType
structure SzL (l : Lv) : Prop where
 us : SzN l.byUser
 ty : SzN l.byType
theorem IsL.carry {O O' : Nat → Prop} {w w' : World} {l : Lv} {p : Pl} (h : IsL O w l p) (hO : ∀ k, O k → O' k ∧ w'.heap[k]? = w.heap[k]?) : IsL O' w' l p := ⟨h.us.carry hO, h.ty.carry hO⟩
theorem first_any {O : Nat → Prop} {w : World} {p : Option Addr} {c : Nat} {l : Nms} (h : RdN O w p c l) (hO : ∀ k, O k → k < w.heap.size) (hz : SzN l) (s : ByteArray) (d : Int) :
    Calls Tryz.prog 82 #[.slice p l.length c, .string s, .int .i64 d] w fun e w' => e = .returned (.int .i64 ((fnd l s).getD d)) ∧ Below w.heap.size w w' := by
 obtain ⟨n, hn⟩ : ∃ n, l.length = n := ⟨_, rfl⟩
 have HN : Hid (l.length = n) := hn
 have hz1 := hz.1
 have hc := h.1.1
 rw [hn] at hz1 hc ⊢
 clear hn
 go_enter Tryz.func82, Tryz.ntmps82
 go_wp2
 go_loopw [11] (fun i wr => ∃ k : Nat, i = .int .i64 k ∧ k ≤ n ∧ fnd (l.take k) s = none ∧ Below w.heap.size w wr) (fun i _ => n - (intOf i).toNat)
 case atStart => exact ⟨0, rfl, Nat.zero_le _, rfl, Below.refl _ _⟩
 case round =>
  obtain ⟨k, rfl, hk, hf, hbr⟩ := hrel
  by_cases hkn : k < n
  · have hkl : k < l.length := by rw [HN.out]; exact hkn
    obtain ⟨b, o, rfl, hb, h1, h2⟩ := h.at hkl
    have h1' := (hbr.cell (p := ⟨b, o + k * 2, none⟩) (hO b hb)).trans h1
    have h2' := (hbr.cell (p := ⟨b, o + k * 2 + 1, none⟩) (hO b hb)).trans h2
    have hbs := hbr.size
    have hbl := hO b hb
    cases he : ((l.getD k zN).1.toList == s.toList) with
    | true =>
     have HF : Hid (fnd l s = some (l.getD k zN).2) := fnd_hit hf hkl he
     generalize l.getD k zN = x at h1' h2' he HF
     obtain ⟨xn, xl⟩ := x
     simp only at h1' h2' he
     clear h1 h2 hf
     go_wp2
     go_ret
     refine ⟨by rw [HF.out]; rfl, ?_⟩
     exact hbr.trans (((Below.refl _ _).alloc hbs _))
    | false =>
     have HF : Hid (fnd (l.take (k + 1)) s = none) := fnd_miss hf hkl he
     generalize l.getD k zN = x at h1' h2' he
     obtain ⟨xn, xl⟩ := x
     simp only at h1' h2' he
     clear h1 h2 hf
     go_wp2
     go_roundw
     case rel => exact ⟨k + 1, by simp, by omega, HF.out, hbr.trans (((Below.refl _ _).alloc hbs _))⟩
     case measure => simp [intOf]; omega
  · obtain rfl : k = n := by omega
    have HF : Hid (fnd l s = none) := by show _ = _; rw [← List.take_length (l := l), HN.out]; exact hf
    clear hf
    go_wp2
    go_ret
    exact ⟨by rw [HF.out]; rfl, hbr⟩
theorem newP {w : World} (o : Obj) : (w.alloc o).heap[w.heap.size]? = some o := heap_alloc_new w o
theorem belowP {a b c : World} (h : Below a.heap.size a b) (g : Below b.heap.size b c) : Below a.heap.size a c := h.trans ⟨g.os, g.tape, g.output, g.size, fun k hk => g.block k (by have := h.size; omega)⟩
theorem objP_lt {w : World} {b : Nat} {o : Obj} (h : w.heap[b]? = some o) : b < w.heap.size := (Array.getElem?_eq_some_iff.1 h).1
theorem cellP {w : World} {b t : Nat} {cur : Array Value} {fr : Nat × Nat} (h : w.heap[b]? = some (.cells cur t fr)) (j : Nat) (v : Value) (hj : cur[j]? = some v) : w.cell? ⟨b, j, none⟩ = some v := by
 simp [World.cell?, h, hj]
theorem fzP {w : World} {b t : Nat} {cur : Array Value} (h : w.heap[b]? = some (.cells cur t (0, 0))) (j : Nat) : w.frozen? ⟨b, j, none⟩ = false := frozen_of_row w b j _ _ h
def OneP (b : Nat) : Nat → Prop := fun k => k = b
def setL (w : World) (b : Nat) : Nat → List Value → World
 | _, [] => w
 | i, v :: r => setL (w.setCell ⟨b, i, none⟩ v) b (i + 1) r
theorem setL_keep (b : Nat) : ∀ (vs : List Value) (w : World) (i : Nat), Keep (OneP b) w (setL w b i vs)
 | [], w, _ => Keep.refl _ w
 | v :: r, w, i => by
  unfold setL
  exact (Keep.setCell (p := ⟨b, i, none⟩) (Keep.refl (OneP b) w) (fun _ => (rfl : b = b)) v).then (setL_keep b r _ (i + 1))
theorem setL_heap (b t : Nat) : ∀ (vs pre cur : List Value) (w : World), w.heap[b]? = some (.cells (pre ++ cur).toArray t (0, 0)) → cur.length = vs.length → (setL w b pre.length vs).heap[b]? = some (.cells (pre ++ vs).toArray t (0, 0))
 | [], pre, cur, w, h, hl => by
  obtain rfl : cur = [] := List.eq_nil_of_length_eq_zero hl
  exact h
 | v :: r, pre, c :: cur, w, h, hl => by
  unfold setL
  have h0 : (w.setCell ⟨b, pre.length, none⟩ v).heap[b]? = some (.cells ((pre ++ [v]) ++ cur).toArray t (0, 0)) := by
   rw [heap_setCell_same w b pre.length _ _ _ h]
   simp
  have := setL_heap b t r (pre ++ [v]) cur _ h0 (by simpa using hl)
  rw [List.length_append] at this
  simpa using this
theorem setL_all {w : World} {b t : Nat} {cur : List Value} (vs : List Value) (h : w.heap[b]? = some (.cells cur.toArray t (0, 0))) (hl : cur.length = vs.length) : (setL w b 0 vs).heap[b]? = some (.cells vs.toArray t (0, 0)) := setL_heap b t vs [] cur w h hl
def flatN : Nms → List Value
 | [] => []
 | x :: r => .string x.1 :: .int .i64 x.2 :: flatN r
theorem flatN_len : ∀ l : Nms, (flatN l).length = l.length * 2
 | [] => rfl
 | x :: r => by simp only [flatN, List.length_cons, flatN_len r]; omega
theorem flatN_append : ∀ a b : Nms, flatN (a ++ b) = flatN a ++ flatN b
 | [], _ => rfl
 | x :: r, b => by simp only [List.cons_append, flatN, flatN_append r b]
theorem flatN_at : ∀ (l : Nms) (j : Nat) (x : ByteArray × Int), l[j]? = some x → (flatN l)[j * 2]? = some (.string x.1) ∧ (flatN l)[j * 2 + 1]? = some (.int .i64 x.2)
 | [], _, _, h => by simp at h
 | y :: r, 0, x, h => by simp at h; subst h; exact ⟨rfl, rfl⟩
 | y :: r, j + 1, x, h => by
  have := flatN_at r j x (by simpa using h)
  rw [show (j + 1) * 2 = j * 2 + 1 + 1 by omega]
  exact this
theorem rdN_of {w : World} {O : Nat → Prop} {b t o c : Nat} {fr : Nat × Nat} {l : Nms} {cur : List Value} (hO : O b) (h : w.heap[b]? = some (.cells cur.toArray t fr)) (hl : l.length ≤ c) (hc : ∀ j, j < (flatN l).length → cur[o + j]? = (flatN l)[j]?) : RdN O w (some ⟨b, o, none⟩) c l := by
 refine ⟨⟨hl, fun h => by cases h⟩, fun _ => ⟨b, o, rfl, hO, fun j x hj => ?_⟩⟩
 have hlt : j < l.length := (List.getElem?_eq_some_iff.1 hj).1
 have hf := flatN_at l j x hj
 have hn := flatN_len l
 refine ⟨cellP h _ _ ?_, cellP h _ _ ?_⟩
 · have := hc (j * 2) (by omega)
   rw [hf.1] at this
   simpa using this
 · have := hc (j * 2 + 1) (by omega)
   rw [hf.2] at this
   simpa [Nat.add_assoc] using this
theorem rdN_flat {w : World} {O : Nat → Prop} {b t : Nat} {fr : Nat × Nat} {l : Nms} (hO : O b) (h : w.heap[b]? = some (.cells (flatN l).toArray t fr)) : RdN O w (some ⟨b, 0, none⟩) l.length l :=
 rdN_of hO h (Nat.le_refl _) fun j _ => by rw [Nat.zero_add]
theorem loadL9 {w : World} {b t : Nat} {a0 a1 a2 a3 a4 a5 a6 a7 a8 : Value} (h : w.heap[b]? = some (.cells #[a0, a1, a2, a3, a4, a5, a6, a7, a8] t (0, 0))) : (loadVar 89 ⟨b, 0, none⟩).run Tryz.prog w = .ok (.agg #[a0, a1, a2, a3, a4, a5, a6, a7, a8]) w := by
 have k0 := cellP h 0 _ rfl; have k1 := cellP h 1 _ rfl; have k2 := cellP h 2 _ rfl; have k3 := cellP h 3 _ rfl; have k4 := cellP h 4 _ rfl; have k5 := cellP h 5 _ rfl; have k6 := cellP h 6 _ rfl; have k7 := cellP h 7 _ rfl; have k8 := cellP h 8 _ rfl
 simp [loadVar, go_sem, k0, k1, k2, k3, k4, k5, k6, k7, k8]
theorem resultsP_cell {fn : Func} {a : Tmp} {t : TypeId} (h : fn.results = #[.cell a t]) (tmps : Array Value) (P : Program) (w : World) {ad : Addr} {v : Value} (hp : tmps.getD a undef = .pointer (some ad)) (hl : (loadVar t ad).run P w = .ok v w) :
    (results fn tmps).run P w = .ok v w := by
 rw [Array.getD_eq_getD_getElem?] at hp
 simp [results, h, hp, hl, asAddr]
theorem szP_ordL {d : Nat} (ih : ∀ j, goodJ d j = true → szJ d j = true → szJ d (ord j) = true) : ∀ l : List J, l.all (goodJ d) = true → l.all (szJ d) = true → (ordL l).all (szJ d) = true
 | [], _, _ => rfl
 | j :: r, hg, hs => by
  rw [List.all_cons, Bool.and_eq_true] at hg hs
  rw [ordL, List.all_cons, ih j hg.1 hs.1, szP_ordL ih r hg.2 hs.2]
  rfl
theorem szP_ord : ∀ (d : Nat) (j : J), goodJ d j = true → szJ d j = true → szJ d (ord j) = true
 | 0, j, _, _ => by unfold szJ; rfl
 | d + 1, .mk k i t ks l, hg, hs => by
  obtain ⟨hgl, hg5, hgn⟩ := good_sub hg
  unfold szJ at hs
  simp only [Bool.and_eq_true, decide_eq_true_eq] at hs
  obtain ⟨hts, hkn, hks, hll, hls⟩ := hs
  have hol := szP_ordL (szP_ord d) l hgl hls
  by_cases h5 : k = 5
  · subst h5
    have hlen : ks.length = (ordL l).length := by rw [ordL_length]; exact (hg5 rfl).1
    have p1 := sorted_keys hlen
    have p2 := sorted_vals hlen
    rw [ord, if_pos rfl]
    unfold mapOf szJ
    simp only [Bool.and_eq_true, decide_eq_true_eq]
    refine ⟨by decide, by rw [p1.length_eq]; exact hkn, ?_, by rw [p2.length_eq, ordL_length]; exact hll, ?_⟩
    · rw [List.all_eq_true] at hks ⊢
      exact fun x hx => hks x (p1.subset hx)
    · rw [List.all_eq_true] at hol ⊢
      exact fun x hx => hol x (p2.subset hx)
  · rw [ord, if_neg h5]
    unfold szJ
    simp only [Bool.and_eq_true, decide_eq_true_eq]
    exact ⟨hts, by simp, by rfl, by rw [ordL_length]; exact hll, hol⟩
def OkJ (d : Nat) (j : J) : Prop := goodJ d j = true ∧ inOrd j = true ∧ szJ d j = true
theorem ordT_okJ {j : J} (hs : szJ 12 j = true) : OkJ 12 (ordT j) := by
 unfold ordT
 split
 · rename_i hg
   exact ⟨good_ord 12 j hg, inOrd_ord 12 j hg, szP_ord 12 j hg hs⟩
 · exact ⟨by kernel_rfl, by kernel_rfl, by kernel_rfl⟩
theorem OkJ.parts {d : Nat} {k i : Int} {t : ByteArray} {ks : List ByteArray} {l : List J} (h : OkJ (d + 1) (.mk k i t ks l)) :
    rises ks = true ∧ (k = 5 → ks.length = l.length) ∧ (k ≠ 5 → ks = []) ∧ ks.length ≤ 100000 ∧ (∀ x ∈ ks, x.size ≤ 1000000000) ∧ ∀ x ∈ l, OkJ d x := by
 obtain ⟨hg, ho, hs⟩ := h
 obtain ⟨hgl, hg5, hgn⟩ := good_sub hg
 rw [inOrd, Bool.and_eq_true, inOrdL_all] at ho
 unfold szJ at hs
 simp only [Bool.and_eq_true, decide_eq_true_eq] at hs
 obtain ⟨_, hkn, hks, _, hls⟩ := hs
 refine ⟨ho.1, fun e => (hg5 e).1, hgn, hkn, fun x hx => by simpa using List.all_eq_true.1 hks x hx, fun x hx => ⟨List.all_eq_true.1 hgl x hx, ho.2 x hx, List.all_eq_true.1 hls x hx⟩⟩
theorem OkJ.lens {d : Nat} {k i : Int} {t : ByteArray} {ks : List ByteArray} {l : List J} (h : OkJ (d + 1) (.mk k i t ks l)) : ks.length ≤ l.length := by
 obtain ⟨_, h5, hn, _⟩ := h.parts
 by_cases e : k = 5
 · exact Nat.le_of_eq (h5 e)
 · rw [hn e]; exact Nat.zero_le _
def J.ks : J → List ByteArray
 | .mk _ _ _ ks _ => ks
def J.ls : J → List J
 | .mk _ _ _ _ l => l
def J.kd : J → Int
 | .mk k _ _ _ _ => k
def J.nm : J → Int
 | .mk _ i _ _ _ => i
theorem ltP_ne {a b : ByteArray} (h : ltK a b = true) : a ≠ b := by
 intro e; subst e; rw [ltK_irrefl] at h; cases h
def lookV : List ByteArray → List J → ByteArray → Option J
 | k :: ks, v :: l, s => if k.toList == s.toList then some v else lookV ks l s
 | _, _, _ => none
theorem lookJ_at : ∀ {ks : List ByteArray} {l : List J} {s : ByteArray} {n : Nat}, ks.length ≤ l.length → n < ks.length → ks.getD n nix = s → (∀ m, m < n → ks.getD m nix ≠ s) → lookV ks l s = some (l.getD n J.zero)
 | [], _, _, _, _, h, _, _ => absurd h (by simp)
 | _ :: _, [], _, _, h, _, _, _ => absurd h (by simp)
 | k :: ks, v :: l, s, 0, _, _, he, _ => by
  have he : k = s := by simpa using he
  subst he
  simp [lookV]
 | k :: ks, v :: l, s, n + 1, h1, h2, he, hm => by
  have h0 : k ≠ s := by have := hm 0 (by omega); simpa using this
  unfold lookV
  rw [if_neg (fun e => h0 (bytes_eq.1 e)), lookJ_at (n := n) (by simpa using h1) (by simpa using h2) (by simpa using he) (fun m h => by have := hm (m + 1) (by omega); simpa using this)]
  simp
theorem lookJ_none : ∀ {ks : List ByteArray} {l : List J} {s : ByteArray}, s ∉ ks → lookV ks l s = none
 | [], _, _, _ => by unfold lookV; rfl
 | k :: ks, [], _, _ => by unfold lookV; rfl
 | k :: ks, v :: l, s, h => by
  unfold lookV
  rw [if_neg (fun e => h (by simp [bytes_eq.1 e]))]
  exact lookJ_none (fun h' => h (by simp [h']))
theorem lookJ_mem : ∀ {ks : List ByteArray} {l : List J} {s : ByteArray} {v : J}, lookV ks l s = some v → v ∈ l
 | [], _, _, _, h => by unfold lookV at h; cases h
 | _ :: _, [], _, _, h => by unfold lookV at h; cases h
 | k :: ks, x :: l, s, v, h => by
  unfold lookV at h
  split at h
  · cases h; simp
  · exact List.mem_cons_of_mem _ (lookJ_mem h)
theorem rises_lt : ∀ {ks : List ByteArray}, rises ks = true → ∀ {m n : Nat}, m < n → n < ks.length → ltK (ks.getD m nix) (ks.getD n nix) = true
 | [], _, _, _, _, h => absurd h (by simp)
 | k :: ks, h, 0, n + 1, _, hn => by
  rw [rises, Bool.and_eq_true] at h
  have hn' : n < ks.length := by simpa using hn
  have := List.all_eq_true.1 h.1 ks[n] (List.getElem_mem hn')
  simpa [List.getD_eq_getElem?_getD, List.getElem?_eq_getElem hn'] using this
 | k :: ks, h, m + 1, n + 1, hmn, hn => by
  rw [rises, Bool.and_eq_true] at h
  have := rises_lt h.2 (m := m) (n := n) (by omega) (by simpa using hn)
  simpa using this
theorem bytesLessP_eq : ∀ x y : List UInt8, Op.bytesLess x y = lessB x y
 | _, [] => by cases ‹List UInt8› <;> rfl
 | [], _ :: _ => rfl
 | a :: x, b :: y => by
  unfold Op.bytesLess lessB
  rw [bytesLessP_eq x y]
  cases h : decide (a = b) <;> simp_all
theorem lessP_ltK (a b : ByteArray) : Op.bytesLess a.toList b.toList = ltK a b := by
 rw [bytesLessP_eq]
 unfold ltK
 rw [Lib.toList_data, Lib.toList_data]
theorem cNaN_any {w : World} (s : ByteArray) : Calls Tryz.prog 70 #[.string s] w fun e w' => e = .returned (.bool false) ∧ w = w' := by
 go_enter Tryz.func70, Tryz.ntmps70
 go_wp2
 go_ret
 exact ⟨by simp, rfl⟩
theorem sNaN_any {w : World} (s : ByteArray) : Calls Tryz.prog 136 #[.string s] w fun e w' => e = .returned (.bool false) ∧ w = w' := by
 go_enter Tryz.func136, Tryz.ntmps136
 go_wp2
 go_ret
 exact ⟨by simp, rfl⟩
theorem less_any {w : World} (s t : ByteArray) : Calls Tryz.prog 135 #[.string s, .string t] w fun e w' => e = .returned (.bool (ltK s t)) ∧ w = w' := by
 have hl := lessP_ltK s t
 go_enter Tryz.func135, Tryz.ntmps135
 go_wp2_with (go_at_call 70; refine (cNaN_any s).mono ?_; rintro e w' ⟨rfl, rfl⟩)
 go_ret
 exact ⟨rfl, rfl⟩
structure At (ks : List ByteArray) (s : ByteArray) (n : Nat) : Prop where
 le : n ≤ ks.length
 lo : ∀ m, m < n → ltK (keyAtK ks m) s = true
 hi : ∀ m, n ≤ m → m < ks.length → ltK (keyAtK ks m) s = false
theorem search_any {O : Nat → Prop} {w : World} {p : Option Addr} {c : Nat} {ks : List ByteArray} (h : RdK O w p c ks) (hr : rises ks = true) (hn : ks.length ≤ 100000) (s : ByteArray) :
    Calls Tryz.prog 124 #[.slice p ks.length c, .string s] w fun e w' => (∃ n : Nat, e = .returned (.tuple #[.int .i64 n, .bool (decide (n < ks.length) && ((keyAtK ks n).toList == s.toList))]) ∧ At ks s n) ∧ w = w' := by
 obtain ⟨m, hm⟩ : ∃ m, ks.length = m := ⟨_, rfl⟩
 have HM : Hid (ks.length = m) := hm
 have hc := h.1
 rw [hm] at hn hc ⊢
 clear hm
 have HR : Hid (rises ks = true) := hr
 clear hr
 go_enter Tryz.func124, Tryz.ntmps124
 go_wp2
 go_loopw [7, 8] (fun i j wr => (∃ a b : Nat, i = .int .i64 a ∧ j = .int .i64 b ∧ a ≤ b ∧ b ≤ m ∧ Hid ((∀ x, x < a → ltK (keyAtK ks x) s = true) ∧ (∀ x, b ≤ x → x < ks.length → ltK (keyAtK ks x) s = false))) ∧ wr = w) (fun i j _ => (intOf j).toNat - (intOf i).toNat)
 case atStart => exact ⟨⟨0, m, rfl, rfl, Nat.zero_le _, Nat.le_refl _, fun x hx => absurd hx (by omega), fun x h1 h2 => absurd h2 (by rw [HM.out]; omega)⟩, rfl⟩
 case round =>
  obtain ⟨⟨a, b, rfl, rfl, hab, hbm, hin⟩, hwr⟩ := hrel
  rw [hwr]
  clear hwr
  by_cases hlt : a < b
  · go_upto_region 5 with fail
    obtain ⟨h2, he⟩ : ∃ h2 : Nat, ((a : Int) + b) / 2 = h2 ∧ a ≤ h2 ∧ h2 < b := ⟨(a + b) / 2, by omega, by omega, by omega⟩
    have HE : Hid (a ≤ h2 ∧ h2 < b) := he.2
    rw [he.1]
    clear he
    have hkm : h2 < m := by have := HE.out; omega
    have hkl : h2 < ks.length := by rw [HM.out]; exact hkm
    obtain ⟨ad, rfl, _, hcl⟩ := h.2 h2 hkl
    have HLT : Hid (∀ x, x < h2 → ltK (keyAtK ks x) (keyAtK ks h2) = true) := fun x hx => rises_lt HR.out hx hkl
    have HGT : Hid (∀ x, h2 < x → x < ks.length → ltK (keyAtK ks h2) (keyAtK ks x) = true) := fun x hx hl => rises_lt HR.out hx hl
    have HIN : Hid ((∀ x, x < a → ltK (keyAtK ks x) s = true) ∧ (∀ x, b ≤ x → x < ks.length → ltK (keyAtK ks x) s = false)) := hin
    change w.cell? (ad.add h2) = some (.string (keyAtK ks h2)) at hcl
    generalize hK : keyAtK ks h2 = K at hcl HLT HGT
    have HKK : Hid (keyAtK ks h2 = K) := hK
    clear hK hin hkl
    have hle := less_any (w := w) K s
    cases hl : ltK K s with
    | true =>
     have HL : Hid (ltK K s = true) := hl
     rw [hl] at hle
     clear hl
     go_wp2_with (go_at_call 135; refine hle.mono ?_; rintro e w' ⟨rfl, rfl⟩)
     go_roundw
     case rel =>
      have := HE.out
      refine ⟨⟨h2 + 1, b, by simp, rfl, by omega, hbm, fun x hx => ?_, HIN.out.2⟩, trivial⟩
      by_cases e : x = h2
      · subst e; rw [HKK.out]; exact HL.out
      · exact ltK_trans (HLT.out x (by omega)) HL.out
     case measure => have := HE.out; simp [intOf]; omega
    | false =>
     have HL : Hid (ltK K s = false) := hl
     rw [hl] at hle
     clear hl
     go_wp2_with (go_at_call 135; refine hle.mono ?_; rintro e w' ⟨rfl, rfl⟩)
     go_roundw
     case rel =>
      have := HE.out
      refine ⟨⟨a, h2, rfl, rfl, by omega, by omega, HIN.out.1, fun x h1 h3 => ?_⟩, trivial⟩
      by_cases e : x = h2
      · subst e; rw [HKK.out]; exact HL.out
      · cases hx : ltK (keyAtK ks x) s with
        | false => rfl
        | true =>
         have := ltK_trans (HGT.out x (by omega) h3) hx
         rw [HL.out] at this
         cases this
     case measure => have := HE.out; simp [intOf]; omega
  · obtain rfl : a = b := by omega
    have HIN : Hid (At ks s a) := ⟨by rw [HM.out]; exact hbm, hin.out.1, hin.out.2⟩
    clear hin
    by_cases ham : a < m
    · obtain ⟨ad, rfl, _, hcl⟩ := h.2 a (by rw [HM.out]; exact ham)
      change w.cell? (ad.add a) = some (.string (keyAtK ks a)) at hcl
      have HRS : Hid (∀ v, v = (.tuple #[.int .i64 a, .bool (decide (a < m) && ((keyAtK ks a).toList == s.toList))] : Value) → ∃ n : Nat, Ending.returned v = .returned (.tuple #[.int .i64 n, .bool (decide (n < m) && ((keyAtK ks n).toList == s.toList))]) ∧ At ks s n) := fun v hv => ⟨a, by rw [hv], HIN.out⟩
      generalize keyAtK ks a = K at hcl HRS
      have hna := sNaN_any (w := w) K
      cases hq : (K.toList == s.toList) with
      | true =>
       rw [hq] at HRS
       go_wp2
       go_ret2
       exact ⟨HRS.out _ (by simp [ham]), rfl⟩
      | false =>
       rw [hq] at HRS
       go_wp2_with (go_at_call 136; refine hna.mono ?_; rintro e w' ⟨rfl, rfl⟩)
       go_ret2
       exact ⟨HRS.out _ (by simp), rfl⟩
    · have HRS : Hid (∀ v, v = (.tuple #[.int .i64 a, .bool false] : Value) → ∃ n : Nat, Ending.returned v = .returned (.tuple #[.int .i64 n, .bool (decide (n < m) && ((keyAtK ks n).toList == s.toList))]) ∧ At ks s n) := fun v hv => ⟨a, by rw [hv]; simp [ham], HIN.out⟩
      go_wp2
      go_ret2
      exact ⟨HRS.out _ rfl, rfl⟩
theorem resultsP_cell_tmp {fn : Func} {a u : Tmp} {t : TypeId} (h : fn.results = #[.cell a t, .tmp u]) (tmps : Array Value) (P : Program) (w : World) {ad : Addr} {v : Value} (hp : tmps.getD a undef = .pointer (some ad)) (hl : (loadVar t ad).run P w = .ok v w) :
    (results fn tmps).run P w = .ok (.tuple #[v, tmps.getD u undef]) w := by
 rw [Array.getD_eq_getD_getElem?] at hp
 simp [results, h, hp, hl, asAddr]
theorem loadJP {w : World} {b t : Nat} {a0 a1 a2 a3 a4 : Value} (h : w.heap[b]? = some (.cells #[a0, a1, a2, a3, a4] t (0, 0))) : (loadVar 38 ⟨b, 0, none⟩).run Tryz.prog w = .ok (.agg #[a0, a1, a2, a3, a4]) w := by
 have k0 := cellP h 0 _ rfl; have k1 := cellP h 1 _ rfl; have k2 := cellP h 2 _ rfl; have k3 := cellP h 3 _ rfl; have k4 := cellP h 4 _ rfl
 simp [loadVar, go_sem, k0, k1, k2, k3, k4]
theorem isJP_parts {O : Nat → Prop} {w : World} {kx ix : Int} {tx : ByteArray} {ks : List ByteArray} {l : List J} {k i : Int} {t : ByteArray} {pk pl : Option Addr} {nk ck nl cl : Nat} (h : isJ O w (.mk kx ix tx ks l) [.int .i64 k, .int .i64 i, .string t, .slice pk nk ck, .slice pl nl cl]) :
    k = kx ∧ i = ix ∧ t = tx ∧ nk = ks.length ∧ nl = l.length ∧ RdK O w pk ck ks ∧ l.length ≤ cl ∧ isJs O w pl 0 l := by
 unfold isJ at h
 obtain ⟨pk', ck', pl', cl', e, h1, h2, h3⟩ := h
 simp only [List.cons.injEq, Value.int.injEq, Value.string.injEq, Value.slice.injEq, true_and, and_true] at e
 obtain ⟨rfl, rfl, rfl, ⟨rfl, rfl, rfl⟩, rfl, rfl, rfl⟩ := e
 exact ⟨rfl, rfl, rfl, rfl, rfl, h1, h2, h3⟩
abbrev zJP : Value := .agg #[.int .i64 0, .int .i64 0, .string ⟨#[]⟩, .slice none 0 0, .slice none 0 0]
def UnderT (O : Nat → Prop) (w' : World) : Option J → Ending → Prop
 | none, e => e = .returned (.tuple #[zJP, .bool false])
 | some v, e => ∃ k i t p n c q m d, e = .returned (.tuple #[.agg #[.int .i64 k, .int .i64 i, .string t, .slice p n c, .slice q m d], .bool true]) ∧ isJ O w' v [.int .i64 k, .int .i64 i, .string t, .slice p n c, .slice q m d]
theorem At.found {ks : List ByteArray} {s : ByteArray} {n : Nat} (h : At ks s n) {l : List J} (hl : ks.length ≤ l.length) (hn : n < ks.length) (he : (keyAtK ks n).toList == s.toList) : lookV ks l s = some (l.getD n J.zero) :=
 lookJ_at hl hn (bytes_eq.1 he) fun m hm => ltP_ne (h.lo m hm)
theorem At.none {ks : List ByteArray} {s : ByteArray} {n : Nat} (h : At ks s n) (hr : rises ks = true) {l : List J} (he : (decide (n < ks.length) && ((keyAtK ks n).toList == s.toList)) = false) : lookV ks l s = none := by
 refine lookJ_none fun hm => ?_
 obtain ⟨m, hml, hms⟩ := List.getElem_of_mem hm
 have hk : keyAtK ks m = s := by unfold keyAtK; rw [List.getD_eq_getElem?_getD, List.getElem?_eq_getElem hml]; exact hms
 rcases Nat.lt_or_ge m n with h1 | h1
 · exact ltP_ne (h.lo m h1) hk
 · have hnl : n < ks.length := by omega
   by_cases e : m = n
   · subst e
     rw [hk] at he
     simp [hnl] at he
   · have := rises_lt hr (m := n) (n := m) (by omega) hml
     rw [show ks.getD m nix = s from hk] at this
     have h2 := h.hi n (Nat.le_refl _) hnl
     unfold keyAtK at h2
     rw [this] at h2
     cases h2
theorem under_any {O : Nat → Prop} {w : World} {Rb d : Nat} {j : J} {k i : Int} {t : ByteArray} {pk pl : Option Addr} {nk ck nl cl : Nat} {bad : Bool} (hR : w.heap[Rb]? = some (.cells #[.int .i64 k, .int .i64 i, .string t, .slice pk nk ck, .slice pl nl cl, .bool bad] 114 (0, 0)))
    (hj : isJ O w j [.int .i64 k, .int .i64 i, .string t, .slice pk nk ck, .slice pl nl cl]) (hO : ∀ x, O x → x < w.heap.size) (hok : OkJ (d + 1) j) (s : ByteArray) :
    Calls Tryz.prog 107 #[.pointer (some ⟨Rb, 0, none⟩), .string s] w fun e w' => UnderT O w' (lookV j.ks j.ls s) e ∧ Below w.heap.size w w' := by
 obtain ⟨kx, ix, tx, ks, l⟩ := j
 obtain ⟨rfl, rfl, rfl, rfl, rfl, hk, hcl, hjs⟩ := isJP_parts hj
 clear hj
 have hris := hok.parts.1
 have hkn := hok.parts.2.2.2.1
 have hlen := hok.lens
 simp only [J.ks, J.ls]
 obtain ⟨wA, hwA⟩ : ∃ wA, wA = w.alloc (.cells #[.int .i64 0, .int .i64 0, .string ⟨#[]⟩, .slice none 0 0, .slice none 0 0] 38) := ⟨_, rfl⟩
 have hbA : Below w.heap.size w wA := by rw [hwA]; exact (Below.refl _ _).alloc (Nat.le_refl _) _
 have hA : wA.heap[w.heap.size]? = some (.cells #[.int .i64 0, .int .i64 0, .string ⟨#[]⟩, .slice none 0 0, .slice none 0 0] 38 (0, 0)) := by rw [hwA]; exact newP _
 have hRA := (hbA.block Rb (objP_lt hR)).trans hR
 have hS := search_any (hk.carry (O' := O) (w' := wA) fun x hx => ⟨hx, hbA.block x (hO x hx)⟩) hris hkn s
 have r3 := cellP hRA 3 _ rfl
 have r4 := cellP hRA 4 _ rfl
 have hRlt := objP_lt hR
 have i0 := cellP hA 0 _ rfl; have i1 := cellP hA 1 _ rfl; have i2 := cellP hA 2 _ rfl; have i3 := cellP hA 3 _ rfl; have i4 := cellP hA 4 _ rfl
 have z0 := fzP hA 0; have z1 := fzP hA 1; have z2 := fzP hA 2; have z3 := fzP hA 3; have z4 := fzP hA 4
 have HA : Hid (wA.heap[w.heap.size]? = some (.cells #[.int .i64 0, .int .i64 0, .string ⟨#[]⟩, .slice none 0 0, .slice none 0 0] 38 (0, 0))) := hA
 have HRI : Hid (rises ks = true) := hris
 have HLE : Hid (ks.length ≤ l.length) := hlen
 have HJS : Hid (isJs O w pl 0 l) := hjs
 obtain ⟨nk, hnk⟩ : ∃ n, ks.length = n := ⟨_, rfl⟩
 obtain ⟨nl, hnl⟩ : ∃ n, l.length = n := ⟨_, rfl⟩
 have HNK : Hid (ks.length = nk) := hnk
 have HNL : Hid (l.length = nl) := hnl
 rw [hnk] at hS r3 hkn
 rw [hnl] at r4 hcl
 clear hnk hnl hris hlen hjs hk hok hR hRA hA
 go_enter Tryz.func107, Tryz.ntmps107
 go_upto_region 1 with fail
 rw [← hwA]
 clear hwA
 go_upto_region 2 with (go_at_call 124; refine hS.mono ?_; rintro e w' ⟨⟨n, rfl, hat⟩, rfl⟩)
 have HAT : Hid (At ks s n) := hat
 cases hf : (decide (n < nk) && ((keyAtK ks n).toList == s.toList)) with
 | false =>
  have HLK : Hid (lookV ks l s = none) := HAT.out.none HRI.out (by rw [HNK.out]; exact hf)
  clear hS hat HAT HJS
  go_wp2
  have h5 := setL_all (b := w.heap.size) [.int .i64 0, .int .i64 0, .string ⟨#[]⟩, .slice none 0 0, .slice none 0 0] HA.out rfl
  have HK5 := setL_keep w.heap.size [.int .i64 0, .int .i64 0, .string ⟨#[]⟩, .slice none 0 0, .slice none 0 0] wA 0
  simp only [setL, Nat.zero_add, Nat.reduceAdd] at h5 HK5
  refine bodyPost_ret (resultsP_cell_tmp rfl _ _ _ rfl (loadJP h5)) rfl ?_
  rw [HLK.out]
  exact ⟨rfl, hbA.trans (HK5.below hbA.size fun k hk e => by unfold OneP at e; omega)⟩
 | true =>
  have hf' := hf
  simp only [Bool.and_eq_true, decide_eq_true_eq] at hf'
  have hnl : n < nl := by have := HLE.out; rw [HNK.out, HNL.out] at this; omega
  have HLK : Hid (lookV ks l s = some (l.getD n J.zero)) := HAT.out.found HLE.out (by rw [HNK.out]; exact hf'.1) hf'.2
  obtain ⟨lb, lo, cs, hpl, hOb, hcells, hyj⟩ := isJs.at l 0 n HJS.out (by rw [HNL.out]; exact hnl)
  subst hpl
  obtain ⟨kv, iv, tv, pv, nv, cv, qv, mv, dv, rfl⟩ := isJ_shape hyj
  have cc : ∀ m v, [Value.int .i64 kv, .int .i64 iv, .string tv, .slice pv nv cv, .slice qv mv dv][m]? = some v → wA.cell? ⟨lb, lo + n * 5 + m, none⟩ = some v := fun m v h => by
   have := hcells m v h
   rw [Nat.zero_add] at this
   exact (World.cell?_of_block (a := ⟨lb, lo + n * 5 + m, none⟩) (hbA.block lb (hO lb hOb))).trans this
  have y0 : wA.cell? ⟨lb, lo + n * 5, none⟩ = some (.int .i64 kv) := cc 0 _ rfl
  have y1 := cc 1 _ rfl
  have y2 := cc 2 _ rfl
  have y3 := cc 3 _ rfl
  have y4 := cc 4 _ rfl
  have HYJ : Hid (isJ O w (l.getD n J.zero) [Value.int .i64 kv, .int .i64 iv, .string tv, .slice pv nv cv, .slice qv mv dv]) := hyj
  have hlb := hO lb hOb
  clear cc hcells hyj hS hat HAT HJS hf'
  go_wp2
  have h5 := setL_all (b := w.heap.size) [.int .i64 kv, .int .i64 iv, .string tv, .slice pv nv cv, .slice qv mv dv] HA.out rfl
  have HK5 := setL_keep w.heap.size [.int .i64 kv, .int .i64 iv, .string tv, .slice pv nv cv, .slice qv mv dv] wA 0
  simp only [setL, Nat.zero_add, Nat.reduceAdd] at h5 HK5
  refine bodyPost_ret (resultsP_cell_tmp rfl _ _ _ rfl (loadJP h5)) rfl ?_
  rw [HLK.out]
  have hbE := hbA.trans (HK5.below hbA.size fun k hk e => by unfold OneP at e; omega)
  exact ⟨⟨_, _, _, _, _, _, _, _, _, rfl, HYJ.out.carry fun x hx => ⟨hx, hbE.block x (hO x hx)⟩⟩, hbE⟩
end Go.Proofs.YtimhpglfolbomabGreat

/-
  Levels that are parsed are not too many.
  The document's Get of a value, by a contract.
  How many of so many values are left (the law of levels), by a contract.
  A loop over changes that ends at the first that is bad: as one law.
  May, by a contract.
-/
import Derived.Test.YtcaknajjkfiaoaaPT08
set_option maxRecDepth 100000
set_option maxHeartbeats 16000000
namespace Go.Proofs.Ytcaknajjkfiaoaa
open Go.RowKit
theorem szP_keys {d : Nat} {j : J} (h : szJ (d + 1) j = true) : j.ks.length ≤ 100000 := by
 obtain ⟨k, i, t, ks, l⟩ := j
 unfold szJ at h
 simp only [Bool.and_eq_true, decide_eq_true_eq] at h
 exact h.2.1
theorem row_sz {d : Nat} {j : J} (hok : OkJ (d + 2) j) (fit : ByteArray → Bool) (s : ByteArray) : SzN (rowT fit (lookV j.ks j.ls s)).1 := by
 cases h : lookV j.ks j.ls s with
 | none => exact ⟨by simp [rowT], fun p hp => by simp [rowT] at hp⟩
 | some v =>
  have hv : OkJ (d + 1) v := by
   obtain ⟨_, _, _, _, _⟩ := j
   exact hok.parts.2.2.2.2.2 v (lookJ_mem h)
  obtain ⟨k, i, t, ks, l⟩ := v
  have hp := hv.parts
  simp only [rowT, rowsOf, J.ks, J.ls]
  refine ⟨by rw [List.length_map, List.length_zip]; omega, fun p hm => ?_⟩
  obtain ⟨q, hq, rfl⟩ := List.mem_map.1 hm
  exact hp.2.2.2.2.1 q.1 (List.of_mem_zip hq).1
theorem parse_sz {c : J} (hs : szJ 12 c = true) : SzL (parseT (ordT c)).1 := by
 have hok := ordT_okJ hs
 unfold parseT
 split
 · exact ⟨⟨by simp, fun p hp => by simp at hp⟩, ⟨by simp, fun p hp => by simp at hp⟩⟩
 · exact ⟨row_sz (d := 10) hok isU kByUser, row_sz (d := 10) hok isT kByType⟩
theorem parse_err (j : J) : (parseT j).2 = 0 ∨ (parseT j).2 = 1 := by
 unfold parseT
 split
 · exact .inr rfl
 · exact .inl rfl
theorem lookJ_step : ∀ {ks : List ByteArray} {l : List J} {s : ByteArray} {n : Nat}, n < ks.length → n < l.length → (∀ m, m < n → ((ks.getD m nix).toList == s.toList) = false) → ((ks.getD n nix).toList == s.toList) = true → lookV ks l s = some (l.getD n J.zero)
 | [], _, _, _, h, _, _, _ => absurd h (by simp)
 | _ :: _, [], _, _, _, h, _, _ => absurd h (by simp)
 | k :: ks, v :: l, s, 0, _, _, _, he => by
  have he : (k.toList == s.toList) = true := by simpa using he
  unfold lookV
  rw [if_pos he]
  simp
 | k :: ks, v :: l, s, n + 1, h1, h2, hm, he => by
  have h0 : (k.toList == s.toList) = false := by have := hm 0 (by omega); simpa using this
  unfold lookV
  rw [h0, if_neg (by decide), lookJ_step (n := n) (by simpa using h1) (by simpa using h2) (fun m h => by have := hm (m + 1) (by omega); simpa using this) (by simpa using he)]
  simp
theorem lookJ_miss : ∀ {ks : List ByteArray} {l : List J} {s : ByteArray}, (∀ m, m < ks.length → m < l.length → ((ks.getD m nix).toList == s.toList) = false) → lookV ks l s = none
 | [], _, _, _ => by unfold lookV; rfl
 | _ :: _, [], _, _ => by unfold lookV; rfl
 | k :: ks, v :: l, s, h => by
  have h0 : (k.toList == s.toList) = false := by have := h 0 (by simp) (by simp); simpa using this
  unfold lookV
  rw [h0, if_neg (by decide)]
  exact lookJ_miss fun m h1 h2 => by have := h (m + 1) (by simpa using h1) (by simpa using h2); simpa using this
theorem get_any {O : Nat → Prop} {w : World} {j : J} {k i : Int} {t : ByteArray} {pk pl : Option Addr} {nk ck nl cl : Nat} (hj : isJ O w j [.int .i64 k, .int .i64 i, .string t, .slice pk nk ck, .slice pl nl cl]) (hO : ∀ b, O b → b < w.heap.size) (hz : j.ks.length ≤ 100000) (s : ByteArray) :
    Calls Try.prog 7 #[.agg #[.int .i64 k, .int .i64 i, .string t, .slice pk nk ck, .slice pl nl cl], .string s] w fun e w' => UnderT O w' (getT j s) e ∧ Below w.heap.size w w' := by
 obtain ⟨kx, ix, tx, ks, l⟩ := j
 obtain ⟨rfl, rfl, rfl, rfl, rfl, hk, hcl, hjs⟩ := isJP_parts hj
 clear hj
 obtain ⟨o, ho⟩ : ∃ o, getT (.mk k i t ks l) s = o := ⟨_, rfl⟩
 rw [ho]
 have HO5 : Hid (k = 5 → o = lookV ks l s) := fun h => by rw [← ho]; unfold getT; exact if_pos h
 have HON : Hid (¬ k = 5 → o = none) := fun h => by rw [← ho]; unfold getT; exact if_neg h
 clear ho
 simp only [J.ks] at hz
 obtain ⟨W0, hW0⟩ : ∃ W0, W0 = (w.alloc (.cells #[.int .i64 k, .int .i64 i, .string t, .slice pk ks.length ck, .slice pl l.length cl] 25)).alloc (.cells #[.int .i64 0, .int .i64 0, .string ⟨#[]⟩, .slice none 0 0, .slice none 0 0] 25) := ⟨_, rfl⟩
 have hb0 : Below w.heap.size w W0 := by rw [hW0]; exact ((Below.refl _ _).alloc (Nat.le_refl _) _).alloc (by simp) _
 have hx0 : W0.heap[w.heap.size]? = some (.cells #[.int .i64 k, .int .i64 i, .string t, .slice pk ks.length ck, .slice pl l.length cl] 25 (0, 0)) := by rw [hW0, Below.heap_alloc _ _ _ (by simp)]; exact newP _
 have hR : W0.heap[w.heap.size + 1]? = some (.cells #[.int .i64 0, .int .i64 0, .string ⟨#[]⟩, .slice none 0 0, .slice none 0 0] 25 (0, 0)) := by
  rw [hW0]
  have := newP (w := w.alloc (.cells #[.int .i64 k, .int .i64 i, .string t, .slice pk ks.length ck, .slice pl l.length cl] 25)) (.cells #[.int .i64 0, .int .i64 0, .string ⟨#[]⟩, .slice none 0 0, .slice none 0 0] 25)
  rw [World.size_alloc] at this
  exact this
 obtain ⟨nk, hnk⟩ : ∃ n, ks.length = n := ⟨_, rfl⟩
 obtain ⟨nl, hnl⟩ : ∃ n, l.length = n := ⟨_, rfl⟩
 have HNK : Hid (ks.length = nk) := hnk
 have HNL : Hid (l.length = nl) := hnl
 have hck := hk.1
 rw [hnk] at hz hck hx0 hW0 ⊢
 rw [hnl] at hcl hx0 hW0 ⊢
 clear hnk hnl
 have c0 := cellP hx0 0 _ rfl; have c3 := cellP hx0 3 _ rfl; have c4 := cellP hx0 4 _ rfl
 have i0 := cellP hR 0 _ rfl; have i1 := cellP hR 1 _ rfl; have i2 := cellP hR 2 _ rfl; have i3 := cellP hR 3 _ rfl; have i4 := cellP hR 4 _ rfl
 have z0 := fzP hR 0; have z1 := fzP hR 1; have z2 := fzP hR 2; have z3 := fzP hR 3; have z4 := fzP hR 4
 have HR : Hid (W0.heap[w.heap.size + 1]? = some (.cells #[.int .i64 0, .int .i64 0, .string ⟨#[]⟩, .slice none 0 0, .slice none 0 0] 25 (0, 0))) := hR
 have HN : Hid (∀ X, Keep (OneP (w.heap.size + 1)) W0 X → Below w.heap.size w X) := fun X hX => hb0.trans (hX.below hb0.size fun q hq e => by unfold OneP at e; omega)
 clear hR hx0
 by_cases k5 : k = 5
 · subst k5
   have HOL := (show Hid _ from HO5.out rfl)
   clear HO5 HON
   go_enter Try.func7, Try.ntmps7
   go_upto_region 1 with fail
   rw [← hW0]
   clear hW0
   go_wp2
   go_loopw [6] (fun v wr => ∃ m : Nat, v = .int .i64 m ∧ m ≤ nk ∧ m ≤ nl ∧ Hid (∀ y, y < m → ((ks.getD y nix).toList == s.toList) = false) ∧ wr = W0) (fun v _ => nk - (intOf v).toNat)
   case atStart => exact ⟨0, rfl, Nat.zero_le _, Nat.zero_le _, fun m hm => absurd hm (by omega), rfl⟩
   case round =>
    obtain ⟨m, rfl, hm, hml, HX, rfl⟩ := hrel
    by_cases hlt : m < nk
    · by_cases hlt2 : m < nl
      · have hmi : (m : Int) < (nk : Int) := by omega
        have hmi2 : (m : Int) < (nl : Int) := by omega
        obtain ⟨a, rfl, hOa, hca0⟩ := hk.2 m (by rw [HNK.out]; exact hlt)
        have hca : wr.cell? (a.add m) = some (.string (ks.getD m nix)) := (World.cell?_of_block (by rw [add_block]; exact hb0.block _ (hO _ hOa))).trans hca0
        obtain ⟨lb, lo, cs, hpl, hOb, hcells, hyj⟩ := isJs.at l 0 m hjs (by rw [HNL.out]; exact hlt2)
        subst hpl
        obtain ⟨kv, iv, tv, pv, nv, cv, qv, mv, dv, rfl⟩ := isJ_shape hyj
        have cc : ∀ n v, [Value.int .i64 kv, .int .i64 iv, .string tv, .slice pv nv cv, .slice qv mv dv][n]? = some v → wr.cell? ⟨lb, lo + m * 5 + n, none⟩ = some v := fun n v h => by
         have := hcells n v h
         rw [Nat.zero_add] at this
         exact (World.cell?_of_block (a := ⟨lb, lo + m * 5 + n, none⟩) (hb0.block lb (hO lb hOb))).trans this
        have y0 : wr.cell? ⟨lb, lo + m * 5, none⟩ = some (.int .i64 kv) := cc 0 _ rfl
        have y1 := cc 1 _ rfl
        have y2 := cc 2 _ rfl
        have y3 := cc 3 _ rfl
        have y4 := cc 4 _ rfl
        have HYJ : Hid (isJ O w (l.getD m J.zero) [Value.int .i64 kv, .int .i64 iv, .string tv, .slice pv nv cv, .slice qv mv dv]) := hyj
        have hlb := hO lb hOb
        have HLK : Hid (((ks.getD m nix).toList == s.toList) = true → lookV ks l s = some (l.getD m J.zero)) := fun h => lookJ_step (by rw [HNK.out]; exact hlt) (by rw [HNL.out]; exact hlt2) HX.out h
        have HST : Hid (((ks.getD m nix).toList == s.toList) = false → ∀ y, y < m + 1 → ((ks.getD y nix).toList == s.toList) = false) := fun h y hy => (Nat.lt_succ_iff_lt_or_eq.1 hy).elim (HX.out y) fun e => by rw [e]; exact h
        clear cc hcells hyj hca0
        generalize ks.getD m nix = u at hca HLK HST
        cases he : (u.toList == s.toList) with
        | true =>
         have HL := (show Hid _ from HLK.out he)
         clear HLK HST
         go_wp2
         have h5 := setL_all (b := w.heap.size + 1) [.int .i64 kv, .int .i64 iv, .string tv, .slice pv nv cv, .slice qv mv dv] HR.out rfl
         have HK5 := setL_keep (w.heap.size + 1) [.int .i64 kv, .int .i64 iv, .string tv, .slice pv nv cv, .slice qv mv dv] wr 0
         simp only [setL, Nat.zero_add, Nat.reduceAdd] at h5 HK5
         refine bodyPost_ret (resultsP_cell_tmp rfl _ _ _ rfl (loadJP h5)) rfl ?_
         rw [HOL.out, HL.out]
         have hbE := HN.out _ HK5
         exact ⟨⟨_, _, _, _, _, _, _, _, _, rfl, HYJ.out.carry fun x hx => ⟨hx, hbE.block x (hO x hx)⟩⟩, hbE⟩
        | false =>
         have HS := (show Hid _ from HST.out he)
         clear HLK HST
         go_wp2
         go_roundw
         case rel => exact ⟨m + 1, by go_num, hlt, hlt2, HS, trivial⟩
         case measure => simp [intOf]; omega
      · obtain rfl : m = nl := by omega
        have HLK : Hid (lookV ks l s = none) := lookJ_miss fun y h1 h2 => HX.out y (by rw [← HNL.out]; exact h2)
        have hmi : (m : Int) < (nk : Int) := by omega
        go_wp2
        have h5 := setL_all (b := w.heap.size + 1) [.int .i64 0, .int .i64 0, .string ⟨#[]⟩, .slice none 0 0, .slice none 0 0] HR.out rfl
        have HK5 := setL_keep (w.heap.size + 1) [.int .i64 0, .int .i64 0, .string ⟨#[]⟩, .slice none 0 0, .slice none 0 0] wr 0
        simp only [setL, Nat.zero_add, Nat.reduceAdd] at h5 HK5
        refine bodyPost_ret (resultsP_cell_tmp rfl _ _ _ rfl (loadJP h5)) rfl ?_
        rw [HOL.out, HLK.out]
        exact ⟨rfl, HN.out _ HK5⟩
    · obtain rfl : m = nk := by omega
      have HLK : Hid (lookV ks l s = none) := lookJ_miss fun y h1 h2 => HX.out y (by rw [← HNK.out]; exact h1)
      go_wp2
      have h5 := setL_all (b := w.heap.size + 1) [.int .i64 0, .int .i64 0, .string ⟨#[]⟩, .slice none 0 0, .slice none 0 0] HR.out rfl
      have HK5 := setL_keep (w.heap.size + 1) [.int .i64 0, .int .i64 0, .string ⟨#[]⟩, .slice none 0 0, .slice none 0 0] wr 0
      simp only [setL, Nat.zero_add, Nat.reduceAdd] at h5 HK5
      refine bodyPost_ret (resultsP_cell_tmp rfl _ _ _ rfl (loadJP h5)) rfl ?_
      rw [HOL.out, HLK.out]
      exact ⟨rfl, HN.out _ HK5⟩
 · have HOL := (show Hid _ from HON.out k5)
   clear HO5 HON
   go_enter Try.func7, Try.ntmps7
   go_upto_region 1 with fail
   rw [← hW0]
   clear hW0
   go_wp2
   have h5 := setL_all (b := w.heap.size + 1) [.int .i64 0, .int .i64 0, .string ⟨#[]⟩, .slice none 0 0, .slice none 0 0] HR.out rfl
   have HK5 := setL_keep (w.heap.size + 1) [.int .i64 0, .int .i64 0, .string ⟨#[]⟩, .slice none 0 0, .slice none 0 0] W0 0
   simp only [setL, Nat.zero_add, Nat.reduceAdd] at h5 HK5
   refine bodyPost_ret (resultsP_cell_tmp rfl _ _ _ rfl (loadJP h5)) rfl ?_
   rw [HOL.out]
   exact ⟨rfl, HN.out _ HK5⟩
def TinyJ (j : J) : Prop := j.ks.length ≤ 100 ∧ j.ls.length ≤ 200
def LeftsP (d : Nat) : Prop := ∀ (w : World) (O : Nat → Prop) (j : J) (k i deep n : Int) (t : ByteArray) (pk pl : Option Addr) (nk ck nl cl : Nat), (∀ x, O x → x < w.heap.size) → deep = (d : Int) → d ≤ 100 → 0 ≤ n → n ≤ 100000 →
 isJ O w j [.int .i64 k, .int .i64 i, .string t, .slice pk nk ck, .slice pl nl cl] →
 Calls Try.prog 14 #[.agg #[.int .i64 k, .int .i64 i, .string t, .slice pk nk ck, .slice pl nl cl], .int .i64 n, .int .i64 deep] w fun x w' => (∃ r : Int, x = .returned (.int .i64 r) ∧ r ≤ n ∧ -1 ≤ r ∧ (0 ≤ r → szJ d j = true ∧ TinyJ j)) ∧ Below w.heap.size w w'
theorem pleft_zero : LeftsP 0 := by
 intro w O j k i deep n t pk pl nk ck nl cl hO hdeep _ h0 hn _
 subst hdeep
 have hbA : Below w.heap.size w (w.alloc (.cells #[.int .i64 k, .int .i64 i, .string t, .slice pk nk ck, .slice pl nl cl] 25)) := (Below.refl _ _).alloc (Nat.le_refl _) _
 by_cases h1 : n < 1
 · go_enter Try.func14, Try.ntmps14
   go_wp2
   go_ret
   exact ⟨⟨-1, rfl, by omega, by omega, fun h => absurd h (by decide)⟩, hbA⟩
 · go_enter Try.func14, Try.ntmps14
   go_wp2
   go_ret
   exact ⟨⟨-1, rfl, by omega, by omega, fun h => absurd h (by decide)⟩, hbA⟩
theorem pleft_step {d : Nat} (V : LeftsP d) : LeftsP (d + 1) := by
 intro w O j k i deep n t pk pl nk ck nl cl hO hdeep hd h0 hn hj
 obtain ⟨kx, ix, tx, ks, l⟩ := j
 unfold isJ at hj
 obtain ⟨pk', ck', pl', cl', e, hk, hl, hs⟩ := hj
 simp only [List.cons.injEq, Value.int.injEq, Value.string.injEq, Value.slice.injEq, true_and, and_true] at e
 obtain ⟨rfl, rfl, rfl, ⟨rfl, rfl, rfl⟩, rfl, rfl, rfl⟩ := e
 have hd1 : 1 ≤ deep := by omega
 have hd2 : deep ≤ 101 := by omega
 have HD : Hid (deep - 1 = (d : Int)) := by show _ = _; omega
 have HDL : Hid (d ≤ 100) := by show _ ≤ _; omega
 clear hdeep hd
 obtain ⟨nk, hnk⟩ : ∃ n, ks.length = n := ⟨_, rfl⟩
 obtain ⟨nl, hnl⟩ : ∃ n, l.length = n := ⟨_, rfl⟩
 have HNK : Hid (ks.length = nk) := hnk
 have HNL : Hid (l.length = nl) := hnl
 have hck := hk.1
 rw [hnk] at hck ⊢
 rw [hnl] at hl ⊢
 clear hnk hnl
 have hbA : Below w.heap.size w (w.alloc (.cells #[.int .i64 k, .int .i64 i, .string t, .slice pk nk ck, .slice pl nl cl] 25)) := (Below.refl _ _).alloc (Nat.le_refl _) _
 have neg : ∀ (w' : World) (x : Ending), x = .returned (.int .i64 (-1)) → Below w.heap.size w w' → (∃ r : Int, x = .returned (.int .i64 r) ∧ r ≤ n ∧ -1 ≤ r ∧ (0 ≤ r → szJ (d + 1) (.mk k i t ks l) = true ∧ TinyJ (.mk k i t ks l))) ∧ Below w.heap.size w w' := fun w' x hx hb => ⟨⟨-1, hx, by omega, by omega, fun h => absurd h (by decide)⟩, hb⟩
 have HNEG : Hid (∀ (w' : World) (x : Ending), x = .returned (.int .i64 (-1)) → Below w.heap.size w w' → (∃ r : Int, x = .returned (.int .i64 r) ∧ r ≤ n ∧ -1 ≤ r ∧ (0 ≤ r → szJ (d + 1) (.mk k i t ks l) = true ∧ TinyJ (.mk k i t ks l))) ∧ Below w.heap.size w w') := neg
 clear neg
 by_cases h1 : n < 1
 · go_enter Try.func14, Try.ntmps14
   go_wp2
   go_ret
   exact HNEG.out _ _ rfl hbA
 by_cases h2 : (500 : Int) < t.size
 · go_enter Try.func14, Try.ntmps14
   go_wp2
   go_ret
   exact HNEG.out _ _ rfl hbA
 by_cases h3 : (100 : Int) < nk
 · go_enter Try.func14, Try.ntmps14
   go_wp2
   go_ret
   exact HNEG.out _ _ rfl hbA
 by_cases h4 : (200 : Int) < nl
 · go_enter Try.func14, Try.ntmps14
   go_wp2
   go_ret
   exact HNEG.out _ _ rfl hbA
 obtain ⟨wB, hwB⟩ : ∃ wB, wB = w.alloc (.cells #[.int .i64 k, .int .i64 i, .string t, .slice pk nk ck, .slice pl nl cl] 25) := ⟨_, rfl⟩
 have hA : wB.heap[w.heap.size]? = some (.cells #[.int .i64 k, .int .i64 i, .string t, .slice pk nk ck, .slice pl nl cl] 25 (0, 0)) := by rw [hwB]; exact heap_alloc_new _ _
 have hsB : w.heap.size < wB.heap.size := (Array.getElem?_eq_some_iff.1 hA).1
 rw [← hwB] at hbA
 have HCA : Hid (∀ W : World, Below wB.heap.size wB W → ∀ n v, [Value.int .i64 k, .int .i64 i, .string t, .slice pk nk ck, .slice pl nl cl][n]? = some v → W.cell? ⟨w.heap.size, n, none⟩ = some v) := fun W hW n v hv =>
  (World.cell?_of_block (a := ⟨w.heap.size, n, none⟩) (hW.block w.heap.size hsB)).trans (cell_row (cur := [.int .i64 k, .int .i64 i, .string t, .slice pk nk ck, .slice pl nl cl]) hA n v hv)
 go_enter Try.func14, Try.ntmps14
 go_wp2
 rw [← hwB]
 clear hwB hA
 go_loopw [7] (fun v wr => ∃ m : Nat, v = .int .i64 m ∧ m ≤ nk ∧ Hid (∀ x, x < m → (ks.getD x nix).size ≤ 200) ∧ wr = wB) (fun v _ => nk - (intOf v).toNat)
 case atStart => exact ⟨0, rfl, Nat.zero_le _, fun m hm => absurd hm (by omega), rfl⟩
 case round =>
  obtain ⟨m, rfl, hm, HE, rfl⟩ := hrel
  have a3 := HCA.out wr (Below.refl _ _) 3 _ rfl
  by_cases hmk : m < nk
  · have hmi : (m : Int) < (nk : Int) := by omega
    obtain ⟨ka, hpk, hOa, hcka⟩ := hk.2 m (by rw [HNK.out]; exact hmk)
    subst hpk
    have hKA : wr.cell? (ka.add m) = some (.string (ks.getD m nix)) := (World.cell?_of_block (by rw [add_block]; exact hbA.block _ (hO _ hOa))).trans hcka
    obtain ⟨u, hu⟩ : ∃ u, ks.getD m nix = u := ⟨_, rfl⟩
    have HU : Hid (ks.getD m nix = u) := hu
    rw [hu] at hKA
    clear hu hcka
    by_cases hus : (200 : Int) < u.size
    · go_wp2
      go_ret
      exact HNEG.out _ _ rfl hbA
    · go_wp2
      go_roundw
      case rel => exact ⟨m + 1, by go_num, hmk, fun x hx => (Nat.lt_succ_iff_lt_or_eq.1 hx).elim (HE.out x) fun e => by rw [e, HU.out]; omega, trivial⟩
      case measure => simp [intOf]; omega
  · obtain rfl : m = nk := by omega
    have HKS : Hid (ks.all (fun k => decide (k.size ≤ 1000000000)) = true) := by
     show _ = _
     rw [List.all_eq_true]
     intro x hx
     obtain ⟨y, hy, rfl⟩ := List.getElem_of_mem hx
     have := HE.out y (by rw [← HNK.out]; exact hy)
     rw [key_getD hy] at this
     exact decide_eq_true (by omega)
    go_wp2
    go_loopw [1, 8] (fun u v w2 => ∃ (m : Nat) (r : Int), v = .int .i64 m ∧ u = .int .i64 r ∧ m ≤ nl ∧ r ≤ n - 1 ∧ -1 ≤ r ∧ Hid (0 ≤ r → (l.take m).all (szJ d) = true) ∧ Below wr.heap.size wr w2) (fun _ v _ => nl - (intOf v).toNat)
    case atStart => exact ⟨0, n - 1, rfl, rfl, Nat.zero_le _, by omega, by omega, fun _ => rfl, Below.refl _ _⟩
    case round =>
     obtain ⟨m', r, rfl, rfl, hm', hrn, hr0, HT, hb2⟩ := hrel
     have a4 := HCA.out wr hb2 4 _ rfl
     by_cases hml : m' < nl
     · have hmi : (m' : Int) < (nl : Int) := by omega
       by_cases hr : 0 ≤ r
       · have hml1 : m' < l.length := by rw [HNL.out]; exact hml
         have HML : Hid (m' < l.length) := hml1
         obtain ⟨lb, lo, cs, hpl, hOl, hcells, hyj⟩ := isJs.at l 0 m' hs hml1
         subst hpl
         obtain ⟨x0, x1, x2, p3, n3, c3, p4, n4, c4, rfl⟩ := isJ_shape hyj
         have hblk := (hb2.block lb (by have := hO _ hOl; omega)).trans (hbA.block lb (hO _ hOl))
         have cc : ∀ m v, [Value.int .i64 x0, .int .i64 x1, .string x2, .slice p3 n3 c3, .slice p4 n4 c4][m]? = some v → wr.cell? ⟨lb, lo + m' * 5 + m, none⟩ = some v := fun m v h => by
          have := hcells m v h
          rw [Nat.zero_add] at this
          exact (World.cell?_of_block (a := ⟨lb, lo + m' * 5 + m, none⟩) hblk).trans this
         have y0 : wr.cell? ⟨lb, lo + m' * 5, none⟩ = some (.int .i64 x0) := cc 0 _ rfl
         have y1 := cc 1 _ rfl
         have y2 := cc 2 _ rfl
         have y3 := cc 3 _ rfl
         have y4 := cc 4 _ rfl
         have hB2 := below_cat hbA (by omega) hb2
         have hV := V wr O (l.getD m' J.zero) x0 x1 (deep - 1) r x2 p3 p4 n3 c3 n4 c4 (fun b hb => Nat.lt_of_lt_of_le (hO b hb) hB2.size) HD.out HDL.out hr (by omega) (hyj.carry fun b hb => ⟨hb, hB2.block b (hO b hb)⟩)
         clear cc hcells hml1 hyj hblk
         go_wp2_with (go_at_call 14; refine hV.mono ?_; rintro x w4 ⟨⟨r4, rfl, hr4, hr5, hr6⟩, hb4⟩)
         go_roundw
         case rel => exact ⟨m' + 1, r4, by go_num, rfl, hml, by omega, hr5, fun h => by rw [all_take HML.out, HT.out hr, (hr6 h).1]; rfl, below_cat hb2 hb2.size hb4⟩
         case measure => simp [intOf]; omega
       · go_wp2
         go_ret
         refine ⟨⟨r, rfl, by omega, hr0, fun h => absurd h (by omega)⟩, below_cat hbA (by omega) hb2⟩
     · obtain rfl : m' = nl := by omega
       go_wp2
       go_ret
       refine ⟨⟨r, rfl, by omega, hr0, fun h => ?_⟩, below_cat hbA (by omega) hb2⟩
       have ht := HT.out h
       rw [List.take_of_length_le (by rw [HNL.out]; omega)] at ht
       refine ⟨?_, by show ks.length ≤ 100; rw [HNK.out]; omega, by show l.length ≤ 200; rw [HNL.out]; omega⟩
       unfold szJ
       rw [HKS.out, ht, HNK.out, HNL.out, decide_eq_true (show t.size ≤ 1000000000 by omega), decide_eq_true (show m ≤ 100000 by omega), decide_eq_true (show m' ≤ 100000 by omega)]
       rfl
theorem plefts : ∀ d, LeftsP d
 | 0 => pleft_zero
 | d + 1 => pleft_step (plefts d)
def SmallP (w w' : World) (j : J) (x : Ending) : Prop := (x = .returned (.bool false) ∨ (x = .returned (.bool true) ∧ szJ 15 j = true ∧ TinyJ j)) ∧ Below w.heap.size w w'
theorem small_any {w : World} {O : Nat → Prop} {j : J} {k i : Int} {t : ByteArray} {pk pl : Option Addr} {nk ck nl cl : Nat} (hO : ∀ x, O x → x < w.heap.size) (hj : isJ O w j [.int .i64 k, .int .i64 i, .string t, .slice pk nk ck, .slice pl nl cl]) :
    Calls Try.prog 4 #[.agg #[.int .i64 k, .int .i64 i, .string t, .slice pk nk ck, .slice pl nl cl]] w fun x w' => SmallP w w' j x := by
 have hbA : Below w.heap.size w (w.alloc (.cells #[.int .i64 k, .int .i64 i, .string t, .slice pk nk ck, .slice pl nl cl] 25)) := (Below.refl _ _).alloc (Nat.le_refl _) _
 have hV := plefts 15 (w.alloc (.cells #[.int .i64 k, .int .i64 i, .string t, .slice pk nk ck, .slice pl nl cl] 25)) O j k i 15 200 t pk pl nk ck nl cl (fun b hb => Nat.lt_of_lt_of_le (hO b hb) hbA.size) rfl (by decide) (by decide) (by decide) (hj.carry fun b hb => ⟨hb, hbA.block b (hO b hb)⟩)
 go_enter Try.func4, Try.ntmps4
 go_wp2_with (go_at_call 14; refine hV.mono ?_; rintro x w4 ⟨⟨r4, rfl, hr4, hr5, hr6⟩, hb4⟩)
 go_ret
 refine ⟨?_, below_in hbA hb4⟩
 by_cases h : 0 ≤ r4
 · exact .inr ⟨by simp [h], hr6 h⟩
 · exact .inl (by simp [h])
theorem small12 {j : J} (h : szJ 15 j = true) : szJ 12 j = true := sz_less 12 15 j (by decide) h
end Go.Proofs.Ytcaknajjkfiaoaa
namespace Go.Proofs.Ytcaknajjkfiaoaa
open Go.RowKit Go.Maps Go.Shelf
theorem ownFrom_keep {β : Type} {S : Nat → Prop} {B : Nat} {w₀ : World} (hB : w₀.heap.size ≤ B) : OwnFrom B (fun (_ : β) W => Keep S w₀ W) :=
 fun _ _ _ _ hs hg hr => ⟨hg.os.trans hs.os, hg.tape.trans hs.tape, hg.output.trans hs.output, Nat.le_trans hs.size hg.size, fun k hk hS => (hg.block k (Nat.lt_of_lt_of_le hk hs.size) (fun e => by have := (hr k e.symm).1; omega)).trans (hs.block k hk hS)⟩
theorem keepsFrom_below {B : Nat} {W W' : World} (h : Below W.heap.size W W') : KeepsFrom B W W' := ⟨h.size, fun k _ _ hk _ => (h.block k (objP_lt hk)).trans hk⟩
theorem any_snoc (f : Chg → Bool) (l : List Chg) (x : Chg) : (l ++ [x]).any f = (l.any f || f x) := by rw [List.any_append]; simp
theorem any_pre {f : Chg → Bool} {a b : List Chg} (h : a <+: b) (ha : a.any f = true) : b.any f = true := by
 obtain ⟨t, rfl⟩ := h
 rw [List.any_append, ha]; rfl
def chgPost (f : Chg → Bool) (R : Nat) (x : Chg) (W : World) : Exit → Act → World → Prop
 | .normal, _, W' => f x = false ∧ Below W.heap.size W W'
 | .ret, _, W' => f x = true ∧ ∃ W4, Below W.heap.size W W4 ∧ W' = W4.setCell ⟨R, 0, none⟩ (.bool false)
 | _, _, _ => False
theorem wp_chg {n : Nat} (h1 : 2 ≤ n) {g : Operand} {sp sb : Tmp} {assign body : Code} {Q : Exit → Act → World → Prop} {a : Act} {w : World} {B1 B2 R : Nat} (f : Chg → Bool)
    (hg : a.eval g = .func (.func 36) #[] #[.pointer (some ⟨B1, 0, none⟩), .pointer (some ⟨B2, 0, none⟩)])
    {O : Nat → Prop} {xa xb : Nms} {p q : Option Addr} {c d : Nat} (ha : RdN O w p c xa) (hb : RdN O w q d xb) (hO : ∀ k, O k → k < w.heap.size) (hza : SzN xa) (hzb : SzN xb)
    (hc1 : w.cell? ⟨B1, 0, none⟩ = some (.slice p xa.length c)) (hc2 : w.cell? ⟨B2, 0, none⟩ = some (.slice q xb.length d)) (hB1 : B1 < w.heap.size) (hB2 : B2 < w.heap.size)
    (hR : w.heap[R]? = some (.cells #[.bool false] 4 (0, 0)))
    (hassign : ∀ (l : Nat) (x : Chg) (W : World) (K : Act → World → Prop), K { tmps := (a.tmps.setIfInBounds sp (valC x)).setIfInBounds sb (.pointer (some ⟨W.heap.size, 0, none⟩)), defers := [] } (W.alloc (.cells (cellsC x).toArray 63)) →
     assign.wpIn (Fence.wide.inRound l) (n - 1 - 1) Try.prog (Exit.then K (fun _ _ _ => False)) { tmps := a.tmps.setIfInBounds sp (valC x), defers := [] } W)
    (hbody : ∀ (l : Nat) (x : Chg) (W : World) (Bx : Nat), Below w.heap.size w W → W.heap[Bx]? = some (.cells (cellsC x).toArray 63 (0, 0)) → w.heap.size ≤ Bx →
     body.wpIn (Fence.wide.inRound l) (n - 1 - 1) Try.prog (chgPost f R x W) { tmps := (a.tmps.setIfInBounds sp (valC x)).setIfInBounds sb (.pointer (some ⟨Bx, 0, none⟩)), defers := [] } W)
    (hdone : ∀ (D : Nat) (W : World), w.heap.size ≤ D → quiet f xa xb = true → Below w.heap.size w W → W.heap[D]? = some (.deferred (some [])) → Q .normal { a with defers := { target := .collected D, args := #[] } :: a.defers } W)
    (hstop : ∀ (D : Nat) (W : World), w.heap.size ≤ D → quiet f xa xb = false → Keep (OneP R) w W → W.cell? ⟨R, 0, none⟩ = some (.bool false) → W.heap[D]? = some (.deferred (some [])) → Q .ret { a with defers := { target := .collected D, args := #[] } :: a.defers } W) :
    (Code.rangeFunc g #[sp] assign body).wp Try.prog Q a w := by
 refine (wpIn_wide (n := n)).1 ?_
 refine wpIn_rangeFunc_ownH rfl (by omega) (gf := 36) (lb := #[.pointer (some ⟨B1, 0, none⟩), .pointer (some ⟨B2, 0, none⟩)]) hg trivial (enters_of Try.func36 (by kernel_rfl) rfl)
  (changes_seq (n - 1) B1 B2 (by omega) ha hb hO hza hzb hc1 hc2 hB1 hB2) Lay.trans (fun W l o o' _ h hc hw => Lay.putObj W l o o' h hc hw) (Below.refl _ _) (fun _ => rfl)
  (fun pre W => (pre.any f = false) ∧ Below w.heap.size w W)
  (fun cd pre W => (cd = .ret ∧ pre.any f = true ∧ W.cell? ⟨R, 0, none⟩ = some (.bool false)) ∧ Keep (OneP R) w W)
  (OwnFrom.and (ownFrom_pure _ (fun pre : List Chg => pre.any f = false)) (ownFrom_below (Nat.le_refl _) (Nat.le_refl _)))
  (fun cd => OwnFrom.and (Own.from (fun s A B row hs hg hr => ⟨hs.1, hs.2.1, cell_kept hs.2.2 hg hr⟩) _) (ownFrom_keep (Nat.le_refl _)))
  ⟨rfl, Below.refl _ _⟩
  (fun x a' W => ∃ Bx, w.heap.size ≤ Bx ∧ W.heap[Bx]? = some (.cells (cellsC x).toArray 63 (0, 0)) ∧ a' = { tmps := (a.tmps.setIfInBounds sp (valC x)).setIfInBounds sb (.pointer (some ⟨Bx, 0, none⟩)), defers := [] })
  ?hAx ?assign ?body ?done ?stop
 case hAx =>
  rintro x a' s A B row ⟨Bx, hB, hh, e⟩ hg hr
  refine ⟨Bx, hB, ?_, e⟩
  exact (hg.block Bx (objP_lt hh) (fun er => by
   obtain ⟨_, o, ho, hc⟩ := hr Bx er.symm
   rw [hh] at ho
   cases ho
   cases hc)).trans hh
 case assign =>
  rintro l pre x W K ⟨hp, hB⟩ hK
  have hal : Below W.heap.size W (W.alloc (.cells (cellsC x).toArray 63)) := (Below.refl _ _).alloc (Nat.le_refl _) _
  have hfold : (Array.foldl (fun (t : Array Value) (y : Tmp × Value) => match y with | (p, v) => t.setIfInBounds p v) a.tmps (#[sp].zip #[valC x])) = a.tmps.setIfInBounds sp (valC x) := by simp
  rw [hfold]
  exact hassign l x W K (hK _ _ (keepsFrom_below hal) (Lay.of_below hal) ⟨hp, belowP hB hal⟩ ⟨W.heap.size, hB.size, newP _, rfl⟩)
 case body =>
  rintro l pre x a' W _ _ ⟨hp, hB⟩ ⟨Bx, hBx, hh, rfl⟩ _
  refine wpIn_mono (hbody l x W Bx hB hh hBx) ?_
  intro e a2 W2 h
  cases e with
  | normal =>
   obtain ⟨hf, hb2⟩ := h
   exact ⟨keepsFrom_below hb2, Lay.of_below hb2, by rw [any_snoc, hp, hf]; rfl, belowP hB hb2⟩
  | ret =>
   obtain ⟨hf, W4, hb4, rfl⟩ := h
   refine ⟨(keepsFrom_below hb4).trans ((KeepsOthers.setCell _ _ _).from _), ⟨rfl, by rw [any_snoc, hf, Bool.or_true], ?_⟩, ?_⟩
   · have hR4 := ((belowP hB hb4).block R (objP_lt hR)).trans hR
     exact World.cell?_setCell_same' _ _ _ (by rw [cellP hR4 0 _ rfl]; rfl)
   · exact Keep.setCell (S := OneP R) (p := ⟨R, 0, none⟩) (Keep.of_below (belowP hB hb4)) (fun _ => (rfl : R = R)) _
  | exit id => exact h.elim
  | goto t => exact h.elim
  | panic ch => exact h.elim
  | outgrown => exact h.elim
 case done =>
  rintro D ys W hD rfl ⟨hp, hB⟩ hK
  exact hdone D W hD (by unfold quiet; rw [hp]; rfl) hB hK
 case stop =>
  rintro D cd pre W hD hpre ⟨⟨rfl, hp, hcl⟩, hk⟩ hK
  refine wpIn_wide.2 ?_
  exact wp_ret (hstop D W hD (by unfold quiet; rw [any_pre hpre hp]; rfl) hk hcl hK)
section
attribute [local go_sem] Oper.semAt_some
theorem szN_nums (l : Lv) : SzN (nums l) := by
 refine ⟨by simp [nums], fun p hp => ?_⟩
 simp only [nums, List.mem_cons, List.not_mem_nil, or_false] at hp
 rcases hp with rfl | rfl | rfl | rfl | rfl | rfl | rfl <;> simp [ByteArray.size]
theorem allocP2 {w : World} (o1 o2 : Obj) : ((w.alloc o1).alloc o2).heap[w.heap.size]? = some o1 ∧ ((w.alloc o1).alloc o2).heap[w.heap.size + 1]? = some o2 := by
 refine ⟨(Below.heap_alloc _ _ _ (by simp)).trans (newP _), ?_⟩
 have := newP (w := w.alloc o1) o2
 rw [World.size_alloc] at this
 exact this
theorem wp_narrow {P : Program} {c : Code} {K : Act → World → Prop} {Q : Exit → Act → World → Prop} {a : Act} {w : World} (h : c.wp P (Exit.then K (fun _ _ _ => False)) a w) : c.wp P (Exit.then K Q) a w :=
 wp_mono h fun e _ _ h => by cases e <;> first | exact h | exact h.elim
theorem leaves_marks {fn : Func} {tmps : Array Value} {rt : Tmp} {R : Nat} {v : Bool} {w : World} (hf : fn.results = #[.cell rt 4]) (ht : tmps.getD rt undef = .pointer (some ⟨R, 0, none⟩)) :
    ∀ (Ds : List Nat) (W : World), Ds.Nodup → (∀ D ∈ Ds, W.heap[D]? = some (.deferred (some []))) → (∀ D ∈ Ds, w.heap.size ≤ D) → W.cell? ⟨R, 0, none⟩ = some (.bool v) → Below w.heap.size w W →
     LeavesInM Fence.wide 4 Try.prog fn tmps (fun e w' => e = .returned (.bool v) ∧ Below w.heap.size w w') (Ds.map fun D => { target := .collected D, args := #[] }) .returning W
 | [], W, _, _, _, hc, hB => by
  refine ⟨.bool v, resultsP_cell hf tmps Try.prog W ht ?_, rfl, hB⟩
  simp [loadVar, go_sem, hc]
 | D :: r, W, hn, hK, hD, hc, hB => by
  have hKD := hK D (by simp)
  rw [List.nodup_cons] at hn
  refine ⟨by simp, .inl ⟨D, W.putObj D (.deferred none), rfl, run_takeDeferred hKD, ?_⟩⟩
  refine leaves_marks hf ht r _ hn.2 (fun D' h' => (World.putObj_heap_other (fun e => hn.1 (by first | (rw [e]; exact h') | (rw [← e]; exact h')))).trans (hK D' (by simp [h']))) (fun D' h' => hD D' (by simp [h'])) ?_ ?_
  · exact cell_kept hc (grownBy_putObj' _ D (.deferred none)) (fun r e => by cases e; exact ⟨_, hKD, rfl⟩)
  · exact hB.trans (belowK_b (w := w) (Nat.le_refl _) W D _ _ (hD D (by simp)) hKD rfl rfl)
theorem may_lv {O : Nat → Prop} {w : World} {a b : Lv} {pa pb : Pl} (ha : IsL O w a pa) (hb : IsL O w b pb) (hO : ∀ k, O k → k < w.heap.size) (hza : SzL a) (hzb : SzL b) (u : ByteArray) :
    Calls Try.prog 16 #[valL a pa, valL b pb, .string u] w fun e w' => e = .returned (.bool (mayL a b u)) ∧ Below w.heap.size w w' := by
 refine callsIn_wide.1 (callsIn_of_wp_marks (n := 4) Try.func16 rfl trivial (wpIn_wide.2 ?_) rfl)
 obtain ⟨W0, hW0⟩ : ∃ W0, W0 = (((w.alloc (.cells (cellsL a pa).toArray 30)).alloc (.cells (cellsL b pb).toArray 30)).alloc (.cells #[.string u] 9)).alloc (.cells #[.bool false] 4) := ⟨_, rfl⟩
 have hb0 : Below w.heap.size w W0 := by rw [hW0]; exact ((((Below.refl _ _).alloc (Nat.le_refl _) _).alloc (by simp) _).alloc (by simp; omega) _).alloc (by simp; omega) _
 have hs0 : W0.heap.size = w.heap.size + 4 := by rw [hW0]; simp
 have k23 := allocP2 (w := (w.alloc (.cells (cellsL a pa).toArray 30)).alloc (.cells (cellsL b pb).toArray 30)) (.cells #[.string u] 9) (.cells #[.bool false] 4)
 have k01 := allocP2 (w := w) (.cells (cellsL a pa).toArray 30) (.cells (cellsL b pb).toArray 30)
 rw [← hW0] at k23
 simp only [World.size_alloc] at k23
 have k0 : W0.heap[w.heap.size]? = some (.cells (cellsL a pa).toArray 30 (0, 0)) := by
  rw [hW0, Below.heap_alloc _ _ _ (by simp only [World.size_alloc]; omega), Below.heap_alloc _ _ _ (by simp only [World.size_alloc]; omega)]; exact k01.1
 have k1 : W0.heap[w.heap.size + 1]? = some (.cells (cellsL b pb).toArray 30 (0, 0)) := by
  rw [hW0, Below.heap_alloc _ _ _ (by simp only [World.size_alloc]; omega), Below.heap_alloc _ _ _ (by simp only [World.size_alloc]; omega)]; exact k01.2
 obtain ⟨k2, k3⟩ := k23
 have hU := user_lv (ha.below hO hb0) (fun k hk => Nat.lt_of_lt_of_le (hO k hk) hb0.size) hza u
 have HMay : Hid (mayL a b u = (quiet (Chg.above (usr a u)) (nums a) (nums b) && (quiet (Chg.above (usr a u)) a.byType b.byType && quiet (Chg.bad u (usr a u)) a.byUser b.byUser))) := rfl
 generalize mayL a b u = MAY at HMay ⊢
 generalize usr a u = s at hU HMay
 have HN1 : Hid (∀ X : World, Calls Try.prog 26 #[valL a pa] X fun e w' => (∃ b, e = .returned (.slice (some ⟨b, 0, none⟩) 7 7) ∧ X.heap.size ≤ b ∧ b < w'.heap.size ∧ RdN (fun k => k = b) w' (some ⟨b, 0, none⟩) 7 (nums a)) ∧ Below X.heap.size X w') := fun X => numbers_lv
 have HN2 : Hid (∀ X : World, Calls Try.prog 26 #[valL b pb] X fun e w' => (∃ b', e = .returned (.slice (some ⟨b', 0, none⟩) 7 7) ∧ X.heap.size ≤ b' ∧ b' < w'.heap.size ∧ RdN (fun k => k = b') w' (some ⟨b', 0, none⟩) 7 (nums b)) ∧ Below X.heap.size X w') := fun X => numbers_lv
 have HSN : Hid (SzN (nums a) ∧ SzN (nums b) ∧ (nums a).length = 7 ∧ (nums b).length = 7) := ⟨szN_nums a, szN_nums b, rfl, rfl⟩
 have HIS : Hid (IsL O w a pa ∧ IsL O w b pb ∧ SzL a ∧ SzL b) := ⟨ha, hb, hza, hzb⟩
 have HK : Hid (W0.heap[w.heap.size]? = some (.cells (cellsL a pa).toArray 30 (0, 0)) ∧ W0.heap[w.heap.size + 1]? = some (.cells (cellsL b pb).toArray 30 (0, 0)) ∧ W0.heap[w.heap.size + 2]? = some (.cells #[.string u] 9 (0, 0)) ∧ W0.heap[w.heap.size + 3]? = some (.cells #[.bool false] 4 (0, 0))) := ⟨k0, k1, k2, k3⟩
 generalize nums a = NA at HMay HN1 HSN
 generalize nums b = NB at HMay HN2 HSN
 obtain ⟨ban, kick, invite, redact, state, events, users, us, ty⟩ := a
 obtain ⟨pu, cu, pt, ct⟩ := pa
 obtain ⟨ban', kick', invite', redact', state', events', users', us', ty'⟩ := b
 obtain ⟨pu', cu', pt', ct'⟩ := pb
 clear ha hb hza hzb k0 k1 k2 k3 k01
 simp only [valL, cellsL] at hW0 hU HK HN1 HN2 ⊢
 simp only [Try.ntmps16, List.size_toArray, List.length_cons, List.length_nil, Nat.reduceAdd, Nat.reduceSub, Array.replicate_succ, Array.replicate_zero, List.push_toArray, List.append_toArray, List.nil_append, List.cons_append]
 go_upto_region 1 with fail
 rw [← hW0]
 obtain ⟨q0, q1, q2, q3⟩ := HK.out
 have c0 := cellP q0 0 _ rfl; have c1 := cellP q0 1 _ rfl; have c2 := cellP q0 2 _ rfl; have c3 := cellP q0 3 _ rfl; have c4 := cellP q0 4 _ rfl; have c5 := cellP q0 5 _ rfl; have c6 := cellP q0 6 _ rfl; have c7 := cellP q0 7 _ rfl; have c8 := cellP q0 8 _ rfl
 have d0 := cellP q2 0 _ rfl
 clear q0 q1 q2 q3 hW0
 go_upto_region 2 with (go_at_call 12; refine hU.mono ?_; rintro e w1 ⟨rfl, hb1⟩)
 clear c0 c1 c2 c3 c4 c5 c6 c7 c8 d0 hU
 obtain ⟨W2, hW2⟩ : ∃ W2, W2 = w1.alloc (.cells #[.int .i64 s] 2) := ⟨_, rfl⟩
 rw [← hW2]
 have hb2 : Below W0.heap.size W0 W2 := by rw [hW2]; exact belowP hb1 ((Below.refl _ _).alloc (Nat.le_refl _) _)
 have k7 : W2.heap[w1.heap.size]? = some (.cells #[.int .i64 s] 2 (0, 0)) := by rw [hW2]; exact newP _
 have hs2 := hb2.size
 have hs1 := hb1.size
 have hs7 := objP_lt k7
 have HC0 : Hid (∀ X, Below W2.heap.size W2 X → X.heap[w.heap.size]? = some (.cells #[.int .i64 ban, .int .i64 kick, .int .i64 invite, .int .i64 redact, .int .i64 state, .int .i64 events, .int .i64 users, .slice pu us.length cu, .slice pt ty.length ct] 30 (0, 0))) := fun X hX => ((hX.block _ (by omega)).trans (hb2.block _ (by omega))).trans HK.out.1
 have HC1 : Hid (∀ X, Below W2.heap.size W2 X → X.heap[w.heap.size + 1]? = some (.cells #[.int .i64 ban', .int .i64 kick', .int .i64 invite', .int .i64 redact', .int .i64 state', .int .i64 events', .int .i64 users', .slice pu' us'.length cu', .slice pt' ty'.length ct'] 30 (0, 0))) := fun X hX => ((hX.block _ (by omega)).trans (hb2.block _ (by omega))).trans HK.out.2.1
 have HC2 : Hid (∀ X, Below W2.heap.size W2 X → X.heap[w.heap.size + 1 + 1]? = some (.cells #[.string u] 9 (0, 0))) := fun X hX => ((hX.block _ (by omega)).trans (hb2.block _ (by omega))).trans HK.out.2.2.1
 have HC3 : Hid (∀ X, Below W2.heap.size W2 X → X.heap[w.heap.size + 1 + 1 + 1]? = some (.cells #[.bool false] 4 (0, 0))) := fun X hX => ((hX.block _ (by omega)).trans (hb2.block _ (by omega))).trans HK.out.2.2.2
 have HC7 : Hid (∀ X, Below W2.heap.size W2 X → X.heap[w1.heap.size]? = some (.cells #[.int .i64 s] 2 (0, 0))) := fun X hX => (hX.block _ hs7).trans k7
 have HBW : Hid (Below w.heap.size w W2) := belowP hb0 hb2
 clear hW2 k7 HK
 refine wp_narrow ?_
 refine wp_region_in (by kernel_rfl) (fun w' => Below W2.heap.size W2 w') ?_
 change wpIn _ _ _ _ _ _ _ _ (World.drew _)
 have hD : Below W2.heap.size W2 W2.drew := (Below.refl _ _).drew
 refine wpIn_tp (i := 0) (d := some 14) rfl (by (intro wq hq; have zz := HC0.out wq hq; have z0 := cellP zz 0 _ rfl; have z1 := cellP zz 1 _ rfl; have z2 := cellP zz 2 _ rfl; have z3 := cellP zz 3 _ rfl; have z4 := cellP zz 4 _ rfl; have z5 := cellP zz 5 _ rfl; have z6 := cellP zz 6 _ rfl; have z7 := cellP zz 7 _ rfl; have z8 := cellP zz 8 _ rfl; go_simp; first | done | with_reducible rfl)) ?_
 refine wpIn_tp (i := 2) (d := some 16) rfl (by (intro wq hq; have zz := HC1.out wq hq; have z0 := cellP zz 0 _ rfl; have z1 := cellP zz 1 _ rfl; have z2 := cellP zz 2 _ rfl; have z3 := cellP zz 3 _ rfl; have z4 := cellP zz 4 _ rfl; have z5 := cellP zz 5 _ rfl; have z6 := cellP zz 6 _ rfl; have z7 := cellP zz 7 _ rfl; have z8 := cellP zz 8 _ rfl; go_simp; first | done | with_reducible rfl)) ?_
 refine wpIn_do (i := 1) hD (by kernel_rfl) rfl (by rfl) ?_
 intro K hK
 go_simp
 go_wp2_with (go_at_call 26; refine (HN1.out _).mono ?_; rintro e w3 ⟨⟨b3, rfl, hg3, hl3, hr3⟩, hb3⟩)
 have hD3 : Below W2.heap.size W2 w3 := belowP hD hb3
 refine wpIn_do (i := 3) hD3 (by kernel_rfl) rfl (by rfl) ?_
 intro K hK
 go_simp
 go_wp2_with (go_at_call 26; refine (HN2.out _).mono ?_; rintro e w4 ⟨⟨b4, rfl, hg4, hl4, hr4⟩, hb4⟩)
 have hD4 : Below W2.heap.size W2 w4 := belowP hD3 hb4
 refine wpIn_do (i := 4) hD4 (by kernel_rfl) rfl (by rfl) ?_
 intro K hK
 go_simp
 go_wp2_with (go_at_call 25; refine (changes_fn _ _ _ _ _ _).mono ?_; rintro e w5 ⟨rfl, hw5⟩; have HW5 := (show Hid _ from hw5); clear hw5)
 have hw5 := HW5.out
 have hb5 : Below w4.heap.size w4 w5 := by rw [hw5]; exact ((Below.refl _ _).alloc (Nat.le_refl _) _).alloc (by simp) _
 have hD5 : Below W2.heap.size W2 w5 := belowP hD4 hb5
 refine wpIn_done hD5 (by kernel_rfl) ?_ _
 have k45 := allocP2 (w := w4) (.cells #[.slice (some ⟨b3, 0, none⟩) 7 7] 28) (.cells #[.slice (some ⟨b4, 0, none⟩) 7 7] 28)
 rw [← hw5] at k45
 have hs5 : w5.heap.size = w4.heap.size + 2 := by rw [hw5]; simp
 have HR1 : Hid (RdN (fun k => k < w5.heap.size) w5 (some ⟨b3, 0, none⟩) 7 NA) := hr3.carry fun k hk => ⟨by have := hb4.size; omega, (hb5.block k (by have := hb4.size; omega)).trans (hb4.block k (by omega))⟩
 have HR2 : Hid (RdN (fun k => k < w5.heap.size) w5 (some ⟨b4, 0, none⟩) 7 NB) := hr4.carry fun k hk => ⟨by omega, hb5.block k (by omega)⟩
 clear hr3 hr4 hb3 hb4 hb5 hw5
 have hc1 : w5.cell? ⟨w4.heap.size, 0, none⟩ = some (.slice (some ⟨b3, 0, none⟩) NA.length 7) := by rw [HSN.out.2.2.1]; exact cellP k45.1 0 _ rfl
 have hc2 : w5.cell? ⟨w4.heap.size + 1, 0, none⟩ = some (.slice (some ⟨b4, 0, none⟩) NB.length 7) := by rw [HSN.out.2.2.2]; exact cellP k45.2 0 _ rfl
 have HRB : Hid (w5.heap[w.heap.size + 1 + 1 + 1]? = some (.cells #[.bool false] 4 (0, 0))) := HC3.out w5 hD5
 have hB5 : Below w.heap.size w w5 := belowP HBW.out hD5
 clear k45
 go_wp2
 refine wp_chg (n := 4) (sb := 8) (by omega) (Chg.above s) rfl HR1.out HR2.out (fun _ h => h) HSN.out.1 HSN.out.2.1 hc1 hc2 (by omega) (by omega) HRB.out ?assign ?body ?done ?stop
 case assign =>
  intro l x W K hK
  obtain ⟨xn, xo, xx⟩ := x
  simp only [valC, cellsC] at hK ⊢
  gi_wp2
  exact hK
 case body =>
  intro l x W Bx hB hh hBx
  have hW : Below W2.heap.size W2 W := belowP hD5 hB
  have hab := above_lv (w := W) x s
  have HRW : Hid (∀ X, Below W.heap.size W X → X.heap[w.heap.size + 1 + 1 + 1]? = some (.cells #[.bool false] 4 (0, 0))) := fun X hX => HC3.out X (belowP hW hX)
  have y7 := cellP (HC7.out W hW) 0 _ rfl
  cases hv : Chg.above s x with
  | false =>
   have HV : Hid (Chg.above s x = false) := hv
   rw [hv] at hab
   obtain ⟨xn, xo, xx⟩ := x
   simp only [valC, cellsC] at hh hab HV ⊢
   have x0 := cellP hh 0 _ rfl; have x1 := cellP hh 1 _ rfl; have x2 := cellP hh 2 _ rfl; have x3 := cellP hh 3 _ rfl; have x4 := cellP hh 4 _ rfl
   clear hh hv
   gi_wp2_with (refine ⟨trivial, ?_⟩; gi_at_call 27; refine (CallsIn.inRound l (callsIn_wide.2 hab)).mono ?_; rintro e w6 ⟨rfl, hb6⟩)
   exact ⟨HV.out, hb6⟩
  | true =>
   have HV : Hid (Chg.above s x = true) := hv
   rw [hv] at hab
   obtain ⟨xn, xo, xx⟩ := x
   simp only [valC, cellsC] at hh hab HV ⊢
   have x0 := cellP hh 0 _ rfl; have x1 := cellP hh 1 _ rfl; have x2 := cellP hh 2 _ rfl; have x3 := cellP hh 3 _ rfl; have x4 := cellP hh 4 _ rfl
   clear hh hv
   gi_wp2_with (refine ⟨trivial, ?_⟩; gi_at_call 27; refine (CallsIn.inRound l (callsIn_wide.2 hab)).mono ?_; rintro e w6 ⟨rfl, hb6⟩; have r6 := HRW.out w6 hb6; have r0 := cellP r6 0 _ rfl; have rz := fzP r6 0)
   exact ⟨HV.out, w6, hb6, rfl⟩
 case stop =>
  intro D W hD hq hk hc hK
  go_wp2
  have HM : Hid (MAY = false) := by show _ = _; rw [HMay.out, hq]; rfl
  rw [HM.out]
  refine leaves_marks rfl rfl [D] W (by simp) (fun x hx => ?_) (fun x hx => ?_) hc (hB5.trans (hk.below hB5.size fun k hk' e => by unfold OneP at e; omega))
  · simp at hx; subst hx; exact hK
  · simp at hx; subst hx; have := hB5.size; omega
 case done =>
  intro D1 W hD1 hq1 hB1 hK1
  have hW : Below W2.heap.size W2 W := belowP hD5 hB1
  have HQ1 : Hid (quiet (Chg.above s) NA NB = true) := hq1
  have hBW1 : Below w.heap.size w W := belowP hB5 hB1
  obtain ⟨t8, t8'⟩ : W.cell? ⟨w.heap.size, 8, none⟩ = some (.slice pt ty.length ct) ∧ W.cell? ⟨w.heap.size + 1, 8, none⟩ = some (.slice pt' ty'.length ct') := ⟨cellP (HC0.out W hW) 8 _ rfl, cellP (HC1.out W hW) 8 _ rfl⟩
  have hsW := hB1.size
  have hsD := objP_lt hK1
  clear hc1 hc2 HR1 HR2 HRB hq1
  go_wp2_with (go_at_call 25; refine (changes_fn _ _ _ _ _ _).mono ?_; rintro e w8 ⟨rfl, hw8⟩; have HW8 := (show Hid _ from hw8); clear hw8)
  have k89 := allocP2 (w := W) (.cells #[.slice pt ty.length ct] 28) (.cells #[.slice pt' ty'.length ct'] 28)
  have hb8 : Below W.heap.size W w8 := by rw [HW8.out]; exact ((Below.refl _ _).alloc (Nat.le_refl _) _).alloc (by simp) _
  have hs8 : w8.heap.size = W.heap.size + 2 := by rw [HW8.out]; simp
  rw [← HW8.out] at k89
  have hD8 : Below W2.heap.size W2 w8 := belowP hW hb8
  have hB8 : Below w.heap.size w w8 := belowP hBW1 hb8
  have hK18 : w8.heap[D1]? = some (.deferred (some [])) := (hb8.block D1 hsD).trans hK1
  have hc1 := cellP k89.1 0 _ rfl
  have hc2 := cellP k89.2 0 _ rfl
  have HK18 : Hid (w8.heap[D1]? = some (.deferred (some []))) := hK18
  clear t8 t8' k89 hK1 hK18
  refine wp_chg (n := 4) (sb := 9) (by omega) (Chg.above s) rfl (HIS.out.1.ty.below hO hB8) (HIS.out.2.1.ty.below hO hB8) (fun k hk => Nat.lt_of_lt_of_le (hO k hk) hB8.size) HIS.out.2.2.1.ty HIS.out.2.2.2.ty hc1 hc2 (by omega) (by omega) (HC3.out w8 hD8) ?assign ?body ?done ?stop
  case assign =>
   intro l x W K hK
   obtain ⟨xn, xo, xx⟩ := x
   simp only [valC, cellsC] at hK ⊢
   gi_wp2
   exact hK
  case body =>
   intro l x W Bx hB hh hBx
   have hW : Below W2.heap.size W2 W := belowP hD8 hB
   have hab := above_lv (w := W) x s
   have HRW : Hid (∀ X, Below W.heap.size W X → X.heap[w.heap.size + 1 + 1 + 1]? = some (.cells #[.bool false] 4 (0, 0))) := fun X hX => HC3.out X (belowP hW hX)
   have y7 := cellP (HC7.out W hW) 0 _ rfl
   cases hv : Chg.above s x with
   | false =>
    have HV : Hid (Chg.above s x = false) := hv
    rw [hv] at hab
    obtain ⟨xn, xo, xx⟩ := x
    simp only [valC, cellsC] at hh hab HV ⊢
    have x0 := cellP hh 0 _ rfl; have x1 := cellP hh 1 _ rfl; have x2 := cellP hh 2 _ rfl; have x3 := cellP hh 3 _ rfl; have x4 := cellP hh 4 _ rfl
    clear hh hv
    gi_wp2_with (refine ⟨trivial, ?_⟩; gi_at_call 27; refine (CallsIn.inRound l (callsIn_wide.2 hab)).mono ?_; rintro e w6 ⟨rfl, hb6⟩)
    exact ⟨HV.out, hb6⟩
   | true =>
    have HV : Hid (Chg.above s x = true) := hv
    rw [hv] at hab
    obtain ⟨xn, xo, xx⟩ := x
    simp only [valC, cellsC] at hh hab HV ⊢
    have x0 := cellP hh 0 _ rfl; have x1 := cellP hh 1 _ rfl; have x2 := cellP hh 2 _ rfl; have x3 := cellP hh 3 _ rfl; have x4 := cellP hh 4 _ rfl
    clear hh hv
    gi_wp2_with (refine ⟨trivial, ?_⟩; gi_at_call 27; refine (CallsIn.inRound l (callsIn_wide.2 hab)).mono ?_; rintro e w6 ⟨rfl, hb6⟩; have r6 := HRW.out w6 hb6; have r0 := cellP r6 0 _ rfl; have rz := fzP r6 0)
    exact ⟨HV.out, w6, hb6, rfl⟩
  case stop =>
   intro D W hD hq hk hc hK
   go_wp2
   have HM : Hid (MAY = false) := by show _ = _; rw [HMay.out, HQ1.out, hq]; rfl
   rw [HM.out]
   refine leaves_marks rfl rfl [D, D1] W (by simp; omega) (fun x hx => ?_) (fun x hx => ?_) hc (hB8.trans (hk.below hB8.size fun k hk' e => by unfold OneP at e; omega))
   · simp at hx
     rcases hx with rfl | rfl
     · exact hK
     · exact (hk.block _ (by omega) (by have := hD5.size; unfold OneP; omega)).trans HK18.out
   · simp at hx
     have := hB5.size
     rcases hx with rfl | rfl <;> omega
  case done =>
   intro D2 W' hD2 hq2 hB2 hK2
   have hW' : Below W2.heap.size W2 W' := belowP hD8 hB2
   have HQ2 : Hid (quiet (Chg.above s) ty ty' = true) := hq2
   have hBW2 : Below w.heap.size w W' := belowP hB8 hB2
   obtain ⟨t7, t7'⟩ : W'.cell? ⟨w.heap.size, 7, none⟩ = some (.slice pu us.length cu) ∧ W'.cell? ⟨w.heap.size + 1, 7, none⟩ = some (.slice pu' us'.length cu') := ⟨cellP (HC0.out W' hW') 7 _ rfl, cellP (HC1.out W' hW') 7 _ rfl⟩
   have hsW2 := hB2.size
   have hsD2 := objP_lt hK2
   clear hc1 hc2 hq2
   go_wp2_with (go_at_call 25; refine (changes_fn _ _ _ _ _ _).mono ?_; rintro e w9 ⟨rfl, hw9⟩; have HW9 := (show Hid _ from hw9); clear hw9)
   have k89 := allocP2 (w := W') (.cells #[.slice pu us.length cu] 28) (.cells #[.slice pu' us'.length cu'] 28)
   have hb9 : Below W'.heap.size W' w9 := by rw [HW9.out]; exact ((Below.refl _ _).alloc (Nat.le_refl _) _).alloc (by simp) _
   have hs9 : w9.heap.size = W'.heap.size + 2 := by rw [HW9.out]; simp
   rw [← HW9.out] at k89
   have hD9 : Below W2.heap.size W2 w9 := belowP hW' hb9
   have hB9 : Below w.heap.size w w9 := belowP hBW2 hb9
   have HK19 : Hid (w9.heap[D1]? = some (.deferred (some [])) ∧ w9.heap[D2]? = some (.deferred (some []))) := ⟨(hb9.block D1 (by omega)).trans ((hB2.block D1 (by omega)).trans HK18.out), (hb9.block D2 hsD2).trans hK2⟩
   have hc1 := cellP k89.1 0 _ rfl
   have hc2 := cellP k89.2 0 _ rfl
   clear t7 t7' k89 hK2
   refine wp_chg (n := 4) (sb := 10) (by omega) (Chg.bad u s) rfl (HIS.out.1.us.below hO hB9) (HIS.out.2.1.us.below hO hB9) (fun k hk => Nat.lt_of_lt_of_le (hO k hk) hB9.size) HIS.out.2.2.1.us HIS.out.2.2.2.us hc1 hc2 (by omega) (by omega) (HC3.out w9 hD9) ?assign ?body ?done ?stop
   case assign =>
    intro l x W K hK
    obtain ⟨xn, xo, xx⟩ := x
    simp only [valC, cellsC] at hK ⊢
    gi_wp2
    exact hK
   case body =>
    intro l x W Bx hB hh hBx
    have hW : Below W2.heap.size W2 W := belowP hD9 hB
    have hab := above_lv (w := W) x s
    have HRW : Hid (∀ X, Below W.heap.size W X → X.heap[w.heap.size + 1 + 1 + 1]? = some (.cells #[.bool false] 4 (0, 0)) ∧ X.heap[w1.heap.size]? = some (.cells #[.int .i64 s] 2 (0, 0)) ∧ X.heap[w.heap.size + 1 + 1]? = some (.cells #[.string u] 9 (0, 0)) ∧ X.heap[Bx]? = some (.cells (cellsC x).toArray 63 (0, 0))) := fun X hX => ⟨HC3.out X (belowP hW hX), HC7.out X (belowP hW hX), HC2.out X (belowP hW hX), (hX.block Bx (objP_lt hh)).trans hh⟩
    have y7 := cellP (HC7.out W hW) 0 _ rfl
    have HBad : Hid (Chg.bad u s x = (Chg.above s x || (!(x.name.toList == u.toList) && least s x.old))) := rfl
    cases hv : Chg.above s x with
    | true =>
     have HV : Hid (Chg.bad u s x = true) := by show _ = _; rw [HBad.out, hv]; rfl
     rw [hv] at hab
     clear hv HBad
     obtain ⟨xn, xo, xx⟩ := x
     simp only [valC, cellsC] at hh hab HRW ⊢
     have x0 := cellP hh 0 _ rfl; have x1 := cellP hh 1 _ rfl; have x2 := cellP hh 2 _ rfl; have x3 := cellP hh 3 _ rfl; have x4 := cellP hh 4 _ rfl
     clear hh
     gi_wp2_with (refine ⟨trivial, ?_⟩; gi_at_call 27; refine (CallsIn.inRound l (callsIn_wide.2 hab)).mono ?_; rintro e w6 ⟨rfl, hb6⟩; obtain ⟨r6, s6, u6, x6⟩ := HRW.out w6 hb6; have r0 := cellP r6 0 _ rfl; have rz := fzP r6 0; have s0 := cellP s6 0 _ rfl; have u0 := cellP u6 0 _ rfl; have f0 := cellP x6 0 _ rfl; have f1 := cellP x6 1 _ rfl; have f2 := cellP x6 2 _ rfl)
     exact ⟨HV.out, w6, hb6, rfl⟩
    | false =>
     rw [hv] at hab HBad
     clear hv
     obtain ⟨xn, xo, xx⟩ := x
     cases hn : (xn.toList == u.toList) with
     | true =>
      have HV : Hid (Chg.bad u s ⟨xn, xo, xx⟩ = false) := by show _ = _; rw [HBad.out]; simp [hn]
      clear HBad
      simp only [valC, cellsC] at hh hab HRW ⊢
      have x0 := cellP hh 0 _ rfl; have x1 := cellP hh 1 _ rfl; have x2 := cellP hh 2 _ rfl; have x3 := cellP hh 3 _ rfl; have x4 := cellP hh 4 _ rfl
      clear hh
      gi_wp2_with (refine ⟨trivial, ?_⟩; gi_at_call 27; refine (CallsIn.inRound l (callsIn_wide.2 hab)).mono ?_; rintro e w6 ⟨rfl, hb6⟩; obtain ⟨r6, s6, u6, x6⟩ := HRW.out w6 hb6; have r0 := cellP r6 0 _ rfl; have rz := fzP r6 0; have s0 := cellP s6 0 _ rfl; have u0 := cellP u6 0 _ rfl; have f0 := cellP x6 0 _ rfl; have f1 := cellP x6 1 _ rfl; have f2 := cellP x6 2 _ rfl)
      exact ⟨HV.out, hb6⟩
     | false =>
      cases xo with
      | none =>
       have HV : Hid (Chg.bad u s ⟨xn, none, xx⟩ = false) := by show _ = _; rw [HBad.out]; simp [least]
       clear HBad
       simp only [valC, cellsC] at hh hab HRW ⊢
       have x0 := cellP hh 0 _ rfl; have x1 := cellP hh 1 _ rfl; have x2 := cellP hh 2 _ rfl; have x3 := cellP hh 3 _ rfl; have x4 := cellP hh 4 _ rfl
       clear hh
       gi_wp2_with (refine ⟨trivial, ?_⟩; gi_at_call 27; refine (CallsIn.inRound l (callsIn_wide.2 hab)).mono ?_; rintro e w6 ⟨rfl, hb6⟩; obtain ⟨r6, s6, u6, x6⟩ := HRW.out w6 hb6; have r0 := cellP r6 0 _ rfl; have rz := fzP r6 0; have s0 := cellP s6 0 _ rfl; have u0 := cellP u6 0 _ rfl; have f0 := cellP x6 0 _ rfl; have f1 := cellP x6 1 _ rfl; have f2 := cellP x6 2 _ rfl)
       exact ⟨HV.out, hb6⟩
      | some y =>
       by_cases hy : s ≤ y
       · have HV : Hid (Chg.bad u s ⟨xn, some y, xx⟩ = true) := by show _ = _; rw [HBad.out]; simp [least, hn, hy]
         clear HBad
         simp only [valC, cellsC] at hh hab HRW ⊢
         have x0 := cellP hh 0 _ rfl; have x1 := cellP hh 1 _ rfl; have x2 := cellP hh 2 _ rfl; have x3 := cellP hh 3 _ rfl; have x4 := cellP hh 4 _ rfl
         clear hh
         gi_wp2_with (refine ⟨trivial, ?_⟩; gi_at_call 27; refine (CallsIn.inRound l (callsIn_wide.2 hab)).mono ?_; rintro e w6 ⟨rfl, hb6⟩; obtain ⟨r6, s6, u6, x6⟩ := HRW.out w6 hb6; have r0 := cellP r6 0 _ rfl; have rz := fzP r6 0; have s0 := cellP s6 0 _ rfl; have u0 := cellP u6 0 _ rfl; have f0 := cellP x6 0 _ rfl; have f1 := cellP x6 1 _ rfl; have f2 := cellP x6 2 _ rfl)
         exact ⟨HV.out, w6, hb6, rfl⟩
       · have HV : Hid (Chg.bad u s ⟨xn, some y, xx⟩ = false) := by show _ = _; rw [HBad.out]; simp [least, hn, hy]
         clear HBad
         simp only [valC, cellsC] at hh hab HRW ⊢
         have x0 := cellP hh 0 _ rfl; have x1 := cellP hh 1 _ rfl; have x2 := cellP hh 2 _ rfl; have x3 := cellP hh 3 _ rfl; have x4 := cellP hh 4 _ rfl
         clear hh
         gi_wp2_with (refine ⟨trivial, ?_⟩; gi_at_call 27; refine (CallsIn.inRound l (callsIn_wide.2 hab)).mono ?_; rintro e w6 ⟨rfl, hb6⟩; obtain ⟨r6, s6, u6, x6⟩ := HRW.out w6 hb6; have r0 := cellP r6 0 _ rfl; have rz := fzP r6 0; have s0 := cellP s6 0 _ rfl; have u0 := cellP u6 0 _ rfl; have f0 := cellP x6 0 _ rfl; have f1 := cellP x6 1 _ rfl; have f2 := cellP x6 2 _ rfl)
         exact ⟨HV.out, hb6⟩
   case stop =>
    intro D W hD hq hk hc hK
    go_wp2
    have HM : Hid (MAY = false) := by show _ = _; rw [HMay.out, HQ1.out, HQ2.out, hq]; rfl
    rw [HM.out]
    refine leaves_marks rfl rfl [D, D2, D1] W (by simp; omega) (fun x hx => ?_) (fun x hx => ?_) hc (hB9.trans (hk.below hB9.size fun k hk' e => by unfold OneP at e; omega))
    · simp at hx
      rcases hx with rfl | rfl | rfl
      · exact hK
      · exact (hk.block _ (by omega) (by have := hD5.size; unfold OneP; omega)).trans HK19.out.2
      · exact (hk.block _ (by omega) (by have := hD5.size; unfold OneP; omega)).trans HK19.out.1
    · simp at hx
      have := hB5.size
      rcases hx with rfl | rfl | rfl <;> omega
   case done =>
    intro D3 W3 hD3' hq3 hB3 hK3
    have hW3 : Below W2.heap.size W2 W3 := belowP hD9 hB3
    have HM : Hid (MAY = true) := by show _ = _; rw [HMay.out, HQ1.out, HQ2.out, hq3]; rfl
    have hBW3 : Below w.heap.size w W3 := belowP hB9 hB3
    have r0 := cellP (HC3.out W3 hW3) 0 _ rfl
    have rz := fzP (HC3.out W3 hW3) 0
    have HRC : Hid (W3.heap[w.heap.size + 1 + 1 + 1]? = some (.cells #[.bool false] 4 (0, 0))) := HC3.out W3 hW3
    have HK3 : Hid (W3.heap[D3]? = some (.deferred (some [])) ∧ W3.heap[D2]? = some (.deferred (some [])) ∧ W3.heap[D1]? = some (.deferred (some []))) := ⟨hK3, (hB3.block _ (by omega)).trans HK19.out.2, (hB3.block _ (by omega)).trans HK19.out.1⟩
    clear hK3 hq3 hc1 hc2
    go_wp2
    rw [HM.out]
    have hks := KeepsOthers.setCell W3 ⟨w.heap.size + 1 + 1 + 1, 0, none⟩ (.bool true)
    refine leaves_marks rfl rfl [D3, D2, D1] _ (by simp; omega) (fun x hx => ?_) (fun x hx => ?_) (World.cell?_setCell_same' _ _ _ (by rw [cellP HRC.out 0 _ rfl]; rfl)) (hBW3.setCell (p := ⟨w.heap.size + 1 + 1 + 1, 0, none⟩) (by simp; omega) _)
    · simp at hx
      rcases hx with rfl | rfl | rfl
      · exact hks.same _ _ HK3.out.1 rfl
      · exact hks.same _ _ HK3.out.2.1 rfl
      · exact hks.same _ _ HK3.out.2.2 rfl
    · simp at hx
      have := hB5.size
      rcases hx with rfl | rfl | rfl <;> omega
end
end Go.Proofs.Ytcaknajjkfiaoaa

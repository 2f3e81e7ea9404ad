/-
  Whether a value is good, by a contract.
  A list that is put in order, one value after another.
  A value put in order, by a contract.
  Good and Encode, by contracts.
  What is good is good in order, and no longer.
  What was put in order is in order, stays as it is, and is read back.
  Bytes that are letters: what is encoded is so.
  A text that is written is of letters.
  What is encoded is of letters, is decoded, and is bytes.
  What is encoded is bytes; and Encode's answer is read by Decode.
  The document's letters, by contracts: Letter, and Bad given Rune.
  Chapter 1's examples, as the reader and the writer have them.
  awake, by a contract.
  How many of so many values are left, by a contract: what is small is nowhere too long.
  Order, by a contract.
  Values in order, and what stands under a key of them.
  A key found in a row that rises: by contracts.
-/
import Derived.Test.YtalmghbkdelaoaaP05
import Derived.Lib.SlBytesConst
import Derived.Deep.Cut
set_option maxRecDepth 100000
set_option maxHeartbeats 64000000
namespace Go.Proofs.Ytalmghbkdelaoaa
open Go.RowKit
theorem goods_zero : Goods 0 := by
  intro w O j k i deep t pk pl nk ck nl cl hO hdeep hsz hj
  have h13 : deep = 13 := by omega
  clear hdeep
  subst h13
  have HG : Hid (goodJ 0 j = false) := by show _ = _; unfold goodJ; rfl
  clear hj hsz
  go_enter Try.func48, Try.ntmps48
  go_wp2
  go_ret
  exact ⟨ret_bool HG.out.symm, (Below.refl _ _).alloc (Nat.le_refl _) _⟩
theorem bare_eq (k i : Int) (t : ByteArray) (ks : List ByteArray) (l : List J) : bare (.mk k i t ks l) = bareB k i t ks.length l.length := by unfold bare bareB; rfl
theorem goods_succ {d : Nat} (V : Goods d) (hd : d + 1 ≤ 12) : Goods (d + 1) := by
  intro w O j k i deep t pk pl nk ck nl cl hO hdeep hsz hj
  have hd0 : 0 ≤ deep := by omega
  have hd1 : deep ≤ 12 := by omega
  have HD : Hid (deep + 1 = 13 - (d : Int)) := by show _ = _; omega
  clear hdeep
  cases j with
  | mk k' i' t' ks l =>
    unfold isJ at hj
    obtain ⟨pk', ck', pl', cl', e, hrk, hlc, hjs⟩ := hj
    cases e
    unfold szJ at hsz
    simp only [Bool.and_eq_true, decide_eq_true_eq] at hsz
    obtain ⟨ht, hkl, hkz, hll, hls⟩ := hsz
    have hkz' : ∀ x ∈ ks, x.size ≤ 1000000000 := fun x hx => of_decide_eq_true (List.all_eq_true.1 hkz x hx)
    have hbA : Below w.heap.size w (w.alloc (.cells #[.int .i64 k, .int .i64 i, .string t, .slice pk ks.length ck, .slice pl l.length cl] 51)) := (Below.refl _ _).alloc (Nat.le_refl _) _
    have bb := bare_any k i t pk pl ks.length ck l.length cl (w.alloc (.cells #[.int .i64 k, .int .i64 i, .string t, .slice pk ks.length ck, .slice pl l.length cl] 51))
    have HB : Hid (goodJ (d + 1) (.mk k i t ks l) = (bareB k i t ks.length l.length &&
      (if k = 0 then true else if k = 1 then decide (i = 0) || decide (i = 1) else if k = 2 then decide (-maxInt ≤ i) && decide (i ≤ maxInt) else if k = 3 then letters t else if k = 4 then l.all (goodJ d)
       else if k = 5 then decide (ks.length = l.length) && (ks.all letters && noKeyTwice ks) && l.all (goodJ d) else false))) := by show _ = _; rw [goodJ, bare_eq]
    have bk : ∀ w2 : World, Below (w.alloc (.cells #[.int .i64 k, .int .i64 i, .string t, .slice pk ks.length ck, .slice pl l.length cl] 51)).heap.size (w.alloc (.cells #[.int .i64 k, .int .i64 i, .string t, .slice pk ks.length ck, .slice pl l.length cl] 51)) w2 →
        w2.heap[w.heap.size]? = some (.cells #[.int .i64 k, .int .i64 i, .string t, .slice pk ks.length ck, .slice pl l.length cl] 51 (0, 0)) ∧ Below w.heap.size w w2 := fun w2 h2 =>
      ⟨by rw [h2.block w.heap.size (by simp)]; exact heap_alloc_new _ _, hbA.trans ⟨h2.os, h2.tape, h2.output, h2.size, fun x hx => h2.block x (by simp; omega)⟩⟩
    clear hkz
    cases hbr : bareB k i t ks.length l.length with
    | false =>
      have HG : Hid (goodJ (d + 1) (.mk k i t ks l) = false) := by show _ = _; rw [HB.out, hbr]; rfl
      rw [hbr] at bb
      go_enter Try.func48, Try.ntmps48
      go_wp2_with (first
        | (go_at_call 54; refine bb.mono ?_; rintro x w2 ⟨rfl, hb2⟩; obtain ⟨hv, hbw⟩ := bk w2 hb2; clear bk; have c0 := five_c0 hv; have c1 := five_c1 hv; have c2 := five_c2 hv; have c3 := five_c3 hv; have c4 := five_c4 hv))
      go_ret
      exact ⟨ret_bool HG.out.symm, hbw⟩
    | true =>
      rw [hbr] at bb HB
      simp only [Bool.true_and] at HB
      by_cases k0 : k = 0
      · subst k0
        have HG : Hid (goodJ (d + 1) (.mk 0 i t ks l) = true) := by show _ = _; rw [HB.out]; rfl
        go_enter Try.func48, Try.ntmps48
        go_wp2_with (first
          | (go_at_call 54; refine bb.mono ?_; rintro x w2 ⟨rfl, hb2⟩; obtain ⟨hv, hbw⟩ := bk w2 hb2; clear bk; have c0 := five_c0 hv; have c1 := five_c1 hv; have c2 := five_c2 hv; have c3 := five_c3 hv; have c4 := five_c4 hv))
        go_ret
        exact ⟨ret_bool HG.out.symm, hbw⟩
      rw [if_neg k0] at HB
      by_cases k1 : k = 1
      · subst k1
        rw [if_pos rfl] at HB
        by_cases i0 : i = 0
        · subst i0
          have HG : Hid (goodJ (d + 1) (.mk 1 0 t ks l) = true) := by show _ = _; rw [HB.out]; rfl
          go_enter Try.func48, Try.ntmps48
          go_wp2_with (first
            | (go_at_call 54; refine bb.mono ?_; rintro x w2 ⟨rfl, hb2⟩; obtain ⟨hv, hbw⟩ := bk w2 hb2; clear bk; have c0 := five_c0 hv; have c1 := five_c1 hv; have c2 := five_c2 hv; have c3 := five_c3 hv; have c4 := five_c4 hv))
          go_ret
          exact ⟨ret_bool HG.out.symm, hbw⟩
        · by_cases i1 : i = 1
          · subst i1
            have HG : Hid (goodJ (d + 1) (.mk 1 1 t ks l) = true) := by show _ = _; rw [HB.out]; rfl
            go_enter Try.func48, Try.ntmps48
            go_wp2_with (first
              | (go_at_call 54; refine bb.mono ?_; rintro x w2 ⟨rfl, hb2⟩; obtain ⟨hv, hbw⟩ := bk w2 hb2; clear bk; have c0 := five_c0 hv; have c1 := five_c1 hv; have c2 := five_c2 hv; have c3 := five_c3 hv; have c4 := five_c4 hv))
            go_ret
            exact ⟨ret_bool HG.out.symm, hbw⟩
          · skip
            have HG : Hid (goodJ (d + 1) (.mk 1 i t ks l) = false) := by show _ = _; rw [HB.out]; simp [i0, i1]
            go_enter Try.func48, Try.ntmps48
            go_wp2_with (first
              | (go_at_call 54; refine bb.mono ?_; rintro x w2 ⟨rfl, hb2⟩; obtain ⟨hv, hbw⟩ := bk w2 hb2; clear bk; have c0 := five_c0 hv; have c1 := five_c1 hv; have c2 := five_c2 hv; have c3 := five_c3 hv; have c4 := five_c4 hv))
            go_ret
            refine ⟨ret_bool ?_, hbw⟩
            rw [HG.out]
            first | rfl | simp [i0, i1]
      rw [if_neg k1] at HB
      by_cases k2 : k = 2
      · subst k2
        rw [if_pos rfl] at HB
        unfold maxInt at HB
        by_cases i0 : -9007199254740991 ≤ i
        · skip
          by_cases i1 : i ≤ 9007199254740991
          · skip
            have HG : Hid (goodJ (d + 1) (.mk 2 i t ks l) = true) := by show _ = _; rw [HB.out]; simp [i0, i1]
            go_enter Try.func48, Try.ntmps48
            go_wp2_with (first
              | (go_at_call 54; refine bb.mono ?_; rintro x w2 ⟨rfl, hb2⟩; obtain ⟨hv, hbw⟩ := bk w2 hb2; clear bk; have c0 := five_c0 hv; have c1 := five_c1 hv; have c2 := five_c2 hv; have c3 := five_c3 hv; have c4 := five_c4 hv))
            go_ret
            refine ⟨ret_bool ?_, hbw⟩
            first | exact HG.out.symm | (rw [HG.out]; simp [i0, i1])
          · skip
            have HG : Hid (goodJ (d + 1) (.mk 2 i t ks l) = false) := by show _ = _; rw [HB.out]; simp [i1]
            go_enter Try.func48, Try.ntmps48
            go_wp2_with (first
              | (go_at_call 54; refine bb.mono ?_; rintro x w2 ⟨rfl, hb2⟩; obtain ⟨hv, hbw⟩ := bk w2 hb2; clear bk; have c0 := five_c0 hv; have c1 := five_c1 hv; have c2 := five_c2 hv; have c3 := five_c3 hv; have c4 := five_c4 hv))
            go_ret
            refine ⟨ret_bool ?_, hbw⟩
            first | exact HG.out.symm | (rw [HG.out]; simp [i1])
        · skip
          have HG : Hid (goodJ (d + 1) (.mk 2 i t ks l) = false) := by show _ = _; rw [HB.out]; simp [i0]
          go_enter Try.func48, Try.ntmps48
          go_wp2_with (first
            | (go_at_call 54; refine bb.mono ?_; rintro x w2 ⟨rfl, hb2⟩; obtain ⟨hv, hbw⟩ := bk w2 hb2; clear bk; have c0 := five_c0 hv; have c1 := five_c1 hv; have c2 := five_c2 hv; have c3 := five_c3 hv; have c4 := five_c4 hv))
          go_ret
          refine ⟨ret_bool ?_, hbw⟩
          first | exact HG.out.symm | (rw [HG.out]; simp [i0])
      rw [if_neg k2] at HB
      by_cases k3 : k = 3
      · subst k3
        rw [if_pos rfl] at HB
        go_enter Try.func48, Try.ntmps48
        go_wp2_with (first
          | (go_at_call 54; refine bb.mono ?_; rintro x w2 ⟨rfl, hb2⟩; obtain ⟨hv, hbw⟩ := bk w2 hb2; clear bk; have c0 := five_c0 hv; have c1 := five_c1 hv; have c2 := five_c2 hv; have c3 := five_c3 hv; have c4 := five_c4 hv)
          | (go_at_call 55; refine (letters_any t w2 ht).mono ?_; rintro x w3 ⟨rfl, hb3⟩))
        go_ret
        exact ⟨ret_bool HB.out.symm, below_in hbw hb3⟩
      rw [if_neg k3] at HB
      by_cases k4 : k = 4
      · subst k4
        rw [if_pos rfl] at HB
        go_enter Try.func48, Try.ntmps48
        go_wp2_with (first
          | (go_at_call 54; refine bb.mono ?_; rintro x w2 ⟨rfl, hb2⟩; obtain ⟨hv, hbw⟩ := bk w2 hb2; clear bk; have c0 := five_c0 hv; have c1 := five_c1 hv; have c2 := five_c2 hv; have c3 := five_c3 hv; have c4 := five_c4 hv)
          | (go_at_call 56; refine (goodAll_any V (fun x hx => Nat.lt_of_lt_of_le (hO x hx) (hbw).size) HD.out hls (hjs.carry fun x hx => ⟨hx, (hbw).block x (hO x hx)⟩) hlc hll).mono ?_; rintro x w4 ⟨rfl, hb4⟩))
        go_ret
        exact ⟨ret_bool HB.out.symm, below_in hbw hb4⟩
      rw [if_neg k4] at HB
      by_cases k5 : k = 5
      · subst k5
        rw [if_pos rfl] at HB
        by_cases he : ks.length = l.length
        · have heI : ((ks.length : Int) == (l.length : Int)) = true := by simp [he]
          have HE : Hid (ks.length = l.length) := he
          clear he
          cases hgk : goodK ks with
          | true =>
            have HGK : Hid (goodK ks = true) := hgk
            have HG : Hid (goodJ (d + 1) (.mk 5 i t ks l) = l.all (goodJ d)) := by
              show _ = _
              rw [HB.out]
              unfold goodK at hgk
              rw [hgk, decide_eq_true HE.out]
              rfl
            clear hgk
            go_enter Try.func48, Try.ntmps48
            go_wp2_with (first
              | (go_at_call 54; refine bb.mono ?_; rintro x w2 ⟨rfl, hb2⟩; obtain ⟨hv, hbw⟩ := bk w2 hb2; clear bk; have c0 := five_c0 hv; have c1 := five_c1 hv; have c2 := five_c2 hv; have c3 := five_c3 hv; have c4 := five_c4 hv)
              | (go_at_call 57; refine (goodKeys_any (hrk.carry fun x hx => ⟨hx, hbw.block x (hO x hx)⟩) (fun x hx => Nat.lt_of_lt_of_le (hO x hx) hbw.size) hkl hkz').mono ?_; rw [HGK.out]; rintro x w3 ⟨rfl, hb3⟩; have hv3 := (hb3.block w.heap.size (Array.getElem?_eq_some_iff.1 hv).1).trans hv; have hbw3 := below_in hbw hb3; have c03 := five_c0 hv3; have c13 := five_c1 hv3; have c23 := five_c2 hv3; have c33 := five_c3 hv3; have c43 := five_c4 hv3)
              | (go_at_call 56; refine (goodAll_any V (fun x hx => Nat.lt_of_lt_of_le (hO x hx) (hbw3).size) HD.out hls (hjs.carry fun x hx => ⟨hx, (hbw3).block x (hO x hx)⟩) hlc hll).mono ?_; rintro x w4 ⟨rfl, hb4⟩))
            go_ret
            exact ⟨ret_bool HG.out.symm, below_in hbw3 hb4⟩
          | false =>
            have HGK : Hid (goodK ks = false) := hgk
            have HG : Hid (goodJ (d + 1) (.mk 5 i t ks l) = false) := by
              show _ = _
              rw [HB.out]
              unfold goodK at hgk
              rw [hgk, decide_eq_true HE.out]
              rfl
            clear hgk
            go_enter Try.func48, Try.ntmps48
            go_wp2_with (first
              | (go_at_call 54; refine bb.mono ?_; rintro x w2 ⟨rfl, hb2⟩; obtain ⟨hv, hbw⟩ := bk w2 hb2; clear bk; have c0 := five_c0 hv; have c1 := five_c1 hv; have c2 := five_c2 hv; have c3 := five_c3 hv; have c4 := five_c4 hv)
              | (go_at_call 57; refine (goodKeys_any (hrk.carry fun x hx => ⟨hx, hbw.block x (hO x hx)⟩) (fun x hx => Nat.lt_of_lt_of_le (hO x hx) hbw.size) hkl hkz').mono ?_; rw [HGK.out]; rintro x w3 ⟨rfl, hb3⟩; have hv3 := (hb3.block w.heap.size (Array.getElem?_eq_some_iff.1 hv).1).trans hv; have hbw3 := below_in hbw hb3; have c03 := five_c0 hv3; have c13 := five_c1 hv3; have c23 := five_c2 hv3; have c33 := five_c3 hv3; have c43 := five_c4 hv3))
            go_ret
            exact ⟨ret_bool HG.out.symm, hbw3⟩
        · have heI : ((ks.length : Int) == (l.length : Int)) = false := by simp; omega
          have HG : Hid (goodJ (d + 1) (.mk 5 i t ks l) = false) := by
            show _ = _
            rw [HB.out, decide_eq_false he]
            rfl
          clear he
          go_enter Try.func48, Try.ntmps48
          go_wp2_with (first
            | (go_at_call 54; refine bb.mono ?_; rintro x w2 ⟨rfl, hb2⟩; obtain ⟨hv, hbw⟩ := bk w2 hb2; clear bk; have c0 := five_c0 hv; have c1 := five_c1 hv; have c2 := five_c2 hv; have c3 := five_c3 hv; have c4 := five_c4 hv))
          go_ret
          exact ⟨ret_bool HG.out.symm, hbw⟩
      · rw [if_neg k5] at HB
        go_enter Try.func48, Try.ntmps48
        go_wp2_with (first
          | (go_at_call 54; refine bb.mono ?_; rintro x w2 ⟨rfl, hb2⟩; obtain ⟨hv, hbw⟩ := bk w2 hb2; clear bk; have c0 := five_c0 hv; have c1 := five_c1 hv; have c2 := five_c2 hv; have c3 := five_c3 hv; have c4 := five_c4 hv))
        go_ret
        exact ⟨ret_bool HB.out.symm, hbw⟩
theorem goods : ∀ d, d ≤ 12 → Goods d
  | 0, _ => goods_zero
  | d + 1, h => goods_succ (goods d (by omega)) h
/-- Old blocks, and those of the call's own that are not the row's. -/
def Elo (O : Nat → Prop) (B : Nat) (v : Value) (w : World) : Nat → Prop := fun k => O k ∨ (B ≤ k ∧ k < w.heap.size ∧ v.ownBlock ≠ some k)
/-- The values that were put in order so far. -/
structure AI (O : Nat → Prop) (B b : Nat) (WA : World) (cs5 : Array Value) (acc : List J) (vl : Value) (wr : World) : Prop where
  box : wr.heap[b]? = some (.cells cs5 51 (0, 0))
  res : wr.heap[b + 1]? = some (.cells #[.int .i64 0, .int .i64 0, .string ⟨#[]⟩, .slice none 0 0, .slice none 0 0] 51 (0, 0))
  vals : ∃ xs, wr.ownsRow B 51 5 vl acc.length xs ∧ isRow (Elo O B vl wr) wr acc xs
  below : Below B WA wr
  szA : WA.heap.size = B
  lt : b + 1 < B
  low : ∀ k, O k → k < b
section
variable {O : Nat → Prop} {B b : Nat} {WA W W4 W5 : World} {cs5 : Array Value} {acc : List J} {vl vl' : Value} {o1 o2 : Obj} {y : J} {cs xs : List Value}
theorem AI.size (h : AI O B b WA cs5 acc vl W) : B ≤ W.heap.size := by have := h.below.size; have := h.szA; omega
/-- All that lay there stays. -/
theorem AI.more (h : AI O B b WA cs5 acc vl W) (hb : Below W.heap.size W W4) : AI O B b WA cs5 acc vl W4 := by
  have hs := h.size
  have hlt := h.lt
  have hss := hb.size
  obtain ⟨xs, h1, h2⟩ := h.vals
  have kp : Keep (fun _ => False) W W4 := Keep.of_below hb
  refine ⟨(hb.block b (by omega)).trans h.box, (hb.block (b + 1) (by omega)).trans h.res, ⟨xs, own_keep h1 kp fun _ _ h => h, h2.carry fun k hk => ?_⟩, h.below.trans ⟨hb.os, hb.tape, hb.output, hb.size, fun k hk => hb.block k (by omega)⟩, h.szA, hlt, h.low⟩
  rcases hk with hk | hk
  · have := h.low k hk
    exact ⟨.inl hk, hb.block k (by omega)⟩
  · exact ⟨.inr ⟨hk.1, by have := hk.2.1; omega, hk.2.2⟩, hb.block k hk.2.1⟩
theorem AI.alloc (h : AI O B b WA cs5 acc vl W) (o : Obj) : AI O B b WA cs5 acc vl (W.alloc o) := h.more ((Below.refl _ _).alloc (Nat.le_refl _) o)
/-- One value more. -/
theorem AI.push (h : AI O B b WA cs5 acc vl W) (h1 : W.ownsRow B 51 5 vl acc.length xs) (h2 : isRow (Elo O B vl W) W acc xs) (hy : isJ (Elo O B vl W) W y cs)
    (hown : W5.ownsRow B 51 5 vl' (acc.length + 1) (xs ++ cs)) (hg : W.grownBy W5 vl.ownBlock) (hat : vl'.ownBlock = vl.ownBlock ∨ vl'.ownBlock = some W.heap.size) : AI O B b WA cs5 (acc ++ [y]) vl' W5 := by
  have hs := h.size
  have hlt := h.lt
  have hss := hg.size
  have hgv := own_ge h1
  have low : ∀ k, k < B → W5.heap[k]? = W.heap[k]? := fun k hk => hg.block k (by omega) fun e => by have := (hgv k e.symm).1; omega
  have carry : ∀ k, Elo O B vl W k → Elo O B vl' W5 k ∧ W5.heap[k]? = W.heap[k]? := by
    intro k hk
    rcases hk with hk | hk
    · have := h.low k hk
      exact ⟨.inl hk, low k (by omega)⟩
    · refine ⟨.inr ⟨hk.1, by have := hk.2.1; omega, fun e => ?_⟩, hg.block k hk.2.1 fun e => hk.2.2 e.symm⟩
      rcases hat with h' | h'
      · exact hk.2.2 (h' ▸ e)
      · rw [h'] at e
        have := Option.some.inj e
        have := hk.2.1
        omega
  exact ⟨(low b (by omega)).trans h.box, (low (b + 1) (by omega)).trans h.res, ⟨xs ++ cs, by rw [List.length_append]; exact hown, isRow.snoc hy.five (hy.carry carry) acc xs (h2.carry carry)⟩, h.below.trans ⟨hg.os, hg.tape, hg.output, hg.size, low⟩, h.szA, hlt, h.low⟩
/-- A value that was just made. -/
theorem AI.new (h : AI O B b WA cs5 acc vl W) (hb : Below W.heap.size W W4) (hy : isJ (fun k => O k ∨ New W W4 k) W4 y cs) (o : Obj) : isJ (Elo O B vl (W4.alloc o)) (W4.alloc o) y cs := by
  have hs := h.size
  have hss := hb.size
  obtain ⟨xs, h1, _⟩ := h.vals
  refine hy.carry fun k hk => ?_
  rcases hk with hk | hk
  · have := h.low k hk
    have := h.lt
    exact ⟨.inl hk, Below.heap_alloc _ _ _ (by omega)⟩
  · have e1 := hk.1
    have e2 := hk.2
    exact ⟨.inr ⟨by omega, by simp; omega, fun e => by have := (own_ge h1 k e).2; omega⟩, Below.heap_alloc _ _ _ e2⟩
end
theorem ordL_length : ∀ l : List J, (ordL l).length = l.length
  | [] => by simp [ordL]
  | j :: r => by simp [ordL, ordL_length r]
theorem ordL_snoc (j : J) : ∀ l : List J, ordL (l ++ [j]) = ordL l ++ [ord j]
  | [] => by simp [ordL]
  | i :: r => by simp [ordL, ordL_snoc j r]
/-- How values are put in order that are no deeper than d. -/
def Arrs (d : Nat) : Prop := ∀ (w : World) (O : Nat → Prop) (j : J) (k i : Int) (t : ByteArray) (pk pl : Option Addr) (nk ck nl cl : Nat), (∀ x, O x → x < w.heap.size) → goodJ d j = true → szJ d j = true →
  isJ O w j [.int .i64 k, .int .i64 i, .string t, .slice pk nk ck, .slice pl nl cl] →
  Calls Try.prog 41 #[.agg #[.int .i64 k, .int .i64 i, .string t, .slice pk nk ck, .slice pl nl cl]] w fun x w' => ∃ k i t pk nk ck pl nl cl, x = .returned (.agg #[.int .i64 k, .int .i64 i, .string t, .slice pk nk ck, .slice pl nl cl]) ∧
    isJ (fun x => O x ∨ New w w' x) w' (ord j) [.int .i64 k, .int .i64 i, .string t, .slice pk nk ck, .slice pl nl cl] ∧ Below w.heap.size w w'
theorem arrs_zero : Arrs 0 := by
  intro w O j k i t pk pl nk ck nl cl hO hg
  unfold goodJ at hg
  cases hg
theorem good_sub {d : Nat} {k i : Int} {t : ByteArray} {ks : List ByteArray} {l : List J} (h : goodJ (d + 1) (.mk k i t ks l) = true) : l.all (goodJ d) = true ∧ (k = 5 → ks.length = l.length ∧ ks.Pairwise (· ≠ ·)) ∧ (k ≠ 5 → ks = []) := by
  rw [goodJ, Bool.and_eq_true] at h
  obtain ⟨hb, h⟩ := h
  unfold bare at hb
  simp only [Bool.and_eq_true, Bool.or_eq_true, decide_eq_true_eq] at hb
  obtain ⟨⟨⟨_, _⟩, hk⟩, hl⟩ := hb
  refine ⟨?_, fun e => ?_, fun e => ?_⟩
  · by_cases k4 : k = 4
    · subst k4; simpa using h
    · by_cases k5 : k = 5
      · subst k5
        simp at h
        rw [List.all_eq_true]
        exact h.2
      · have : l = [] := List.eq_nil_of_length_eq_zero (by omega)
        subst this; rfl
  · subst e
    rw [if_neg (by decide), if_neg (by decide), if_neg (by decide), if_neg (by decide), if_neg (by decide), if_pos rfl] at h
    simp only [Bool.and_eq_true, decide_eq_true_eq] at h
    exact ⟨h.1.1, noTwice_pair h.1.2.2⟩
  · exact List.eq_nil_of_length_eq_zero (by omega)
theorem ai_start {O : Nat → Prop} {w : World} (hO : ∀ x, O x → x < w.heap.size) (cs5 : Array Value) : AI O (w.heap.size + 2) w.heap.size ((w.alloc (.cells cs5 51)).alloc zJ) cs5 [] (.slice none 0 0) ((w.alloc (.cells cs5 51)).alloc zJ) := by
  refine ⟨?_, ?_, ⟨[], World.ownsRow_nil _ _ _ _, rfl⟩, Below.refl _ _, by simp, by omega, hO⟩
  · rw [Below.heap_alloc _ _ _ (by simp)]; exact heap_alloc_new _ _
  · have := heap_alloc_new (w.alloc (.cells cs5 51)) zJ
    rw [show (w.alloc (.cells cs5 51)).heap.size = w.heap.size + 1 by simp] at this
    exact this
theorem ai_below {O : Nat → Prop} {w wr : World} {cs5 : Array Value} {acc : List J} {vl : Value} (h : AI O (w.heap.size + 2) w.heap.size ((w.alloc (.cells cs5 51)).alloc zJ) cs5 acc vl wr) : Below w.heap.size w wr := by
  have h1 : Below w.heap.size w ((w.alloc (.cells cs5 51)).alloc zJ) := ((Below.refl _ _).alloc (Nat.le_refl _) _).alloc (by simp) _
  have h2 := h.below
  exact h1.trans ⟨h2.os, h2.tape, h2.output, h2.size, fun k hk => h2.block k (by omega)⟩
theorem arr_below {w wr W5 : World} (h : Below w.heap.size w wr) (HK5 : Keep (One (w.heap.size + 1)) wr W5) : Below w.heap.size w W5 :=
  h.trans (HK5.below h.size fun k hk => by unfold One; omega)
theorem arr_fin {w wr W5 : World} {O : Nat → Prop} {j : J} {cs : List Value} (HK5 : Keep (One (w.heap.size + 1)) wr W5) (hj : isJ (fun x => O x ∨ (w.heap.size + 2 ≤ x ∧ x < wr.heap.size)) wr j cs) (hO : ∀ x, O x → x < w.heap.size) (hs : w.heap.size + 2 ≤ wr.heap.size) : isJ (fun x => O x ∨ New w W5 x) W5 j cs := by
  have hss := HK5.size
  refine hj.carry fun k hk => ?_
  rcases hk with hk | hk
  · have := hO k hk
    exact ⟨.inl hk, HK5.block k (by omega) (by unfold One; omega)⟩
  · exact ⟨.inr ⟨by have := hk.1; omega, by have := hk.2; omega⟩, HK5.block k hk.2 (by unfold One; have := hk.1; omega)⟩
theorem arrs_succ {d : Nat} (V : Arrs d) : Arrs (d + 1) := by
  intro w O j k i t pk pl nk ck nl cl hO hg hsz hj
  cases j with
  | mk k' i' t' ks l =>
    unfold isJ at hj
    obtain ⟨pk', ck', pl', cl', e, hrk, hlc, hjs⟩ := hj
    cases e
    unfold szJ at hsz
    simp only [Bool.and_eq_true, decide_eq_true_eq] at hsz
    obtain ⟨ht, hkl, hkz, hll, hls⟩ := hsz
    obtain ⟨hgl, hg5, hgn⟩ := good_sub hg
    have HG5 : Hid (k = 5 → ks.length = l.length ∧ ks.Pairwise (· ≠ ·)) := hg5
    have HGN : Hid (k ≠ 5 → ks = []) := hgn
    clear hg5 hgn hg hkz
    obtain ⟨n, hn⟩ : ∃ n, l.length = n := ⟨_, rfl⟩
    have HN : Hid (l.length = n) := hn
    obtain ⟨m, hm⟩ : ∃ m, ks.length = m := ⟨_, rfl⟩
    have HM : Hid (ks.length = m) := hm
    rw [hn, hm]
    rw [hn] at hll hlc
    rw [hm] at hkl
    have hai0 := ai_start hO #[.int .i64 k, .int .i64 i, .string t, .slice pk m ck, .slice pl n cl]
    clear hn hm
    go_enter Try.func41, Try.ntmps41
    go_wp2
    go_loopw [3, 9] (fun vl iv wr => ∃ q : Nat, iv = .int .i64 q ∧ q ≤ n ∧ AI O (w.heap.size + 2) w.heap.size ((w.alloc (.cells #[.int .i64 k, .int .i64 i, .string t, .slice pk m ck, .slice pl n cl] 51)).alloc zJ) #[.int .i64 k, .int .i64 i, .string t, .slice pk m ck, .slice pl n cl] (ordL (l.take q)) vl wr) (fun _ iv _ => n - (intOf iv).toNat)
    case atStart => exact ⟨0, rfl, Nat.zero_le _, by rw [List.take_zero]; exact hai0⟩
    case round =>
      clear hai0
      obtain ⟨q, rfl, hq, hai⟩ := hrel
      obtain ⟨xs0, hE0, _⟩ := hai.vals
      obtain ⟨sl1, sl2, sl3, rfl⟩ := own_slice hE0
      clear hE0
      have c0 := five_c0 hai.box; have c1 := five_c1 hai.box; have c2 := five_c2 hai.box; have c3 := five_c3 hai.box; have c4 := five_c4 hai.box
      have hbw := ai_below hai
      by_cases hql : q < n
      · have hql' : q < l.length := by rw [HN.out]; exact hql
        have HQL : Hid (q < l.length) := hql'
        obtain ⟨lb, lo, cs, hpl, hOb, hcells, hyj⟩ := isJs.at l 0 q hjs hql'
        subst hpl
        obtain ⟨kv, iv, tv, pv, nv, cv, qv, mv, dv, rfl⟩ := isJ_shape hyj
        have hblk := hbw.block lb (hO lb hOb)
        have cc : ∀ m v, [Value.int .i64 kv, .int .i64 iv, .string tv, .slice pv nv cv, .slice qv mv dv][m]? = some v → wr.cell? ⟨lb, lo + q * 5 + m, none⟩ = some v := fun m v h => by
          have := hcells m v h
          rw [Nat.zero_add] at this
          exact (World.cell?_of_block (a := ⟨lb, lo + q * 5 + m, none⟩) hblk).trans this
        have y0 : wr.cell? ⟨lb, lo + q * 5, none⟩ = some (.int .i64 kv) := cc 0 _ rfl
        have y1 := cc 1 _ rfl
        have y2 := cc 2 _ rfl
        have y3 := cc 3 _ rfl
        have y4 := cc 4 _ rfl
        clear cc hcells hql'
        have hqc : (q : Int) < (n : Int) := by omega
        have hai1 := hai.alloc (.cells #[.int .i64 kv, .int .i64 iv, .string tv, .slice pv nv cv, .slice qv mv dv] 51)
        have hb1 := ai_below hai1
        have hV := V (wr.alloc (.cells #[.int .i64 kv, .int .i64 iv, .string tv, .slice pv nv cv, .slice qv mv dv] 51)) O (l.getD q J.zero) kv iv tv pv qv nv cv mv dv (fun x hx => Nat.lt_of_lt_of_le (hO x hx) hb1.size) (all_at hgl HQL.out) (all_at hls HQL.out) (hyj.carry fun x hx => ⟨hx, hb1.block x (hO x hx)⟩)
        go_wp2_with (first
          | (go_at_call 41; refine hV.mono ?_; rintro x w4 ⟨kr, ir, tr, pr, nr, cr, qr, mr, dr, rfl, hjr, hb4⟩
             have hy := hai1.new hb4 hjr (.cells #[.int .i64 kr, .int .i64 ir, .string tr, .slice pr nr cr, .slice qr mr dr] 51)
             have hai4 := (hai1.more hb4).alloc (.cells #[.int .i64 kr, .int .i64 ir, .string tr, .slice pr nr cr, .slice qr mr dr] 51)
             obtain ⟨xs, hv1, hv2⟩ := hai4.vals)
          | (at_builtin; refine wpList_app rfl _ _ 49 rfl (w.heap.size + 2) 51 (.agg #[.int .i64 0, .int .i64 0, .string ⟨#[]⟩, .slice none 0 0, .slice none 0 0]) 5 80 Try.underlying49 Try.info51 rfl (by decide) (by decide) (.slice sl1 sl2 sl3) (ordL (l.take q)).length xs rfl hv1 _ [.int .i64 kr, .int .i64 ir, .string tr, .slice pr nr cr, .slice qr mr dr] rfl rfl (cells_at5 rfl) one5 (by rw [ordL_length, List.length_take]; omega) hai4.size ?_
             intro vl2 W5 hown5 hg5 hat5
             obtain ⟨q5, n5, c5, hE5⟩ := own_slice hown5
             subst hE5
             have hai5 := hai4.push hv1 hv2 hy hown5 hg5 hat5
             clear hown5 hg5 hat5))
        go_roundw
        case rel => exact ⟨q + 1, by go_num, hql, by rw [take_snoc HQL.out, ordL_snoc]; exact hai5⟩
        case measure => simp [intOf]; omega
      · obtain rfl : q = n := by omega
        have hlt : l.take q = l := List.take_of_length_le (by rw [HN.out]; omega)
        rw [hlt] at hai
        clear hlt
        obtain ⟨xs, hv1, hv2⟩ := hai.vals
        obtain ⟨q2, c2', hvl, hc2, hrj⟩ := own_js hv1 hv2
        have hrj' : isJs (fun x => O x ∨ (w.heap.size + 2 ≤ x ∧ x < wr.heap.size)) wr q2 0 (ordL l) := hrj.carry fun x hx => ⟨by
          rcases hx with (hx | hx) | hx
          · exact .inl hx
          · exact .inr ⟨hx.1, hx.2.1⟩
          · exact .inr hx, rfl⟩
        have HRJ : Hid (isJs (fun x => O x ∨ (w.heap.size + 2 ≤ x ∧ x < wr.heap.size)) wr q2 0 (ordL l)) := hrj'
        have HC2 : Hid ((ordL l).length ≤ c2') := hc2
        have HOL : Hid ((ordL l).length = q) := (ordL_length l).trans HN.out
        rw [HOL.out] at hvl
        cases hvl
        have hrkR : RdK (fun x => O x ∨ (w.heap.size + 2 ≤ x ∧ x < wr.heap.size)) wr pk ck ks := hrk.carry fun x hx => ⟨.inl hx, hbw.block x (hO x hx)⟩
        have HRK : Hid (RdK (fun x => O x ∨ (w.heap.size + 2 ≤ x ∧ x < wr.heap.size)) wr pk ck ks) := hrkR
        have hOw : ∀ x, (O x ∨ (w.heap.size + 2 ≤ x ∧ x < wr.heap.size)) → x < wr.heap.size := fun x hx => by
          rcases hx with hx | hx
          · have := hO x hx; have := hbw.size; omega
          · exact hx.2
        have i0 := five_c0 hai.res; have i1 := five_c1 hai.res; have i2 := five_c2 hai.res; have i3 := five_c3 hai.res; have i4 := five_c4 hai.res
        have z0 := five_fz hai.res 0; have z1 := five_fz hai.res 1; have z2 := five_fz hai.res 2; have z3 := five_fz hai.res 3; have z4 := five_fz hai.res 4
        have hsR := hai.size
        clear hrj hrj' hrkR hc2 hv1 hv2 hrk hjs
        by_cases k5 : k = 5
        · subst k5
          obtain ⟨hkn, hdist⟩ := HG5.out rfl
          have hmo := mapOf_any (cl := sl3) HRK.out HRJ.out (by rw [HOL.out, ← HN.out]; exact hkn) hOw (by rw [HM.out]; exact hkl) hdist
          rw [HM.out, HOL.out] at hmo
          clear hkn hdist
          go_wp2_with (first
          | (go_at_call 49; refine hmo.mono ?_; rintro x w8 ⟨csr, rfl, hjr, hb8⟩
             obtain ⟨kr, ir, tr, pr, nr, cr, qr, mr, dr, hcs⟩ := isJ_shape hjr
             obtain rfl : csr = #[.int .i64 kr, .int .i64 ir, .string tr, .slice pr nr cr, .slice qr mr dr] := by rw [← Array.toList_inj]; exact hcs
             have hres8 := (hb8.block _ (Array.getElem?_eq_some_iff.1 hai.res).1).trans hai.res
             have j0 := five_c0 hres8; have j1 := five_c1 hres8; have j2 := five_c2 hres8; have j3 := five_c3 hres8; have j4 := five_c4 hres8
             have x0 := five_fz hres8 0; have x1 := five_fz hres8 1; have x2 := five_fz hres8 2; have x3 := five_fz hres8 3; have x4 := five_fz hres8 4))
          have h5 := set5_heap hres8 (.int .i64 kr) (.int .i64 ir) (.string tr) (.slice pr nr cr) (.slice qr mr dr)
          have HK5 : Keep (One (w.heap.size + 1)) w8 _ := set5_keep w8 (w.heap.size + 1) (.int .i64 kr) (.int .i64 ir) (.string tr) (.slice pr nr cr) (.slice qr mr dr)
          unfold set5 at h5 HK5
          have k0 := five_c0 h5; have k1 := five_c1 h5; have k2 := five_c2 h5; have k3 := five_c3 h5; have k4 := five_c4 h5
          refine bodyPost_ret (v := .agg #[.int .i64 kr, .int .i64 ir, .string tr, .slice pr nr cr, .slice qr mr dr]) (by simp [results, Try.results41, go_sem, k0, k1, k2, k3, k4]) rfl ?_
          have hbE := arr_below (below_in hbw hb8) HK5
          refine ⟨_, _, _, _, _, _, _, _, _, rfl, ?_, hbE⟩
          have e : ord (.mk 5 i t ks l) = mapOf ks (ordL l) := by rw [ord, if_pos rfl]
          rw [e]
          exact arr_fin HK5 (hjr.carry fun x hx => ⟨by
            rcases hx with (hx | hx) | hx
            · exact .inl hx
            · exact .inr ⟨hx.1, by have := hb8.size; have := hx.2; omega⟩
            · exact .inr ⟨by have := hx.1; omega, hx.2⟩, rfl⟩) (fun x hx => hO x hx) (by have := hb8.size; omega)
        · have HE : Hid (ord (.mk k i t ks l) = .mk k i t [] (ordL l)) := by show _ = _; rw [ord, if_neg k5]
          go_wp2
          have h5 := set5_heap hai.res (.int .i64 k) (.int .i64 i) (.string t) (.slice none 0 0) (.slice sl1 q sl3)
          have HK5 : Keep (One (w.heap.size + 1)) wr _ := set5_keep wr (w.heap.size + 1) (.int .i64 k) (.int .i64 i) (.string t) (.slice none 0 0) (.slice sl1 q sl3)
          unfold set5 at h5 HK5
          have k0 := five_c0 h5; have k1 := five_c1 h5; have k2 := five_c2 h5; have k3 := five_c3 h5; have k4 := five_c4 h5
          refine bodyPost_ret (v := .agg #[.int .i64 k, .int .i64 i, .string t, .slice none 0 0, .slice sl1 q sl3]) (by simp [results, Try.results41, go_sem, k0, k1, k2, k3, k4]) rfl ?_
          have hbE := arr_below hbw HK5
          refine ⟨_, _, _, _, _, _, _, _, _, rfl, ?_, hbE⟩
          rw [HE.out]
          refine arr_fin HK5 (cs := _) ?_ (fun x hx => hO x hx) hsR
          unfold isJ
          exact ⟨none, 0, sl1, sl3, by rw [HOL.out]; rfl, RdK.nil _ _, HC2.out, HRJ.out⟩
theorem arrs : ∀ d, Arrs d
  | 0 => arrs_zero
  | d + 1 => arrs_succ (arrs d)
theorem box_stays {w w2 : World} {cs : Array Value} {t : TypeId} (h : Below (w.alloc (.cells cs t)).heap.size (w.alloc (.cells cs t)) w2) : w2.heap[w.heap.size]? = some (.cells cs t (0, 0)) ∧ Below w.heap.size w w2 :=
  ⟨by rw [h.block w.heap.size (by simp)]; exact heap_alloc_new _ _, below_in ((Below.refl _ _).alloc (Nat.le_refl _) _) h⟩
theorem good_any {w : World} {O : Nat → Prop} {j : J} {k i : Int} {t : ByteArray} {pk pl : Option Addr} {nk ck nl cl : Nat} (hO : ∀ x, O x → x < w.heap.size) (hsz : szJ 12 j = true)
    (hj : isJ O w j [.int .i64 k, .int .i64 i, .string t, .slice pk nk ck, .slice pl nl cl]) :
    Calls Try.prog 40 #[.agg #[.int .i64 k, .int .i64 i, .string t, .slice pk nk ck, .slice pl nl cl]] w fun x w' => x = .returned (.bool (goodJ 12 j)) ∧ Below w.heap.size w w' := by
  have hG := goods 12 (Nat.le_refl _) (w.alloc (.cells #[.int .i64 k, .int .i64 i, .string t, .slice pk nk ck, .slice pl nl cl] 51)) O j k i 1 t pk pl nk ck nl cl (fun x hx => by have := hO x hx; simp; omega) rfl hsz
    (hj.carry fun x hx => ⟨hx, Below.heap_alloc _ _ _ (hO x hx)⟩)
  go_enter Try.func40, Try.ntmps40
  go_wp2_with (go_at_call 48; refine hG.mono ?_; rintro x w2 ⟨rfl, hb2⟩)
  go_ret
  exact ⟨rfl, (box_stays hb2).2⟩
theorem mem_ordL {x : J} : ∀ {l : List J}, x ∈ ordL l → ∃ y ∈ l, x = ord y
  | [], h => by simp [ordL] at h
  | j :: r, h => by
    rw [ordL] at h
    rcases List.mem_cons.1 h with rfl | h
    · exact ⟨j, List.mem_cons_self .., rfl⟩
    · obtain ⟨y, hy, e⟩ := mem_ordL h
      exact ⟨y, List.mem_cons_of_mem _ hy, e⟩
section
variable {ks : List ByteArray} {l : List J}
theorem sorted_keys (hl : ks.length = l.length) : ((sortK (ks.zip l)).map (·.1)).Perm ks := by
  have := (sortK_perm (ks.zip l)).map (·.1)
  rw [List.map_fst_zip (by omega)] at this
  exact this
theorem sorted_vals (hl : ks.length = l.length) : ((sortK (ks.zip l)).map (·.2)).Perm l := by
  have := (sortK_perm (ks.zip l)).map (·.2)
  rw [List.map_snd_zip (by omega)] at this
  exact this
end
theorem good_ord : ∀ (d : Nat) (j : J), goodJ d j = true → goodJ d (ord j) = true
  | 0, j, h => by unfold goodJ at h; cases h
  | d + 1, .mk k i t ks l, h => by
    obtain ⟨hgl, hg5, hgn⟩ := good_sub h
    have hall : ∀ x ∈ ordL l, goodJ d x = true := fun x hx => by
      obtain ⟨y, hy, rfl⟩ := mem_ordL hx
      exact good_ord d y (List.all_eq_true.1 hgl y hy)
    rw [ord]
    by_cases k5 : k = 5
    · subst k5
      rw [if_pos rfl]
      obtain ⟨hlen, hp⟩ := hg5 rfl
      have hlen' : ks.length = (ordL l).length := by rw [ordL_length]; exact hlen
      have pk := sorted_keys hlen'
      have pv := sorted_vals hlen'
      have hlet : ks.all letters = true := by
        rw [goodJ, Bool.and_eq_true] at h
        have h2 := h.2
        rw [if_neg (by decide), if_neg (by decide), if_neg (by decide), if_neg (by decide), if_neg (by decide), if_pos rfl] at h2
        simp only [Bool.and_eq_true] at h2
        exact h2.1.2.1
      unfold mapOf
      rw [goodJ]
      have e1 : ((sortK (ks.zip (ordL l))).map (·.1)).all letters = true := by
        rw [List.all_eq_true] at hlet ⊢
        exact fun x hx => hlet x (pk.mem_iff.1 hx)
      have e2 : noKeyTwice ((sortK (ks.zip (ordL l))).map (·.1)) = true := pair_noTwice (pk.symm.pairwise hp fun {_ _} h => h.symm)
      have e3 : ((sortK (ks.zip (ordL l))).map (·.2)).all (goodJ d) = true := by
        rw [List.all_eq_true]
        exact fun x hx => hall x (pv.mem_iff.1 hx)
      rw [e1, e2, e3]
      simp [bare, nix, ByteArray.size]
    · rw [if_neg k5]
      have hks := hgn k5
      subst hks
      rw [goodJ, Bool.and_eq_true] at h ⊢
      have hal : (ordL l).all (goodJ d) = true := List.all_eq_true.2 hall
      refine ⟨by have := h.1; rw [bare_eq] at this ⊢; rw [ordL_length]; exact this, ?_⟩
      have h2 := h.2
      rw [hal]
      rw [hgl] at h2
      rw [if_neg k5] at h2 ⊢
      exact h2
theorem inOrdL_all : ∀ l : List J, inOrdL l = true ↔ ∀ x ∈ l, inOrd x = true
  | [] => by simp [inOrdL]
  | j :: r => by
    rw [inOrdL, Bool.and_eq_true, inOrdL_all r]
    simp
theorem inOrd_ord : ∀ (d : Nat) (j : J), goodJ d j = true → inOrd (ord j) = true
  | 0, j, h => by unfold goodJ at h; cases h
  | d + 1, .mk k i t ks l, h => by
    obtain ⟨hgl, hg5, hgn⟩ := good_sub h
    have hall : ∀ x ∈ ordL l, inOrd x = true := fun x hx => by
      obtain ⟨y, hy, rfl⟩ := mem_ordL hx
      exact inOrd_ord d y (List.all_eq_true.1 hgl y hy)
    rw [ord]
    by_cases k5 : k = 5
    · subst k5
      rw [if_pos rfl]
      obtain ⟨hlen, hp⟩ := hg5 rfl
      have hlen' : ks.length = (ordL l).length := by rw [ordL_length]; exact hlen
      have pv := sorted_vals hlen'
      unfold mapOf
      rw [inOrd, Bool.and_eq_true, inOrdL_all]
      refine ⟨sortK_rises' _ ?_, fun x hx => hall x (pv.mem_iff.1 hx)⟩
      have : ((ks.zip (ordL l)).map (·.1)).Pairwise (· ≠ ·) := by rw [List.map_fst_zip (by omega)]; exact hp
      exact List.pairwise_map.1 this
    · rw [if_neg k5]
      rw [inOrd, Bool.and_eq_true, inOrdL_all]
      exact ⟨rfl, hall⟩
/-- A letter is the same where its bytes are. -/
theorem rune_same {t u : List Int} {p q : Nat} {c : Int} {wd : Nat} (h : runeAt u p = (c, wd)) (h0 : wd ≠ 0) (he : ∀ i, i < wd → byteAt t (q + i) = byteAt u (p + i)) : runeAt t q = (c, wd) := by
  have g0 : byteAt t q = byteAt u p := he 0 (by omega)
  have cont : ∀ i, i < wd → contAt t (q + i) = contAt u (p + i) := fun i hi => by unfold contAt; rw [he i hi]
  unfold runeAt at h ⊢
  rw [g0]
  split at h
  · rename_i a; rw [if_pos a]; exact h
  · rename_i a
    rw [if_neg a]
    split at h
    · rename_i b
      have hw : wd = 2 := by
        split at h
        · exact (Prod.mk.inj h).2.symm
        · exact absurd (Prod.mk.inj h).2.symm h0
      subst hw
      have e1 := cont 1 (by omega)
      have f1 := he 1 (by omega)
      rw [e1, f1, if_pos b]
      exact h
    · rename_i b
      have nb : ¬ (decide (byteAt u p / 32 = 6) && contAt t (q + 1)) = true := by
        intro hb
        simp only [Bool.and_eq_true, decide_eq_true_eq] at hb
        by_cases hw : 1 < wd
        · rw [cont 1 hw] at hb
          exact b (by simp [hb.1, hb.2])
        · split at h
          · rename_i x; simp only [Bool.and_eq_true, decide_eq_true_eq] at x; omega
          · split at h
            · rename_i x; simp only [Bool.and_eq_true, decide_eq_true_eq] at x; omega
            · exact absurd (Prod.mk.inj h).2.symm h0
      rw [if_neg nb]
      split at h
      · rename_i d
        have hw : wd = 3 := by
          split at h
          · exact (Prod.mk.inj h).2.symm
          · exact absurd (Prod.mk.inj h).2.symm h0
        subst hw
        rw [cont 1 (by omega), cont 2 (by omega), he 1 (by omega), he 2 (by omega), if_pos d]
        exact h
      · rename_i d
        split at h
        · rename_i f
          have hw : wd = 4 := by
            split at h
            · exact (Prod.mk.inj h).2.symm
            · exact absurd (Prod.mk.inj h).2.symm h0
          subst hw
          have nd : ¬ (decide (byteAt u p / 16 = 14) && contAt t (q + 1) && contAt t (q + 2)) = true := by
            rw [cont 1 (by omega), cont 2 (by omega)]; exact d
          rw [if_neg nd, cont 1 (by omega), cont 2 (by omega), cont 3 (by omega), he 1 (by omega), he 2 (by omega), he 3 (by omega), if_pos f]
          exact h
        · exact absurd (Prod.mk.inj h).2.symm h0
/-- From p on, t has no byte that is no letter's. -/
def Fair (t : List Int) (p : Nat) : Prop := ∀ m, strayL t m p = none
theorem Fair.step {t : List Int} {p wd : Nat} {c : Int} (hr : runeAt t p = (c, wd)) (h0 : wd ≠ 0) (h : Fair t (p + wd)) : Fair t p := fun m => by
  cases m with
  | zero => rfl
  | succ m =>
    unfold strayL
    split
    · rw [hr, if_neg h0]; exact h m
    · rfl
theorem byte_at_drop {t l r : List Int} {p i : Nat} (hd : t.drop p = l ++ r) (hi : i < l.length) : byteAt t (p + i) = l.getD i 0 := by
  unfold byteAt
  have : t[p + i]? = (l ++ r)[i]? := by rw [← hd, List.getElem?_drop]
  rw [List.getD_eq_getElem?_getD, this, List.getElem?_append_left hi, List.getD_eq_getElem?_getD]
theorem Fair.ascii {t : List Int} : ∀ (l r : List Int) (p : Nat), (∀ c ∈ l, 0 ≤ c ∧ c < 128) → t.drop p = l ++ r → Fair t (p + l.length) → Fair t p
  | [], _, p, _, _, h => by simpa using h
  | a :: l, r, p, hl, hd, h => by
    have ha := hl a (List.mem_cons_self ..)
    have hb : byteAt t p = a := byte_head (by simpa using hd)
    have hr : runeAt t p = (a, 1) := by unfold runeAt; rw [hb, if_pos ha.2]
    refine Fair.step hr (by decide) (Fair.ascii l r (p + 1) (fun c hc => hl c (List.mem_cons_of_mem _ hc)) (drop_tail (by simpa using hd)) ?_)
    rw [show p + 1 + l.length = p + (a :: l).length by simp; omega]
    exact h
theorem rune_low {t : List Int} {p : Nat} (h : byteAt t p < 128) : runeAt t p = (byteAt t p, 1) := by unfold runeAt; rw [if_pos h]
theorem rune_hi {t : List Int} {p : Nat} {c : Int} {wd : Nat} (hr : runeAt t p = (c, wd)) (h : ¬ byteAt t p < 128) : ∀ i, i < wd → 128 ≤ byteAt t (p + i) := by
  have cont : ∀ i, contAt t i = true → 128 ≤ byteAt t i := fun i hi => by have := (cont_lt hi).2; omega
  have k0 : 128 ≤ byteAt t p := by omega
  unfold runeAt at hr
  rw [if_neg h] at hr
  intro i hi
  split at hr
  · rename_i b
    simp only [Bool.and_eq_true, decide_eq_true_eq] at b
    have hw : wd ≤ 2 := by split at hr <;> (have := (Prod.mk.inj hr).2; omega)
    match i, hi with
    | 0, _ => exact k0
    | 1, _ => exact cont _ b.2
    | i + 2, hi => omega
  · split at hr
    · rename_i b
      simp only [Bool.and_eq_true, decide_eq_true_eq] at b
      have hw : wd ≤ 3 := by split at hr <;> (have := (Prod.mk.inj hr).2; omega)
      match i, hi with
      | 0, _ => exact k0
      | 1, _ => exact cont _ b.1.2
      | 2, _ => exact cont _ b.2
      | i + 3, hi => omega
    · split at hr
      · rename_i b
        simp only [Bool.and_eq_true, decide_eq_true_eq] at b
        have hw : wd ≤ 4 := by split at hr <;> (have := (Prod.mk.inj hr).2; omega)
        match i, hi with
        | 0, _ => exact k0
        | 1, _ => exact cont _ b.1.1.2
        | 2, _ => exact cont _ b.1.2
        | 3, _ => exact cont _ b.2
        | i + 4, hi => omega
      · have := (Prod.mk.inj hr).2; omega
theorem escByte_ascii {c : Int} (h : 0 ≤ c ∧ c < 128) : ∀ x ∈ escByte c, 0 ≤ x ∧ x < 128 := by
  unfold escByte hexd
  repeat' split
  all_goals
    intro x hx
    simp at hx
    omega
theorem Fair.flat {t : List Int} (s : ByteArray) : ∀ (m pos q : Nat) (r : List Int), s.size ≤ pos + m → strayL (ints s) m pos = none → t.drop q = ((ints s).drop pos).flatMap escByte ++ r → Fair t (q + (((ints s).drop pos).flatMap escByte).length) → Fair t q
  | 0, pos, q, r, hm, _, hd, h => by
    rw [List.drop_eq_nil_of_le (by rw [ints_length]; omega)] at h
    simpa using h
  | m + 1, pos, q, r, hm, hs, hd, h => by
    by_cases hp : pos < s.size
    · unfold strayL at hs
      rw [ints_length, if_pos hp] at hs
      obtain ⟨⟨c, wd⟩, hr⟩ : ∃ r, runeAt (ints s) pos = r := ⟨_, rfl⟩
      rw [hr] at hs
      have h0 : wd ≠ 0 := fun e => by simp only [e, if_true] at hs; cases hs
      simp only [if_neg h0] at hs
      obtain ⟨he, hle, hc0, hc1⟩ := rune_esc (byte_bd s) (by rw [ints_length]; exact hp) hr h0
      have hsplit : (ints s).drop pos = ((ints s).drop pos).take wd ++ (ints s).drop (pos + wd) := by
        rw [← List.drop_drop]
        exact (List.take_append_drop wd _).symm
      rw [hsplit, List.flatMap_append, he, List.append_assoc] at hd
      rw [hsplit, List.flatMap_append, he, List.length_append, ← Nat.add_assoc] at h
      have hrest := Fair.flat s m (pos + wd) (q + (escRune c).length) r (by omega) hs (drop_app hd) h
      by_cases hb : byteAt (ints s) pos < 128
      · have e := rune_low hb
        rw [hr] at e
        obtain ⟨rfl, rfl⟩ := Prod.mk.inj e
        have ec : escRune (byteAt (ints s) pos) = escByte (byteAt (ints s) pos) := by unfold escRune; rw [if_pos hb]
        rw [ec] at hd hrest
        exact Fair.ascii _ _ q (escByte_ascii ⟨hc0, hb⟩) hd hrest
      · have hi := rune_hi hr hb
        have hlen : (((ints s).drop pos).take wd).length = wd := by
          rw [List.length_take, List.length_drop]
          rw [ints_length] at hle ⊢
          omega
        have et : escRune c = ((ints s).drop pos).take wd := by
          rw [← he]
          refine esc_high _ fun x hx => ?_
          obtain ⟨i, hi', rfl⟩ := List.getElem_of_mem hx
          rw [hlen] at hi'
          have := hi i hi'
          unfold byteAt at this
          rw [List.getD_eq_getElem?_getD, List.getElem?_eq_getElem (by rw [ints_length] at hle ⊢; omega)] at this
          simpa using this
        rw [et, hlen] at hrest
        rw [et] at hd
        refine Fair.step (rune_same hr h0 fun i hi' => ?_) h0 hrest
        rw [byte_at_drop hd (by rw [hlen]; exact hi')]
        unfold byteAt
        rw [List.getD_eq_getElem?_getD, List.getElem?_take, if_pos hi', List.getElem?_drop, List.getD_eq_getElem?_getD]
    · rw [List.drop_eq_nil_of_le (by rw [ints_length]; omega)] at h
      simpa using h
theorem Fair.quote {t r : List Int} {s : ByteArray} {q : Nat} (hs : stray (ints s) = none) (hd : t.drop q = quote (ints s) ++ r) (h : Fair t (q + (quote (ints s)).length)) : Fair t q := by
  unfold Go.Proofs.Ytalmghbkdelaoaa.quote at hd h
  have hd1 : t.drop q = [34] ++ ((ints s).flatMap escByte ++ ([34] ++ r)) := by rw [hd]; simp
  have hd2 := drop_app hd1
  have hd3 := drop_app hd2
  refine Fair.ascii [34] _ q (by intro c hc; simp at hc; omega) hd1 ?_
  unfold stray at hs
  rw [ints_length] at hs
  refine Fair.flat s s.size 0 (q + 1) _ (by omega) hs (by simpa using hd2) ?_
  refine Fair.ascii [34] r _ (by intro c hc; simp at hc; omega) (by simpa using hd3) ?_
  simp only [List.length_cons, List.length_append, List.drop_zero, List.length_nil] at h ⊢
  rw [show q + 1 + ((ints s).flatMap escByte).length + (0 + 1) = q + (((ints s).flatMap escByte).length + (0 + 1) + 1) by omega]
  exact h
/-- Wherever these bytes stand, they are letters. -/
def Pure (l : List Int) : Prop := ∀ (t r : List Int) (q : Nat), t.drop q = l ++ r → Fair t (q + l.length) → Fair t q
theorem Pure.nil : Pure [] := fun _ _ _ _ h => by simpa using h
theorem Pure.app {a b : List Int} (ha : Pure a) (hb : Pure b) : Pure (a ++ b) := fun t r q hd h => by
  rw [List.append_assoc] at hd
  rw [List.length_append, ← Nat.add_assoc] at h
  exact ha t _ q hd (hb t r _ (drop_app hd) h)
theorem Pure.ascii {l : List Int} (h : ∀ c ∈ l, 0 ≤ c ∧ c < 128) : Pure l := fun _ r q hd hf => Fair.ascii l r q h hd hf
theorem Pure.text {s : ByteArray} (h : letters s = true) : Pure (quote (ints s)) := fun _ _ _ hd hf => Fair.quote (Option.isNone_iff_eq_none.1 h) hd hf
theorem Pure.one {c : Int} (h : 0 ≤ c ∧ c < 128) : Pure [c] := Pure.ascii fun x hx => by rw [List.mem_singleton.1 hx]; exact h
theorem Pure.cons {c : Int} {l : List Int} (h : 0 ≤ c ∧ c < 128) (hl : Pure l) : Pure (c :: l) := (Pure.one h).app hl
def Bytes (l : List Int) : Prop := ∀ c ∈ l, 0 ≤ c ∧ c ≤ 255
theorem Bytes.nil : Bytes [] := fun _ h => by cases h
theorem Bytes.app {a b : List Int} (ha : Bytes a) (hb : Bytes b) : Bytes (a ++ b) := fun c hc => (List.mem_append.1 hc).elim (ha c) (hb c)
theorem Bytes.cons {c : Int} {l : List Int} (h : 0 ≤ c ∧ c ≤ 255) (hl : Bytes l) : Bytes (c :: l) := fun x hx => by
  rcases List.mem_cons.1 hx with rfl | hx
  · exact h
  · exact hl x hx
/-- What Order makes of a value. -/
def ordT (j : J) : J := if goodJ 12 j = true then ord j else J.zero
theorem two_new {w : World} (o1 o2 : Obj) : ((w.alloc o1).alloc o2).heap[w.heap.size + 1]? = some o2 := by
  have := heap_alloc_new (w.alloc o1) o2
  simpa using this
theorem below_then2 {w w2 w3 : World} (h : Below w.heap.size w w2) (hk : Keep (One (w.heap.size + 1)) w2 w3) : Below w.heap.size w w3 :=
  h.trans (hk.below h.size fun k hk' e => by unfold One at e; omega)
theorem order_any {w : World} {O : Nat → Prop} {j : J} {k i : Int} {t : ByteArray} {pk pl : Option Addr} {nk ck nl cl : Nat} (hO : ∀ x, O x → x < w.heap.size) (hsz : szJ 12 j = true)
    (hj : isJ O w j [.int .i64 k, .int .i64 i, .string t, .slice pk nk ck, .slice pl nl cl]) :
    Calls Try.prog 29 #[.agg #[.int .i64 k, .int .i64 i, .string t, .slice pk nk ck, .slice pl nl cl]] w fun x w' => (∃ kr ir tr pr nr cr qr mr dr, x = .returned (.agg #[.int .i64 kr, .int .i64 ir, .string tr, .slice pr nr cr, .slice qr mr dr]) ∧ isJ (fun b => b < w'.heap.size) w' (ordT j) [.int .i64 kr, .int .i64 ir, .string tr, .slice pr nr cr, .slice qr mr dr]) ∧ Below w.heap.size w w' := by
  have hbB : Below w.heap.size w ((w.alloc (.cells #[.int .i64 k, .int .i64 i, .string t, .slice pk nk ck, .slice pl nl cl] 51)).alloc (.cells #[.int .i64 0, .int .i64 0, .string ⟨#[]⟩, .slice none 0 0, .slice none 0 0] 51)) := ((Below.refl _ _).alloc (Nat.le_refl _) _).alloc (by simp) _
  obtain ⟨wB, hwB⟩ : ∃ wB, wB = ((w.alloc (.cells #[.int .i64 k, .int .i64 i, .string t, .slice pk nk ck, .slice pl nl cl] 51)).alloc (.cells #[.int .i64 0, .int .i64 0, .string ⟨#[]⟩, .slice none 0 0, .slice none 0 0] 51)) := ⟨_, rfl⟩
  have hA : wB.heap[w.heap.size]? = some (.cells #[.int .i64 k, .int .i64 i, .string t, .slice pk nk ck, .slice pl nl cl] 51 (0, 0)) := by
    rw [hwB, Below.heap_alloc _ _ _ (by simp)]
    exact heap_alloc_new _ _
  have hR : wB.heap[w.heap.size + 1]? = some (.cells #[.int .i64 0, .int .i64 0, .string ⟨#[]⟩, .slice none 0 0, .slice none 0 0] 51 (0, 0)) := by rw [hwB]; exact two_new _ _
  rw [← hwB] at hbB
  have hOB : ∀ x, O x → x < wB.heap.size := fun x hx => Nat.lt_of_lt_of_le (hO x hx) hbB.size
  have hjB := hj.carry (O' := O) (w' := wB) fun x hx => ⟨hx, hbB.block x (hO x hx)⟩
  have hG := good_any hOB hsz hjB
  have hsA : w.heap.size < wB.heap.size := (Array.getElem?_eq_some_iff.1 hA).1
  have hsR : w.heap.size + 1 < wB.heap.size := (Array.getElem?_eq_some_iff.1 hR).1
  have c0 := five_c0 hA
  cases hg : goodJ 12 j with
  | false =>
    have HZ : Hid (ordT j = J.zero) := by show _ = _; unfold ordT; rw [hg]; rfl
    rw [hg] at hG
    rw [hwB] at hG
    clear hj hjB c0
    go_enter Try.func29, Try.ntmps29
    go_wp2_with (go_at_call 40; refine hG.mono ?_; rintro x w2 ⟨rfl, hb2⟩
                 rw [← hwB] at hb2
                 have hres := (hb2.block _ hsR).trans hR
                 have i0 := five_c0 hres; have i1 := five_c1 hres; have i2 := five_c2 hres; have i3 := five_c3 hres; have i4 := five_c4 hres
                 have z0 := five_fz hres 0; have z1 := five_fz hres 1; have z2 := five_fz hres 2; have z3 := five_fz hres 3; have z4 := five_fz hres 4)
    have h5 := set5_heap hres (.int .i64 0) (.int .i64 0) (.string ⟨#[]⟩) (.slice none 0 0) (.slice none 0 0)
    have HK5 : Keep (One (w.heap.size + 1)) w2 _ := set5_keep w2 (w.heap.size + 1) (.int .i64 0) (.int .i64 0) (.string ⟨#[]⟩) (.slice none 0 0) (.slice none 0 0)
    unfold set5 at h5 HK5
    have k0 := five_c0 h5; have k1 := five_c1 h5; have k2 := five_c2 h5; have k3 := five_c3 h5; have k4 := five_c4 h5
    refine bodyPost_ret (v := .agg #[.int .i64 0, .int .i64 0, .string ⟨#[]⟩, .slice none 0 0, .slice none 0 0]) (by simp [results, Try.results29, go_sem, k0, k1, k2, k3, k4]) rfl ?_
    refine ⟨⟨_, _, _, _, _, _, _, _, _, rfl, ?_⟩, below_then2 (below_in hbB hb2) HK5⟩
    rw [HZ.out]
    exact isJ_zero _ _
  | true =>
    have HZ : Hid (ordT j = ord j) := by show _ = _; unfold ordT; rw [hg]; rfl
    have HGG : Hid (goodJ 12 j = true) := hg
    have HJ : Hid (isJ O wB j [.int .i64 k, .int .i64 i, .string t, .slice pk nk ck, .slice pl nl cl]) := hjB
    rw [hg] at hG
    rw [hwB] at hG
    clear hj hjB hg c0
    go_enter Try.func29, Try.ntmps29
    go_wp2_with (first
      | (go_at_call 40; refine hG.mono ?_; rintro x w2 ⟨rfl, hb2⟩
         rw [← hwB] at hb2
         have hA2 := (hb2.block _ hsA).trans hA
         have c0 := five_c0 hA2; have c1 := five_c1 hA2; have c2 := five_c2 hA2; have c3 := five_c3 hA2; have c4 := five_c4 hA2
         have hArr := arrs 12 w2 O j k i t pk pl nk ck nl cl (fun x hx => Nat.lt_of_lt_of_le (hOB x hx) hb2.size) HGG.out hsz (HJ.out.carry fun x hx => ⟨hx, hb2.block x (hOB x hx)⟩))
      | (go_at_call 41; refine hArr.mono ?_; rintro x w4 ⟨kr, ir, tr, pr, nr, cr, qr, mr, dr, rfl, hjr, hb4⟩
         have hB4 := below_in hb2 hb4
         have hres := (hB4.block _ hsR).trans hR
         have i0 := five_c0 hres; have i1 := five_c1 hres; have i2 := five_c2 hres; have i3 := five_c3 hres; have i4 := five_c4 hres
         have z0 := five_fz hres 0; have z1 := five_fz hres 1; have z2 := five_fz hres 2; have z3 := five_fz hres 3; have z4 := five_fz hres 4))
    have h5 := set5_heap hres (.int .i64 kr) (.int .i64 ir) (.string tr) (.slice pr nr cr) (.slice qr mr dr)
    have HK5 : Keep (One (w.heap.size + 1)) w4 _ := set5_keep w4 (w.heap.size + 1) (.int .i64 kr) (.int .i64 ir) (.string tr) (.slice pr nr cr) (.slice qr mr dr)
    unfold set5 at h5 HK5
    have k0 := five_c0 h5; have k1 := five_c1 h5; have k2 := five_c2 h5; have k3 := five_c3 h5; have k4 := five_c4 h5
    refine bodyPost_ret (v := .agg #[.int .i64 kr, .int .i64 ir, .string tr, .slice pr nr cr, .slice qr mr dr]) (by simp [results, Try.results29, go_sem, k0, k1, k2, k3, k4]) rfl ?_
    refine ⟨⟨_, _, _, _, _, _, _, _, _, rfl, ?_⟩, below_then2 (below_in hbB hB4) HK5⟩
    rw [HZ.out]
    refine hjr.carry fun x hx => ?_
    have hlt : x < w4.heap.size ∧ x ≠ w.heap.size + 1 := by
      have s2 := hb2.size
      have s4 := hb4.size
      rcases hx with hx | hx
      · have := hO x hx
        exact ⟨by have := hbB.size; omega, by omega⟩
      · have := hx.1
        exact ⟨hx.2, by omega⟩
    exact ⟨Nat.lt_of_lt_of_le hlt.1 HK5.size, HK5.block x hlt.1 (by unfold One; exact hlt.2)⟩

theorem szP_ordL {d : Nat} (ih : ∀ j, goodJ d j = true → szJ d j = true → szJ d (ord j) = true) : ∀ l : List J, l.all (goodJ d) = true → l.all (szJ d) = true → (ordL l).all (szJ d) = true
  | [], _, _ => rfl
  | j :: r, hg, hs => by
    rw [List.all_cons, Bool.and_eq_true] at hg hs
    rw [ordL, List.all_cons, ih j hg.1 hs.1, szP_ordL ih r hg.2 hs.2]
    rfl
theorem szP_ord : ∀ (d : Nat) (j : J), goodJ d j = true → szJ d j = true → szJ d (ord j) = true
  | 0, j, _, _ => by unfold szJ; rfl
  | d + 1, .mk k i t ks l, hg, hs => by
    obtain ⟨hgl, hg5, hgn⟩ := good_sub hg
    unfold szJ at hs
    simp only [Bool.and_eq_true, decide_eq_true_eq] at hs
    obtain ⟨hts, hkn, hks, hll, hls⟩ := hs
    have hol := szP_ordL (szP_ord d) l hgl hls
    by_cases h5 : k = 5
    · subst h5
      have hlen : ks.length = (ordL l).length := by rw [ordL_length]; exact (hg5 rfl).1
      have p1 := sorted_keys hlen
      have p2 := sorted_vals hlen
      rw [ord, if_pos rfl]
      unfold mapOf szJ
      simp only [Bool.and_eq_true, decide_eq_true_eq]
      refine ⟨by decide, by rw [p1.length_eq]; exact hkn, ?_, by rw [p2.length_eq, ordL_length]; exact hll, ?_⟩
      · rw [List.all_eq_true] at hks ⊢
        exact fun x hx => hks x (p1.subset hx)
      · rw [List.all_eq_true] at hol ⊢
        exact fun x hx => hol x (p2.subset hx)
    · rw [ord, if_neg h5]
      unfold szJ
      simp only [Bool.and_eq_true, decide_eq_true_eq]
      exact ⟨hts, by simp, by rfl, by rw [ordL_length]; exact hll, hol⟩
/-- Good, in order, not too long. -/
def OkJ (d : Nat) (j : J) : Prop := goodJ d j = true ∧ inOrd j = true ∧ szJ d j = true
theorem ordT_okJ {j : J} (hs : szJ 12 j = true) : OkJ 12 (ordT j) := by
  unfold ordT
  split
  · rename_i hg
    exact ⟨good_ord 12 j hg, inOrd_ord 12 j hg, szP_ord 12 j hg hs⟩
  · exact ⟨by kernel_rfl, by kernel_rfl, by kernel_rfl⟩
theorem OkJ.parts {d : Nat} {k i : Int} {t : ByteArray} {ks : List ByteArray} {l : List J} (h : OkJ (d + 1) (.mk k i t ks l)) :
    rises ks = true ∧ (k = 5 → ks.length = l.length) ∧ (k ≠ 5 → ks = []) ∧ ks.length ≤ 100000 ∧ (∀ x ∈ ks, x.size ≤ 1000000000) ∧ ∀ x ∈ l, OkJ d x := by
  obtain ⟨hg, ho, hs⟩ := h
  obtain ⟨hgl, hg5, hgn⟩ := good_sub hg
  rw [inOrd, Bool.and_eq_true, inOrdL_all] at ho
  unfold szJ at hs
  simp only [Bool.and_eq_true, decide_eq_true_eq] at hs
  obtain ⟨_, hkn, hks, _, hls⟩ := hs
  refine ⟨ho.1, fun e => (hg5 e).1, hgn, hkn, fun x hx => by simpa using List.all_eq_true.1 hks x hx, fun x hx => ⟨List.all_eq_true.1 hgl x hx, ho.2 x hx, List.all_eq_true.1 hls x hx⟩⟩
theorem OkJ.lens {d : Nat} {k i : Int} {t : ByteArray} {ks : List ByteArray} {l : List J} (h : OkJ (d + 1) (.mk k i t ks l)) : ks.length ≤ l.length := by
  obtain ⟨_, h5, hn, _⟩ := h.parts
  by_cases e : k = 5
  · exact Nat.le_of_eq (h5 e)
  · rw [hn e]; exact Nat.zero_le _
def J.ks : J → List ByteArray
  | .mk _ _ _ ks _ => ks
def J.ls : J → List J
  | .mk _ _ _ _ l => l
def J.kd : J → Int
  | .mk k _ _ _ _ => k
def J.nm : J → Int
  | .mk _ i _ _ _ => i
theorem ltP_ne {a b : ByteArray} (h : ltK a b = true) : a ≠ b := by
  intro e; subst e; rw [ltK_irrefl] at h; cases h
/-- The value under a key. -/
def lookJ : List ByteArray → List J → ByteArray → Option J
  | k :: ks, v :: l, s => if k.toList == s.toList then some v else lookJ ks l s
  | _, _, _ => none
theorem lookJ_at : ∀ {ks : List ByteArray} {l : List J} {s : ByteArray} {n : Nat}, ks.length ≤ l.length → n < ks.length → ks.getD n nix = s → (∀ m, m < n → ks.getD m nix ≠ s) → lookJ ks l s = some (l.getD n J.zero)
  | [], _, _, _, _, h, _, _ => absurd h (by simp)
  | _ :: _, [], _, _, h, _, _, _ => absurd h (by simp)
  | k :: ks, v :: l, s, 0, _, _, he, _ => by
    have he : k = s := by simpa using he
    subst he
    simp [lookJ]
  | k :: ks, v :: l, s, n + 1, h1, h2, he, hm => by
    have h0 : k ≠ s := by have := hm 0 (by omega); simpa using this
    unfold lookJ
    rw [if_neg (fun e => h0 (bytes_eq.1 e)), lookJ_at (n := n) (by simpa using h1) (by simpa using h2) (by simpa using he) (fun m h => by have := hm (m + 1) (by omega); simpa using this)]
    simp
theorem lookJ_none : ∀ {ks : List ByteArray} {l : List J} {s : ByteArray}, s ∉ ks → lookJ ks l s = none
  | [], _, _, _ => by unfold lookJ; rfl
  | k :: ks, [], _, _ => by unfold lookJ; rfl
  | k :: ks, v :: l, s, h => by
    unfold lookJ
    rw [if_neg (fun e => h (by simp [bytes_eq.1 e]))]
    exact lookJ_none (fun h' => h (by simp [h']))
theorem lookJ_mem : ∀ {ks : List ByteArray} {l : List J} {s : ByteArray} {v : J}, lookJ ks l s = some v → v ∈ l
  | [], _, _, _, h => by unfold lookJ at h; cases h
  | _ :: _, [], _, _, h => by unfold lookJ at h; cases h
  | k :: ks, x :: l, s, v, h => by
    unfold lookJ at h
    split at h
    · cases h; simp
    · exact List.mem_cons_of_mem _ (lookJ_mem h)
theorem rises_lt : ∀ {ks : List ByteArray}, rises ks = true → ∀ {m n : Nat}, m < n → n < ks.length → ltK (ks.getD m nix) (ks.getD n nix) = true
  | [], _, _, _, _, h => absurd h (by simp)
  | k :: ks, h, 0, n + 1, _, hn => by
    rw [rises, Bool.and_eq_true] at h
    have hn' : n < ks.length := by simpa using hn
    have := List.all_eq_true.1 h.1 ks[n] (List.getElem_mem hn')
    simpa [List.getD_eq_getElem?_getD, List.getElem?_eq_getElem hn'] using this
  | k :: ks, h, m + 1, n + 1, hmn, hn => by
    rw [rises, Bool.and_eq_true] at h
    have := rises_lt h.2 (m := m) (n := n) (by omega) (by simpa using hn)
    simpa using this
theorem bytesLessP_eq : ∀ x y : List UInt8, Op.bytesLess x y = lessB x y
  | _, [] => by cases ‹List UInt8› <;> rfl
  | [], _ :: _ => rfl
  | a :: x, b :: y => by
    unfold Op.bytesLess lessB
    rw [bytesLessP_eq x y]
    cases h : decide (a = b) <;> simp_all
theorem lessP_ltK (a b : ByteArray) : Op.bytesLess a.toList b.toList = ltK a b := by
  rw [bytesLessP_eq]
  unfold ltK
  rw [Lib.toList_data, Lib.toList_data]

theorem cNaN_any {w : World} (s : ByteArray) : Calls Try.prog 70 #[.string s] w fun e w' => e = .returned (.bool false) ∧ w = w' := by
  go_enter Try.func70, Try.ntmps70
  go_wp2
  go_ret
  exact ⟨by simp, rfl⟩
theorem sNaN_any {w : World} (s : ByteArray) : Calls Try.prog 60 #[.string s] w fun e w' => e = .returned (.bool false) ∧ w = w' := by
  go_enter Try.func60, Try.ntmps60
  go_wp2
  go_ret
  exact ⟨by simp, rfl⟩
theorem less_any {w : World} (s t : ByteArray) : Calls Try.prog 59 #[.string s, .string t] w fun e w' => e = .returned (.bool (ltK s t)) ∧ w = w' := by
  have hl := lessP_ltK s t
  go_enter Try.func59, Try.ntmps59
  go_wp2_with (go_at_call 70; refine (cNaN_any s).mono ?_; rintro e w' ⟨rfl, rfl⟩)
  go_ret
  exact ⟨rfl, rfl⟩
/-- Where a key stands, or would. -/
structure At (ks : List ByteArray) (s : ByteArray) (n : Nat) : Prop where
  le : n ≤ ks.length
  lo : ∀ m, m < n → ltK (keyAtK ks m) s = true
  hi : ∀ m, n ≤ m → m < ks.length → ltK (keyAtK ks m) s = false
theorem search_any {O : Nat → Prop} {w : World} {p : Option Addr} {c : Nat} {ks : List ByteArray} (h : RdK O w p c ks) (hr : rises ks = true) (hn : ks.length ≤ 100000) (s : ByteArray) :
    Calls Try.prog 50 #[.slice p ks.length c, .string s] w fun e w' => (∃ n : Nat, e = .returned (.tuple #[.int .i64 n, .bool (decide (n < ks.length) && ((keyAtK ks n).toList == s.toList))]) ∧ At ks s n) ∧ w = w' := by
  obtain ⟨m, hm⟩ : ∃ m, ks.length = m := ⟨_, rfl⟩
  have HM : Hid (ks.length = m) := hm
  have hc := h.1
  rw [hm] at hn hc ⊢
  clear hm
  have HR : Hid (rises ks = true) := hr
  clear hr
  go_enter Try.func50, Try.ntmps50
  go_wp2
  go_loopw [7, 8] (fun i j wr => (∃ a b : Nat, i = .int .i64 a ∧ j = .int .i64 b ∧ a ≤ b ∧ b ≤ m ∧ Hid ((∀ x, x < a → ltK (keyAtK ks x) s = true) ∧ (∀ x, b ≤ x → x < ks.length → ltK (keyAtK ks x) s = false))) ∧ wr = w) (fun i j _ => (intOf j).toNat - (intOf i).toNat)
  case atStart => exact ⟨⟨0, m, rfl, rfl, Nat.zero_le _, Nat.le_refl _, fun x hx => absurd hx (by omega), fun x h1 h2 => absurd h2 (by rw [HM.out]; omega)⟩, rfl⟩
  case round =>
    obtain ⟨⟨a, b, rfl, rfl, hab, hbm, hin⟩, hwr⟩ := hrel
    rw [hwr]
    clear hwr
    by_cases hlt : a < b
    · go_upto_region 5 with fail
      obtain ⟨h2, he⟩ : ∃ h2 : Nat, ((a : Int) + b) / 2 = h2 ∧ a ≤ h2 ∧ h2 < b := ⟨(a + b) / 2, by omega, by omega, by omega⟩
      have HE : Hid (a ≤ h2 ∧ h2 < b) := he.2
      rw [he.1]
      clear he
      have hkm : h2 < m := by have := HE.out; omega
      have hkl : h2 < ks.length := by rw [HM.out]; exact hkm
      obtain ⟨ad, rfl, _, hcl⟩ := h.2 h2 hkl
      have HLT : Hid (∀ x, x < h2 → ltK (keyAtK ks x) (keyAtK ks h2) = true) := fun x hx => rises_lt HR.out hx hkl
      have HGT : Hid (∀ x, h2 < x → x < ks.length → ltK (keyAtK ks h2) (keyAtK ks x) = true) := fun x hx hl => rises_lt HR.out hx hl
      have HIN : Hid ((∀ x, x < a → ltK (keyAtK ks x) s = true) ∧ (∀ x, b ≤ x → x < ks.length → ltK (keyAtK ks x) s = false)) := hin
      change w.cell? (ad.add h2) = some (.string (keyAtK ks h2)) at hcl
      generalize hK : keyAtK ks h2 = K at hcl HLT HGT
      have HKK : Hid (keyAtK ks h2 = K) := hK
      clear hK hin hkl
      have hle := less_any (w := w) K s
      cases hl : ltK K s with
      | true =>
        have HL : Hid (ltK K s = true) := hl
        rw [hl] at hle
        clear hl
        go_wp2_with (go_at_call 59; refine hle.mono ?_; rintro e w' ⟨rfl, rfl⟩)
        go_roundw
        case rel =>
          have := HE.out
          refine ⟨⟨h2 + 1, b, by simp, rfl, by omega, hbm, fun x hx => ?_, HIN.out.2⟩, trivial⟩
          by_cases e : x = h2
          · subst e; rw [HKK.out]; exact HL.out
          · exact ltK_trans (HLT.out x (by omega)) HL.out
        case measure => have := HE.out; simp [intOf]; omega
      | false =>
        have HL : Hid (ltK K s = false) := hl
        rw [hl] at hle
        clear hl
        go_wp2_with (go_at_call 59; refine hle.mono ?_; rintro e w' ⟨rfl, rfl⟩)
        go_roundw
        case rel =>
          have := HE.out
          refine ⟨⟨a, h2, rfl, rfl, by omega, by omega, HIN.out.1, fun x h1 h3 => ?_⟩, trivial⟩
          by_cases e : x = h2
          · subst e; rw [HKK.out]; exact HL.out
          · cases hx : ltK (keyAtK ks x) s with
            | false => rfl
            | true =>
              have := ltK_trans (HGT.out x (by omega) h3) hx
              rw [HL.out] at this
              cases this
        case measure => have := HE.out; simp [intOf]; omega
    · obtain rfl : a = b := by omega
      have HIN : Hid (At ks s a) := ⟨by rw [HM.out]; exact hbm, hin.out.1, hin.out.2⟩
      clear hin
      by_cases ham : a < m
      · obtain ⟨ad, rfl, _, hcl⟩ := h.2 a (by rw [HM.out]; exact ham)
        change w.cell? (ad.add a) = some (.string (keyAtK ks a)) at hcl
        have HRS : Hid (∀ v, v = (.tuple #[.int .i64 a, .bool (decide (a < m) && ((keyAtK ks a).toList == s.toList))] : Value) → ∃ n : Nat, Ending.returned v = .returned (.tuple #[.int .i64 n, .bool (decide (n < m) && ((keyAtK ks n).toList == s.toList))]) ∧ At ks s n) := fun v hv => ⟨a, by rw [hv], HIN.out⟩
        generalize keyAtK ks a = K at hcl HRS
        have hna := sNaN_any (w := w) K
        cases hq : (K.toList == s.toList) with
        | true =>
          rw [hq] at HRS
          go_wp2
          go_ret2
          exact ⟨HRS.out _ (by simp [ham]), rfl⟩
        | false =>
          rw [hq] at HRS
          go_wp2_with (go_at_call 60; refine hna.mono ?_; rintro e w' ⟨rfl, rfl⟩)
          go_ret2
          exact ⟨HRS.out _ (by simp), rfl⟩
      · have HRS : Hid (∀ v, v = (.tuple #[.int .i64 a, .bool false] : Value) → ∃ n : Nat, Ending.returned v = .returned (.tuple #[.int .i64 n, .bool (decide (n < m) && ((keyAtK ks n).toList == s.toList))]) ∧ At ks s n) := fun v hv => ⟨a, by rw [hv]; simp [ham], HIN.out⟩
        go_wp2
        go_ret2
        exact ⟨HRS.out _ rfl, rfl⟩
end Go.Proofs.Ytalmghbkdelaoaa

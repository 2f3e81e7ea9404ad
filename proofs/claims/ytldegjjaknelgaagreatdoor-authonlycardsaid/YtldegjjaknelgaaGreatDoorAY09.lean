/-
  Whether a value is good, by a contract.
  A list that is put in order, one value after another.
  A value put in order, by a contract.
  Good and Encode, by contracts.
  What is good is good in order, and no longer.
  What was put in order is in order, stays as it is, and is read back.
  Bytes that are letters: what is encoded is so.
  A text that is written is of letters.
  What is encoded is of letters, is decoded, and is bytes.
  What is encoded is bytes; and Encode's answer is read by Decode.
  The document's letters, by contracts: Letter, and Bad given Rune.
  Chapter 1's examples, as the reader and the writer have them.
  awake, by a contract.
  How many of so many values are left, by a contract: what is small is nowhere too long.
-/
import Derived.Test.YtldegjjaknelgaaGreatDoorAY08
import Derived.Lib.SlBytesConst
set_option maxRecDepth 100000
set_option maxHeartbeats 16000000
namespace Go.Proofs.YtldegjjaknelgaaGreatDoor
open Go.RowKit
theorem goods_zero : Goods 0 := by
 intro w O j k i deep t pk pl nk ck nl cl hO hdeep hsz hj
 have h13 : deep = 13 := by omega
 clear hdeep
 subst h13
 have HG : Hid (goodJ 0 j = false) := by show _ = _; unfold goodJ; rfl
 clear hj hsz
 go_enter Tryz.func135, Tryz.ntmps135
 go_wp2
 go_ret
 exact ⟨ret_bool HG.out.symm, (Below.refl _ _).alloc (Nat.le_refl _) _⟩
theorem bare_eq (k i : Int) (t : ByteArray) (ks : List ByteArray) (l : List J) : bare (.mk k i t ks l) = bareB k i t ks.length l.length := by unfold bare bareB; rfl
theorem goods_succ {d : Nat} (V : Goods d) (hd : d + 1 ≤ 12) : Goods (d + 1) := by
 intro w O j k i deep t pk pl nk ck nl cl hO hdeep hsz hj
 have hd0 : 0 ≤ deep := by omega
 have hd1 : deep ≤ 12 := by omega
 have HD : Hid (deep + 1 = 13 - (d : Int)) := by show _ = _; omega
 clear hdeep
 cases j with
 | mk k' i' t' ks l =>
  unfold isJ at hj
  obtain ⟨pk', ck', pl', cl', e, hrk, hlc, hjs⟩ := hj
  cases e
  unfold szJ at hsz
  simp only [Bool.and_eq_true, decide_eq_true_eq] at hsz
  obtain ⟨ht, hkl, hkz, hll, hls⟩ := hsz
  have hkz' : ∀ x ∈ ks, x.size ≤ 1000000000 := fun x hx => of_decide_eq_true (List.all_eq_true.1 hkz x hx)
  have hbA : Below w.heap.size w (w.alloc (.cells #[.int .i64 k, .int .i64 i, .string t, .slice pk ks.length ck, .slice pl l.length cl] 25)) := (Below.refl _ _).alloc (Nat.le_refl _) _
  have bb := bare_any k i t pk pl ks.length ck l.length cl (w.alloc (.cells #[.int .i64 k, .int .i64 i, .string t, .slice pk ks.length ck, .slice pl l.length cl] 25))
  have HB : Hid (goodJ (d + 1) (.mk k i t ks l) = (bareB k i t ks.length l.length &&
   (if k = 0 then true else if k = 1 then decide (i = 0) || decide (i = 1) else if k = 2 then decide (-maxInt ≤ i) && decide (i ≤ maxInt) else if k = 3 then letters t else if k = 4 then l.all (goodJ d)
    else if k = 5 then decide (ks.length = l.length) && (ks.all letters && noKeyTwice ks) && l.all (goodJ d) else false))) := by show _ = _; rw [goodJ, bare_eq]
  have bk : ∀ w2 : World, Below (w.alloc (.cells #[.int .i64 k, .int .i64 i, .string t, .slice pk ks.length ck, .slice pl l.length cl] 25)).heap.size (w.alloc (.cells #[.int .i64 k, .int .i64 i, .string t, .slice pk ks.length ck, .slice pl l.length cl] 25)) w2 →
      w2.heap[w.heap.size]? = some (.cells #[.int .i64 k, .int .i64 i, .string t, .slice pk ks.length ck, .slice pl l.length cl] 25 (0, 0)) ∧ Below w.heap.size w w2 := fun w2 h2 =>
   ⟨by rw [h2.block w.heap.size (by simp)]; exact heap_alloc_new _ _, hbA.trans ⟨h2.os, h2.tape, h2.output, h2.size, fun x hx => h2.block x (by simp; omega)⟩⟩
  clear hkz
  cases hbr : bareB k i t ks.length l.length with
  | false =>
   have HG : Hid (goodJ (d + 1) (.mk k i t ks l) = false) := by show _ = _; rw [HB.out, hbr]; rfl
   rw [hbr] at bb
   go_enter Tryz.func135, Tryz.ntmps135
   go_wp2_with (first
    | (go_at_call 157; refine bb.mono ?_; rintro x w2 ⟨rfl, hb2⟩; obtain ⟨hv, hbw⟩ := bk w2 hb2; clear bk; have c0 := five_c0 hv; have c1 := five_c1 hv; have c2 := five_c2 hv; have c3 := five_c3 hv; have c4 := five_c4 hv))
   go_ret
   exact ⟨ret_bool HG.out.symm, hbw⟩
  | true =>
   rw [hbr] at bb HB
   simp only [Bool.true_and] at HB
   by_cases k0 : k = 0
   · subst k0
     have HG : Hid (goodJ (d + 1) (.mk 0 i t ks l) = true) := by show _ = _; rw [HB.out]; rfl
     go_enter Tryz.func135, Tryz.ntmps135
     go_wp2_with (first
      | (go_at_call 157; refine bb.mono ?_; rintro x w2 ⟨rfl, hb2⟩; obtain ⟨hv, hbw⟩ := bk w2 hb2; clear bk; have c0 := five_c0 hv; have c1 := five_c1 hv; have c2 := five_c2 hv; have c3 := five_c3 hv; have c4 := five_c4 hv))
     go_ret
     exact ⟨ret_bool HG.out.symm, hbw⟩
   rw [if_neg k0] at HB
   by_cases k1 : k = 1
   · subst k1
     rw [if_pos rfl] at HB
     by_cases i0 : i = 0
     · subst i0
       have HG : Hid (goodJ (d + 1) (.mk 1 0 t ks l) = true) := by show _ = _; rw [HB.out]; rfl
       go_enter Tryz.func135, Tryz.ntmps135
       go_wp2_with (first
        | (go_at_call 157; refine bb.mono ?_; rintro x w2 ⟨rfl, hb2⟩; obtain ⟨hv, hbw⟩ := bk w2 hb2; clear bk; have c0 := five_c0 hv; have c1 := five_c1 hv; have c2 := five_c2 hv; have c3 := five_c3 hv; have c4 := five_c4 hv))
       go_ret
       exact ⟨ret_bool HG.out.symm, hbw⟩
     · by_cases i1 : i = 1
       · subst i1
         have HG : Hid (goodJ (d + 1) (.mk 1 1 t ks l) = true) := by show _ = _; rw [HB.out]; rfl
         go_enter Tryz.func135, Tryz.ntmps135
         go_wp2_with (first
          | (go_at_call 157; refine bb.mono ?_; rintro x w2 ⟨rfl, hb2⟩; obtain ⟨hv, hbw⟩ := bk w2 hb2; clear bk; have c0 := five_c0 hv; have c1 := five_c1 hv; have c2 := five_c2 hv; have c3 := five_c3 hv; have c4 := five_c4 hv))
         go_ret
         exact ⟨ret_bool HG.out.symm, hbw⟩
       · skip
         have HG : Hid (goodJ (d + 1) (.mk 1 i t ks l) = false) := by show _ = _; rw [HB.out]; simp [i0, i1]
         go_enter Tryz.func135, Tryz.ntmps135
         go_wp2_with (first
          | (go_at_call 157; refine bb.mono ?_; rintro x w2 ⟨rfl, hb2⟩; obtain ⟨hv, hbw⟩ := bk w2 hb2; clear bk; have c0 := five_c0 hv; have c1 := five_c1 hv; have c2 := five_c2 hv; have c3 := five_c3 hv; have c4 := five_c4 hv))
         go_ret
         refine ⟨ret_bool ?_, hbw⟩
         rw [HG.out]
         first | rfl | simp [i0, i1]
   rw [if_neg k1] at HB
   by_cases k2 : k = 2
   · subst k2
     rw [if_pos rfl] at HB
     unfold maxInt at HB
     by_cases i0 : -9007199254740991 ≤ i
     · skip
       by_cases i1 : i ≤ 9007199254740991
       · skip
         have HG : Hid (goodJ (d + 1) (.mk 2 i t ks l) = true) := by show _ = _; rw [HB.out]; simp [i0, i1]
         go_enter Tryz.func135, Tryz.ntmps135
         go_wp2_with (first
          | (go_at_call 157; refine bb.mono ?_; rintro x w2 ⟨rfl, hb2⟩; obtain ⟨hv, hbw⟩ := bk w2 hb2; clear bk; have c0 := five_c0 hv; have c1 := five_c1 hv; have c2 := five_c2 hv; have c3 := five_c3 hv; have c4 := five_c4 hv))
         go_ret
         refine ⟨ret_bool ?_, hbw⟩
         first | exact HG.out.symm | (rw [HG.out]; simp [i0, i1])
       · skip
         have HG : Hid (goodJ (d + 1) (.mk 2 i t ks l) = false) := by show _ = _; rw [HB.out]; simp [i1]
         go_enter Tryz.func135, Tryz.ntmps135
         go_wp2_with (first
          | (go_at_call 157; refine bb.mono ?_; rintro x w2 ⟨rfl, hb2⟩; obtain ⟨hv, hbw⟩ := bk w2 hb2; clear bk; have c0 := five_c0 hv; have c1 := five_c1 hv; have c2 := five_c2 hv; have c3 := five_c3 hv; have c4 := five_c4 hv))
         go_ret
         refine ⟨ret_bool ?_, hbw⟩
         first | exact HG.out.symm | (rw [HG.out]; simp [i1])
     · skip
       have HG : Hid (goodJ (d + 1) (.mk 2 i t ks l) = false) := by show _ = _; rw [HB.out]; simp [i0]
       go_enter Tryz.func135, Tryz.ntmps135
       go_wp2_with (first
        | (go_at_call 157; refine bb.mono ?_; rintro x w2 ⟨rfl, hb2⟩; obtain ⟨hv, hbw⟩ := bk w2 hb2; clear bk; have c0 := five_c0 hv; have c1 := five_c1 hv; have c2 := five_c2 hv; have c3 := five_c3 hv; have c4 := five_c4 hv))
       go_ret
       refine ⟨ret_bool ?_, hbw⟩
       first | exact HG.out.symm | (rw [HG.out]; simp [i0])
   rw [if_neg k2] at HB
   by_cases k3 : k = 3
   · subst k3
     rw [if_pos rfl] at HB
     go_enter Tryz.func135, Tryz.ntmps135
     go_wp2_with (first
      | (go_at_call 157; refine bb.mono ?_; rintro x w2 ⟨rfl, hb2⟩; obtain ⟨hv, hbw⟩ := bk w2 hb2; clear bk; have c0 := five_c0 hv; have c1 := five_c1 hv; have c2 := five_c2 hv; have c3 := five_c3 hv; have c4 := five_c4 hv)
      | (go_at_call 158; refine (letters_any t w2 ht).mono ?_; rintro x w3 ⟨rfl, hb3⟩))
     go_ret
     exact ⟨ret_bool HB.out.symm, below_in hbw hb3⟩
   rw [if_neg k3] at HB
   by_cases k4 : k = 4
   · subst k4
     rw [if_pos rfl] at HB
     go_enter Tryz.func135, Tryz.ntmps135
     go_wp2_with (first
      | (go_at_call 157; refine bb.mono ?_; rintro x w2 ⟨rfl, hb2⟩; obtain ⟨hv, hbw⟩ := bk w2 hb2; clear bk; have c0 := five_c0 hv; have c1 := five_c1 hv; have c2 := five_c2 hv; have c3 := five_c3 hv; have c4 := five_c4 hv)
      | (go_at_call 159; refine (goodAll_any V (fun x hx => Nat.lt_of_lt_of_le (hO x hx) (hbw).size) HD.out hls (hjs.carry fun x hx => ⟨hx, (hbw).block x (hO x hx)⟩) hlc hll).mono ?_; rintro x w4 ⟨rfl, hb4⟩))
     go_ret
     exact ⟨ret_bool HB.out.symm, below_in hbw hb4⟩
   rw [if_neg k4] at HB
   by_cases k5 : k = 5
   · subst k5
     rw [if_pos rfl] at HB
     by_cases he : ks.length = l.length
     · have heI : ((ks.length : Int) == (l.length : Int)) = true := by simp [he]
       have HE : Hid (ks.length = l.length) := he
       clear he
       cases hgk : goodK ks with
       | true =>
        have HGK : Hid (goodK ks = true) := hgk
        have HG : Hid (goodJ (d + 1) (.mk 5 i t ks l) = l.all (goodJ d)) := by
         show _ = _
         rw [HB.out]
         unfold goodK at hgk
         rw [hgk, decide_eq_true HE.out]
         rfl
        clear hgk
        go_enter Tryz.func135, Tryz.ntmps135
        go_wp2_with (first
         | (go_at_call 157; refine bb.mono ?_; rintro x w2 ⟨rfl, hb2⟩; obtain ⟨hv, hbw⟩ := bk w2 hb2; clear bk; have c0 := five_c0 hv; have c1 := five_c1 hv; have c2 := five_c2 hv; have c3 := five_c3 hv; have c4 := five_c4 hv)
         | (go_at_call 160; refine (goodKeys_any (hrk.carry fun x hx => ⟨hx, hbw.block x (hO x hx)⟩) (fun x hx => Nat.lt_of_lt_of_le (hO x hx) hbw.size) hkl hkz').mono ?_; rw [HGK.out]; rintro x w3 ⟨rfl, hb3⟩; have hv3 := (hb3.block w.heap.size (Array.getElem?_eq_some_iff.1 hv).1).trans hv; have hbw3 := below_in hbw hb3; have c03 := five_c0 hv3; have c13 := five_c1 hv3; have c23 := five_c2 hv3; have c33 := five_c3 hv3; have c43 := five_c4 hv3)
         | (go_at_call 159; refine (goodAll_any V (fun x hx => Nat.lt_of_lt_of_le (hO x hx) (hbw3).size) HD.out hls (hjs.carry fun x hx => ⟨hx, (hbw3).block x (hO x hx)⟩) hlc hll).mono ?_; rintro x w4 ⟨rfl, hb4⟩))
        go_ret
        exact ⟨ret_bool HG.out.symm, below_in hbw3 hb4⟩
       | false =>
        have HGK : Hid (goodK ks = false) := hgk
        have HG : Hid (goodJ (d + 1) (.mk 5 i t ks l) = false) := by
         show _ = _
         rw [HB.out]
         unfold goodK at hgk
         rw [hgk, decide_eq_true HE.out]
         rfl
        clear hgk
        go_enter Tryz.func135, Tryz.ntmps135
        go_wp2_with (first
         | (go_at_call 157; refine bb.mono ?_; rintro x w2 ⟨rfl, hb2⟩; obtain ⟨hv, hbw⟩ := bk w2 hb2; clear bk; have c0 := five_c0 hv; have c1 := five_c1 hv; have c2 := five_c2 hv; have c3 := five_c3 hv; have c4 := five_c4 hv)
         | (go_at_call 160; refine (goodKeys_any (hrk.carry fun x hx => ⟨hx, hbw.block x (hO x hx)⟩) (fun x hx => Nat.lt_of_lt_of_le (hO x hx) hbw.size) hkl hkz').mono ?_; rw [HGK.out]; rintro x w3 ⟨rfl, hb3⟩; have hv3 := (hb3.block w.heap.size (Array.getElem?_eq_some_iff.1 hv).1).trans hv; have hbw3 := below_in hbw hb3; have c03 := five_c0 hv3; have c13 := five_c1 hv3; have c23 := five_c2 hv3; have c33 := five_c3 hv3; have c43 := five_c4 hv3))
        go_ret
        exact ⟨ret_bool HG.out.symm, hbw3⟩
     · have heI : ((ks.length : Int) == (l.length : Int)) = false := by simp; omega
       have HG : Hid (goodJ (d + 1) (.mk 5 i t ks l) = false) := by
        show _ = _
        rw [HB.out, decide_eq_false he]
        rfl
       clear he
       go_enter Tryz.func135, Tryz.ntmps135
       go_wp2_with (first
        | (go_at_call 157; refine bb.mono ?_; rintro x w2 ⟨rfl, hb2⟩; obtain ⟨hv, hbw⟩ := bk w2 hb2; clear bk; have c0 := five_c0 hv; have c1 := five_c1 hv; have c2 := five_c2 hv; have c3 := five_c3 hv; have c4 := five_c4 hv))
       go_ret
       exact ⟨ret_bool HG.out.symm, hbw⟩
   · rw [if_neg k5] at HB
     go_enter Tryz.func135, Tryz.ntmps135
     go_wp2_with (first
      | (go_at_call 157; refine bb.mono ?_; rintro x w2 ⟨rfl, hb2⟩; obtain ⟨hv, hbw⟩ := bk w2 hb2; clear bk; have c0 := five_c0 hv; have c1 := five_c1 hv; have c2 := five_c2 hv; have c3 := five_c3 hv; have c4 := five_c4 hv))
     go_ret
     exact ⟨ret_bool HB.out.symm, hbw⟩
theorem goods : ∀ d, d ≤ 12 → Goods d
 | 0, _ => goods_zero
 | d + 1, h => goods_succ (goods d (by omega)) h
def Elo (O : Nat → Prop) (B : Nat) (v : Value) (w : World) : Nat → Prop := fun k => O k ∨ (B ≤ k ∧ k < w.heap.size ∧ v.ownBlock ≠ some k)
structure AI (O : Nat → Prop) (B b : Nat) (WA : World) (cs5 : Array Value) (acc : List J) (vl : Value) (wr : World) : Prop where
 box : wr.heap[b]? = some (.cells cs5 25 (0, 0))
 res : wr.heap[b + 1]? = some (.cells #[.int .i64 0, .int .i64 0, .string ⟨#[]⟩, .slice none 0 0, .slice none 0 0] 25 (0, 0))
 vals : ∃ xs, wr.ownsRow B 25 5 vl acc.length xs ∧ isRow (Elo O B vl wr) wr acc xs
 below : Below B WA wr
 szA : WA.heap.size = B
 lt : b + 1 < B
 low : ∀ k, O k → k < b
section
variable {O : Nat → Prop} {B b : Nat} {WA W W4 W5 : World} {cs5 : Array Value} {acc : List J} {vl vl' : Value} {o1 o2 : Obj} {y : J} {cs xs : List Value}
theorem AI.size (h : AI O B b WA cs5 acc vl W) : B ≤ W.heap.size := by have := h.below.size; have := h.szA; omega
theorem AI.more (h : AI O B b WA cs5 acc vl W) (hb : Below W.heap.size W W4) : AI O B b WA cs5 acc vl W4 := by
 have hs := h.size
 have hlt := h.lt
 have hss := hb.size
 obtain ⟨xs, h1, h2⟩ := h.vals
 have kp : Keep (fun _ => False) W W4 := Keep.of_below hb
 refine ⟨(hb.block b (by omega)).trans h.box, (hb.block (b + 1) (by omega)).trans h.res, ⟨xs, own_keep h1 kp fun _ _ h => h, h2.carry fun k hk => ?_⟩, h.below.trans ⟨hb.os, hb.tape, hb.output, hb.size, fun k hk => hb.block k (by omega)⟩, h.szA, hlt, h.low⟩
 rcases hk with hk | hk
 · have := h.low k hk
   exact ⟨.inl hk, hb.block k (by omega)⟩
 · exact ⟨.inr ⟨hk.1, by have := hk.2.1; omega, hk.2.2⟩, hb.block k hk.2.1⟩
theorem AI.alloc (h : AI O B b WA cs5 acc vl W) (o : Obj) : AI O B b WA cs5 acc vl (W.alloc o) := h.more ((Below.refl _ _).alloc (Nat.le_refl _) o)
theorem AI.push (h : AI O B b WA cs5 acc vl W) (h1 : W.ownsRow B 25 5 vl acc.length xs) (h2 : isRow (Elo O B vl W) W acc xs) (hy : isJ (Elo O B vl W) W y cs)
    (hown : W5.ownsRow B 25 5 vl' (acc.length + 1) (xs ++ cs)) (hg : W.grownBy W5 vl.ownBlock) (hat : vl'.ownBlock = vl.ownBlock ∨ vl'.ownBlock = some W.heap.size) : AI O B b WA cs5 (acc ++ [y]) vl' W5 := by
 have hs := h.size
 have hlt := h.lt
 have hss := hg.size
 have hgv := own_ge h1
 have low : ∀ k, k < B → W5.heap[k]? = W.heap[k]? := fun k hk => hg.block k (by omega) fun e => by have := (hgv k e.symm).1; omega
 have carry : ∀ k, Elo O B vl W k → Elo O B vl' W5 k ∧ W5.heap[k]? = W.heap[k]? := by
  intro k hk
  rcases hk with hk | hk
  · have := h.low k hk
    exact ⟨.inl hk, low k (by omega)⟩
  · refine ⟨.inr ⟨hk.1, by have := hk.2.1; omega, fun e => ?_⟩, hg.block k hk.2.1 fun e => hk.2.2 e.symm⟩
    rcases hat with h' | h'
    · exact hk.2.2 (h' ▸ e)
    · rw [h'] at e
      have := Option.some.inj e
      have := hk.2.1
      omega
 exact ⟨(low b (by omega)).trans h.box, (low (b + 1) (by omega)).trans h.res, ⟨xs ++ cs, by rw [List.length_append]; exact hown, isRow.snoc hy.five (hy.carry carry) acc xs (h2.carry carry)⟩, h.below.trans ⟨hg.os, hg.tape, hg.output, hg.size, low⟩, h.szA, hlt, h.low⟩
theorem AI.new (h : AI O B b WA cs5 acc vl W) (hb : Below W.heap.size W W4) (hy : isJ (fun k => O k ∨ New W W4 k) W4 y cs) (o : Obj) : isJ (Elo O B vl (W4.alloc o)) (W4.alloc o) y cs := by
 have hs := h.size
 have hss := hb.size
 obtain ⟨xs, h1, _⟩ := h.vals
 refine hy.carry fun k hk => ?_
 rcases hk with hk | hk
 · have := h.low k hk
   have := h.lt
   exact ⟨.inl hk, Below.heap_alloc _ _ _ (by omega)⟩
 · have e1 := hk.1
   have e2 := hk.2
   exact ⟨.inr ⟨by omega, by simp; omega, fun e => by have := (own_ge h1 k e).2; omega⟩, Below.heap_alloc _ _ _ e2⟩
end
theorem ordL_length : ∀ l : List J, (ordL l).length = l.length
 | [] => by simp [ordL]
 | j :: r => by simp [ordL, ordL_length r]
theorem ordL_snoc (j : J) : ∀ l : List J, ordL (l ++ [j]) = ordL l ++ [ord j]
 | [] => by simp [ordL]
 | i :: r => by simp [ordL, ordL_snoc j r]
def Arrs (d : Nat) : Prop := ∀ (w : World) (O : Nat → Prop) (j : J) (k i : Int) (t : ByteArray) (pk pl : Option Addr) (nk ck nl cl : Nat), (∀ x, O x → x < w.heap.size) → goodJ d j = true → szJ d j = true →
 isJ O w j [.int .i64 k, .int .i64 i, .string t, .slice pk nk ck, .slice pl nl cl] →
 Calls Tryz.prog 112 #[.agg #[.int .i64 k, .int .i64 i, .string t, .slice pk nk ck, .slice pl nl cl]] w fun x w' => ∃ k i t pk nk ck pl nl cl, x = .returned (.agg #[.int .i64 k, .int .i64 i, .string t, .slice pk nk ck, .slice pl nl cl]) ∧
  isJ (fun x => O x ∨ New w w' x) w' (ord j) [.int .i64 k, .int .i64 i, .string t, .slice pk nk ck, .slice pl nl cl] ∧ Below w.heap.size w w'
theorem arrs_zero : Arrs 0 := by
 intro w O j k i t pk pl nk ck nl cl hO hg
 unfold goodJ at hg
 cases hg
theorem good_sub {d : Nat} {k i : Int} {t : ByteArray} {ks : List ByteArray} {l : List J} (h : goodJ (d + 1) (.mk k i t ks l) = true) : l.all (goodJ d) = true ∧ (k = 5 → ks.length = l.length ∧ ks.Pairwise (· ≠ ·)) ∧ (k ≠ 5 → ks = []) := by
 rw [goodJ, Bool.and_eq_true] at h
 obtain ⟨hb, h⟩ := h
 unfold bare at hb
 simp only [Bool.and_eq_true, Bool.or_eq_true, decide_eq_true_eq] at hb
 obtain ⟨⟨⟨_, _⟩, hk⟩, hl⟩ := hb
 refine ⟨?_, fun e => ?_, fun e => ?_⟩
 · by_cases k4 : k = 4
   · subst k4; simpa using h
   · by_cases k5 : k = 5
     · subst k5
       simp at h
       rw [List.all_eq_true]
       exact h.2
     · have : l = [] := List.eq_nil_of_length_eq_zero (by omega)
       subst this; rfl
 · subst e
   rw [if_neg (by decide), if_neg (by decide), if_neg (by decide), if_neg (by decide), if_neg (by decide), if_pos rfl] at h
   simp only [Bool.and_eq_true, decide_eq_true_eq] at h
   exact ⟨h.1.1, noTwice_pair h.1.2.2⟩
 · exact List.eq_nil_of_length_eq_zero (by omega)
theorem ai_start {O : Nat → Prop} {w : World} (hO : ∀ x, O x → x < w.heap.size) (cs5 : Array Value) : AI O (w.heap.size + 2) w.heap.size ((w.alloc (.cells cs5 25)).alloc zJ) cs5 [] (.slice none 0 0) ((w.alloc (.cells cs5 25)).alloc zJ) := by
 refine ⟨?_, ?_, ⟨[], World.ownsRow_nil _ _ _ _, rfl⟩, Below.refl _ _, by simp, by omega, hO⟩
 · rw [Below.heap_alloc _ _ _ (by simp)]; exact heap_alloc_new _ _
 · have := heap_alloc_new (w.alloc (.cells cs5 25)) zJ
   rw [show (w.alloc (.cells cs5 25)).heap.size = w.heap.size + 1 by simp] at this
   exact this
theorem ai_below {O : Nat → Prop} {w wr : World} {cs5 : Array Value} {acc : List J} {vl : Value} (h : AI O (w.heap.size + 2) w.heap.size ((w.alloc (.cells cs5 25)).alloc zJ) cs5 acc vl wr) : Below w.heap.size w wr := by
 have h1 : Below w.heap.size w ((w.alloc (.cells cs5 25)).alloc zJ) := ((Below.refl _ _).alloc (Nat.le_refl _) _).alloc (by simp) _
 have h2 := h.below
 exact h1.trans ⟨h2.os, h2.tape, h2.output, h2.size, fun k hk => h2.block k (by omega)⟩
theorem arr_below {w wr W5 : World} (h : Below w.heap.size w wr) (HK5 : Keep (One (w.heap.size + 1)) wr W5) : Below w.heap.size w W5 :=
 h.trans (HK5.below h.size fun k hk => by unfold One; omega)
theorem arr_fin {w wr W5 : World} {O : Nat → Prop} {j : J} {cs : List Value} (HK5 : Keep (One (w.heap.size + 1)) wr W5) (hj : isJ (fun x => O x ∨ (w.heap.size + 2 ≤ x ∧ x < wr.heap.size)) wr j cs) (hO : ∀ x, O x → x < w.heap.size) (hs : w.heap.size + 2 ≤ wr.heap.size) : isJ (fun x => O x ∨ New w W5 x) W5 j cs := by
 have hss := HK5.size
 refine hj.carry fun k hk => ?_
 rcases hk with hk | hk
 · have := hO k hk
   exact ⟨.inl hk, HK5.block k (by omega) (by unfold One; omega)⟩
 · exact ⟨.inr ⟨by have := hk.1; omega, by have := hk.2; omega⟩, HK5.block k hk.2 (by unfold One; have := hk.1; omega)⟩
theorem arrs_succ {d : Nat} (V : Arrs d) : Arrs (d + 1) := by
 intro w O j k i t pk pl nk ck nl cl hO hg hsz hj
 cases j with
 | mk k' i' t' ks l =>
  unfold isJ at hj
  obtain ⟨pk', ck', pl', cl', e, hrk, hlc, hjs⟩ := hj
  cases e
  unfold szJ at hsz
  simp only [Bool.and_eq_true, decide_eq_true_eq] at hsz
  obtain ⟨ht, hkl, hkz, hll, hls⟩ := hsz
  obtain ⟨hgl, hg5, hgn⟩ := good_sub hg
  have HG5 : Hid (k = 5 → ks.length = l.length ∧ ks.Pairwise (· ≠ ·)) := hg5
  have HGN : Hid (k ≠ 5 → ks = []) := hgn
  clear hg5 hgn hg hkz
  obtain ⟨n, hn⟩ : ∃ n, l.length = n := ⟨_, rfl⟩
  have HN : Hid (l.length = n) := hn
  obtain ⟨m, hm⟩ : ∃ m, ks.length = m := ⟨_, rfl⟩
  have HM : Hid (ks.length = m) := hm
  rw [hn, hm]
  rw [hn] at hll hlc
  rw [hm] at hkl
  have hai0 := ai_start hO #[.int .i64 k, .int .i64 i, .string t, .slice pk m ck, .slice pl n cl]
  clear hn hm
  go_enter Tryz.func112, Tryz.ntmps112
  go_wp2
  go_loopw [3, 9] (fun vl iv wr => ∃ q : Nat, iv = .int .i64 q ∧ q ≤ n ∧ AI O (w.heap.size + 2) w.heap.size ((w.alloc (.cells #[.int .i64 k, .int .i64 i, .string t, .slice pk m ck, .slice pl n cl] 25)).alloc zJ) #[.int .i64 k, .int .i64 i, .string t, .slice pk m ck, .slice pl n cl] (ordL (l.take q)) vl wr) (fun _ iv _ => n - (intOf iv).toNat)
  case atStart => exact ⟨0, rfl, Nat.zero_le _, by rw [List.take_zero]; exact hai0⟩
  case round =>
   clear hai0
   obtain ⟨q, rfl, hq, hai⟩ := hrel
   obtain ⟨xs0, hE0, _⟩ := hai.vals
   obtain ⟨sl1, sl2, sl3, rfl⟩ := own_slice hE0
   clear hE0
   have c0 := five_c0 hai.box; have c1 := five_c1 hai.box; have c2 := five_c2 hai.box; have c3 := five_c3 hai.box; have c4 := five_c4 hai.box
   have hbw := ai_below hai
   by_cases hql : q < n
   · have hql' : q < l.length := by rw [HN.out]; exact hql
     have HQL : Hid (q < l.length) := hql'
     obtain ⟨lb, lo, cs, hpl, hOb, hcells, hyj⟩ := isJs.at l 0 q hjs hql'
     subst hpl
     obtain ⟨kv, iv, tv, pv, nv, cv, qv, mv, dv, rfl⟩ := isJ_shape hyj
     have hblk := hbw.block lb (hO lb hOb)
     have cc : ∀ m v, [Value.int .i64 kv, .int .i64 iv, .string tv, .slice pv nv cv, .slice qv mv dv][m]? = some v → wr.cell? ⟨lb, lo + q * 5 + m, none⟩ = some v := fun m v h => by
      have := hcells m v h
      rw [Nat.zero_add] at this
      exact (World.cell?_of_block (a := ⟨lb, lo + q * 5 + m, none⟩) hblk).trans this
     have y0 : wr.cell? ⟨lb, lo + q * 5, none⟩ = some (.int .i64 kv) := cc 0 _ rfl
     have y1 := cc 1 _ rfl
     have y2 := cc 2 _ rfl
     have y3 := cc 3 _ rfl
     have y4 := cc 4 _ rfl
     clear cc hcells hql'
     have hqc : (q : Int) < (n : Int) := by omega
     have hai1 := hai.alloc (.cells #[.int .i64 kv, .int .i64 iv, .string tv, .slice pv nv cv, .slice qv mv dv] 25)
     have hb1 := ai_below hai1
     have hV := V (wr.alloc (.cells #[.int .i64 kv, .int .i64 iv, .string tv, .slice pv nv cv, .slice qv mv dv] 25)) O (l.getD q J.zero) kv iv tv pv qv nv cv mv dv (fun x hx => Nat.lt_of_lt_of_le (hO x hx) hb1.size) (all_at hgl HQL.out) (all_at hls HQL.out) (hyj.carry fun x hx => ⟨hx, hb1.block x (hO x hx)⟩)
     go_wp2_with (first
      | (go_at_call 112; refine hV.mono ?_; rintro x w4 ⟨kr, ir, tr, pr, nr, cr, qr, mr, dr, rfl, hjr, hb4⟩
         have hy := hai1.new hb4 hjr (.cells #[.int .i64 kr, .int .i64 ir, .string tr, .slice pr nr cr, .slice qr mr dr] 25)
         have hai4 := (hai1.more hb4).alloc (.cells #[.int .i64 kr, .int .i64 ir, .string tr, .slice pr nr cr, .slice qr mr dr] 25)
         obtain ⟨xs, hv1, hv2⟩ := hai4.vals)
      | (at_builtin; refine wpList_app rfl _ _ 23 rfl (w.heap.size + 2) 25 (.agg #[.int .i64 0, .int .i64 0, .string ⟨#[]⟩, .slice none 0 0, .slice none 0 0]) 5 80 Tryz.underlying23 Tryz.info25 rfl (by decide) (by decide) (.slice sl1 sl2 sl3) (ordL (l.take q)).length xs rfl hv1 _ [.int .i64 kr, .int .i64 ir, .string tr, .slice pr nr cr, .slice qr mr dr] rfl rfl (cells_at5 rfl) one5 (by rw [ordL_length, List.length_take]; omega) hai4.size ?_
         intro vl2 W5 hown5 hg5 hat5
         obtain ⟨q5, n5, c5, hE5⟩ := own_slice hown5
         subst hE5
         have hai5 := hai4.push hv1 hv2 hy hown5 hg5 hat5
         clear hown5 hg5 hat5))
     go_roundw
     case rel => exact ⟨q + 1, by go_num, hql, by rw [take_snoc HQL.out, ordL_snoc]; exact hai5⟩
     case measure => simp [intOf]; omega
   · obtain rfl : q = n := by omega
     have hlt : l.take q = l := List.take_of_length_le (by rw [HN.out]; omega)
     rw [hlt] at hai
     clear hlt
     obtain ⟨xs, hv1, hv2⟩ := hai.vals
     obtain ⟨q2, c2', hvl, hc2, hrj⟩ := own_js hv1 hv2
     have hrj' : isJs (fun x => O x ∨ (w.heap.size + 2 ≤ x ∧ x < wr.heap.size)) wr q2 0 (ordL l) := hrj.carry fun x hx => ⟨by
      rcases hx with (hx | hx) | hx
      · exact .inl hx
      · exact .inr ⟨hx.1, hx.2.1⟩
      · exact .inr hx, rfl⟩
     have HRJ : Hid (isJs (fun x => O x ∨ (w.heap.size + 2 ≤ x ∧ x < wr.heap.size)) wr q2 0 (ordL l)) := hrj'
     have HC2 : Hid ((ordL l).length ≤ c2') := hc2
     have HOL : Hid ((ordL l).length = q) := (ordL_length l).trans HN.out
     rw [HOL.out] at hvl
     cases hvl
     have hrkR : RdK (fun x => O x ∨ (w.heap.size + 2 ≤ x ∧ x < wr.heap.size)) wr pk ck ks := hrk.carry fun x hx => ⟨.inl hx, hbw.block x (hO x hx)⟩
     have HRK : Hid (RdK (fun x => O x ∨ (w.heap.size + 2 ≤ x ∧ x < wr.heap.size)) wr pk ck ks) := hrkR
     have hOw : ∀ x, (O x ∨ (w.heap.size + 2 ≤ x ∧ x < wr.heap.size)) → x < wr.heap.size := fun x hx => by
      rcases hx with hx | hx
      · have := hO x hx; have := hbw.size; omega
      · exact hx.2
     have i0 := five_c0 hai.res; have i1 := five_c1 hai.res; have i2 := five_c2 hai.res; have i3 := five_c3 hai.res; have i4 := five_c4 hai.res
     have z0 := five_fz hai.res 0; have z1 := five_fz hai.res 1; have z2 := five_fz hai.res 2; have z3 := five_fz hai.res 3; have z4 := five_fz hai.res 4
     have hsR := hai.size
     clear hrj hrj' hrkR hc2 hv1 hv2 hrk hjs
     by_cases k5 : k = 5
     · subst k5
       obtain ⟨hkn, hdist⟩ := HG5.out rfl
       have hmo := mapOf_any (cl := sl3) HRK.out HRJ.out (by rw [HOL.out, ← HN.out]; exact hkn) hOw (by rw [HM.out]; exact hkl) hdist
       rw [HM.out, HOL.out] at hmo
       clear hkn hdist
       go_wp2_with (first
       | (go_at_call 142; refine hmo.mono ?_; rintro x w8 ⟨csr, rfl, hjr, hb8⟩
          obtain ⟨kr, ir, tr, pr, nr, cr, qr, mr, dr, hcs⟩ := isJ_shape hjr
          obtain rfl : csr = #[.int .i64 kr, .int .i64 ir, .string tr, .slice pr nr cr, .slice qr mr dr] := by rw [← Array.toList_inj]; exact hcs
          have hres8 := (hb8.block _ (Array.getElem?_eq_some_iff.1 hai.res).1).trans hai.res
          have j0 := five_c0 hres8; have j1 := five_c1 hres8; have j2 := five_c2 hres8; have j3 := five_c3 hres8; have j4 := five_c4 hres8
          have x0 := five_fz hres8 0; have x1 := five_fz hres8 1; have x2 := five_fz hres8 2; have x3 := five_fz hres8 3; have x4 := five_fz hres8 4))
       have h5 := set5_heap hres8 (.int .i64 kr) (.int .i64 ir) (.string tr) (.slice pr nr cr) (.slice qr mr dr)
       have HK5 : Keep (One (w.heap.size + 1)) w8 _ := set5_keep w8 (w.heap.size + 1) (.int .i64 kr) (.int .i64 ir) (.string tr) (.slice pr nr cr) (.slice qr mr dr)
       unfold set5 at h5 HK5
       have k0 := five_c0 h5; have k1 := five_c1 h5; have k2 := five_c2 h5; have k3 := five_c3 h5; have k4 := five_c4 h5
       refine bodyPost_ret (v := .agg #[.int .i64 kr, .int .i64 ir, .string tr, .slice pr nr cr, .slice qr mr dr]) (by simp [results, Tryz.results112, go_sem, k0, k1, k2, k3, k4]) rfl ?_
       have hbE := arr_below (below_in hbw hb8) HK5
       refine ⟨_, _, _, _, _, _, _, _, _, rfl, ?_, hbE⟩
       have e : ord (.mk 5 i t ks l) = mapOf ks (ordL l) := by rw [ord, if_pos rfl]
       rw [e]
       exact arr_fin HK5 (hjr.carry fun x hx => ⟨by
        rcases hx with (hx | hx) | hx
        · exact .inl hx
        · exact .inr ⟨hx.1, by have := hb8.size; have := hx.2; omega⟩
        · exact .inr ⟨by have := hx.1; omega, hx.2⟩, rfl⟩) (fun x hx => hO x hx) (by have := hb8.size; omega)
     · have HE : Hid (ord (.mk k i t ks l) = .mk k i t [] (ordL l)) := by show _ = _; rw [ord, if_neg k5]
       go_wp2
       have h5 := set5_heap hai.res (.int .i64 k) (.int .i64 i) (.string t) (.slice none 0 0) (.slice sl1 q sl3)
       have HK5 : Keep (One (w.heap.size + 1)) wr _ := set5_keep wr (w.heap.size + 1) (.int .i64 k) (.int .i64 i) (.string t) (.slice none 0 0) (.slice sl1 q sl3)
       unfold set5 at h5 HK5
       have k0 := five_c0 h5; have k1 := five_c1 h5; have k2 := five_c2 h5; have k3 := five_c3 h5; have k4 := five_c4 h5
       refine bodyPost_ret (v := .agg #[.int .i64 k, .int .i64 i, .string t, .slice none 0 0, .slice sl1 q sl3]) (by simp [results, Tryz.results112, go_sem, k0, k1, k2, k3, k4]) rfl ?_
       have hbE := arr_below hbw HK5
       refine ⟨_, _, _, _, _, _, _, _, _, rfl, ?_, hbE⟩
       rw [HE.out]
       refine arr_fin HK5 (cs := _) ?_ (fun x hx => hO x hx) hsR
       unfold isJ
       exact ⟨none, 0, sl1, sl3, by rw [HOL.out]; rfl, RdK.nil _ _, HC2.out, HRJ.out⟩
theorem arrs : ∀ d, Arrs d
 | 0 => arrs_zero
 | d + 1 => arrs_succ (arrs d)
theorem box_stays {w w2 : World} {cs : Array Value} {t : TypeId} (h : Below (w.alloc (.cells cs t)).heap.size (w.alloc (.cells cs t)) w2) : w2.heap[w.heap.size]? = some (.cells cs t (0, 0)) ∧ Below w.heap.size w w2 :=
 ⟨by rw [h.block w.heap.size (by simp)]; exact heap_alloc_new _ _, below_in ((Below.refl _ _).alloc (Nat.le_refl _) _) h⟩
theorem good_any {w : World} {O : Nat → Prop} {j : J} {k i : Int} {t : ByteArray} {pk pl : Option Addr} {nk ck nl cl : Nat} (hO : ∀ x, O x → x < w.heap.size) (hsz : szJ 12 j = true)
    (hj : isJ O w j [.int .i64 k, .int .i64 i, .string t, .slice pk nk ck, .slice pl nl cl]) :
    Calls Tryz.prog 110 #[.agg #[.int .i64 k, .int .i64 i, .string t, .slice pk nk ck, .slice pl nl cl]] w fun x w' => x = .returned (.bool (goodJ 12 j)) ∧ Below w.heap.size w w' := by
 have hG := goods 12 (Nat.le_refl _) (w.alloc (.cells #[.int .i64 k, .int .i64 i, .string t, .slice pk nk ck, .slice pl nl cl] 25)) O j k i 1 t pk pl nk ck nl cl (fun x hx => by have := hO x hx; simp; omega) rfl hsz
  (hj.carry fun x hx => ⟨hx, Below.heap_alloc _ _ _ (hO x hx)⟩)
 go_enter Tryz.func110, Tryz.ntmps110
 go_wp2_with (go_at_call 135; refine hG.mono ?_; rintro x w2 ⟨rfl, hb2⟩)
 go_ret
 exact ⟨rfl, (box_stays hb2).2⟩
def encTold (w w' : World) (j : J) (x : Ending) : Prop :=
 (goodJ 12 j = false → x = .returned (.tuple #[.slice none 0 0, .int .i64 1])) ∧
 (goodJ 12 j = true → 16384 < (enc' (ord j)).length → x = .returned (.tuple #[.slice none 0 0, .int .i64 13])) ∧
 (goodJ 12 j = true → (enc' (ord j)).length ≤ 16384 → ∃ v, x = .returned (.tuple #[v, .int .i64 0]) ∧ w'.ownsRow w.heap.size 5 1 v (enc' (ord j)).length ((enc' (ord j)).map (Value.int .u8))) ∧ Below w.heap.size w w'
theorem own_lower {w : World} {B B' e size n : Nat} {v : Value} {xs : List Value} (h : w.ownsRow B e size v n xs) (hB : B' ≤ B) : w.ownsRow B' e size v n xs := by
 refine ⟨h.1, ?_⟩
 rcases h.2 with hn | ⟨g, cap, cur, rfl, hg, rest⟩
 · exact .inl hn
 · exact .inr ⟨g, cap, cur, rfl, by omega, rest⟩
theorem encode_any {w : World} {O : Nat → Prop} {j : J} {k i : Int} {t : ByteArray} {pk pl : Option Addr} {nk ck nl cl : Nat} (hO : ∀ x, O x → x < w.heap.size) (hsz : szJ 12 j = true) (hT : Tab w.heap.size w) (hfit : goodJ 12 j = true → fitJ 12 (ord j) = true)
    (hj : isJ O w j [.int .i64 k, .int .i64 i, .string t, .slice pk nk ck, .slice pl nl cl]) :
    Calls Tryz.prog 78 #[.agg #[.int .i64 k, .int .i64 i, .string t, .slice pk nk ck, .slice pl nl cl]] w fun x w' => encTold w w' j x := by
 have hG := good_any (w := w.alloc (.cells #[.int .i64 k, .int .i64 i, .string t, .slice pk nk ck, .slice pl nl cl] 25)) (O := O) (fun x hx => by have := hO x hx; simp; omega) hsz (hj.carry fun x hx => ⟨hx, Below.heap_alloc _ _ _ (hO x hx)⟩)
 cases hg : goodJ 12 j with
 | false =>
  rw [hg] at hG
  go_enter Tryz.func78, Tryz.ntmps78
  go_wp2_with (go_at_call 110; refine hG.mono ?_; rintro x w2 ⟨rfl, hb2⟩)
  go_ret2
  refine ⟨fun _ => rfl, fun h => ?_, fun h => ?_, (box_stays hb2).2⟩
  · rw [hg] at h; cases h
  · rw [hg] at h; cases h
 | true =>
  have HF : Hid (fitJ 12 (ord j) = true) := hfit hg
  have HGG : Hid (goodJ 12 j = true) := hg
  rw [hg] at hG
  clear hfit hg
  by_cases hlong : 16384 < (enc' (ord j)).length
  · have HLG : Hid (16384 < (enc' (ord j)).length) := hlong
    clear hlong
    go_enter Tryz.func78, Tryz.ntmps78
    go_wp2_with (first
     | (go_at_call 110; refine hG.mono ?_; rintro x w2 ⟨rfl, hb2⟩
        obtain ⟨hv, hbw⟩ := box_stays hb2
        have hbK : Below w.heap.size w (w2.alloc (.cells #[.slice none 0 0] 127)) := hbw.alloc hbw.size _
        have hv3 : (w2.alloc (.cells #[.slice none 0 0] 127)).heap[w.heap.size]? = some (.cells #[.int .i64 k, .int .i64 i, .string t, .slice pk nk ck, .slice pl nl cl] 25 (0, 0)) := by
         rw [Below.heap_alloc _ _ _ (Array.getElem?_eq_some_iff.1 hv).1]; exact hv
        have c0 := five_c0 hv3; have c1 := five_c1 hv3; have c2 := five_c2 hv3; have c3 := five_c3 hv3; have c4 := five_c4 hv3
        have hA := arrs 12 (w2.alloc (.cells #[.slice none 0 0] 127)) O j k i t pk pl nk ck nl cl (fun x hx => Nat.lt_of_lt_of_le (hO x hx) hbK.size) HGG.out hsz (hj.carry fun x hx => ⟨hx, hbK.block x (hO x hx)⟩))
     | (go_at_call 112; refine hA.mono ?_; rintro x w4 ⟨kr, ir, tr, pr, nr, cr, qr, mr, dr, rfl, hjr, hb4⟩
        have hK4 : w4.heap[w2.heap.size]? = some (.cells #[.slice none 0 0] 127 (0, 0)) := by rw [hb4.block _ (by simp)]; exact heap_alloc_new _ _
        have hbw4 := below_in hbK hb4
        have hs4 := hb4.size
        have hw4 : Wtr w4 w4.heap.size w2.heap.size [] := ⟨⟨_, hK4, World.ownsRow_nil _ _ _ _⟩, by simp at hs4; omega, Nat.le_refl _⟩
        have hT4 : Tab w2.heap.size w4 := fun w' h' => hT w' (hbw4.trans ⟨h'.os, h'.tape, h'.output, h'.size, fun x hx => h'.block x (by have := hbw.size; omega)⟩)
        have hW := writes 12 w4 w4.heap.size w2.heap.size [] (fun x => O x ∨ New (w2.alloc (.cells #[.slice none 0 0] 127)) w4 x) (ord j) kr ir tr pr qr nr cr mr dr hw4 (by simp) (fun x hx => by
         rcases hx with hx | hx
         · have := hO x hx; have := hbw.size; have := hbw4.size
           exact ⟨by simp at hs4; omega, by omega⟩
         · have e1 := hx.1; have e2 := hx.2
           simp at e1
           exact ⟨e2, by omega⟩) hT4 HF.out hjr)
     | (go_at_call 111; refine hW.mono ?_; rintro x w5 ⟨rfl, ⟨out, hput, hol, hw5⟩, hn5⟩
        have hlg := long_any hw5
        have hb5 := hn5.below (K := w2.heap.size) (by simp at hs4; omega) (by simp at hs4; omega)
        have hbw5 : Below w.heap.size w w5 := hbw4.trans ⟨hb5.os, hb5.tape, hb5.output, hb5.size, fun x hx => hb5.block x (by have := hbw.size; omega)⟩
        have hol2 : 16384 < out.length := by
         have hlo := HLG.out
         rcases hput with ⟨h1, _⟩ | ⟨_, h2⟩
         · rw [List.nil_append] at h1; omega
         · exact h2
        rw [decide_eq_true hol2] at hlg)
     | (go_at_call 113; refine hlg.mono ?_; rintro x w' ⟨rfl, rfl⟩))
    go_ret2
    refine ⟨fun h => ?_, fun _ _ => rfl, fun _ h => ?_, hbw5⟩
    · rw [HGG.out] at h; cases h
    · have := HLG.out; omega
  · have HLG : Hid ((enc' (ord j)).length ≤ 16384) := by show _ ≤ _; omega
    clear hlong
    go_enter Tryz.func78, Tryz.ntmps78
    go_wp2_with (first
     | (go_at_call 110; refine hG.mono ?_; rintro x w2 ⟨rfl, hb2⟩
        obtain ⟨hv, hbw⟩ := box_stays hb2
        have hbK : Below w.heap.size w (w2.alloc (.cells #[.slice none 0 0] 127)) := hbw.alloc hbw.size _
        have hv3 : (w2.alloc (.cells #[.slice none 0 0] 127)).heap[w.heap.size]? = some (.cells #[.int .i64 k, .int .i64 i, .string t, .slice pk nk ck, .slice pl nl cl] 25 (0, 0)) := by
         rw [Below.heap_alloc _ _ _ (Array.getElem?_eq_some_iff.1 hv).1]; exact hv
        have c0 := five_c0 hv3; have c1 := five_c1 hv3; have c2 := five_c2 hv3; have c3 := five_c3 hv3; have c4 := five_c4 hv3
        have hA := arrs 12 (w2.alloc (.cells #[.slice none 0 0] 127)) O j k i t pk pl nk ck nl cl (fun x hx => Nat.lt_of_lt_of_le (hO x hx) hbK.size) HGG.out hsz (hj.carry fun x hx => ⟨hx, hbK.block x (hO x hx)⟩))
     | (go_at_call 112; refine hA.mono ?_; rintro x w4 ⟨kr, ir, tr, pr, nr, cr, qr, mr, dr, rfl, hjr, hb4⟩
        have hK4 : w4.heap[w2.heap.size]? = some (.cells #[.slice none 0 0] 127 (0, 0)) := by rw [hb4.block _ (by simp)]; exact heap_alloc_new _ _
        have hbw4 := below_in hbK hb4
        have hs4 := hb4.size
        have hw4 : Wtr w4 w4.heap.size w2.heap.size [] := ⟨⟨_, hK4, World.ownsRow_nil _ _ _ _⟩, by simp at hs4; omega, Nat.le_refl _⟩
        have hT4 : Tab w2.heap.size w4 := fun w' h' => hT w' (hbw4.trans ⟨h'.os, h'.tape, h'.output, h'.size, fun x hx => h'.block x (by have := hbw.size; omega)⟩)
        have hW := writes 12 w4 w4.heap.size w2.heap.size [] (fun x => O x ∨ New (w2.alloc (.cells #[.slice none 0 0] 127)) w4 x) (ord j) kr ir tr pr qr nr cr mr dr hw4 (by simp) (fun x hx => by
         rcases hx with hx | hx
         · have := hO x hx; have := hbw.size; have := hbw4.size
           exact ⟨by simp at hs4; omega, by omega⟩
         · have e1 := hx.1; have e2 := hx.2
           simp at e1
           exact ⟨e2, by omega⟩) hT4 HF.out hjr)
     | (go_at_call 111; refine hW.mono ?_; rintro x w5 ⟨rfl, ⟨out, hput, hol, hw5⟩, hn5⟩
        have hlg := long_any hw5
        have hb5 := hn5.below (K := w2.heap.size) (by simp at hs4; omega) (by simp at hs4; omega)
        have hbw5 : Below w.heap.size w w5 := hbw4.trans ⟨hb5.os, hb5.tape, hb5.output, hb5.size, fun x hx => hb5.block x (by have := hbw.size; omega)⟩
        have hout : out = enc' (ord j) := by
         have hlo := HLG.out
         rcases hput with ⟨_, h2⟩ | ⟨h1, _⟩
         · rw [List.nil_append] at h2; exact h2
         · rw [List.nil_append] at h1; omega
        have HOUT : Hid (out = enc' (ord j)) := hout
        have hol2 : ¬ 16384 < out.length := by rw [hout]; have := HLG.out; omega
        clear hout
        rw [decide_eq_false hol2] at hlg
        obtain ⟨v5, h51, h52⟩ := hw5.row
        have d0 := one_c0 h51
        obtain ⟨q5, n5, c5, hE5⟩ := own_slice h52
        subst hE5)
     | (go_at_call 113; refine hlg.mono ?_; rintro x w' ⟨rfl, rfl⟩))
    go_ret2
    refine ⟨fun h => ?_, fun _ h => ?_, fun _ _ => ⟨_, rfl, ?_⟩, hbw5⟩
    · rw [HGG.out] at h; cases h
    · have := HLG.out; omega
    · rw [HOUT.out] at h52
      exact own_lower h52 (by have := hbw4.size; omega)
theorem mem_ordL {x : J} : ∀ {l : List J}, x ∈ ordL l → ∃ y ∈ l, x = ord y
 | [], h => by simp [ordL] at h
 | j :: r, h => by
  rw [ordL] at h
  rcases List.mem_cons.1 h with rfl | h
  · exact ⟨j, List.mem_cons_self .., rfl⟩
  · obtain ⟨y, hy, e⟩ := mem_ordL h
    exact ⟨y, List.mem_cons_of_mem _ hy, e⟩
section
variable {ks : List ByteArray} {l : List J}
theorem sorted_keys (hl : ks.length = l.length) : ((sortK (ks.zip l)).map (·.1)).Perm ks := by
 have := (sortK_perm (ks.zip l)).map (·.1)
 rw [List.map_fst_zip (by omega)] at this
 exact this
theorem sorted_vals (hl : ks.length = l.length) : ((sortK (ks.zip l)).map (·.2)).Perm l := by
 have := (sortK_perm (ks.zip l)).map (·.2)
 rw [List.map_snd_zip (by omega)] at this
 exact this
end
theorem good_ord : ∀ (d : Nat) (j : J), goodJ d j = true → goodJ d (ord j) = true
 | 0, j, h => by unfold goodJ at h; cases h
 | d + 1, .mk k i t ks l, h => by
  obtain ⟨hgl, hg5, hgn⟩ := good_sub h
  have hall : ∀ x ∈ ordL l, goodJ d x = true := fun x hx => by
   obtain ⟨y, hy, rfl⟩ := mem_ordL hx
   exact good_ord d y (List.all_eq_true.1 hgl y hy)
  rw [ord]
  by_cases k5 : k = 5
  · subst k5
    rw [if_pos rfl]
    obtain ⟨hlen, hp⟩ := hg5 rfl
    have hlen' : ks.length = (ordL l).length := by rw [ordL_length]; exact hlen
    have pk := sorted_keys hlen'
    have pv := sorted_vals hlen'
    have hlet : ks.all letters = true := by
     rw [goodJ, Bool.and_eq_true] at h
     have h2 := h.2
     rw [if_neg (by decide), if_neg (by decide), if_neg (by decide), if_neg (by decide), if_neg (by decide), if_pos rfl] at h2
     simp only [Bool.and_eq_true] at h2
     exact h2.1.2.1
    unfold mapOf
    rw [goodJ]
    have e1 : ((sortK (ks.zip (ordL l))).map (·.1)).all letters = true := by
     rw [List.all_eq_true] at hlet ⊢
     exact fun x hx => hlet x (pk.mem_iff.1 hx)
    have e2 : noKeyTwice ((sortK (ks.zip (ordL l))).map (·.1)) = true := pair_noTwice (pk.symm.pairwise hp fun {_ _} h => h.symm)
    have e3 : ((sortK (ks.zip (ordL l))).map (·.2)).all (goodJ d) = true := by
     rw [List.all_eq_true]
     exact fun x hx => hall x (pv.mem_iff.1 hx)
    rw [e1, e2, e3]
    simp [bare, nix, ByteArray.size]
  · rw [if_neg k5]
    have hks := hgn k5
    subst hks
    rw [goodJ, Bool.and_eq_true] at h ⊢
    have hal : (ordL l).all (goodJ d) = true := List.all_eq_true.2 hall
    refine ⟨by have := h.1; rw [bare_eq] at this ⊢; rw [ordL_length]; exact this, ?_⟩
    have h2 := h.2
    rw [hal]
    rw [hgl] at h2
    rw [if_neg k5] at h2 ⊢
    exact h2
theorem wide_ord : ∀ (d : Nat) (j : J), goodJ d j = true → szJ d j = true → wideJ d (ord j) = true
 | 0, j, _, _ => by unfold wideJ; rfl
 | d + 1, .mk k i t ks l, hg, h => by
  obtain ⟨hgl, hg5, _⟩ := good_sub hg
  unfold szJ at h
  simp only [Bool.and_eq_true, decide_eq_true_eq] at h
  obtain ⟨_, _, _, hll, hls⟩ := h
  have hall : ∀ x ∈ ordL l, wideJ d x = true := fun x hx => by
   obtain ⟨y, hy, rfl⟩ := mem_ordL hx
   exact wide_ord d y (List.all_eq_true.1 hgl y hy) (List.all_eq_true.1 hls y hy)
  rw [ord]
  by_cases k5 : k = 5
  · subst k5
    rw [if_pos rfl]
    obtain ⟨hlen, _⟩ := hg5 rfl
    have hlen' : ks.length = (ordL l).length := by rw [ordL_length]; exact hlen
    have pv := sorted_vals hlen'
    unfold mapOf wideJ
    rw [Bool.and_eq_true]
    refine ⟨decide_eq_true ?_, List.all_eq_true.2 fun x hx => hall x (pv.mem_iff.1 hx)⟩
    rw [pv.length_eq, ordL_length]; exact hll
  · rw [if_neg k5]
    unfold wideJ
    rw [Bool.and_eq_true]
    exact ⟨decide_eq_true (by rw [ordL_length]; exact hll), List.all_eq_true.2 hall⟩
theorem fit_ord {d : Nat} {j : J} (hg : goodJ d j = true) (hs : szJ d j = true) : fitJ d (ord j) = true := by
 unfold fitJ
 rw [good_ord d j hg, wide_ord d j hg hs]; rfl
theorem inOrdL_all : ∀ l : List J, inOrdL l = true ↔ ∀ x ∈ l, inOrd x = true
 | [] => by simp [inOrdL]
 | j :: r => by
  rw [inOrdL, Bool.and_eq_true, inOrdL_all r]
  simp
theorem inOrd_ord : ∀ (d : Nat) (j : J), goodJ d j = true → inOrd (ord j) = true
 | 0, j, h => by unfold goodJ at h; cases h
 | d + 1, .mk k i t ks l, h => by
  obtain ⟨hgl, hg5, hgn⟩ := good_sub h
  have hall : ∀ x ∈ ordL l, inOrd x = true := fun x hx => by
   obtain ⟨y, hy, rfl⟩ := mem_ordL hx
   exact inOrd_ord d y (List.all_eq_true.1 hgl y hy)
  rw [ord]
  by_cases k5 : k = 5
  · subst k5
    rw [if_pos rfl]
    obtain ⟨hlen, hp⟩ := hg5 rfl
    have hlen' : ks.length = (ordL l).length := by rw [ordL_length]; exact hlen
    have pv := sorted_vals hlen'
    unfold mapOf
    rw [inOrd, Bool.and_eq_true, inOrdL_all]
    refine ⟨sortK_rises' _ ?_, fun x hx => hall x (pv.mem_iff.1 hx)⟩
    have : ((ks.zip (ordL l)).map (·.1)).Pairwise (· ≠ ·) := by rw [List.map_fst_zip (by omega)]; exact hp
    exact List.pairwise_map.1 this
  · rw [if_neg k5]
    rw [inOrd, Bool.and_eq_true, inOrdL_all]
    exact ⟨rfl, hall⟩
def Fair (t : List Int) (p : Nat) : Prop := ∀ m, strayL t m p = none
theorem Fair.end {t : List Int} {p : Nat} (h : t.length ≤ p) : Fair t p := fun m => by
 cases m with
 | zero => rfl
 | succ m => unfold strayL; rw [if_neg (by omega)]
theorem Fair.step {t : List Int} {p wd : Nat} {c : Int} (hr : runeAt t p = (c, wd)) (h0 : wd ≠ 0) (h : Fair t (p + wd)) : Fair t p := fun m => by
 cases m with
 | zero => rfl
 | succ m =>
  unfold strayL
  split
  · rw [hr, if_neg h0]; exact h m
  · rfl
theorem Fair.ascii {t : List Int} : ∀ (l r : List Int) (p : Nat), (∀ c ∈ l, 0 ≤ c ∧ c < 128) → t.drop p = l ++ r → Fair t (p + l.length) → Fair t p
 | [], _, p, _, _, h => by simpa using h
 | a :: l, r, p, hl, hd, h => by
  have ha := hl a (List.mem_cons_self ..)
  have hb : byteAt t p = a := byte_head (by simpa using hd)
  have hr : runeAt t p = (a, 1) := by unfold runeAt; rw [hb, if_pos ha.2]
  refine Fair.step hr (by decide) (Fair.ascii l r (p + 1) (fun c hc => hl c (List.mem_cons_of_mem _ hc)) (drop_tail (by simpa using hd)) ?_)
  rw [show p + 1 + l.length = p + (a :: l).length by simp; omega]
  exact h
def Pure (l : List Int) : Prop := ∀ (t r : List Int) (q : Nat), t.drop q = l ++ r → Fair t (q + l.length) → Fair t q
theorem Pure.ascii {l : List Int} (h : ∀ c ∈ l, 0 ≤ c ∧ c < 128) : Pure l := fun _ r q hd hf => Fair.ascii l r q h hd hf
theorem letters_nix : letters nix = true := by decide
theorem below_cat {B : Nat} {a b c : World} (h : Below B a b) (hB : B ≤ b.heap.size) (g : Below b.heap.size b c) : Below B a c := h.trans ⟨g.os, g.tape, g.output, g.size, fun k hk => g.block k (by omega)⟩
theorem key_getD {ks : List ByteArray} {m : Nat} (hm : m < ks.length) : ks.getD m nix = ks[m] := by
 rw [List.getD_eq_getElem?_getD, List.getElem?_eq_getElem hm]; rfl
theorem sz_less : ∀ (d e : Nat) (j : J), d ≤ e → szJ e j = true → szJ d j = true
 | 0, _, _, _, _ => by unfold szJ; rfl
 | d + 1, 0, _, h, _ => by omega
 | d + 1, e + 1, .mk k i t ks l, h, hs => by
  unfold szJ at hs ⊢
  simp only [Bool.and_eq_true] at hs ⊢
  refine ⟨hs.1, hs.2.1, hs.2.2.1, hs.2.2.2.1, ?_⟩
  rw [List.all_eq_true]
  intro x hx
  exact sz_less d e x (by omega) (List.all_eq_true.1 hs.2.2.2.2 x hx)
end Go.Proofs.YtldegjjaknelgaaGreatDoor

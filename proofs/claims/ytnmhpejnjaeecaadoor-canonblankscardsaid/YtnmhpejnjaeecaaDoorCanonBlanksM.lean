/-
  CanonBlanks: whatever two rows of bytes there are, blanks ahead of and behind the first, and between the signs of a list of the two, change nothing of what is decoded but places; and chapter 1's examples hold.
-/
import Derived.Test.YtnmhpejnjaeecaaDoorM9
import Derived.Test.YtnmhpejnjaeecaaDoorSameM
import Derived.Test.YtnmhpejnjaeecaaDoorJoinM
import Derived.Test.YtnmhpejnjaeecaaDoorLaidM
import Derived.Test.YtnmhpejnjaeecaaDoorViewM
namespace Go.Proofs.YtnmhpejnjaeecaaDoor
open Go.RowKit

theorem dec_shape {w w' : World} {r : Res J} {x : Ending} (h : decTold w w' r x) : ∃ k i t pk nk ck pl nl cl e, ∃ n : Nat, x = .returned (.tuple #[.agg #[.int .i64 k, .int .i64 i, .string t, .slice pk nk ck, .slice pl nl cl], .int .i64 e, .int .i64 n]) ∧ Below w.heap.size w w' ∧ (∀ j p, r = .ok j p → e = 0 ∧ isJ (New w w') w' j [.int .i64 k, .int .i64 i, .string t, .slice pk nk ck, .slice pl nl cl]) ∧ (∀ e' l, r = .bad e' l → e = e' ∧ n = l) := by
  cases r with
  | ok j p =>
    obtain ⟨⟨k, i, t, pk, nk, ck, pl, nl, cl, rfl, hj⟩, hb⟩ := h
    exact ⟨k, i, t, pk, nk, ck, pl, nl, cl, 0, 0, rfl, hb, fun j' p' e => (by cases e; exact ⟨rfl, hj⟩), fun e' l e => (by cases e)⟩
  | bad e l =>
    obtain ⟨rfl, hb⟩ := h
    exact ⟨0, 0, nix, none, 0, 0, none, 0, 0, e, l, rfl, hb, fun j' p' e => (by cases e), fun e' l' e => (by cases e; exact ⟨rfl, rfl⟩)⟩
theorem tab_at {w w2 : World} (hT : Tab w.heap.size w) (hb : Below w.heap.size w w2) : Tab w2.heap.size w2 := fun w' h' => hT w' (below_in hb h')
theorem rd_on {w w' : World} {p : Option Addr} {c : Nat} {rs : List Int} (h : Rd w.heap.size w p c rs) (hb : Below w.heap.size w w') : Rd w'.heap.size w' p c rs :=
  ⟨h.1, h.2.1, fun j hj => by
    obtain ⟨a, ha, hB, hc⟩ := (h.carry hb).2.2 j hj
    exact ⟨a, ha, Nat.lt_of_lt_of_le hB hb.size, hc⟩⟩
theorem below_box {w w1 : World} (h : Below w.heap.size w w1) (o : Obj) : Below w.heap.size w (w1.alloc o) := h.alloc h.size o
theorem isJ_low {w w1 w2 : World} {j : J} {cs : List Value} (h : isJ (New w w1) w1 j cs) (hb : Below w1.heap.size w1 w2) : isJ (fun b => b < w2.heap.size) w2 j cs :=
  h.carry fun b hb' => ⟨Nat.lt_of_lt_of_le hb'.2 hb.size, hb.block b hb'.2⟩
/-- Two values in memory are told the same just if they are. -/
theorem same_any {w : World} {x y : J} {k i : Int} {t : ByteArray} {pk pl : Option Addr} {nk ck nl cl : Nat} {k' i' : Int} {t' : ByteArray} {pk' pl' : Option Addr} {nk' ck' nl' cl' : Nat} (hx : Fit 12 x)
    (hj : isJ (fun b => b < w.heap.size) w x [.int .i64 k, .int .i64 i, .string t, .slice pk nk ck, .slice pl nl cl]) (hj' : isJ (fun b => b < w.heap.size) w y [.int .i64 k', .int .i64 i', .string t', .slice pk' nk' ck', .slice pl' nl' cl']) :
    Calls Tryd.prog 12 #[.agg #[.int .i64 k, .int .i64 i, .string t, .slice pk nk ck, .slice pl nl cl], .agg #[.int .i64 k', .int .i64 i', .string t', .slice pk' nk' ck', .slice pl' nl' cl']] w fun r w' => (∃ b, r = .returned (.bool b) ∧ (b = true ↔ x = y)) ∧ Below w.heap.size w w' :=
  sames 12 w (fun b => b < w.heap.size) x y k i t pk pl nk ck nl cl k' i' t' pk' pl' nk' ck' nl' cl' (fun _ h => h) hx.1 hx.2.2 hj hj'
theorem same_yes {w : World} {x : J} {k i : Int} {t : ByteArray} {pk pl : Option Addr} {nk ck nl cl : Nat} {k' i' : Int} {t' : ByteArray} {pk' pl' : Option Addr} {nk' ck' nl' cl' : Nat} (hx : Fit 12 x)
    (hj : isJ (fun b => b < w.heap.size) w x [.int .i64 k, .int .i64 i, .string t, .slice pk nk ck, .slice pl nl cl]) (hj' : isJ (fun b => b < w.heap.size) w x [.int .i64 k', .int .i64 i', .string t', .slice pk' nk' ck', .slice pl' nl' cl']) :
    Calls Tryd.prog 12 #[.agg #[.int .i64 k, .int .i64 i, .string t, .slice pk nk ck, .slice pl nl cl], .agg #[.int .i64 k', .int .i64 i', .string t', .slice pk' nk' ck', .slice pl' nl' cl']] w fun r w' => r = .returned (.bool true) ∧ Below w.heap.size w w' :=
  (same_any hx hj hj').mono fun r w' ⟨⟨b, hr, hb⟩, h2⟩ => ⟨by rw [hr, hb.2 rfl], h2⟩
theorem padded_eq (xs : List Int) : (((ints ⟨#[32, 10]⟩ ++ xs) ++ ints ⟨#[9, 13]⟩) ++ []) ++ ints ⟨#[]⟩ = padded xs := by
  have e1 : ints ⟨#[32, 10]⟩ = [32, 10] := by decide
  have e2 : ints ⟨#[9, 13]⟩ = [9, 13] := by decide
  have e3 : ints ⟨#[]⟩ = [] := by decide
  rw [e1, e2, e3]
  simp [padded]
theorem paired_eq (xs ys : List Int) : (((ints ⟨#[32, 91, 32]⟩ ++ xs) ++ ints ⟨#[32, 44, 10]⟩) ++ ys) ++ ints ⟨#[32, 93, 32]⟩ = paired xs ys := by
  have e1 : ints ⟨#[32, 91, 32]⟩ = [32, 91, 32] := by decide
  have e2 : ints ⟨#[32, 44, 10]⟩ = [32, 44, 10] := by decide
  have e3 : ints ⟨#[32, 93, 32]⟩ = [32, 93, 32] := by decide
  rw [e1, e2, e3]
  simp [paired]
theorem padded_bytes {xs : List Int} (h : Bytes xs) : Bytes (padded xs) := Bytes.cons (by decide) (Bytes.cons (by decide) (h.app (Bytes.cons (by decide) (Bytes.cons (by decide) Bytes.nil))))
theorem paired_bytes {xs ys : List Int} (h : Bytes xs) (h' : Bytes ys) : Bytes (paired xs ys) := Bytes.cons (by decide) (Bytes.cons (by decide) (Bytes.cons (by decide) (h.app (Bytes.cons (by decide) (Bytes.cons (by decide) (Bytes.cons (by decide) (h'.app (Bytes.cons (by decide) (Bytes.cons (by decide) (Bytes.cons (by decide) Bytes.nil))))))))))
/-- Joined, and then decoded. -/
theorem join_pad {w : World} {pa : Option Addr} {ca : Nat} {xs : List Int} (ha : Rd w.heap.size w pa ca xs) (hna : pa = none → ca = 0) (hl : xs.length ≤ 8000) :
    Calls Tryd.prog 16 #[.string ⟨#[32, 10]⟩, .slice pa xs.length ca, .string ⟨#[9, 13]⟩, .slice none 0 0, .string ⟨#[]⟩] w fun x w' => (∃ p n c, x = .returned (.slice p n c) ∧ n = (padded xs).length ∧ Rd w'.heap.size w' p c (padded xs)) ∧ Below w.heap.size w w' := by
  have hz : (⟨#[32, 10]⟩ : ByteArray).size = 2 := rfl
  have hz2 : (⟨#[9, 13]⟩ : ByteArray).size = 2 := rfl
  have hz3 : (⟨#[]⟩ : ByteArray).size = 0 := rfl
  refine (joined_any (w := w) (ys := []) ⟨#[32, 10]⟩ ⟨#[9, 13]⟩ ⟨#[]⟩ ha ⟨Nat.le_refl _, fun _ h => (by cases h), fun j hj => absurd hj (by simp)⟩ hna (fun _ => rfl) (by rw [hz, hz2, hz3]; simp; omega)).mono ?_
  rintro x w' ⟨⟨v, rfl, hf⟩, hb⟩
  rw [padded_eq] at hf
  obtain ⟨p, c, rfl, hr⟩ := hf.rd (padded_bytes ha.2.1)
  exact ⟨⟨p, _, c, rfl, rfl, hr⟩, hb⟩
theorem join_pair {w : World} {pa pb : Option Addr} {ca cb : Nat} {xs ys : List Int} (ha : Rd w.heap.size w pa ca xs) (hb : Rd w.heap.size w pb cb ys) (hna : pa = none → ca = 0) (hnb : pb = none → cb = 0) (hl : xs.length + ys.length ≤ 8000) :
    Calls Tryd.prog 16 #[.string ⟨#[32, 91, 32]⟩, .slice pa xs.length ca, .string ⟨#[32, 44, 10]⟩, .slice pb ys.length cb, .string ⟨#[32, 93, 32]⟩] w fun x w' => (∃ p n c, x = .returned (.slice p n c) ∧ n = (paired xs ys).length ∧ Rd w'.heap.size w' p c (paired xs ys)) ∧ Below w.heap.size w w' := by
  have hz : (⟨#[32, 91, 32]⟩ : ByteArray).size = 3 := rfl
  have hz2 : (⟨#[32, 44, 10]⟩ : ByteArray).size = 3 := rfl
  have hz3 : (⟨#[32, 93, 32]⟩ : ByteArray).size = 3 := rfl
  refine (joined_any (w := w) ⟨#[32, 91, 32]⟩ ⟨#[32, 44, 10]⟩ ⟨#[32, 93, 32]⟩ ha hb hna hnb (by rw [hz, hz2, hz3]; omega)).mono ?_
  rintro x w' ⟨⟨v, rfl, hf⟩, hb'⟩
  rw [paired_eq] at hf
  obtain ⟨p, c, rfl, hr⟩ := hf.rd (paired_bytes ha.2.1 hb.2.1)
  exact ⟨⟨p, _, c, rfl, rfl, hr⟩, hb'⟩
theorem dec_at {w : World} {p : Option Addr} {c n : Nat} {rs : List Int} (hn : n = rs.length) (hrd : Rd w.heap.size w p c rs) (hl : rs.length ≤ 1000000) : Calls Tryd.prog 11 #[.slice p n c] w fun x w' => decTold w w' (decode rs) x := by
  subst hn
  exact decode_any hrd hl
theorem padded_len {xs : List Int} (h : xs.length ≤ 8000) : (padded xs).length ≤ 1000000 := by unfold padded; simp; omega
theorem paired_len {xs ys : List Int} (h : xs.length + ys.length ≤ 8000) : (paired xs ys).length ≤ 1000000 := by unfold paired; simp; omega
set_option maxRecDepth 100000 in
set_option maxHeartbeats 16000000 in
theorem blanks_bad {w : World} (hT : Tab w.heap.size w) {pa pb : Option Addr} {ca cb : Nat} {xs ys : List Int} (ha : Rd w.heap.size w pa ca xs) (hb : Rd w.heap.size w pb cb ys) (hna : pa = none → ca = 0) (hl : xs.length + ys.length ≤ 8000) {e : Int} {l l' : Nat} (hdx : decode xs = .bad e l) (hdz : decode (padded xs) = .bad e l') (h2 : 2 ≤ l') :
    Calls Tryd.prog 6 #[.slice pa xs.length ca, .slice pb ys.length cb] w fun x w' => x = .returned (.bool true) ∧ Below w.heap.size w w' := by
  have hli : (xs.length : Int) + (ys.length : Int) ≤ 8000 := by omega
  have HL : Hid (xs.length + ys.length ≤ 8000) := hl
  have hD1 := dec_at rfl ha (by omega)
  have HX : Hid (decode xs = .bad e l) := hdx
  have HZ : Hid (decode (padded xs) = .bad e l') := hdz
  have he := nz_decode hdx
  have h2i : (2 : Int) ≤ (l' : Int) := by omega
  clear hdx hdz
  clear hl
  go_enter Tryd.func6, Tryd.ntmps6
  go_wp2_with (first
    | (go_at_call 11; refine hD1.mono ?_; intro x w1 hx
       obtain ⟨k1, i1, t1, pk1, nk1, ck1, pl1, nl1, cl1, e1, n1, rfl, hb1, ho1, hn1⟩ := dec_shape hx
       clear hD1 hx
       obtain ⟨rfl, rfl⟩ := hn1 _ _ HX.out; clear ho1 hn1
       have hB1 : Below w.heap.size w (w1.alloc (.cells #[.int .i64 k1, .int .i64 i1, .string t1, .slice pk1 nk1 ck1, .slice pl1 nl1 cl1] 25)) := below_box hb1 _
       have hD2 := dec_at rfl (rd_on hb hB1) (by have := HL.out; omega))
    | (go_at_call 11; refine hD2.mono ?_; intro x w2 hx
       obtain ⟨k2, i2, t2, pk2, nk2, ck2, pl2, nl2, cl2, e2, n2, rfl, hb2, ho2, hn2⟩ := dec_shape hx
       clear hD2 hx
       clear ho2 hn2
       have hB2 : Below w.heap.size w (w2.alloc (.cells #[.int .i64 k2, .int .i64 i2, .string t2, .slice pk2 nk2 ck2, .slice pl2 nl2 cl2] 25)) := below_box (below_in hB1 hb2) _
       have hJ := join_pad (rd_on ha hB2) hna (by have := HL.out; omega))
    | (go_at_call 16; refine hJ.mono ?_; rintro x w3 ⟨⟨p3, m3, c3, rfl, hm3, hr3⟩, hb3⟩
       clear hJ
       have hD4 := dec_at hm3 hr3 (padded_len (by have := HL.out; omega))
       have HM3 : Hid (m3 = (padded xs).length) := hm3
       clear hm3)
    | (go_at_call 11; refine hD4.mono ?_; intro x w4 hx
       obtain ⟨k4, i4, t4, pk4, nk4, ck4, pl4, nl4, cl4, e4, n4, rfl, hb4, ho4, hn4⟩ := dec_shape hx
       clear hD4 hx
       obtain ⟨rfl, rfl⟩ := hn4 _ _ HZ.out; clear ho4 hn4
       have hB4 : Below w.heap.size w (w4.alloc (.cells #[.int .i64 k4, .int .i64 i4, .string t4, .slice pk4 nk4 ck4, .slice pl4 nl4 cl4] 25)) := below_box (below_in (below_in hB2 hb3) hb4) _
       have hAw := awake_any (tab_at hT hB4))
    | (go_at_call 10; refine hAw.mono ?_; rintro x w9 ⟨rfl, hb9⟩))
  go_ret
  exact ⟨rfl, below_in hB4 hb9⟩
set_option maxRecDepth 100000 in
set_option maxHeartbeats 16000000 in
theorem blanks_bad2 {w : World} (hT : Tab w.heap.size w) {pa pb : Option Addr} {ca cb : Nat} {xs ys : List Int} (ha : Rd w.heap.size w pa ca xs) (hb : Rd w.heap.size w pb cb ys) (hna : pa = none → ca = 0) (hl : xs.length + ys.length ≤ 8000) {x : J} {q q' : Nat} {e : Int} {l : Nat} (hdx : decode xs = .ok x q) (hdz : decode (padded xs) = .ok x q') (hdy : decode ys = .bad e l) :
    Calls Tryd.prog 6 #[.slice pa xs.length ca, .slice pb ys.length cb] w fun x w' => x = .returned (.bool true) ∧ Below w.heap.size w w' := by
  have hli : (xs.length : Int) + (ys.length : Int) ≤ 8000 := by omega
  have HL : Hid (xs.length + ys.length ≤ 8000) := hl
  have hD1 := dec_at rfl ha (by omega)
  have HX : Hid (decode xs = .ok x q) := hdx
  have HZ : Hid (decode (padded xs) = .ok x q') := hdz
  have HY : Hid (decode ys = .bad e l) := hdy
  have HF : Hid (Fit 12 x) := decode_fit ha.2.1 hdx
  have he := nz_decode hdy
  clear hdx hdz hdy
  clear hl
  go_enter Tryd.func6, Tryd.ntmps6
  go_wp2_with (first
    | (go_at_call 11; refine hD1.mono ?_; intro x w1 hx
       obtain ⟨k1, i1, t1, pk1, nk1, ck1, pl1, nl1, cl1, e1, n1, rfl, hb1, ho1, hn1⟩ := dec_shape hx
       clear hD1 hx
       obtain ⟨rfl, hj1⟩ := ho1 _ _ HX.out; clear ho1 hn1
       have hB1 : Below w.heap.size w (w1.alloc (.cells #[.int .i64 k1, .int .i64 i1, .string t1, .slice pk1 nk1 ck1, .slice pl1 nl1 cl1] 25)) := below_box hb1 _
       have hD2 := dec_at rfl (rd_on hb hB1) (by have := HL.out; omega))
    | (go_at_call 11; refine hD2.mono ?_; intro x w2 hx
       obtain ⟨k2, i2, t2, pk2, nk2, ck2, pl2, nl2, cl2, e2, n2, rfl, hb2, ho2, hn2⟩ := dec_shape hx
       clear hD2 hx
       obtain ⟨rfl, rfl⟩ := hn2 _ _ HY.out; clear ho2 hn2
       have hB2 : Below w.heap.size w (w2.alloc (.cells #[.int .i64 k2, .int .i64 i2, .string t2, .slice pk2 nk2 ck2, .slice pl2 nl2 cl2] 25)) := below_box (below_in hB1 hb2) _
       have hJ := join_pad (rd_on ha hB2) hna (by have := HL.out; omega))
    | (go_at_call 16; refine hJ.mono ?_; rintro x w3 ⟨⟨p3, m3, c3, rfl, hm3, hr3⟩, hb3⟩
       clear hJ
       have hD4 := dec_at hm3 hr3 (padded_len (by have := HL.out; omega))
       have HM3 : Hid (m3 = (padded xs).length) := hm3
       clear hm3)
    | (go_at_call 11; refine hD4.mono ?_; intro x w4 hx
       obtain ⟨k4, i4, t4, pk4, nk4, ck4, pl4, nl4, cl4, e4, n4, rfl, hb4, ho4, hn4⟩ := dec_shape hx
       clear hD4 hx
       obtain ⟨rfl, hj4⟩ := ho4 _ _ HZ.out; clear ho4 hn4
       have hB4 : Below w.heap.size w (w4.alloc (.cells #[.int .i64 k4, .int .i64 i4, .string t4, .slice pk4 nk4 ck4, .slice pl4 nl4 cl4] 25)) := below_box (below_in (below_in hB2 hb3) hb4) _
       have hS := same_yes HF.out (isJ_low hj1 (below_in (below_in (below_in (below_in ((Below.refl w1.heap.size w1).alloc (Nat.le_refl _) (.cells #[.int .i64 k1, .int .i64 i1, .string t1, .slice pk1 nk1 ck1, .slice pl1 nl1 cl1] 25)) hb2) ((Below.refl w2.heap.size w2).alloc (Nat.le_refl _) (.cells #[.int .i64 k2, .int .i64 i2, .string t2, .slice pk2 nk2 ck2, .slice pl2 nl2 cl2] 25))) (below_in hb3 hb4)) ((Below.refl w4.heap.size w4).alloc (Nat.le_refl _) (.cells #[.int .i64 k4, .int .i64 i4, .string t4, .slice pk4 nk4 ck4, .slice pl4 nl4 cl4] 25)))) (isJ_low hj4 ((Below.refl w4.heap.size w4).alloc (Nat.le_refl _) (.cells #[.int .i64 k4, .int .i64 i4, .string t4, .slice pk4 nk4 ck4, .slice pl4 nl4 cl4] 25)))
       have hx1 : (w1.alloc (.cells #[.int .i64 k1, .int .i64 i1, .string t1, .slice pk1 nk1 ck1, .slice pl1 nl1 cl1] 25)).heap[w1.heap.size]? = some (.cells #[.int .i64 k1, .int .i64 i1, .string t1, .slice pk1 nk1 ck1, .slice pl1 nl1 cl1] 25 (0, 0)) := heap_alloc_new _ _
       have hx4 : (w4.alloc (.cells #[.int .i64 k4, .int .i64 i4, .string t4, .slice pk4 nk4 ck4, .slice pl4 nl4 cl4] 25)).heap[w1.heap.size]? = some (.cells #[.int .i64 k1, .int .i64 i1, .string t1, .slice pk1 nk1 ck1, .slice pl1 nl1 cl1] 25 (0, 0)) := ((below_in (below_in (below_in hb2 ((Below.refl w2.heap.size w2).alloc (Nat.le_refl _) (.cells #[.int .i64 k2, .int .i64 i2, .string t2, .slice pk2 nk2 ck2, .slice pl2 nl2 cl2] 25))) (below_in hb3 hb4)) ((Below.refl w4.heap.size w4).alloc (Nat.le_refl _) (.cells #[.int .i64 k4, .int .i64 i4, .string t4, .slice pk4 nk4 ck4, .slice pl4 nl4 cl4] 25))).block w1.heap.size (by simp)).trans hx1
       have z0 := five_c0 hx4; have z1 := five_c1 hx4; have z2 := five_c2 hx4; have z3 := five_c3 hx4; have z4 := five_c4 hx4)
    | (go_at_call 12; refine hS.mono ?_; rintro x w5 ⟨rfl, hb5⟩
       clear hS
       have hB5 : Below w.heap.size w w5 := below_in hB4 hb5
       have hAw := awake_any (tab_at hT hB5))
    | (go_at_call 10; refine hAw.mono ?_; rintro x w9 ⟨rfl, hb9⟩))
  go_ret
  exact ⟨rfl, below_in hB5 hb9⟩
set_option maxRecDepth 100000 in
set_option maxHeartbeats 16000000 in
theorem blanks_deep {w : World} (hT : Tab w.heap.size w) {pa pb : Option Addr} {ca cb : Nat} {xs ys : List Int} (ha : Rd w.heap.size w pa ca xs) (hb : Rd w.heap.size w pb cb ys) (hna : pa = none → ca = 0) (hnb : pb = none → cb = 0) (hl : xs.length + ys.length ≤ 8000) {x y : J} {q q' r : Nat} {l : Nat} (hdx : decode xs = .ok x q) (hdz : decode (padded xs) = .ok x q') (hdy : decode ys = .ok y r) (hdp : decode (paired xs ys) = .bad 12 l) :
    Calls Tryd.prog 6 #[.slice pa xs.length ca, .slice pb ys.length cb] w fun x w' => x = .returned (.bool true) ∧ Below w.heap.size w w' := by
  have hli : (xs.length : Int) + (ys.length : Int) ≤ 8000 := by omega
  have HL : Hid (xs.length + ys.length ≤ 8000) := hl
  have hD1 := dec_at rfl ha (by omega)
  have HX : Hid (decode xs = .ok x q) := hdx
  have HZ : Hid (decode (padded xs) = .ok x q') := hdz
  have HY : Hid (decode ys = .ok y r) := hdy
  have HP : Hid (decode (paired xs ys) = .bad 12 l) := hdp
  have HF : Hid (Fit 12 x) := decode_fit ha.2.1 hdx
  clear hdx hdz hdy hdp
  clear hl
  go_enter Tryd.func6, Tryd.ntmps6
  go_wp2_with (first
    | (go_at_call 11; refine hD1.mono ?_; intro x w1 hx
       obtain ⟨k1, i1, t1, pk1, nk1, ck1, pl1, nl1, cl1, e1, n1, rfl, hb1, ho1, hn1⟩ := dec_shape hx
       clear hD1 hx
       obtain ⟨rfl, hj1⟩ := ho1 _ _ HX.out; clear ho1 hn1
       have hB1 : Below w.heap.size w (w1.alloc (.cells #[.int .i64 k1, .int .i64 i1, .string t1, .slice pk1 nk1 ck1, .slice pl1 nl1 cl1] 25)) := below_box hb1 _
       have hD2 := dec_at rfl (rd_on hb hB1) (by have := HL.out; omega))
    | (go_at_call 11; refine hD2.mono ?_; intro x w2 hx
       obtain ⟨k2, i2, t2, pk2, nk2, ck2, pl2, nl2, cl2, e2, n2, rfl, hb2, ho2, hn2⟩ := dec_shape hx
       clear hD2 hx
       obtain ⟨rfl, hj2⟩ := ho2 _ _ HY.out; clear ho2 hn2
       have hB2 : Below w.heap.size w (w2.alloc (.cells #[.int .i64 k2, .int .i64 i2, .string t2, .slice pk2 nk2 ck2, .slice pl2 nl2 cl2] 25)) := below_box (below_in hB1 hb2) _
       have hJ := join_pad (rd_on ha hB2) hna (by have := HL.out; omega))
    | (go_at_call 16; refine hJ.mono ?_; rintro x w3 ⟨⟨p3, m3, c3, rfl, hm3, hr3⟩, hb3⟩
       clear hJ
       have hD4 := dec_at hm3 hr3 (padded_len (by have := HL.out; omega))
       have HM3 : Hid (m3 = (padded xs).length) := hm3
       clear hm3)
    | (go_at_call 11; refine hD4.mono ?_; intro x w4 hx
       obtain ⟨k4, i4, t4, pk4, nk4, ck4, pl4, nl4, cl4, e4, n4, rfl, hb4, ho4, hn4⟩ := dec_shape hx
       clear hD4 hx
       obtain ⟨rfl, hj4⟩ := ho4 _ _ HZ.out; clear ho4 hn4
       have hB4 : Below w.heap.size w (w4.alloc (.cells #[.int .i64 k4, .int .i64 i4, .string t4, .slice pk4 nk4 ck4, .slice pl4 nl4 cl4] 25)) := below_box (below_in (below_in hB2 hb3) hb4) _
       have hS := same_yes HF.out (isJ_low hj1 (below_in (below_in (below_in (below_in ((Below.refl w1.heap.size w1).alloc (Nat.le_refl _) (.cells #[.int .i64 k1, .int .i64 i1, .string t1, .slice pk1 nk1 ck1, .slice pl1 nl1 cl1] 25)) hb2) ((Below.refl w2.heap.size w2).alloc (Nat.le_refl _) (.cells #[.int .i64 k2, .int .i64 i2, .string t2, .slice pk2 nk2 ck2, .slice pl2 nl2 cl2] 25))) (below_in hb3 hb4)) ((Below.refl w4.heap.size w4).alloc (Nat.le_refl _) (.cells #[.int .i64 k4, .int .i64 i4, .string t4, .slice pk4 nk4 ck4, .slice pl4 nl4 cl4] 25)))) (isJ_low hj4 ((Below.refl w4.heap.size w4).alloc (Nat.le_refl _) (.cells #[.int .i64 k4, .int .i64 i4, .string t4, .slice pk4 nk4 ck4, .slice pl4 nl4 cl4] 25)))
       have hx1 : (w1.alloc (.cells #[.int .i64 k1, .int .i64 i1, .string t1, .slice pk1 nk1 ck1, .slice pl1 nl1 cl1] 25)).heap[w1.heap.size]? = some (.cells #[.int .i64 k1, .int .i64 i1, .string t1, .slice pk1 nk1 ck1, .slice pl1 nl1 cl1] 25 (0, 0)) := heap_alloc_new _ _
       have hx4 : (w4.alloc (.cells #[.int .i64 k4, .int .i64 i4, .string t4, .slice pk4 nk4 ck4, .slice pl4 nl4 cl4] 25)).heap[w1.heap.size]? = some (.cells #[.int .i64 k1, .int .i64 i1, .string t1, .slice pk1 nk1 ck1, .slice pl1 nl1 cl1] 25 (0, 0)) := ((below_in (below_in (below_in hb2 ((Below.refl w2.heap.size w2).alloc (Nat.le_refl _) (.cells #[.int .i64 k2, .int .i64 i2, .string t2, .slice pk2 nk2 ck2, .slice pl2 nl2 cl2] 25))) (below_in hb3 hb4)) ((Below.refl w4.heap.size w4).alloc (Nat.le_refl _) (.cells #[.int .i64 k4, .int .i64 i4, .string t4, .slice pk4 nk4 ck4, .slice pl4 nl4 cl4] 25))).block w1.heap.size (by simp)).trans hx1
       have z0 := five_c0 hx4; have z1 := five_c1 hx4; have z2 := five_c2 hx4; have z3 := five_c3 hx4; have z4 := five_c4 hx4)
    | (go_at_call 12; refine hS.mono ?_; rintro x w5 ⟨rfl, hb5⟩
       clear hS
       have hB5 : Below w.heap.size w w5 := below_in hB4 hb5
       have hJ2 := join_pair (rd_on ha hB5) (rd_on hb hB5) hna hnb HL.out)
    | (go_at_call 16; refine hJ2.mono ?_; rintro x w6 ⟨⟨p6, m6, c6, rfl, hm6, hr6⟩, hb6⟩
       clear hJ2
       have hD7 := dec_at hm6 hr6 (paired_len HL.out)
       have HM6 : Hid (m6 = (paired xs ys).length) := hm6
       clear hm6)
    | (go_at_call 11; refine hD7.mono ?_; intro x w7 hx
       obtain ⟨k7, i7, t7, pk7, nk7, ck7, pl7, nl7, cl7, e7, n7, rfl, hb7, ho7, hn7⟩ := dec_shape hx
       clear hD7 hx
       obtain ⟨rfl, rfl⟩ := hn7 _ _ HP.out; clear ho7 hn7
       have hB7 : Below w.heap.size w (w7.alloc (.cells #[.int .i64 k7, .int .i64 i7, .string t7, .slice pk7 nk7 ck7, .slice pl7 nl7 cl7] 25)) := below_box (below_in (below_in hB5 hb6) hb7) _
       have hAw := awake_any (tab_at hT hB7))
    | (go_at_call 10; refine hAw.mono ?_; rintro x w9 ⟨rfl, hb9⟩))
  go_ret
  exact ⟨rfl, below_in hB7 hb9⟩
set_option maxRecDepth 100000 in
set_option maxHeartbeats 16000000 in
theorem blanks_good {w : World} (hT : Tab w.heap.size w) {pa pb : Option Addr} {ca cb : Nat} {xs ys : List Int} (ha : Rd w.heap.size w pa ca xs) (hb : Rd w.heap.size w pb cb ys) (hna : pa = none → ca = 0) (hnb : pb = none → cb = 0) (hl : xs.length + ys.length ≤ 8000) {x y : J} {q q' r r' : Nat} (hdx : decode xs = .ok x q) (hdz : decode (padded xs) = .ok x q') (hdy : decode ys = .ok y r) (hdp : decode (paired xs ys) = .ok (.mk 4 0 nix [] [x, y]) r') :
    Calls Tryd.prog 6 #[.slice pa xs.length ca, .slice pb ys.length cb] w fun x w' => x = .returned (.bool true) ∧ Below w.heap.size w w' := by
  have hli : (xs.length : Int) + (ys.length : Int) ≤ 8000 := by omega
  have HL : Hid (xs.length + ys.length ≤ 8000) := hl
  have hD1 := dec_at rfl ha (by omega)
  have HX : Hid (decode xs = .ok x q) := hdx
  have HZ : Hid (decode (padded xs) = .ok x q') := hdz
  have HY : Hid (decode ys = .ok y r) := hdy
  have HP : Hid (decode (paired xs ys) = .ok (.mk 4 0 nix [] [x, y]) r') := hdp
  have HF : Hid (Fit 12 x) := decode_fit ha.2.1 hdx
  have HG : Hid (Fit 12 y) := decode_fit hb.2.1 hdy
  clear hdx hdz hdy hdp
  clear hl
  go_enter Tryd.func6, Tryd.ntmps6
  go_wp2_with (first
    | (go_at_call 11; refine hD1.mono ?_; intro x w1 hx
       obtain ⟨k1, i1, t1, pk1, nk1, ck1, pl1, nl1, cl1, e1, n1, rfl, hb1, ho1, hn1⟩ := dec_shape hx
       clear hD1 hx
       obtain ⟨rfl, hj1⟩ := ho1 _ _ HX.out; clear ho1 hn1
       have hB1 : Below w.heap.size w (w1.alloc (.cells #[.int .i64 k1, .int .i64 i1, .string t1, .slice pk1 nk1 ck1, .slice pl1 nl1 cl1] 25)) := below_box hb1 _
       have hD2 := dec_at rfl (rd_on hb hB1) (by have := HL.out; omega))
    | (go_at_call 11; refine hD2.mono ?_; intro x w2 hx
       obtain ⟨k2, i2, t2, pk2, nk2, ck2, pl2, nl2, cl2, e2, n2, rfl, hb2, ho2, hn2⟩ := dec_shape hx
       clear hD2 hx
       obtain ⟨rfl, hj2⟩ := ho2 _ _ HY.out; clear ho2 hn2
       have hB2 : Below w.heap.size w (w2.alloc (.cells #[.int .i64 k2, .int .i64 i2, .string t2, .slice pk2 nk2 ck2, .slice pl2 nl2 cl2] 25)) := below_box (below_in hB1 hb2) _
       have hJ := join_pad (rd_on ha hB2) hna (by have := HL.out; omega))
    | (go_at_call 16; refine hJ.mono ?_; rintro x w3 ⟨⟨p3, m3, c3, rfl, hm3, hr3⟩, hb3⟩
       clear hJ
       have hD4 := dec_at hm3 hr3 (padded_len (by have := HL.out; omega))
       have HM3 : Hid (m3 = (padded xs).length) := hm3
       clear hm3)
    | (go_at_call 11; refine hD4.mono ?_; intro x w4 hx
       obtain ⟨k4, i4, t4, pk4, nk4, ck4, pl4, nl4, cl4, e4, n4, rfl, hb4, ho4, hn4⟩ := dec_shape hx
       clear hD4 hx
       obtain ⟨rfl, hj4⟩ := ho4 _ _ HZ.out; clear ho4 hn4
       have hB4 : Below w.heap.size w (w4.alloc (.cells #[.int .i64 k4, .int .i64 i4, .string t4, .slice pk4 nk4 ck4, .slice pl4 nl4 cl4] 25)) := below_box (below_in (below_in hB2 hb3) hb4) _
       have hS := same_yes HF.out (isJ_low hj1 (below_in (below_in (below_in (below_in ((Below.refl w1.heap.size w1).alloc (Nat.le_refl _) (.cells #[.int .i64 k1, .int .i64 i1, .string t1, .slice pk1 nk1 ck1, .slice pl1 nl1 cl1] 25)) hb2) ((Below.refl w2.heap.size w2).alloc (Nat.le_refl _) (.cells #[.int .i64 k2, .int .i64 i2, .string t2, .slice pk2 nk2 ck2, .slice pl2 nl2 cl2] 25))) (below_in hb3 hb4)) ((Below.refl w4.heap.size w4).alloc (Nat.le_refl _) (.cells #[.int .i64 k4, .int .i64 i4, .string t4, .slice pk4 nk4 ck4, .slice pl4 nl4 cl4] 25)))) (isJ_low hj4 ((Below.refl w4.heap.size w4).alloc (Nat.le_refl _) (.cells #[.int .i64 k4, .int .i64 i4, .string t4, .slice pk4 nk4 ck4, .slice pl4 nl4 cl4] 25)))
       have hx1 : (w1.alloc (.cells #[.int .i64 k1, .int .i64 i1, .string t1, .slice pk1 nk1 ck1, .slice pl1 nl1 cl1] 25)).heap[w1.heap.size]? = some (.cells #[.int .i64 k1, .int .i64 i1, .string t1, .slice pk1 nk1 ck1, .slice pl1 nl1 cl1] 25 (0, 0)) := heap_alloc_new _ _
       have hx4 : (w4.alloc (.cells #[.int .i64 k4, .int .i64 i4, .string t4, .slice pk4 nk4 ck4, .slice pl4 nl4 cl4] 25)).heap[w1.heap.size]? = some (.cells #[.int .i64 k1, .int .i64 i1, .string t1, .slice pk1 nk1 ck1, .slice pl1 nl1 cl1] 25 (0, 0)) := ((below_in (below_in (below_in hb2 ((Below.refl w2.heap.size w2).alloc (Nat.le_refl _) (.cells #[.int .i64 k2, .int .i64 i2, .string t2, .slice pk2 nk2 ck2, .slice pl2 nl2 cl2] 25))) (below_in hb3 hb4)) ((Below.refl w4.heap.size w4).alloc (Nat.le_refl _) (.cells #[.int .i64 k4, .int .i64 i4, .string t4, .slice pk4 nk4 ck4, .slice pl4 nl4 cl4] 25))).block w1.heap.size (by simp)).trans hx1
       have z0 := five_c0 hx4; have z1 := five_c1 hx4; have z2 := five_c2 hx4; have z3 := five_c3 hx4; have z4 := five_c4 hx4)
    | (go_at_call 12; refine hS.mono ?_; rintro x w5 ⟨rfl, hb5⟩
       clear hS
       have hB5 : Below w.heap.size w w5 := below_in hB4 hb5
       have hJ2 := join_pair (rd_on ha hB5) (rd_on hb hB5) hna hnb HL.out)
    | (go_at_call 16; refine hJ2.mono ?_; rintro x w6 ⟨⟨p6, m6, c6, rfl, hm6, hr6⟩, hb6⟩
       clear hJ2
       have hD7 := dec_at hm6 hr6 (paired_len HL.out)
       have HM6 : Hid (m6 = (paired xs ys).length) := hm6
       clear hm6)
    | (go_at_call 11; refine hD7.mono ?_; intro x w7 hx
       obtain ⟨k7, i7, t7, pk7, nk7, ck7, pl7, nl7, cl7, e7, n7, rfl, hb7, ho7, hn7⟩ := dec_shape hx
       clear hD7 hx
       obtain ⟨rfl, hj7⟩ := ho7 _ _ HP.out; clear ho7 hn7
       have hB7 : Below w.heap.size w (w7.alloc (.cells #[.int .i64 k7, .int .i64 i7, .string t7, .slice pk7 nk7 ck7, .slice pl7 nl7 cl7] 25)) := below_box (below_in (below_in hB5 hb6) hb7) _
       have _hx := hj7))
  clear _hx
  obtain ⟨_, _, _, rfl, rfl, _, hcl7, hs7⟩ := isJ_parts hj7
  obtain ⟨lb, lo, cs0, hpl7, hO0, hc0, hy0⟩ := isJs.at [x, y] 0 0 hs7 (by simp)
  obtain ⟨lb', lo', cs1, hpl7', hO1, hc1, hy1⟩ := isJs.at [x, y] 0 1 hs7 (by simp)
  subst hpl7
  cases hpl7'
  obtain ⟨a0, a1, a2, ap, an, ac, bp, bn, bc, rfl⟩ := isJ_shape hy0
  obtain ⟨d0, d1, d2, dp, dn, dc, ep, en, ec, rfl⟩ := isJ_shape hy1
  have HY0 : Hid (isJ (New w6 w7) w7 x [.int .i64 a0, .int .i64 a1, .string a2, .slice ap an ac, .slice bp bn bc]) := hy0
  have HY1 : Hid (isJ (New w6 w7) w7 y [.int .i64 d0, .int .i64 d1, .string d2, .slice dp dn dc, .slice ep en ec]) := hy1
  have HC0 : Hid (∀ i v, [Value.int .i64 a0, .int .i64 a1, .string a2, .slice ap an ac, .slice bp bn bc][i]? = some v → w7.cell? ⟨lb, lo + i, none⟩ = some v) := fun i v h => (by have := hc0 i v h; simpa using this)
  have HC1 : Hid (∀ i v, [Value.int .i64 d0, .int .i64 d1, .string d2, .slice dp dn dc, .slice ep en ec][i]? = some v → w7.cell? ⟨lb, lo + 5 + i, none⟩ = some v) := fun i v h => (by have := hc1 i v h; simpa using this)
  clear hy0 hy1 hc0 hc1 hs7 hj7
  simp only [List.length_cons, List.length_nil, Nat.zero_add, Nat.reduceAdd] at hB7 hcl7 ⊢
  obtain ⟨wZ, hwZ⟩ : ∃ wZ, wZ = (w7.alloc (.cells #[.int .i64 k7, .int .i64 i7, .string t7, .slice pk7 0 ck7, .slice (some ⟨lb, lo, none⟩) 2 cl7] 25)) := ⟨_, rfl⟩
  have hx7 : wZ.heap[w7.heap.size]? = some (.cells #[.int .i64 k7, .int .i64 i7, .string t7, .slice pk7 0 ck7, .slice (some ⟨lb, lo, none⟩) 2 cl7] 25 (0, 0)) := by rw [hwZ]; exact heap_alloc_new _ _
  have h7Z : Below w7.heap.size w7 wZ := by rw [hwZ]; exact (Below.refl _ _).alloc (Nat.le_refl _) _
  rw [← hwZ] at hB7 ⊢
  clear hwZ
  have b1 : Below w1.heap.size w1 (w1.alloc (.cells #[.int .i64 k1, .int .i64 i1, .string t1, .slice pk1 nk1 ck1, .slice pl1 nl1 cl1] 25)) := (Below.refl _ _).alloc (Nat.le_refl _) _
  have b2 : Below w2.heap.size w2 (w2.alloc (.cells #[.int .i64 k2, .int .i64 i2, .string t2, .slice pk2 nk2 ck2, .slice pl2 nl2 cl2] 25)) := (Below.refl _ _).alloc (Nat.le_refl _) _
  have b4 : Below w4.heap.size w4 (w4.alloc (.cells #[.int .i64 k4, .int .i64 i4, .string t4, .slice pk4 nk4 ck4, .slice pl4 nl4 cl4] 25)) := (Below.refl _ _).alloc (Nat.le_refl _) _
  have h3Z := below_in hb3 (below_in hb4 (below_in b4 (below_in hb5 (below_in hb6 (below_in hb7 h7Z)))))
  have h2Z : Below w2.heap.size w2 wZ := below_in b2 h3Z
  have h1B := below_in hb2 h2Z
  have h1Z : Below w1.heap.size w1 wZ := below_in b1 h1B
  have hx1Z : wZ.heap[w1.heap.size]? = some (.cells #[.int .i64 k1, .int .i64 i1, .string t1, .slice pk1 nk1 ck1, .slice pl1 nl1 cl1] 25 (0, 0)) := (h1B.block w1.heap.size (by simp)).trans (heap_alloc_new _ _)
  have hx2Z : wZ.heap[w2.heap.size]? = some (.cells #[.int .i64 k2, .int .i64 i2, .string t2, .slice pk2 nk2 ck2, .slice pl2 nl2 cl2] 25 (0, 0)) := (h3Z.block w2.heap.size (by simp)).trans (heap_alloc_new _ _)
  have hlb : lb < w7.heap.size := hO0.2
  have s7 : w7.heap.size < wZ.heap.size := (Array.getElem?_eq_some_iff.1 hx7).1
  have s1 : w1.heap.size < wZ.heap.size := (Array.getElem?_eq_some_iff.1 hx1Z).1
  have s2 : w2.heap.size < wZ.heap.size := (Array.getElem?_eq_some_iff.1 hx2Z).1
  have HQ4 : Hid (∀ W : World, Below wZ.heap.size wZ W → W.cell? ⟨w7.heap.size, 4, none⟩ = some (.slice (some ⟨lb, lo, none⟩) 2 cl7)) := fun W hW => (World.cell?_of_block (a := ⟨w7.heap.size, 4, none⟩) (hW.block w7.heap.size s7)).trans (cell_row (cur := [.int .i64 k7, .int .i64 i7, .string t7, .slice pk7 0 ck7, .slice (some ⟨lb, lo, none⟩) 2 cl7]) hx7 4 _ rfl)
  have HQX : Hid (∀ W : World, Below wZ.heap.size wZ W → ∀ n v, [Value.int .i64 k1, .int .i64 i1, .string t1, .slice pk1 nk1 ck1, .slice pl1 nl1 cl1][n]? = some v → W.cell? ⟨w1.heap.size, n, none⟩ = some v) := fun W hW n v h => (World.cell?_of_block (a := ⟨w1.heap.size, n, none⟩) (hW.block w1.heap.size s1)).trans (cell_row (cur := [.int .i64 k1, .int .i64 i1, .string t1, .slice pk1 nk1 ck1, .slice pl1 nl1 cl1]) hx1Z n v h)
  have HQY : Hid (∀ W : World, Below wZ.heap.size wZ W → ∀ n v, [Value.int .i64 k2, .int .i64 i2, .string t2, .slice pk2 nk2 ck2, .slice pl2 nl2 cl2][n]? = some v → W.cell? ⟨w2.heap.size, n, none⟩ = some v) := fun W hW n v h => (World.cell?_of_block (a := ⟨w2.heap.size, n, none⟩) (hW.block w2.heap.size s2)).trans (cell_row (cur := [.int .i64 k2, .int .i64 i2, .string t2, .slice pk2 nk2 ck2, .slice pl2 nl2 cl2]) hx2Z n v h)
  have HE0 : Hid (∀ W : World, Below wZ.heap.size wZ W → ∀ n v, [Value.int .i64 a0, .int .i64 a1, .string a2, .slice ap an ac, .slice bp bn bc][n]? = some v → W.cell? ⟨lb, lo + n, none⟩ = some v) := fun W hW n v h => (World.cell?_of_block (a := ⟨lb, lo + n, none⟩) ((hW.block lb (by omega)).trans (h7Z.block lb hlb))).trans (HC0.out n v h)
  have HE1 : Hid (∀ W : World, Below wZ.heap.size wZ W → ∀ n v, [Value.int .i64 d0, .int .i64 d1, .string d2, .slice dp dn dc, .slice ep en ec][n]? = some v → W.cell? ⟨lb, lo + 5 + n, none⟩ = some v) := fun W hW n v h => (World.cell?_of_block (a := ⟨lb, lo + 5 + n, none⟩) ((hW.block lb (by omega)).trans (h7Z.block lb hlb))).trans (HC1.out n v h)
  have hC0 : Below wZ.heap.size wZ wZ.drew := ⟨rfl, rfl, rfl, Nat.le_refl _, fun _ _ => rfl⟩
  have hS1 := same_yes HF.out (isJ_low HY0.out (below_in h7Z hC0)) (isJ_low hj1 (below_in h1Z hC0))
  have HJ2 : Hid (isJ (New (w1.alloc (.cells #[.int .i64 k1, .int .i64 i1, .string t1, .slice pk1 nk1 ck1, .slice pl1 nl1 cl1] 25)) w2) w2 y [.int .i64 k2, .int .i64 i2, .string t2, .slice pk2 nk2 ck2, .slice pl2 nl2 cl2]) := hj2
  clear hx7 hx1Z hx2Z b1 b2 b4 h1B h3Z z0 z1 z2 z3 z4 hj1 hj2 hj4 hx1 hx4 hb1 hb2 hb3 hb4 hb5 hb6 hb7 hr3 hr6 HC0 HC1 hB1 hB2 hB4 hB5
  refine wp_region_in (by kernel_rfl) (fun W => Below wZ.heap.size wZ W) ?_
  change wpIn _ _ _ _ _ _ _ _ (World.drew _)
  refine wpIn_take (i := 0) (d := (some 81)) (v := ?vqg0) (a' := ?aqg0) rfl rfl (by kernel_rfl) (by kernel_rfl) (by kernel_rfl) (fun _ _ _ h => h) (Or.inl ⟨by rfl, ?yqg0⟩) ?fqg0 ?_
  case yqg0 => (intro wq hq; go_simp; first | done | with_reducible rfl)
  case fqg0 => (go_frame; rfl)
  refine wpIn_take (i := 1) (d := (some 82)) (v := ?vqg1) (a' := ?aqg1) rfl rfl (by kernel_rfl) (by kernel_rfl) (by kernel_rfl) (fun _ _ _ h => h) (Or.inl ⟨by rfl, ?yqg1⟩) ?fqg1 ?_
  case yqg1 => (intro wq hq; go_simp; first | done | with_reducible rfl)
  case fqg1 => (go_frame; rfl)
  refine wpIn_take (i := 2) (d := (some 83)) (v := ?vqg2) (a' := ?aqg2) rfl rfl (by kernel_rfl) (by kernel_rfl) (by kernel_rfl) (fun _ _ _ h => h) (Or.inl ⟨by rfl, ?yqg2⟩) ?fqg2 ?_
  case yqg2 => (intro wq hq; go_simp; first | done | with_reducible rfl)
  case fqg2 => (go_frame; rfl)
  refine wpIn_take (i := 3) (d := (some 84)) (v := ?vqg3) (a' := ?aqg3) rfl rfl (by kernel_rfl) (by kernel_rfl) (by kernel_rfl) (fun _ _ _ h => h) (Or.inl ⟨by rfl, ?yqg3⟩) ?fqg3 ?_
  case yqg3 => (intro wq hq; go_simp; first | done | with_reducible rfl)
  case fqg3 => (go_frame; rfl)
  refine wpIn_take (i := 4) (d := (some 85)) (v := ?vqg4) (a' := ?aqg4) rfl rfl (by kernel_rfl) (by kernel_rfl) (by kernel_rfl) (fun _ _ _ h => h) (Or.inl ⟨by rfl, ?yqg4⟩) ?fqg4 ?_
  case yqg4 => (intro wq hq; have q0 := HQ4.out wq hq; go_simp; first | done | with_reducible rfl)
  case fqg4 => (go_frame; rfl)
  refine wpIn_take (i := 5) (d := (some 86)) (v := ?vqg5) (a' := ?aqg5) rfl rfl (by kernel_rfl) (by kernel_rfl) (by kernel_rfl) (fun _ _ _ h => h) (Or.inl ⟨by rfl, ?yqg5⟩) ?fqg5 ?_
  case yqg5 => (intro wq hq; go_simp; first | done | with_reducible rfl)
  case fqg5 => (go_frame; rfl)
  refine wpIn_take (i := 6) (d := (some 87)) (v := ?vqg6) (a' := ?aqg6) rfl rfl (by kernel_rfl) (by kernel_rfl) (by kernel_rfl) (fun _ _ _ h => h) (Or.inl ⟨by rfl, ?yqg6⟩) ?fqg6 ?_
  case yqg6 => (intro wq hq; go_simp; first | done | with_reducible rfl)
  case fqg6 => (go_frame; rfl)
  refine wpIn_take (i := 7) (d := (some 88)) (v := ?vqg7) (a' := ?aqg7) rfl rfl (by kernel_rfl) (by kernel_rfl) (by kernel_rfl) (fun _ _ _ h => h) (Or.inl ⟨by rfl, ?yqg7⟩) ?fqg7 ?_
  case yqg7 => (intro wq hq; go_simp; first | done | with_reducible rfl)
  case fqg7 => (go_frame; rfl)
  refine wpIn_take (i := 8) (d := (some 89)) (v := ?vqg8) (a' := ?aqg8) rfl rfl (by kernel_rfl) (by kernel_rfl) (by kernel_rfl) (fun _ _ _ h => h) (Or.inl ⟨by rfl, ?yqg8⟩) ?fqg8 ?_
  case yqg8 => (intro wq hq; go_simp; first | done | with_reducible rfl)
  case fqg8 => (go_frame; rfl)
  refine wpIn_take (i := 9) (d := (some 90)) (v := ?vqg9) (a' := ?aqg9) rfl rfl (by kernel_rfl) (by kernel_rfl) (by kernel_rfl) (fun _ _ _ h => h) (Or.inl ⟨by rfl, ?yqg9⟩) ?fqg9 ?_
  case yqg9 => (intro wq hq; go_simp; first | done | with_reducible rfl)
  case fqg9 => (go_frame; rfl)
  refine wpIn_take (i := 10) (d := (some 91)) (v := ?vqg10) (a' := ?aqg10) rfl rfl (by kernel_rfl) (by kernel_rfl) (by kernel_rfl) (fun _ _ _ h => h) (Or.inl ⟨by rfl, ?yqg10⟩) ?fqg10 ?_
  case yqg10 => (intro wq hq; have q0 := HQ4.out wq hq; go_simp; first | done | with_reducible rfl)
  case fqg10 => (go_frame; rfl)
  refine wpIn_take (i := 11) (d := (some 92)) (v := ?vqg11) (a' := ?aqg11) rfl rfl (by kernel_rfl) (by kernel_rfl) (by kernel_rfl) (fun _ _ _ h => h) (Or.inl ⟨by rfl, ?yqg11⟩) ?fqg11 ?_
  case yqg11 => (intro wq hq; go_simp; first | done | with_reducible rfl)
  case fqg11 => (go_frame; rfl)
  refine wpIn_take (i := 12) (d := (some 93)) (v := ?vqg12) (a' := ?aqg12) rfl rfl (by kernel_rfl) (by kernel_rfl) (by kernel_rfl) (fun _ _ _ h => h) (Or.inl ⟨by rfl, ?yqg12⟩) ?fqg12 ?_
  case yqg12 => (intro wq hq; have q0 := HE0.out wq hq 0 _ rfl; rw [Nat.add_zero] at q0; have q1 := HE0.out wq hq 1 _ rfl; have q2 := HE0.out wq hq 2 _ rfl; have q3 := HE0.out wq hq 3 _ rfl; have q4 := HE0.out wq hq 4 _ rfl; go_simp; first | done | with_reducible rfl)
  case fqg12 => (go_frame; rfl)
  refine wpIn_take (i := 13) (d := (some 94)) (v := ?vqg13) (a' := ?aqg13) rfl rfl (by kernel_rfl) (by kernel_rfl) (by kernel_rfl) (fun _ _ _ h => h) (Or.inl ⟨by rfl, ?yqg13⟩) ?fqg13 ?_
  case yqg13 => (intro wq hq; have q0 := HQX.out wq hq 0 _ rfl; have q1 := HQX.out wq hq 1 _ rfl; have q2 := HQX.out wq hq 2 _ rfl; have q3 := HQX.out wq hq 3 _ rfl; have q4 := HQX.out wq hq 4 _ rfl; go_simp; first | done | with_reducible rfl)
  case fqg13 => (go_frame; rfl)
  refine wpIn_do (i := 14) hC0 (by kernel_rfl) rfl (by rfl) ?_
  intro K hK
  go_simp
  go_wp2_with (go_at_call 12; refine hS1.mono ?_; rintro x w8 ⟨rfl, hb8⟩)
  have hC1 : Below wZ.heap.size wZ w8 := below_cat hC0 hC0.size hb8
  have hS2 := same_yes HG.out (isJ_low HY1.out (below_in h7Z hC1)) (isJ_low HJ2.out (below_in h2Z hC1))
  clear hC0 hS1
  refine wpIn_take (i := 15) (d := (some 96)) (v := ?vqg15) (a' := ?aqg15) rfl rfl (by kernel_rfl) (by kernel_rfl) (by kernel_rfl) (fun _ _ _ h => h) (Or.inl ⟨by rfl, ?yqg15⟩) ?fqg15 ?_
  case yqg15 => (intro wq hq; go_simp; first | done | with_reducible rfl)
  case fqg15 => (go_frame; rfl)
  refine wpIn_take (i := 16) (d := (some 97)) (v := ?vqg16) (a' := ?aqg16) rfl rfl (by kernel_rfl) (by kernel_rfl) (by kernel_rfl) (fun _ _ _ h => h) (Or.inl ⟨by rfl, ?yqg16⟩) ?fqg16 ?_
  case yqg16 => (intro wq hq; go_simp; first | done | with_reducible rfl)
  case fqg16 => (go_frame; rfl)
  refine wpIn_take (i := 17) (d := (some 98)) (v := ?vqg17) (a' := ?aqg17) rfl rfl (by kernel_rfl) (by kernel_rfl) (by kernel_rfl) (fun _ _ _ h => h) (Or.inl ⟨by rfl, ?yqg17⟩) ?fqg17 ?_
  case yqg17 => (intro wq hq; go_simp; first | done | with_reducible rfl)
  case fqg17 => (go_frame; rfl)
  refine wpIn_take (i := 18) (d := (some 99)) (v := ?vqg18) (a' := ?aqg18) rfl rfl (by kernel_rfl) (by kernel_rfl) (by kernel_rfl) (fun _ _ _ h => h) (Or.inl ⟨by rfl, ?yqg18⟩) ?fqg18 ?_
  case yqg18 => (intro wq hq; have q0 := HQ4.out wq hq; go_simp; first | done | with_reducible rfl)
  case fqg18 => (go_frame; rfl)
  refine wpIn_take (i := 19) (d := (some 100)) (v := ?vqg19) (a' := ?aqg19) rfl rfl (by kernel_rfl) (by kernel_rfl) (by kernel_rfl) (fun _ _ _ h => h) (Or.inl ⟨by rfl, ?yqg19⟩) ?fqg19 ?_
  case yqg19 => (intro wq hq; go_simp; first | done | with_reducible rfl)
  case fqg19 => (go_frame; rfl)
  refine wpIn_take (i := 20) (d := (some 101)) (v := ?vqg20) (a' := ?aqg20) rfl rfl (by kernel_rfl) (by kernel_rfl) (by kernel_rfl) (fun _ _ _ h => h) (Or.inl ⟨by rfl, ?yqg20⟩) ?fqg20 ?_
  case yqg20 => (intro wq hq; have q0 := HE1.out wq hq 0 _ rfl; rw [Nat.add_zero] at q0; have q1 := HE1.out wq hq 1 _ rfl; have q2 := HE1.out wq hq 2 _ rfl; have q3 := HE1.out wq hq 3 _ rfl; have q4 := HE1.out wq hq 4 _ rfl; go_simp; first | done | with_reducible rfl)
  case fqg20 => (go_frame; rfl)
  refine wpIn_take (i := 21) (d := (some 102)) (v := ?vqg21) (a' := ?aqg21) rfl rfl (by kernel_rfl) (by kernel_rfl) (by kernel_rfl) (fun _ _ _ h => h) (Or.inl ⟨by rfl, ?yqg21⟩) ?fqg21 ?_
  case yqg21 => (intro wq hq; have q0 := HQY.out wq hq 0 _ rfl; have q1 := HQY.out wq hq 1 _ rfl; have q2 := HQY.out wq hq 2 _ rfl; have q3 := HQY.out wq hq 3 _ rfl; have q4 := HQY.out wq hq 4 _ rfl; go_simp; first | done | with_reducible rfl)
  case fqg21 => (go_frame; rfl)
  refine wpIn_do (i := 22) hC1 (by kernel_rfl) rfl (by rfl) ?_
  intro K hK
  go_simp
  go_wp2_with (go_at_call 12; refine hS2.mono ?_; rintro x w9 ⟨rfl, hb9⟩)
  have hC2 : Below wZ.heap.size wZ w9 := below_cat hC1 hC1.size hb9
  have hAw := awake_any (tab_at hT (below_in hB7 hC2))
  clear hC1 hS2
  refine wpIn_take (i := 23) (d := (some 104)) (v := ?vqg23) (a' := ?aqg23) rfl rfl (by kernel_rfl) (by kernel_rfl) (by kernel_rfl) (fun _ _ _ h => h) (Or.inl ⟨by rfl, ?yqg23⟩) ?fqg23 ?_
  case yqg23 => (intro wq hq; go_simp; first | done | with_reducible rfl)
  case fqg23 => (go_frame; rfl)
  refine wpIn_take (i := 24) (d := (some 105)) (v := ?vqg24) (a' := ?aqg24) rfl rfl (by kernel_rfl) (by kernel_rfl) (by kernel_rfl) (fun _ _ _ h => h) (Or.inl ⟨by rfl, ?yqg24⟩) ?fqg24 ?_
  case yqg24 => (intro wq hq; go_simp; first | done | with_reducible rfl)
  case fqg24 => (go_frame; rfl)
  refine wpIn_do (i := 25) hC2 (by kernel_rfl) rfl (by rfl) ?_
  intro K hK
  go_simp
  go_wp2_with (go_at_call 10; refine hAw.mono ?_; rintro x w10 ⟨rfl, hb10⟩)
  have hC3 : Below wZ.heap.size wZ w10 := below_cat hC2 hC2.size hb10
  clear hC2 hAw
  refine wpIn_take (i := 26) (d := (some 107)) (v := ?vqg26) (a' := ?aqg26) rfl rfl (by kernel_rfl) (by kernel_rfl) (by kernel_rfl) (fun _ _ _ h => h) (Or.inl ⟨by rfl, ?yqg26⟩) ?fqg26 ?_
  case yqg26 => (intro wq hq; go_simp; first | done | with_reducible rfl)
  case fqg26 => (go_frame; rfl)
  refine wpIn_take (i := 27) (d := (some 4)) (v := ?vqg27) (a' := ?aqg27) rfl rfl (by kernel_rfl) (by kernel_rfl) (by kernel_rfl) (fun _ _ _ h => h) (Or.inl ⟨by rfl, ?yqg27⟩) ?fqg27 ?_
  case yqg27 => (intro wq hq; go_simp; first | done | with_reducible rfl)
  case fqg27 => (go_frame; rfl)
  refine wpIn_done hC3 (by kernel_rfl) ?_ _
  go_wp2
  go_ret
  exact ⟨rfl, below_in hB7 hC3⟩
set_option maxRecDepth 100000 in
set_option maxHeartbeats 8000000 in
theorem blanks_long {w : World} {pa pb : Option Addr} {ca cb : Nat} {xs ys : List Int} (hl : 8000 < xs.length + ys.length) (hl2 : xs.length ≤ 1000000000000000) (hl3 : ys.length ≤ 1000000000000000) :
    Calls Tryd.prog 6 #[.slice pa xs.length ca, .slice pb ys.length cb] w fun x w' => x = .returned (.bool true) ∧ Below w.heap.size w w' := by
  have hli : (8000 : Int) < (xs.length : Int) + (ys.length : Int) := by omega
  go_enter Tryd.func6, Tryd.ntmps6
  go_wp2
  go_ret
  exact ⟨rfl, Below.refl _ _⟩
theorem blanksLaw_any {w : World} (hT : Tab w.heap.size w) {pa pb : Option Addr} {ca cb : Nat} {xs ys : List Int} (ha : Rd w.heap.size w pa ca xs) (hb : Rd w.heap.size w pb cb ys) (hna : pa = none → ca = 0) (hnb : pb = none → cb = 0) (hl2 : xs.length ≤ 1000000000000000) (hl3 : ys.length ≤ 1000000000000000) :
    Calls Tryd.prog 6 #[.slice pa xs.length ca, .slice pb ys.length cb] w fun x w' => x = .returned (.bool true) ∧ Below w.heap.size w w' := by
  rcases Nat.lt_or_ge 8000 (xs.length + ys.length) with hl | hl
  · exact blanks_long hl hl2 hl3
  · have hp := decode_padded (a := xs) (by omega)
    cases hdx : decode xs with
    | bad e l =>
      obtain ⟨l', hz, h2⟩ := hp.2 e l hdx
      exact blanks_bad hT ha hb hna hl hdx hz h2
    | ok x q =>
      obtain ⟨q', hz⟩ := hp.1 x q hdx
      cases hdy : decode ys with
      | bad e l => exact blanks_bad2 hT ha hb hna hl hdx hz hdy
      | ok y r =>
        rcases decode_paired hl hdx hdy with ⟨r', h⟩ | ⟨l, h⟩
        · exact blanks_good hT ha hb hna hnb hl hdx hz hdy h
        · exact blanks_deep hT ha hb hna hnb hl hdx hz hdy h
end Go.Proofs.YtnmhpejnjaeecaaDoor
namespace Go.Proofs.YtnmhpejnjaeecaaDoor
open Go.ChangeShapes Go.WideShapes Go.ChangeAt Go.RowKit

set_option maxRecDepth 100000 in
theorem canonBlanks_lifted (os : Os) (started : os.Started) (H : Type) (enc : TypeId × Value → H) :
    ReturnsInHanded {} Tryd.checked os 6 .any (fun w args => (Rows.canonBlanksSpec.pre enc Tryd.prog Tryd.f6 [] false w args ∧ laidMetH Tryd.prog laid3 w) ∧ sizedMet enc Tryd.prog Tryd.f6 (OpenSpec.ofChange Rows.canonBlanksSpec) false w args)
      (Rows.canonBlanksSpec.post enc Tryd.prog Tryd.f6 false true false false) := by
  refine returnsInHanded_of_change_and (C := Tryd.checked) (X := fun w _ => laidMetH Tryd.prog laid3 w) (fun _ _ _ hh h => h.of_heap hh) ownK started (by kernel_rfl) Tryd.func6
    (ChangeSpec.witness_shaped (enc := enc) (C := Tryd.checked) (os := os) (X := fun w _ => laidMetH Tryd.prog laid3 w) false (World.doorLaid Tryd.prog 400 os) #[.slice none 0 0, .slice none 0 0] 8 rfl (World.shaped_of_RefB (by kernel_rfl) (by kernel_rfl)) (by kernel_rfl) (by kernel_rfl) (by kernel_rfl) (door_met os _)) ?_
  intro W base args ds gs before hval0 hW _ hsz0 hL _
  have hsz : (DataW.weightsEach Tryd.prog (Tryd.f6.params.toList ++ Rows.canonBlanksSpec.plain.varTypes Tryd.prog) (ds ++ gs)).all (· ≤ reachBytes) = true := hsz0
  clear hsz0
  have hval : ∀ (j : Nat) t v, Tryd.f6.params[j]? = some t → args[j]? = some v → Value.okWide Tryd.prog W .any base t v := hval0
  have hW' := hW
  obtain ⟨p, q, hA0, hV, rfl, _, _⟩ := hW
  have hA : DataW.TrodAll enc Tryd.prog W 0 (fun _ => true) true Tryd.f6.params.toList args.toList ds p := hA0
  rw [Tryd.params6] at hA hval hsz
  obtain ⟨v0, v1, d0, d1, q0, q1, rfl, rfl, rfl, h0, h1⟩ := trodAll_two hA
  obtain ⟨rfl, rfl⟩ := trodVars_none hV
  clear hA0 hval0
  simp only [List.append_nil] at hW'
  have hlt0 : ∀ x ∈ q0, x.block < W.heap.size := fun x hx => by simpa using hW'.lt x (List.mem_append_left _ hx)
  have hlt1 : ∀ x ∈ q1, x.block < W.heap.size := fun x hx => by simpa using hW'.lt x (List.mem_append_right _ hx)
  obtain ⟨p0, xs, c0, rfl, hrd0, hn0, hz0⟩ := viewB (hval 0 27 v0 rfl rfl) h0 hlt0 (fun elems spare hd => sized_slice hsz (j := 0) (t := 27) (e := 5) rfl (by subst hd; rfl) Tryd.underlying27)
  obtain ⟨p1, ys, c1, rfl, hrd1, hn1, hz1⟩ := viewB (hval 1 27 v1 rfl rfl) h1 hlt1 (fun elems spare hd => sized_slice hsz (j := 1) (t := 27) (e := 5) rfl (by subst hd; rfl) Tryd.underlying27)
  have hargs0 : ∀ (W' : World), Below W.heap.size W W' → DataW.Trod enc Tryd.prog W' 0 (fun b => decide (b < W.heap.size)) true 27 (.slice p0 xs.length c0) d0 q0 :=
    fun W' hn => Below.trod laidOutK (by kernel_rfl) (of_decide_eq_true (by kernel_rfl)) h0 hn hlt0
  have hargs1 : ∀ (W' : World), Below W.heap.size W W' → DataW.Trod enc Tryd.prog W' 0 (fun b => decide (b < W.heap.size)) true 27 (.slice p1 ys.length c1) d1 q1 :=
    fun W' hn => Below.trod laidOutK (by kernel_rfl) (of_decide_eq_true (by kernel_rfl)) h1 hn hlt1
  refine (blanksLaw_any (tab_of_laid hL) hrd0 hrd1 hn0 hn1 (by omega) (by omega)).mono fun e W' ⟨he, hnx⟩ => ?_
  subst he
  exact ⟨_, rfl, _, _, _, [], q0 ++ q1, [], hW', trodAll_mk1 (shut_bool Tryd.underlying4 true), trodAll_mk2 (hargs0 _ hnx) (hargs1 _ hnx), rfl, hnx.frame _, fun h => by cases h⟩

theorem canonBlanks_holds : Rows.CanonBlanksSaid :=
  OpenClaim.holds_of_wide 6 Tryd.f6 rfl rfl rfl rfl rfl rfl rfl ⟨rfl, rfl, rfl, rfl, rfl⟩ rfl rfl rfl rfl rfl (by kernel_rfl) Tryd.func6 (by kernel_rfl)
    (of_decide_eq_true (by kernel_rfl)) (by unfold Func.isWrapper; first | (rw [if_pos (by decide +kernel)]; kernel_rfl) | (rw [if_neg (by decide +kernel)]; exact ⟨rfl, rfl⟩))
    (fun os started H enc _ => canonBlanks_lifted os started H enc)
/-- The tied card. -/
theorem canonBlanks_card : Rows.CanonBlanksCardSaid :=
  Claim7.holds_tied_plain_at .later [] [.data, .data, .data] true (true, "dc26126e0be186c1bdbd85ed75ecf10e95360e209ce5a2f45387d45e782b16df") false
    canonBlanks_holds (fun _ h => by cases h) (by kernel_rfl) (fun _ h => by cases h) canonBlanks_row_tie rfl ⟨rfl, rfl⟩ (by kernel_rfl) rfl
    (fun f fn hf hfn => by
      obtain rfl : f = 6 := Option.some.inj ((show Tryd.prog.funcNamed "agora/agoralaw01.CanonBlanks" = some 6 by kernel_rfl).symm.trans hf) |>.symm
      obtain rfl : fn = Tryd.f6 := (Option.some.inj (Tryd.func6.symm.trans hfn)).symm
      exact ⟨by kernel_rfl, fun j t ht => by
        rw [Tryd.params6] at ht
        have hm : t ∈ [27, 27] := by simpa using Array.mem_of_getElem? ht
        have hall : ([27, 27].all fun u => !Tryd.prog.wantsStandIn u) = true := by kernel_rfl
        exact (show Tryd.prog.wantsStandIn t = false by simpa using List.all_eq_true.1 hall t hm)⟩)
    (by kernel_rfl)
end Go.Proofs.YtnmhpejnjaeecaaDoor

/-
  Good and Encode, by contracts.
  What is good is good in order, and no longer.
  What was put in order is in order, stays as it is, and is read back.
  Bytes that are letters: what is encoded is so.
  A text that is written is of letters.
  What is encoded is of letters, is decoded, and is bytes.
  What is encoded is bytes; and Encode's answer is read by Decode.
  The document's letters, by contracts: Letter, and Bad given Rune.
  Chapter 1's examples, as the reader and the writer have them.
  awake, by a contract.
  How many of so many values are left, by a contract: what is small is nowhere too long.
  Order, by a contract.
  Values in order, and what stands under a key of them.
  A key found in a row that rises: by contracts.
  What the reader of a content tells: by contracts.
  Levels and numbers of a content: by contracts.
  A map of names to levels.
  A row of names as a map: by a contract.
  Two rows of names joined: by contracts.
-/
import Derived.Test.YtnngalkdjgjmbaaGreatPR06
import Derived.Lib.SlBytesConst
import Derived.Deep.Cut
import Derived.RangeFuncNested
import Derived.Lib.AppendZeros
set_option maxRecDepth 100000
set_option maxHeartbeats 16000000
namespace Go.Proofs.YtnngalkdjgjmbaaGreat
open Go.RowKit
theorem box_stays {w w2 : World} {cs : Array Value} {t : TypeId} (h : Below (w.alloc (.cells cs t)).heap.size (w.alloc (.cells cs t)) w2) : w2.heap[w.heap.size]? = some (.cells cs t (0, 0)) ∧ Below w.heap.size w w2 :=
 ⟨by rw [h.block w.heap.size (by simp)]; exact heap_alloc_new _ _, below_in ((Below.refl _ _).alloc (Nat.le_refl _) _) h⟩
theorem good_any {w : World} {O : Nat → Prop} {j : J} {k i : Int} {t : ByteArray} {pk pl : Option Addr} {nk ck nl cl : Nat} (hO : ∀ x, O x → x < w.heap.size) (hsz : szJ 12 j = true)
    (hj : isJ O w j [.int .i64 k, .int .i64 i, .string t, .slice pk nk ck, .slice pl nl cl]) :
    Calls Tryz.prog 46 #[.agg #[.int .i64 k, .int .i64 i, .string t, .slice pk nk ck, .slice pl nl cl]] w fun x w' => x = .returned (.bool (goodJ 12 j)) ∧ Below w.heap.size w w' := by
 have hG := goods 12 (Nat.le_refl _) (w.alloc (.cells #[.int .i64 k, .int .i64 i, .string t, .slice pk nk ck, .slice pl nl cl] 25)) O j k i 1 t pk pl nk ck nl cl (fun x hx => by have := hO x hx; simp; omega) rfl hsz
  (hj.carry fun x hx => ⟨hx, Below.heap_alloc _ _ _ (hO x hx)⟩)
 go_enter Tryz.func46, Tryz.ntmps46
 go_wp2_with (go_at_call 61; refine hG.mono ?_; rintro x w2 ⟨rfl, hb2⟩)
 go_ret
 exact ⟨rfl, (box_stays hb2).2⟩
theorem mem_ordL {x : J} : ∀ {l : List J}, x ∈ ordL l → ∃ y ∈ l, x = ord y
 | [], h => by simp [ordL] at h
 | j :: r, h => by
  rw [ordL] at h
  rcases List.mem_cons.1 h with rfl | h
  · exact ⟨j, List.mem_cons_self .., rfl⟩
  · obtain ⟨y, hy, e⟩ := mem_ordL h
    exact ⟨y, List.mem_cons_of_mem _ hy, e⟩
section
variable {ks : List ByteArray} {l : List J}
theorem sorted_keys (hl : ks.length = l.length) : ((sortK (ks.zip l)).map (·.1)).Perm ks := by
 have := (sortK_perm (ks.zip l)).map (·.1)
 rw [List.map_fst_zip (by omega)] at this
 exact this
theorem sorted_vals (hl : ks.length = l.length) : ((sortK (ks.zip l)).map (·.2)).Perm l := by
 have := (sortK_perm (ks.zip l)).map (·.2)
 rw [List.map_snd_zip (by omega)] at this
 exact this
end
theorem good_ord : ∀ (d : Nat) (j : J), goodJ d j = true → goodJ d (ord j) = true
 | 0, j, h => by unfold goodJ at h; cases h
 | d + 1, .mk k i t ks l, h => by
  obtain ⟨hgl, hg5, hgn⟩ := good_sub h
  have hall : ∀ x ∈ ordL l, goodJ d x = true := fun x hx => by
   obtain ⟨y, hy, rfl⟩ := mem_ordL hx
   exact good_ord d y (List.all_eq_true.1 hgl y hy)
  rw [ord]
  by_cases k5 : k = 5
  · subst k5
    rw [if_pos rfl]
    obtain ⟨hlen, hp⟩ := hg5 rfl
    have hlen' : ks.length = (ordL l).length := by rw [ordL_length]; exact hlen
    have pk := sorted_keys hlen'
    have pv := sorted_vals hlen'
    have hlet : ks.all letters = true := by
     rw [goodJ, Bool.and_eq_true] at h
     have h2 := h.2
     rw [if_neg (by decide), if_neg (by decide), if_neg (by decide), if_neg (by decide), if_neg (by decide), if_pos rfl] at h2
     simp only [Bool.and_eq_true] at h2
     exact h2.1.2.1
    unfold mapOf
    rw [goodJ]
    have e1 : ((sortK (ks.zip (ordL l))).map (·.1)).all letters = true := by
     rw [List.all_eq_true] at hlet ⊢
     exact fun x hx => hlet x (pk.mem_iff.1 hx)
    have e2 : noKeyTwice ((sortK (ks.zip (ordL l))).map (·.1)) = true := pair_noTwice (pk.symm.pairwise hp fun {_ _} h => h.symm)
    have e3 : ((sortK (ks.zip (ordL l))).map (·.2)).all (goodJ d) = true := by
     rw [List.all_eq_true]
     exact fun x hx => hall x (pv.mem_iff.1 hx)
    rw [e1, e2, e3]
    simp [bare, nix, ByteArray.size]
  · rw [if_neg k5]
    have hks := hgn k5
    subst hks
    rw [goodJ, Bool.and_eq_true] at h ⊢
    have hal : (ordL l).all (goodJ d) = true := List.all_eq_true.2 hall
    refine ⟨by have := h.1; rw [bare_eq] at this ⊢; rw [ordL_length]; exact this, ?_⟩
    have h2 := h.2
    rw [hal]
    rw [hgl] at h2
    rw [if_neg k5] at h2 ⊢
    exact h2
theorem inOrdL_all : ∀ l : List J, inOrdL l = true ↔ ∀ x ∈ l, inOrd x = true
 | [] => by simp [inOrdL]
 | j :: r => by
  rw [inOrdL, Bool.and_eq_true, inOrdL_all r]
  simp
theorem inOrd_ord : ∀ (d : Nat) (j : J), goodJ d j = true → inOrd (ord j) = true
 | 0, j, h => by unfold goodJ at h; cases h
 | d + 1, .mk k i t ks l, h => by
  obtain ⟨hgl, hg5, hgn⟩ := good_sub h
  have hall : ∀ x ∈ ordL l, inOrd x = true := fun x hx => by
   obtain ⟨y, hy, rfl⟩ := mem_ordL hx
   exact inOrd_ord d y (List.all_eq_true.1 hgl y hy)
  rw [ord]
  by_cases k5 : k = 5
  · subst k5
    rw [if_pos rfl]
    obtain ⟨hlen, hp⟩ := hg5 rfl
    have hlen' : ks.length = (ordL l).length := by rw [ordL_length]; exact hlen
    have pv := sorted_vals hlen'
    unfold mapOf
    rw [inOrd, Bool.and_eq_true, inOrdL_all]
    refine ⟨sortK_rises' _ ?_, fun x hx => hall x (pv.mem_iff.1 hx)⟩
    have : ((ks.zip (ordL l)).map (·.1)).Pairwise (· ≠ ·) := by rw [List.map_fst_zip (by omega)]; exact hp
    exact List.pairwise_map.1 this
  · rw [if_neg k5]
    rw [inOrd, Bool.and_eq_true, inOrdL_all]
    exact ⟨rfl, hall⟩
theorem ord_same : ∀ (d : Nat) (j : J), goodJ d j = true → inOrd j = true → ord j = j
 | 0, j, h, _ => by unfold goodJ at h; cases h
 | d + 1, .mk k i t ks l, h, ho => by
  obtain ⟨hgl, hg5, hgn⟩ := good_sub h
  rw [inOrd, Bool.and_eq_true, inOrdL_all] at ho
  have hl : ∀ (r : List J), (∀ x ∈ r, x ∈ l) → ordL r = r := by
   intro r
   induction r with
   | nil => intro _; rfl
   | cons y r ih =>
    intro hr
    rw [ordL, ih fun x hx => hr x (List.mem_cons_of_mem _ hx), ord_same d y (List.all_eq_true.1 hgl y (hr y (List.mem_cons_self ..))) (ho.2 y (hr y (List.mem_cons_self ..)))]
  rw [ord, hl l fun x hx => hx]
  by_cases k5 : k = 5
  · subst k5
    rw [if_pos rfl]
    obtain ⟨hlen, hp⟩ := hg5 rfl
    unfold mapOf
    have hr : rises ((ks.zip l).map (·.1)) = true := by rw [List.map_fst_zip (by omega)]; exact ho.1
    rw [sortK_rises _ hr, List.map_fst_zip (by omega), List.map_snd_zip (by omega)]
    rw [goodJ, Bool.and_eq_true] at h
    have hb := h.1
    unfold bare at hb
    simp only [Bool.and_eq_true, Bool.or_eq_true, decide_eq_true_eq] at hb
    obtain ⟨⟨⟨h1, h2⟩, _⟩, _⟩ := hb
    have e1 : i = 0 := by omega
    have e2 : t = nix := nix_of (by omega)
    rw [e1, e2]
  · rw [if_neg k5, hgn k5]
theorem letter_any (n : Int) (h0 : 0 ≤ n) (w : World) : Calls Tryz.prog 55 #[.int .i64 n] w fun x w' => x = .returned (.bool (letterOk n)) ∧ w = w' := by
 by_cases h1 : n ≤ 1114111
 · by_cases h2 : n < 55296
   · have HL : Hid (letterOk n = true) := by show _ = _; unfold letterOk; simp [h1, h2]
     go_enter Tryz.func55, Tryz.ntmps55
     go_wp2
     go_ret
     refine ⟨ret_bool ?_, rfl⟩
     first | exact HL.out.symm | (rw [HL.out]; simp; omega)
   · have HL : Hid (letterOk n = decide (57344 ≤ n)) := by show _ = _; unfold letterOk; simp [h1, h2]
     go_enter Tryz.func55, Tryz.ntmps55
     go_wp2
     go_ret
     refine ⟨ret_bool ?_, rfl⟩
     rw [HL.out, decide_eq_decide]
     omega
 · have HL : Hid (letterOk n = false) := by show _ = _; unfold letterOk; simp [h1]
   go_enter Tryz.func55, Tryz.ntmps55
   go_wp2
   go_ret
   refine ⟨ret_bool ?_, rfl⟩
   first | exact HL.out.symm | (rw [HL.out]; simp; omega)
def Runes : Prop := ∀ (s : ByteArray) (p : Nat) (w : World), p < s.size → s.size ≤ 1000000000 →
 Calls Tryz.prog 37 #[.string s, .int .i64 p] w fun x w' => x = .returned (.tuple #[.int .i64 (runeAt (ints s) p).1, .int .i64 ((runeAt (ints s) p).2 : Nat)]) ∧ w = w'
def badAt (r : Option Nat) : Int := match r with
 | none => -1
 | some p => p
theorem bad_any (V : Runes) (s : ByteArray) (w : World) (hs : s.size ≤ 1000000000) : Calls Tryz.prog 14 #[.string s] w fun x w' => x = .returned (.int .i64 (badAt (stray (ints s)))) ∧ w = w' := by
 go_enter Tryz.func14, Tryz.ntmps14
 go_wp2
 go_loopw [3] (fun i wr => ∃ (p m : Nat), i = .int .i64 p ∧ p ≤ s.size + 4 ∧ s.size ≤ p + m ∧ strayL (ints s) m p = stray (ints s) ∧ wr = w) (fun i _ => s.size - (intOf i).toNat)
 case atStart => exact ⟨0, s.size, rfl, by omega, by omega, by unfold stray; rw [ints_length], rfl⟩
 case round =>
  obtain ⟨p, m, rfl, hp4, hpm, hst, rfl⟩ := hrel
  have HS : Hid (strayL (ints s) m p = stray (ints s)) := hst
  clear hst
  by_cases hp : p < s.size
  · have hpc : (p : Int) < (s.size : Int) := by omega
    have hV := V s p wr hp hs
    obtain ⟨m, rfl⟩ : ∃ m', m = m' + 1 := ⟨m - 1, by omega⟩
    unfold strayL at HS
    rw [ints_length, if_pos hp] at HS
    have hw4 := rune_width (ints s) p
    obtain ⟨⟨c, wd⟩, hr⟩ : ∃ r, runeAt (ints s) p = r := ⟨_, rfl⟩
    rw [hr] at HS hV hw4
    simp only at HS hV hw4
    clear hr
    by_cases h0 : wd = 0
    · subst h0
      rw [if_pos rfl] at HS
      go_wp2_with (go_at_call 37; refine hV.mono ?_; rintro x w' ⟨rfl, rfl⟩)
      go_ret
      rw [← HS.out]
      exact ⟨rfl, rfl⟩
    · rw [if_neg h0] at HS
      have hwi : (wd : Int) ≠ 0 := by omega
      go_wp2_with (go_at_call 37; refine hV.mono ?_; rintro x w' ⟨rfl, rfl⟩)
      go_roundw
      case rel => exact ⟨p + wd, m, by go_num, by omega, by omega, HS.out, trivial⟩
      case measure => simp [intOf]; omega
  · go_wp2
    go_ret
    have hn : strayL (ints s) m p = none := by
     cases m with
     | zero => rfl
     | succ m => unfold strayL; rw [ints_length, if_neg hp]
    rw [← HS.out, hn]
    exact ⟨rfl, rfl⟩
theorem below_cat {B : Nat} {a b c : World} (h : Below B a b) (hB : B ≤ b.heap.size) (g : Below b.heap.size b c) : Below B a c := h.trans ⟨g.os, g.tape, g.output, g.size, fun k hk => g.block k (by omega)⟩
theorem key_getD {ks : List ByteArray} {m : Nat} (hm : m < ks.length) : ks.getD m nix = ks[m] := by
 rw [List.getD_eq_getElem?_getD, List.getElem?_eq_getElem hm]; rfl
theorem sz_less : ∀ (d e : Nat) (j : J), d ≤ e → szJ e j = true → szJ d j = true
 | 0, _, _, _, _ => by unfold szJ; rfl
 | d + 1, 0, _, h, _ => by omega
 | d + 1, e + 1, .mk k i t ks l, h, hs => by
  unfold szJ at hs ⊢
  simp only [Bool.and_eq_true] at hs ⊢
  refine ⟨hs.1, hs.2.1, hs.2.2.1, hs.2.2.2.1, ?_⟩
  rw [List.all_eq_true]
  intro x hx
  exact sz_less d e x (by omega) (List.all_eq_true.1 hs.2.2.2.2 x hx)
def ordT (j : J) : J := if goodJ 12 j = true then ord j else J.zero
theorem two_new {w : World} (o1 o2 : Obj) : ((w.alloc o1).alloc o2).heap[w.heap.size + 1]? = some o2 := by
 have := heap_alloc_new (w.alloc o1) o2
 simpa using this
theorem below_then2 {w w2 w3 : World} (h : Below w.heap.size w w2) (hk : Keep (One (w.heap.size + 1)) w2 w3) : Below w.heap.size w w3 :=
 h.trans (hk.below h.size fun k hk' e => by unfold One at e; omega)
theorem order_any {w : World} {O : Nat → Prop} {j : J} {k i : Int} {t : ByteArray} {pk pl : Option Addr} {nk ck nl cl : Nat} (hO : ∀ x, O x → x < w.heap.size) (hsz : szJ 12 j = true)
    (hj : isJ O w j [.int .i64 k, .int .i64 i, .string t, .slice pk nk ck, .slice pl nl cl]) :
    Calls Tryz.prog 23 #[.agg #[.int .i64 k, .int .i64 i, .string t, .slice pk nk ck, .slice pl nl cl]] w fun x w' => (∃ kr ir tr pr nr cr qr mr dr, x = .returned (.agg #[.int .i64 kr, .int .i64 ir, .string tr, .slice pr nr cr, .slice qr mr dr]) ∧ isJ (fun b => b < w'.heap.size) w' (ordT j) [.int .i64 kr, .int .i64 ir, .string tr, .slice pr nr cr, .slice qr mr dr]) ∧ Below w.heap.size w w' := by
 have hbB : Below w.heap.size w ((w.alloc (.cells #[.int .i64 k, .int .i64 i, .string t, .slice pk nk ck, .slice pl nl cl] 25)).alloc (.cells #[.int .i64 0, .int .i64 0, .string ⟨#[]⟩, .slice none 0 0, .slice none 0 0] 25)) := ((Below.refl _ _).alloc (Nat.le_refl _) _).alloc (by simp) _
 obtain ⟨wB, hwB⟩ : ∃ wB, wB = ((w.alloc (.cells #[.int .i64 k, .int .i64 i, .string t, .slice pk nk ck, .slice pl nl cl] 25)).alloc (.cells #[.int .i64 0, .int .i64 0, .string ⟨#[]⟩, .slice none 0 0, .slice none 0 0] 25)) := ⟨_, rfl⟩
 have hA : wB.heap[w.heap.size]? = some (.cells #[.int .i64 k, .int .i64 i, .string t, .slice pk nk ck, .slice pl nl cl] 25 (0, 0)) := by
  rw [hwB, Below.heap_alloc _ _ _ (by simp)]
  exact heap_alloc_new _ _
 have hR : wB.heap[w.heap.size + 1]? = some (.cells #[.int .i64 0, .int .i64 0, .string ⟨#[]⟩, .slice none 0 0, .slice none 0 0] 25 (0, 0)) := by rw [hwB]; exact two_new _ _
 rw [← hwB] at hbB
 have hOB : ∀ x, O x → x < wB.heap.size := fun x hx => Nat.lt_of_lt_of_le (hO x hx) hbB.size
 have hjB := hj.carry (O' := O) (w' := wB) fun x hx => ⟨hx, hbB.block x (hO x hx)⟩
 have hG := good_any hOB hsz hjB
 have hsA : w.heap.size < wB.heap.size := (Array.getElem?_eq_some_iff.1 hA).1
 have hsR : w.heap.size + 1 < wB.heap.size := (Array.getElem?_eq_some_iff.1 hR).1
 have c0 := five_c0 hA
 cases hg : goodJ 12 j with
 | false =>
  have HZ : Hid (ordT j = J.zero) := by show _ = _; unfold ordT; rw [hg]; rfl
  rw [hg] at hG
  rw [hwB] at hG
  clear hj hjB c0
  go_enter Tryz.func23, Tryz.ntmps23
  go_wp2_with (go_at_call 46; refine hG.mono ?_; rintro x w2 ⟨rfl, hb2⟩
               rw [← hwB] at hb2
               have hres := (hb2.block _ hsR).trans hR
               have i0 := five_c0 hres; have i1 := five_c1 hres; have i2 := five_c2 hres; have i3 := five_c3 hres; have i4 := five_c4 hres
               have z0 := five_fz hres 0; have z1 := five_fz hres 1; have z2 := five_fz hres 2; have z3 := five_fz hres 3; have z4 := five_fz hres 4)
  have h5 := set5_heap hres (.int .i64 0) (.int .i64 0) (.string ⟨#[]⟩) (.slice none 0 0) (.slice none 0 0)
  have HK5 : Keep (One (w.heap.size + 1)) w2 _ := set5_keep w2 (w.heap.size + 1) (.int .i64 0) (.int .i64 0) (.string ⟨#[]⟩) (.slice none 0 0) (.slice none 0 0)
  unfold set5 at h5 HK5
  have k0 := five_c0 h5; have k1 := five_c1 h5; have k2 := five_c2 h5; have k3 := five_c3 h5; have k4 := five_c4 h5
  refine bodyPost_ret (v := .agg #[.int .i64 0, .int .i64 0, .string ⟨#[]⟩, .slice none 0 0, .slice none 0 0]) (by simp [results, Tryz.results23, go_sem, k0, k1, k2, k3, k4]) rfl ?_
  refine ⟨⟨_, _, _, _, _, _, _, _, _, rfl, ?_⟩, below_then2 (below_in hbB hb2) HK5⟩
  rw [HZ.out]
  exact isJ_zero _ _
 | true =>
  have HZ : Hid (ordT j = ord j) := by show _ = _; unfold ordT; rw [hg]; rfl
  have HGG : Hid (goodJ 12 j = true) := hg
  have HJ : Hid (isJ O wB j [.int .i64 k, .int .i64 i, .string t, .slice pk nk ck, .slice pl nl cl]) := hjB
  rw [hg] at hG
  rw [hwB] at hG
  clear hj hjB hg c0
  go_enter Tryz.func23, Tryz.ntmps23
  go_wp2_with (first
   | (go_at_call 46; refine hG.mono ?_; rintro x w2 ⟨rfl, hb2⟩
      rw [← hwB] at hb2
      have hA2 := (hb2.block _ hsA).trans hA
      have c0 := five_c0 hA2; have c1 := five_c1 hA2; have c2 := five_c2 hA2; have c3 := five_c3 hA2; have c4 := five_c4 hA2
      have hArr := arrs 12 w2 O j k i t pk pl nk ck nl cl (fun x hx => Nat.lt_of_lt_of_le (hOB x hx) hb2.size) HGG.out hsz (HJ.out.carry fun x hx => ⟨hx, hb2.block x (hOB x hx)⟩))
   | (go_at_call 47; refine hArr.mono ?_; rintro x w4 ⟨kr, ir, tr, pr, nr, cr, qr, mr, dr, rfl, hjr, hb4⟩
      have hB4 := below_in hb2 hb4
      have hres := (hB4.block _ hsR).trans hR
      have i0 := five_c0 hres; have i1 := five_c1 hres; have i2 := five_c2 hres; have i3 := five_c3 hres; have i4 := five_c4 hres
      have z0 := five_fz hres 0; have z1 := five_fz hres 1; have z2 := five_fz hres 2; have z3 := five_fz hres 3; have z4 := five_fz hres 4))
  have h5 := set5_heap hres (.int .i64 kr) (.int .i64 ir) (.string tr) (.slice pr nr cr) (.slice qr mr dr)
  have HK5 : Keep (One (w.heap.size + 1)) w4 _ := set5_keep w4 (w.heap.size + 1) (.int .i64 kr) (.int .i64 ir) (.string tr) (.slice pr nr cr) (.slice qr mr dr)
  unfold set5 at h5 HK5
  have k0 := five_c0 h5; have k1 := five_c1 h5; have k2 := five_c2 h5; have k3 := five_c3 h5; have k4 := five_c4 h5
  refine bodyPost_ret (v := .agg #[.int .i64 kr, .int .i64 ir, .string tr, .slice pr nr cr, .slice qr mr dr]) (by simp [results, Tryz.results23, go_sem, k0, k1, k2, k3, k4]) rfl ?_
  refine ⟨⟨_, _, _, _, _, _, _, _, _, rfl, ?_⟩, below_then2 (below_in hbB hB4) HK5⟩
  rw [HZ.out]
  refine hjr.carry fun x hx => ?_
  have hlt : x < w4.heap.size ∧ x ≠ w.heap.size + 1 := by
   have s2 := hb2.size
   have s4 := hb4.size
   rcases hx with hx | hx
   · have := hO x hx
     exact ⟨by have := hbB.size; omega, by omega⟩
   · have := hx.1
     exact ⟨hx.2, by omega⟩
  exact ⟨Nat.lt_of_lt_of_le hlt.1 HK5.size, HK5.block x hlt.1 (by unfold One; exact hlt.2)⟩
theorem szP_ordL {d : Nat} (ih : ∀ j, goodJ d j = true → szJ d j = true → szJ d (ord j) = true) : ∀ l : List J, l.all (goodJ d) = true → l.all (szJ d) = true → (ordL l).all (szJ d) = true
 | [], _, _ => rfl
 | j :: r, hg, hs => by
  rw [List.all_cons, Bool.and_eq_true] at hg hs
  rw [ordL, List.all_cons, ih j hg.1 hs.1, szP_ordL ih r hg.2 hs.2]
  rfl
theorem szP_ord : ∀ (d : Nat) (j : J), goodJ d j = true → szJ d j = true → szJ d (ord j) = true
 | 0, j, _, _ => by unfold szJ; rfl
 | d + 1, .mk k i t ks l, hg, hs => by
  obtain ⟨hgl, hg5, hgn⟩ := good_sub hg
  unfold szJ at hs
  simp only [Bool.and_eq_true, decide_eq_true_eq] at hs
  obtain ⟨hts, hkn, hks, hll, hls⟩ := hs
  have hol := szP_ordL (szP_ord d) l hgl hls
  by_cases h5 : k = 5
  · subst h5
    have hlen : ks.length = (ordL l).length := by rw [ordL_length]; exact (hg5 rfl).1
    have p1 := sorted_keys hlen
    have p2 := sorted_vals hlen
    rw [ord, if_pos rfl]
    unfold mapOf szJ
    simp only [Bool.and_eq_true, decide_eq_true_eq]
    refine ⟨by decide, by rw [p1.length_eq]; exact hkn, ?_, by rw [p2.length_eq, ordL_length]; exact hll, ?_⟩
    · rw [List.all_eq_true] at hks ⊢
      exact fun x hx => hks x (p1.subset hx)
    · rw [List.all_eq_true] at hol ⊢
      exact fun x hx => hol x (p2.subset hx)
  · rw [ord, if_neg h5]
    unfold szJ
    simp only [Bool.and_eq_true, decide_eq_true_eq]
    exact ⟨hts, by simp, by rfl, by rw [ordL_length]; exact hll, hol⟩
def OkJ (d : Nat) (j : J) : Prop := goodJ d j = true ∧ inOrd j = true ∧ szJ d j = true
theorem ordT_okJ {j : J} (hs : szJ 12 j = true) : OkJ 12 (ordT j) := by
 unfold ordT
 split
 · rename_i hg
   exact ⟨good_ord 12 j hg, inOrd_ord 12 j hg, szP_ord 12 j hg hs⟩
 · exact ⟨by kernel_rfl, by kernel_rfl, by kernel_rfl⟩
theorem OkJ.parts {d : Nat} {k i : Int} {t : ByteArray} {ks : List ByteArray} {l : List J} (h : OkJ (d + 1) (.mk k i t ks l)) :
    rises ks = true ∧ (k = 5 → ks.length = l.length) ∧ (k ≠ 5 → ks = []) ∧ ks.length ≤ 100000 ∧ (∀ x ∈ ks, x.size ≤ 1000000000) ∧ ∀ x ∈ l, OkJ d x := by
 obtain ⟨hg, ho, hs⟩ := h
 obtain ⟨hgl, hg5, hgn⟩ := good_sub hg
 rw [inOrd, Bool.and_eq_true, inOrdL_all] at ho
 unfold szJ at hs
 simp only [Bool.and_eq_true, decide_eq_true_eq] at hs
 obtain ⟨_, hkn, hks, _, hls⟩ := hs
 refine ⟨ho.1, fun e => (hg5 e).1, hgn, hkn, fun x hx => by simpa using List.all_eq_true.1 hks x hx, fun x hx => ⟨List.all_eq_true.1 hgl x hx, ho.2 x hx, List.all_eq_true.1 hls x hx⟩⟩
theorem OkJ.lens {d : Nat} {k i : Int} {t : ByteArray} {ks : List ByteArray} {l : List J} (h : OkJ (d + 1) (.mk k i t ks l)) : ks.length ≤ l.length := by
 obtain ⟨_, h5, hn, _⟩ := h.parts
 by_cases e : k = 5
 · exact Nat.le_of_eq (h5 e)
 · rw [hn e]; exact Nat.zero_le _
def J.ks : J → List ByteArray
 | .mk _ _ _ ks _ => ks
def J.ls : J → List J
 | .mk _ _ _ _ l => l
def J.kd : J → Int
 | .mk k _ _ _ _ => k
def J.nm : J → Int
 | .mk _ i _ _ _ => i
theorem ltP_ne {a b : ByteArray} (h : ltK a b = true) : a ≠ b := by
 intro e; subst e; rw [ltK_irrefl] at h; cases h
def lookV : List ByteArray → List J → ByteArray → Option J
 | k :: ks, v :: l, s => if k.toList == s.toList then some v else lookV ks l s
 | _, _, _ => none
theorem lookJ_at : ∀ {ks : List ByteArray} {l : List J} {s : ByteArray} {n : Nat}, ks.length ≤ l.length → n < ks.length → ks.getD n nix = s → (∀ m, m < n → ks.getD m nix ≠ s) → lookV ks l s = some (l.getD n J.zero)
 | [], _, _, _, _, h, _, _ => absurd h (by simp)
 | _ :: _, [], _, _, h, _, _, _ => absurd h (by simp)
 | k :: ks, v :: l, s, 0, _, _, he, _ => by
  have he : k = s := by simpa using he
  subst he
  simp [lookV]
 | k :: ks, v :: l, s, n + 1, h1, h2, he, hm => by
  have h0 : k ≠ s := by have := hm 0 (by omega); simpa using this
  unfold lookV
  rw [if_neg (fun e => h0 (bytes_eq.1 e)), lookJ_at (n := n) (by simpa using h1) (by simpa using h2) (by simpa using he) (fun m h => by have := hm (m + 1) (by omega); simpa using this)]
  simp
theorem lookJ_none : ∀ {ks : List ByteArray} {l : List J} {s : ByteArray}, s ∉ ks → lookV ks l s = none
 | [], _, _, _ => by unfold lookV; rfl
 | k :: ks, [], _, _ => by unfold lookV; rfl
 | k :: ks, v :: l, s, h => by
  unfold lookV
  rw [if_neg (fun e => h (by simp [bytes_eq.1 e]))]
  exact lookJ_none (fun h' => h (by simp [h']))
theorem lookJ_mem : ∀ {ks : List ByteArray} {l : List J} {s : ByteArray} {v : J}, lookV ks l s = some v → v ∈ l
 | [], _, _, _, h => by unfold lookV at h; cases h
 | _ :: _, [], _, _, h => by unfold lookV at h; cases h
 | k :: ks, x :: l, s, v, h => by
  unfold lookV at h
  split at h
  · cases h; simp
  · exact List.mem_cons_of_mem _ (lookJ_mem h)
theorem rises_lt : ∀ {ks : List ByteArray}, rises ks = true → ∀ {m n : Nat}, m < n → n < ks.length → ltK (ks.getD m nix) (ks.getD n nix) = true
 | [], _, _, _, _, h => absurd h (by simp)
 | k :: ks, h, 0, n + 1, _, hn => by
  rw [rises, Bool.and_eq_true] at h
  have hn' : n < ks.length := by simpa using hn
  have := List.all_eq_true.1 h.1 ks[n] (List.getElem_mem hn')
  simpa [List.getD_eq_getElem?_getD, List.getElem?_eq_getElem hn'] using this
 | k :: ks, h, m + 1, n + 1, hmn, hn => by
  rw [rises, Bool.and_eq_true] at h
  have := rises_lt h.2 (m := m) (n := n) (by omega) (by simpa using hn)
  simpa using this
theorem bytesLessP_eq : ∀ x y : List UInt8, Op.bytesLess x y = lessB x y
 | _, [] => by cases ‹List UInt8› <;> rfl
 | [], _ :: _ => rfl
 | a :: x, b :: y => by
  unfold Op.bytesLess lessB
  rw [bytesLessP_eq x y]
  cases h : decide (a = b) <;> simp_all
theorem lessP_ltK (a b : ByteArray) : Op.bytesLess a.toList b.toList = ltK a b := by
 rw [bytesLessP_eq]
 unfold ltK
 rw [Lib.toList_data, Lib.toList_data]
theorem cNaN_any {w : World} (s : ByteArray) : Calls Tryz.prog 86 #[.string s] w fun e w' => e = .returned (.bool false) ∧ w = w' := by
 go_enter Tryz.func86, Tryz.ntmps86
 go_wp2
 go_ret
 exact ⟨by simp, rfl⟩
theorem sNaN_any {w : World} (s : ByteArray) : Calls Tryz.prog 76 #[.string s] w fun e w' => e = .returned (.bool false) ∧ w = w' := by
 go_enter Tryz.func76, Tryz.ntmps76
 go_wp2
 go_ret
 exact ⟨by simp, rfl⟩
theorem less_any {w : World} (s t : ByteArray) : Calls Tryz.prog 75 #[.string s, .string t] w fun e w' => e = .returned (.bool (ltK s t)) ∧ w = w' := by
 have hl := lessP_ltK s t
 go_enter Tryz.func75, Tryz.ntmps75
 go_wp2_with (go_at_call 86; refine (cNaN_any s).mono ?_; rintro e w' ⟨rfl, rfl⟩)
 go_ret
 exact ⟨rfl, rfl⟩
structure At (ks : List ByteArray) (s : ByteArray) (n : Nat) : Prop where
 le : n ≤ ks.length
 lo : ∀ m, m < n → ltK (keyAtK ks m) s = true
 hi : ∀ m, n ≤ m → m < ks.length → ltK (keyAtK ks m) s = false
theorem search_any {O : Nat → Prop} {w : World} {p : Option Addr} {c : Nat} {ks : List ByteArray} (h : RdK O w p c ks) (hr : rises ks = true) (hn : ks.length ≤ 100000) (s : ByteArray) :
    Calls Tryz.prog 63 #[.slice p ks.length c, .string s] w fun e w' => (∃ n : Nat, e = .returned (.tuple #[.int .i64 n, .bool (decide (n < ks.length) && ((keyAtK ks n).toList == s.toList))]) ∧ At ks s n) ∧ w = w' := by
 obtain ⟨m, hm⟩ : ∃ m, ks.length = m := ⟨_, rfl⟩
 have HM : Hid (ks.length = m) := hm
 have hc := h.1
 rw [hm] at hn hc ⊢
 clear hm
 have HR : Hid (rises ks = true) := hr
 clear hr
 go_enter Tryz.func63, Tryz.ntmps63
 go_wp2
 go_loopw [7, 8] (fun i j wr => (∃ a b : Nat, i = .int .i64 a ∧ j = .int .i64 b ∧ a ≤ b ∧ b ≤ m ∧ Hid ((∀ x, x < a → ltK (keyAtK ks x) s = true) ∧ (∀ x, b ≤ x → x < ks.length → ltK (keyAtK ks x) s = false))) ∧ wr = w) (fun i j _ => (intOf j).toNat - (intOf i).toNat)
 case atStart => exact ⟨⟨0, m, rfl, rfl, Nat.zero_le _, Nat.le_refl _, fun x hx => absurd hx (by omega), fun x h1 h2 => absurd h2 (by rw [HM.out]; omega)⟩, rfl⟩
 case round =>
  obtain ⟨⟨a, b, rfl, rfl, hab, hbm, hin⟩, hwr⟩ := hrel
  rw [hwr]
  clear hwr
  by_cases hlt : a < b
  · go_upto_region 5 with fail
    obtain ⟨h2, he⟩ : ∃ h2 : Nat, ((a : Int) + b) / 2 = h2 ∧ a ≤ h2 ∧ h2 < b := ⟨(a + b) / 2, by omega, by omega, by omega⟩
    have HE : Hid (a ≤ h2 ∧ h2 < b) := he.2
    rw [he.1]
    clear he
    have hkm : h2 < m := by have := HE.out; omega
    have hkl : h2 < ks.length := by rw [HM.out]; exact hkm
    obtain ⟨ad, rfl, _, hcl⟩ := h.2 h2 hkl
    have HLT : Hid (∀ x, x < h2 → ltK (keyAtK ks x) (keyAtK ks h2) = true) := fun x hx => rises_lt HR.out hx hkl
    have HGT : Hid (∀ x, h2 < x → x < ks.length → ltK (keyAtK ks h2) (keyAtK ks x) = true) := fun x hx hl => rises_lt HR.out hx hl
    have HIN : Hid ((∀ x, x < a → ltK (keyAtK ks x) s = true) ∧ (∀ x, b ≤ x → x < ks.length → ltK (keyAtK ks x) s = false)) := hin
    change w.cell? (ad.add h2) = some (.string (keyAtK ks h2)) at hcl
    generalize hK : keyAtK ks h2 = K at hcl HLT HGT
    have HKK : Hid (keyAtK ks h2 = K) := hK
    clear hK hin hkl
    have hle := less_any (w := w) K s
    cases hl : ltK K s with
    | true =>
     have HL : Hid (ltK K s = true) := hl
     rw [hl] at hle
     clear hl
     go_wp2_with (go_at_call 75; refine hle.mono ?_; rintro e w' ⟨rfl, rfl⟩)
     go_roundw
     case rel =>
      have := HE.out
      refine ⟨⟨h2 + 1, b, by simp, rfl, by omega, hbm, fun x hx => ?_, HIN.out.2⟩, trivial⟩
      by_cases e : x = h2
      · subst e; rw [HKK.out]; exact HL.out
      · exact ltK_trans (HLT.out x (by omega)) HL.out
     case measure => have := HE.out; simp [intOf]; omega
    | false =>
     have HL : Hid (ltK K s = false) := hl
     rw [hl] at hle
     clear hl
     go_wp2_with (go_at_call 75; refine hle.mono ?_; rintro e w' ⟨rfl, rfl⟩)
     go_roundw
     case rel =>
      have := HE.out
      refine ⟨⟨a, h2, rfl, rfl, by omega, by omega, HIN.out.1, fun x h1 h3 => ?_⟩, trivial⟩
      by_cases e : x = h2
      · subst e; rw [HKK.out]; exact HL.out
      · cases hx : ltK (keyAtK ks x) s with
        | false => rfl
        | true =>
         have := ltK_trans (HGT.out x (by omega) h3) hx
         rw [HL.out] at this
         cases this
     case measure => have := HE.out; simp [intOf]; omega
  · obtain rfl : a = b := by omega
    have HIN : Hid (At ks s a) := ⟨by rw [HM.out]; exact hbm, hin.out.1, hin.out.2⟩
    clear hin
    by_cases ham : a < m
    · obtain ⟨ad, rfl, _, hcl⟩ := h.2 a (by rw [HM.out]; exact ham)
      change w.cell? (ad.add a) = some (.string (keyAtK ks a)) at hcl
      have HRS : Hid (∀ v, v = (.tuple #[.int .i64 a, .bool (decide (a < m) && ((keyAtK ks a).toList == s.toList))] : Value) → ∃ n : Nat, Ending.returned v = .returned (.tuple #[.int .i64 n, .bool (decide (n < m) && ((keyAtK ks n).toList == s.toList))]) ∧ At ks s n) := fun v hv => ⟨a, by rw [hv], HIN.out⟩
      generalize keyAtK ks a = K at hcl HRS
      have hna := sNaN_any (w := w) K
      cases hq : (K.toList == s.toList) with
      | true =>
       rw [hq] at HRS
       go_wp2
       go_ret2
       exact ⟨HRS.out _ (by simp [ham]), rfl⟩
      | false =>
       rw [hq] at HRS
       go_wp2_with (go_at_call 76; refine hna.mono ?_; rintro e w' ⟨rfl, rfl⟩)
       go_ret2
       exact ⟨HRS.out _ (by simp), rfl⟩
    · have HRS : Hid (∀ v, v = (.tuple #[.int .i64 a, .bool false] : Value) → ∃ n : Nat, Ending.returned v = .returned (.tuple #[.int .i64 n, .bool (decide (n < m) && ((keyAtK ks n).toList == s.toList))]) ∧ At ks s n) := fun v hv => ⟨a, by rw [hv]; simp [ham], HIN.out⟩
      go_wp2
      go_ret2
      exact ⟨HRS.out _ rfl, rfl⟩
theorem resultsP_cell_tmp {fn : Func} {a u : Tmp} {t : TypeId} (h : fn.results = #[.cell a t, .tmp u]) (tmps : Array Value) (P : Program) (w : World) {ad : Addr} {v : Value} (hp : tmps.getD a undef = .pointer (some ad)) (hl : (loadVar t ad).run P w = .ok v w) :
    (results fn tmps).run P w = .ok (.tuple #[v, tmps.getD u undef]) w := by
 rw [Array.getD_eq_getD_getElem?] at hp
 simp [results, h, hp, hl, asAddr]
theorem loadJP {w : World} {b t : Nat} {a0 a1 a2 a3 a4 : Value} (h : w.heap[b]? = some (.cells #[a0, a1, a2, a3, a4] t (0, 0))) : (loadVar 25 ⟨b, 0, none⟩).run Tryz.prog w = .ok (.agg #[a0, a1, a2, a3, a4]) w := by
 have k0 := cellP h 0 _ rfl; have k1 := cellP h 1 _ rfl; have k2 := cellP h 2 _ rfl; have k3 := cellP h 3 _ rfl; have k4 := cellP h 4 _ rfl
 simp [loadVar, go_sem, k0, k1, k2, k3, k4]
theorem isJP_parts {O : Nat → Prop} {w : World} {kx ix : Int} {tx : ByteArray} {ks : List ByteArray} {l : List J} {k i : Int} {t : ByteArray} {pk pl : Option Addr} {nk ck nl cl : Nat} (h : isJ O w (.mk kx ix tx ks l) [.int .i64 k, .int .i64 i, .string t, .slice pk nk ck, .slice pl nl cl]) :
    k = kx ∧ i = ix ∧ t = tx ∧ nk = ks.length ∧ nl = l.length ∧ RdK O w pk ck ks ∧ l.length ≤ cl ∧ isJs O w pl 0 l := by
 unfold isJ at h
 obtain ⟨pk', ck', pl', cl', e, h1, h2, h3⟩ := h
 simp only [List.cons.injEq, Value.int.injEq, Value.string.injEq, Value.slice.injEq, true_and, and_true] at e
 obtain ⟨rfl, rfl, rfl, ⟨rfl, rfl, rfl⟩, rfl, rfl, rfl⟩ := e
 exact ⟨rfl, rfl, rfl, rfl, rfl, h1, h2, h3⟩
abbrev zJP : Value := .agg #[.int .i64 0, .int .i64 0, .string ⟨#[]⟩, .slice none 0 0, .slice none 0 0]
def UnderT (O : Nat → Prop) (w' : World) : Option J → Ending → Prop
 | none, e => e = .returned (.tuple #[zJP, .bool false])
 | some v, e => ∃ k i t p n c q m d, e = .returned (.tuple #[.agg #[.int .i64 k, .int .i64 i, .string t, .slice p n c, .slice q m d], .bool true]) ∧ isJ O w' v [.int .i64 k, .int .i64 i, .string t, .slice p n c, .slice q m d]
theorem At.found {ks : List ByteArray} {s : ByteArray} {n : Nat} (h : At ks s n) {l : List J} (hl : ks.length ≤ l.length) (hn : n < ks.length) (he : (keyAtK ks n).toList == s.toList) : lookV ks l s = some (l.getD n J.zero) :=
 lookJ_at hl hn (bytes_eq.1 he) fun m hm => ltP_ne (h.lo m hm)
theorem At.none {ks : List ByteArray} {s : ByteArray} {n : Nat} (h : At ks s n) (hr : rises ks = true) {l : List J} (he : (decide (n < ks.length) && ((keyAtK ks n).toList == s.toList)) = false) : lookV ks l s = none := by
 refine lookJ_none fun hm => ?_
 obtain ⟨m, hml, hms⟩ := List.getElem_of_mem hm
 have hk : keyAtK ks m = s := by unfold keyAtK; rw [List.getD_eq_getElem?_getD, List.getElem?_eq_getElem hml]; exact hms
 rcases Nat.lt_or_ge m n with h1 | h1
 · exact ltP_ne (h.lo m h1) hk
 · have hnl : n < ks.length := by omega
   by_cases e : m = n
   · subst e
     rw [hk] at he
     simp [hnl] at he
   · have := rises_lt hr (m := n) (n := m) (by omega) hml
     rw [show ks.getD m nix = s from hk] at this
     have h2 := h.hi n (Nat.le_refl _) hnl
     unfold keyAtK at h2
     rw [this] at h2
     cases h2
theorem under_any {O : Nat → Prop} {w : World} {Rb d : Nat} {j : J} {k i : Int} {t : ByteArray} {pk pl : Option Addr} {nk ck nl cl : Nat} {bad : Bool} (hR : w.heap[Rb]? = some (.cells #[.int .i64 k, .int .i64 i, .string t, .slice pk nk ck, .slice pl nl cl, .bool bad] 54 (0, 0)))
    (hj : isJ O w j [.int .i64 k, .int .i64 i, .string t, .slice pk nk ck, .slice pl nl cl]) (hO : ∀ x, O x → x < w.heap.size) (hok : OkJ (d + 1) j) (s : ByteArray) :
    Calls Tryz.prog 48 #[.pointer (some ⟨Rb, 0, none⟩), .string s] w fun e w' => UnderT O w' (lookV j.ks j.ls s) e ∧ Below w.heap.size w w' := by
 obtain ⟨kx, ix, tx, ks, l⟩ := j
 obtain ⟨rfl, rfl, rfl, rfl, rfl, hk, hcl, hjs⟩ := isJP_parts hj
 clear hj
 have hris := hok.parts.1
 have hkn := hok.parts.2.2.2.1
 have hlen := hok.lens
 simp only [J.ks, J.ls]
 obtain ⟨wA, hwA⟩ : ∃ wA, wA = w.alloc (.cells #[.int .i64 0, .int .i64 0, .string ⟨#[]⟩, .slice none 0 0, .slice none 0 0] 25) := ⟨_, rfl⟩
 have hbA : Below w.heap.size w wA := by rw [hwA]; exact (Below.refl _ _).alloc (Nat.le_refl _) _
 have hA : wA.heap[w.heap.size]? = some (.cells #[.int .i64 0, .int .i64 0, .string ⟨#[]⟩, .slice none 0 0, .slice none 0 0] 25 (0, 0)) := by rw [hwA]; exact newP _
 have hRA := (hbA.block Rb (objP_lt hR)).trans hR
 have hS := search_any (hk.carry (O' := O) (w' := wA) fun x hx => ⟨hx, hbA.block x (hO x hx)⟩) hris hkn s
 have r3 := cellP hRA 3 _ rfl
 have r4 := cellP hRA 4 _ rfl
 have hRlt := objP_lt hR
 have i0 := cellP hA 0 _ rfl; have i1 := cellP hA 1 _ rfl; have i2 := cellP hA 2 _ rfl; have i3 := cellP hA 3 _ rfl; have i4 := cellP hA 4 _ rfl
 have z0 := fzP hA 0; have z1 := fzP hA 1; have z2 := fzP hA 2; have z3 := fzP hA 3; have z4 := fzP hA 4
 have HA : Hid (wA.heap[w.heap.size]? = some (.cells #[.int .i64 0, .int .i64 0, .string ⟨#[]⟩, .slice none 0 0, .slice none 0 0] 25 (0, 0))) := hA
 have HRI : Hid (rises ks = true) := hris
 have HLE : Hid (ks.length ≤ l.length) := hlen
 have HJS : Hid (isJs O w pl 0 l) := hjs
 obtain ⟨nk, hnk⟩ : ∃ n, ks.length = n := ⟨_, rfl⟩
 obtain ⟨nl, hnl⟩ : ∃ n, l.length = n := ⟨_, rfl⟩
 have HNK : Hid (ks.length = nk) := hnk
 have HNL : Hid (l.length = nl) := hnl
 rw [hnk] at hS r3 hkn
 rw [hnl] at r4 hcl
 clear hnk hnl hris hlen hjs hk hok hR hRA hA
 go_enter Tryz.func48, Tryz.ntmps48
 go_upto_region 1 with fail
 rw [← hwA]
 clear hwA
 go_upto_region 2 with (go_at_call 63; refine hS.mono ?_; rintro e w' ⟨⟨n, rfl, hat⟩, rfl⟩)
 have HAT : Hid (At ks s n) := hat
 cases hf : (decide (n < nk) && ((keyAtK ks n).toList == s.toList)) with
 | false =>
  have HLK : Hid (lookV ks l s = none) := HAT.out.none HRI.out (by rw [HNK.out]; exact hf)
  clear hS hat HAT HJS
  go_wp2
  have h5 := setL_all (b := w.heap.size) [.int .i64 0, .int .i64 0, .string ⟨#[]⟩, .slice none 0 0, .slice none 0 0] HA.out rfl
  have HK5 := setL_keep w.heap.size [.int .i64 0, .int .i64 0, .string ⟨#[]⟩, .slice none 0 0, .slice none 0 0] wA 0
  simp only [setL, Nat.zero_add, Nat.reduceAdd] at h5 HK5
  refine bodyPost_ret (resultsP_cell_tmp rfl _ _ _ rfl (loadJP h5)) rfl ?_
  rw [HLK.out]
  exact ⟨rfl, hbA.trans (HK5.below hbA.size fun k hk e => by unfold OneP at e; omega)⟩
 | true =>
  have hf' := hf
  simp only [Bool.and_eq_true, decide_eq_true_eq] at hf'
  have hnl : n < nl := by have := HLE.out; rw [HNK.out, HNL.out] at this; omega
  have HLK : Hid (lookV ks l s = some (l.getD n J.zero)) := HAT.out.found HLE.out (by rw [HNK.out]; exact hf'.1) hf'.2
  obtain ⟨lb, lo, cs, hpl, hOb, hcells, hyj⟩ := isJs.at l 0 n HJS.out (by rw [HNL.out]; exact hnl)
  subst hpl
  obtain ⟨kv, iv, tv, pv, nv, cv, qv, mv, dv, rfl⟩ := isJ_shape hyj
  have cc : ∀ m v, [Value.int .i64 kv, .int .i64 iv, .string tv, .slice pv nv cv, .slice qv mv dv][m]? = some v → wA.cell? ⟨lb, lo + n * 5 + m, none⟩ = some v := fun m v h => by
   have := hcells m v h
   rw [Nat.zero_add] at this
   exact (World.cell?_of_block (a := ⟨lb, lo + n * 5 + m, none⟩) (hbA.block lb (hO lb hOb))).trans this
  have y0 : wA.cell? ⟨lb, lo + n * 5, none⟩ = some (.int .i64 kv) := cc 0 _ rfl
  have y1 := cc 1 _ rfl
  have y2 := cc 2 _ rfl
  have y3 := cc 3 _ rfl
  have y4 := cc 4 _ rfl
  have HYJ : Hid (isJ O w (l.getD n J.zero) [Value.int .i64 kv, .int .i64 iv, .string tv, .slice pv nv cv, .slice qv mv dv]) := hyj
  have hlb := hO lb hOb
  clear cc hcells hyj hS hat HAT HJS hf'
  go_wp2
  have h5 := setL_all (b := w.heap.size) [.int .i64 kv, .int .i64 iv, .string tv, .slice pv nv cv, .slice qv mv dv] HA.out rfl
  have HK5 := setL_keep w.heap.size [.int .i64 kv, .int .i64 iv, .string tv, .slice pv nv cv, .slice qv mv dv] wA 0
  simp only [setL, Nat.zero_add, Nat.reduceAdd] at h5 HK5
  refine bodyPost_ret (resultsP_cell_tmp rfl _ _ _ rfl (loadJP h5)) rfl ?_
  rw [HLK.out]
  have hbE := hbA.trans (HK5.below hbA.size fun k hk e => by unfold OneP at e; omega)
  exact ⟨⟨_, _, _, _, _, _, _, _, _, rfl, HYJ.out.carry fun x hx => ⟨hx, hbE.block x (hO x hx)⟩⟩, hbE⟩
def lvOk (k i : Int) : Bool := decide (k = 2) && (decide (-1073741824 ≤ i) && decide (i ≤ 1073741824))
abbrev RdrIs (w : World) (Rb : Nat) (a0 a1 a2 a3 a4 : Value) (bad : Bool) : Prop := w.heap[Rb]? = some (.cells #[a0, a1, a2, a3, a4, .bool bad] 54 (0, 0))
theorem RdrIs.set {w : World} {Rb : Nat} {a0 a1 a2 a3 a4 : Value} {bad : Bool} (h : RdrIs w Rb a0 a1 a2 a3 a4 bad) (b : Bool) : RdrIs (w.setCell ⟨Rb, 5, none⟩ (.bool b)) Rb a0 a1 a2 a3 a4 b := by
 show (w.setCell ⟨Rb, 5, none⟩ (.bool b)).heap[Rb]? = _
 rw [heap_setCell_same w Rb 5 _ _ _ h]
 rfl
theorem level_any {w : World} {Rb : Nat} {a0 a1 a2 a3 a4 : Value} {bad : Bool} (hR : RdrIs w Rb a0 a1 a2 a3 a4 bad) (k i : Int) (t : ByteArray) (p q : Option Addr) (n c m d : Nat) :
    Calls Tryz.prog 49 #[.pointer (some ⟨Rb, 0, none⟩), .agg #[.int .i64 k, .int .i64 i, .string t, .slice p n c, .slice q m d]] w fun e w' => e = .returned (.int .i64 i) ∧ RdrIs w' Rb a0 a1 a2 a3 a4 (bad || !lvOk k i) ∧ Keep (OneP Rb) w w' := by
 obtain ⟨wA, hwA⟩ : ∃ wA, wA = w.alloc (.cells #[.int .i64 k, .int .i64 i, .string t, .slice p n c, .slice q m d] 25) := ⟨_, rfl⟩
 have hbA : Below w.heap.size w wA := by rw [hwA]; exact (Below.refl _ _).alloc (Nat.le_refl _) _
 have hA : wA.heap[w.heap.size]? = some (.cells #[.int .i64 k, .int .i64 i, .string t, .slice p n c, .slice q m d] 25 (0, 0)) := by rw [hwA]; exact newP _
 have hlt := objP_lt hR
 have hRA : RdrIs wA Rb a0 a1 a2 a3 a4 bad := (hbA.block Rb hlt).trans hR
 have i0 := cellP hA 0 _ rfl; have i1 := cellP hA 1 _ rfl
 have r5 := cellP hRA 5 _ rfl
 have rz := fzP hRA 5
 have HBE : Hid (Keep (OneP Rb) w wA) := Keep.of_below hbA
 have HRA : Hid (RdrIs wA Rb a0 a1 a2 a3 a4 bad) := hRA
 have i0' : (wA.setCell ⟨Rb, 5, none⟩ (.bool true)).cell? ⟨w.heap.size, 0, none⟩ = some (.int .i64 k) := by
  rw [World.cell?_of_block (Below.heap_setCell wA ⟨Rb, 5, none⟩ _ w.heap.size (by simp; omega))]; exact i0
 have i1' : (wA.setCell ⟨Rb, 5, none⟩ (.bool true)).cell? ⟨w.heap.size, 1, none⟩ = some (.int .i64 i) := by
  rw [World.cell?_of_block (Below.heap_setCell wA ⟨Rb, 5, none⟩ _ w.heap.size (by simp; omega))]; exact i1
 clear hA hRA hR
 by_cases hk : k = 2
 · by_cases h1 : -1073741824 ≤ i
   · by_cases h2 : i ≤ 1073741824
     · have HL : Hid (lvOk k i = true) := by show _ = _; simp [lvOk, hk, h1, h2]
       subst hk
       go_enter Tryz.func49, Tryz.ntmps49
       go_upto_region 1 with fail
       rw [← hwA]
       clear hwA
       go_wp2
       go_ret
       rw [HL.out]
       exact ⟨rfl, by simpa using HRA.out, HBE.out⟩
     · have HL : Hid (lvOk k i = false) := by show _ = _; simp [lvOk, hk, h1, h2]
       subst hk
       go_enter Tryz.func49, Tryz.ntmps49
       go_upto_region 1 with fail
       rw [← hwA]
       clear hwA
       go_wp2
       go_ret
       rw [HL.out]
       exact ⟨rfl, by simpa using HRA.out.set true, HBE.out.setCell (p := ⟨Rb, 5, none⟩) (fun _ => (rfl : Rb = Rb)) _⟩
   · have HL : Hid (lvOk k i = false) := by show _ = _; simp [lvOk, hk, h1]
     subst hk
     go_enter Tryz.func49, Tryz.ntmps49
     go_upto_region 1 with fail
     rw [← hwA]
     clear hwA
     go_wp2
     go_ret
     rw [HL.out]
     exact ⟨rfl, by simpa using HRA.out.set true, HBE.out.setCell (p := ⟨Rb, 5, none⟩) (fun _ => (rfl : Rb = Rb)) _⟩
 · have HL : Hid (lvOk k i = false) := by show _ = _; simp [lvOk, hk]
   go_enter Tryz.func49, Tryz.ntmps49
   go_upto_region 1 with fail
   rw [← hwA]
   clear hwA
   go_wp2
   go_ret
   rw [HL.out]
   exact ⟨rfl, by simpa using HRA.out.set true, HBE.out.setCell (p := ⟨Rb, 5, none⟩) (fun _ => (rfl : Rb = Rb)) _⟩
def numT (d : Int) : Option J → Int × Bool
 | none => (d, false)
 | some v => (v.nm, !lvOk v.kd v.nm)
theorem numberP_any {O : Nat → Prop} {w : World} {Rb d : Nat} {j : J} {k i : Int} {t : ByteArray} {pk pl : Option Addr} {nk ck nl cl : Nat} {bad : Bool} (hR : RdrIs w Rb (.int .i64 k) (.int .i64 i) (.string t) (.slice pk nk ck) (.slice pl nl cl) bad)
    (hj : isJ O w j [.int .i64 k, .int .i64 i, .string t, .slice pk nk ck, .slice pl nl cl]) (hO : ∀ x, O x → x < w.heap.size) (hok : OkJ (d + 1) j) (s : ByteArray) (z : Int) :
    Calls Tryz.prog 24 #[.pointer (some ⟨Rb, 0, none⟩), .string s, .int .i64 z] w fun e w' => e = .returned (.int .i64 (numT z (lookV j.ks j.ls s)).1) ∧ RdrIs w' Rb (.int .i64 k) (.int .i64 i) (.string t) (.slice pk nk ck) (.slice pl nl cl) (bad || (numT z (lookV j.ks j.ls s)).2) ∧ Keep (OneP Rb) w w' := by
 have hU := under_any hR hj hO hok s
 have HR : Hid (∀ X, Below w.heap.size w X → RdrIs X Rb (.int .i64 k) (.int .i64 i) (.string t) (.slice pk nk ck) (.slice pl nl cl) bad) := fun X hX => (hX.block Rb (objP_lt hR)).trans hR
 have HLT : Hid (Rb < w.heap.size) := objP_lt hR
 clear hR hj hok hO
 generalize lookV j.ks j.ls s = o at hU
 cases o with
 | none =>
  go_enter Tryz.func24, Tryz.ntmps24
  go_wp2_with (go_at_call 48; refine hU.mono ?_; rintro e w1 ⟨he, hb1⟩; replace he : e = _ := he; subst he)
  go_ret
  refine ⟨rfl, ?_, ?_⟩
  · simp only [numT, Bool.or_false]
    exact HR.out _ (belowP hb1 ((Below.refl _ _).alloc (Nat.le_refl _) _))
  · exact Keep.of_below (belowP hb1 ((Below.refl _ _).alloc (Nat.le_refl _) _))
 | some v =>
  go_enter Tryz.func24, Tryz.ntmps24
  go_wp2_with (first
   | (go_at_call 48; refine hU.mono ?_; rintro e w1 ⟨⟨kv, iv, tv, pv, nv, cv, qv, mv, dv, rfl, hv⟩, hb1⟩
      have HV : Hid (v.kd = kv ∧ v.nm = iv) := by obtain ⟨_, _, _, _, _⟩ := v; obtain ⟨rfl, rfl, _⟩ := isJP_parts hv; exact ⟨rfl, rfl⟩
      have hbA : Below w.heap.size w (w1.alloc (.cells #[.int .i64 kv, .int .i64 iv, .string tv, .slice pv nv cv, .slice qv mv dv] 25)) := belowP hb1 ((Below.refl _ _).alloc (Nat.le_refl _) _)
      have hL := level_any (HR.out _ hbA) kv iv tv pv qv nv cv mv dv
      clear hv)
   | (go_at_call 49; refine hL.mono ?_; rintro e w2 ⟨rfl, hr2, hk2⟩))
  go_ret
  simp only [numT, HV.out.1, HV.out.2]
  exact ⟨rfl, hr2, (Keep.of_below hbA).then hk2⟩
end Go.Proofs.YtnngalkdjgjmbaaGreat
namespace Go.Proofs.YtnngalkdjgjmbaaGreat
open Go.RowKit Go.Maps
def klP (s : ByteArray) : Lit := .string s.data.toList
def okP (s : ByteArray) : Prop := s.size ≤ maxLen
theorem klP_inj {s t : ByteArray} (h : klP s = klP t) : s = t := by
 unfold klP at h
 cases s; cases t
 simp only [Lit.string.injEq] at h
 rw [Array.toList_inj.1 h]
theorem keyP {s : ByteArray} (h : okP s) : keyOf Tryz.prog 9 (.string s) = some (klP s) := WideMaps.keyOf_string_mk Tryz.underlying9 h
theorem lawP9 : Keyed Tryz.prog 9 := string_keyed Tryz.underlying9
def rawP (v : Value) : Option (DataW Value × List MemPlace) := some (.held v, [])
def lookP : List (ByteArray × Value) → ByteArray → Option Value
 | [], _ => none
 | p :: r, s => if p.1.data = s.data then some p.2 else lookP r s
theorem dataP_inj {a b : ByteArray} (h : a.data = b.data) : a = b := by
 cases a; cases b
 simp only at h
 rw [h]
theorem lookP_none {es : List (ByteArray × Value)} {s : ByteArray} : lookP es s = none ↔ s ∉ es.map (·.1) := by
 induction es with
 | nil => simp [lookP]
 | cons p r ih =>
  unfold lookP
  by_cases h : p.1.data = s.data
  · rw [if_pos h]
    simp [dataP_inj h]
  · rw [if_neg h, ih]
    simp
    intro _ e
    exact h (by rw [e])
theorem lookP_snoc {es : List (ByteArray × Value)} {k s : ByteArray} {v : Value} (hk : k ∉ es.map (·.1)) : lookP (es ++ [(k, v)]) s = if k.data = s.data then some v else lookP es s := by
 induction es with
 | nil => simp [lookP]
 | cons p r ih =>
  have hk1 : k ≠ p.1 := fun e => hk (by simp [e])
  have hk2 : k ∉ r.map (·.1) := fun h => hk (by simp at h ⊢; exact .inr h)
  simp only [List.cons_append, lookP, ih hk2]
  by_cases h : p.1.data = s.data
  · rw [if_pos h, if_neg (fun e => hk1 (dataP_inj (e.trans h.symm))), if_pos h]
  · rw [if_neg h, if_neg h]
structure MapP (w : World) (M : Nat) (es : List (ByteArray × Value)) : Prop where
 own : ∃ D n, w.ownsMap Tryz.prog 9 rawP M n D ∧ n ≤ 200000 ∧ (∀ s, okP s → Maps.has D (klP s) = (lookP es s).isSome) ∧ (∀ s z, okP s → D.atKey (klP s) (.held z) = .held ((lookP es s).getD z)) ∧ Maps.size D = es.length
 apart : (es.map (·.1)).Pairwise (· ≠ ·)
theorem MapP.lt {w : World} {M : Nat} {es : List (ByteArray × Value)} (h : MapP w M es) : M < w.heap.size := by
 obtain ⟨⟨D, n, ho, _⟩, _⟩ := h
 exact ho.lt
theorem MapP.made (w : World) : MapP (w.alloc (.map #[] 0)) w.heap.size [] :=
 ⟨⟨.map [], 0, World.ownsMap_made _ _ _ _, by omega, fun _ _ => rfl, fun _ _ _ => rfl, rfl⟩, List.Pairwise.nil⟩
abbrev zHv : Value := .agg #[.bool false, .int .i64 0]
theorem zeroH (w : World) : (zeroValue 81).run Tryz.prog w = .ok zHv w := by kernel_rfl
theorem MapP.look {w : World} {M : Nat} {es : List (ByteArray × Value)} (h : MapP w M es) {s : ByteArray} (hs : okP s) : (Instr.lookup 95 (.map (some M)) (.string s) false).run Tryz.prog w = .ok ((lookP es s).getD zHv) w := by
 obtain ⟨⟨D, n, ho, _, _, hat, _⟩, _⟩ := h
 obtain ⟨v, ps, hrun, hv⟩ := ho.lookup lawP9 Tryz.underlying95 (zeroH w) (zd := .held zHv) (zp := []) rfl (keyP hs)
 rw [hat s _ hs] at hv
 unfold rawP at hv
 have : v = (lookP es s).getD zHv := by
  have := Option.some.inj hv
  have := congrArg Prod.fst this
  exact DataW.held.inj this
 rw [hrun, this]
theorem MapP.put {w : World} {M : Nat} {es : List (ByteArray × Value)} (h : MapP w M es) {s : ByteArray} (hs : okP s) (hn : s ∉ es.map (·.1)) (hl : es.length < 150000) (v : Value) :
    ∃ w', (Instr.mapUpdate 95 (.map (some M)) (.string s) v).run Tryz.prog w = .ok () w' ∧ MapP w' M (es ++ [(s, v)]) ∧ w.grownBy w' (some M) := by
 obtain ⟨⟨D, n, ho, hn1, hh, hat, hsz⟩, ha⟩ := h
 have ho' := ho
 obtain ⟨ms, clock, hb, F, hms, hD⟩ := ho'
 have hml : ms.size = Maps.size D := by
  rw [hD]
  simp [Maps.size, length_sorted]
 have ho2 : w.ownsMap Tryz.prog 9 rawP M es.length D := ⟨ms, clock, hb, F, by omega, hD⟩
 obtain ⟨w', hrun, ho3, hg⟩ := ho2.update lawP9 Tryz.underlying95 (by unfold maxLen; omega) (keyP hs) (d := .held v) (ps := []) rfl
 have hm := ho2.isMap
 have hns := lookP_none.2 hn
 refine ⟨w', hrun, ⟨⟨D.put (klP s) (.held v), es.length + 1, ho3, by omega, fun x hx => ?_, fun x z hx => ?_, ?_⟩, ?_⟩, hg⟩
 · rw [lookP_snoc hn]
   by_cases e : x = s
   · subst e
     rw [has_put_same hm (show WideAt.IsKeyLit (klP x) from trivial), if_pos rfl]; rfl
   · rw [has_put_other (fun h' => e (klP_inj h')), hh x hx, if_neg (fun h' => e (dataP_inj h').symm)]
 · rw [lookP_snoc hn]
   by_cases e : x = s
   · subst e
     rw [atKey_put_same hm (show WideAt.IsKeyLit (klP x) from trivial), if_pos rfl]; rfl
   · rw [atKey_put_other (fun h' => e (klP_inj h')), hat x z hx, if_neg (fun h' => e (dataP_inj h').symm)]
 · rw [size_put (ho2.tidy lawP9), hh s hs, hns, hsz]
   simp
 · rw [List.map_append, List.pairwise_append]
   refine ⟨ha, by simp, fun a ha' b hb' e => ?_⟩
   simp at hb'
   subst hb'
   exact hn (e ▸ ha')
def heldV : Option Int → Value
 | none => .agg #[.bool false, .int .i64 0]
 | some x => .agg #[.bool true, .int .i64 x]
def MapN (w : World) (M : Nat) (l : Nms) : Prop := ∃ es, MapP w M es ∧ es.length ≤ l.length ∧ ∀ s, (lookP es s).getD zHv = heldV (fnd l s) ∧ (lookP es s).isSome = (fnd l s).isSome
theorem MapN.made (w : World) : MapN (w.alloc (.map #[] 0)) w.heap.size [] := ⟨[], MapP.made w, Nat.le_refl _, fun _ => ⟨rfl, rfl⟩⟩
theorem MapN.same {w w' : World} {M : Nat} {l : Nms} (h : MapN w M l) (e : w'.heap[M]? = w.heap[M]?) : MapN w' M l := by
 obtain ⟨es, ⟨⟨D, n, ⟨ms, clock, hb, r1⟩, r2⟩, r3⟩, r4⟩ := h
 exact ⟨es, ⟨⟨D, n, ⟨ms, clock, e.trans hb, r1⟩, r2⟩, r3⟩, r4⟩
theorem MapN.lt {w : World} {M : Nat} {l : Nms} (h : MapN w M l) : M < w.heap.size := by
 obtain ⟨es, h, _⟩ := h
 exact h.lt
theorem MapN.walk {w : World} {M : Nat} {l : Nms} (h : MapN w M l) : ∃ o, w.heap[M]? = some o ∧ o.isWalk = true ∧ o.isCells = false := by
 obtain ⟨es, ⟨⟨D, n, ⟨ms, clock, hb, r1⟩, r2⟩, r3⟩, r4⟩ := h
 exact ⟨_, hb, rfl, rfl⟩
theorem MapN.look {w : World} {M : Nat} {l : Nms} (h : MapN w M l) {s : ByteArray} (hs : okP s) : (Instr.lookup 95 (.map (some M)) (.string s) false).run Tryz.prog w = .ok (heldV (fnd l s)) w := by
 obtain ⟨es, h, _, hl⟩ := h
 rw [h.look hs, (hl s).1]
theorem fnd_snoc_old {l : Nms} {s : ByteArray} {x y : Int} (h : fnd l s = some y) (t : ByteArray) : fnd (l ++ [(s, x)]) t = fnd l t := by
 rw [fnd_append]
 cases e : fnd l t with
 | some z => rfl
 | none =>
  simp only [fnd]
  by_cases e2 : (s.toList == t.toList) = true
  · rw [bytes_eq.1 e2, e] at h; cases h
  · rw [if_neg e2]
theorem fnd_snoc_new {l : Nms} {s : ByteArray} {x : Int} (h : fnd l s = none) (t : ByteArray) : fnd (l ++ [(s, x)]) t = if s.toList == t.toList then some x else fnd l t := by
 rw [fnd_append]
 by_cases e2 : (s.toList == t.toList) = true
 · rw [if_pos e2, ← bytes_eq.1 e2, h]
   simp [fnd]
 · rw [if_neg e2]
   cases e : fnd l t with
   | some z => rfl
   | none => simp only [fnd]; rw [if_neg e2]
theorem MapN.old {w : World} {M : Nat} {l : Nms} (h : MapN w M l) {s : ByteArray} {x y : Int} (hf : fnd l s = some y) : MapN w M (l ++ [(s, x)]) := by
 obtain ⟨es, hm, hl, hq⟩ := h
 exact ⟨es, hm, by simp; omega, fun t => by rw [fnd_snoc_old hf]; exact hq t⟩
theorem MapN.put {w : World} {M : Nat} {l : Nms} (h : MapN w M l) {s : ByteArray} (hs : okP s) {x : Int} (hf : fnd l s = none) (hl : l.length < 150000) :
    ∃ w', (Instr.mapUpdate 95 (.map (some M)) (.string s) (.agg #[.bool true, .int .i64 x])).run Tryz.prog w = .ok () w' ∧ MapN w' M (l ++ [(s, x)]) ∧ w.grownBy w' (some M) := by
 obtain ⟨es, hm, hle, hq⟩ := h
 have hn : lookP es s = none := by
  have := (hq s).2
  rw [hf] at this
  cases e : lookP es s with
  | none => rfl
  | some v => rw [e] at this; cases this
 obtain ⟨w', hr, hm', hg⟩ := hm.put hs (lookP_none.1 hn) (by omega) (.agg #[.bool true, .int .i64 x])
 refine ⟨w', hr, ⟨_, hm', by simp; omega, fun t => ?_⟩, hg⟩
 rw [fnd_snoc_new hf, lookP_snoc (lookP_none.1 hn)]
 by_cases e : s = t
 · subst e
   simp [heldV]
 · rw [if_neg (fun h => e (dataP_inj h)), if_neg (fun h => e (bytes_eq.1 h))]
   exact hq t
theorem runP_makeMap_room {t k e : TypeId} (ht : Tryz.prog.underlying t = some (.map k e)) (n : Int) (w : World) : (Instr.makeMap t (some (.int .i64 n))).run Tryz.prog w = .ok (.map (some w.heap.size)) (w.alloc (.map #[] 0)) := by
 simp [Instr.makeMap, run_underlying ht, asInt, asIntOf, Result.andThen]
theorem okP_of {s : ByteArray} (h : s.size ≤ 1000000000) : okP s := by unfold okP maxLen; omega
theorem field_has (a b : Value) (w : World) : (Instr.field 81 (.agg #[a, b]) 0).run Tryz.prog w = .ok a w := by kernel_rfl
theorem byName_any {O : Nat → Prop} {w : World} {p : Option Addr} {c : Nat} {l : Nms} (h : RdN O w p c l) (hO : ∀ k, O k → k < w.heap.size) (hz : SzN l) :
    Calls Tryz.prog 59 #[.slice p l.length c] w fun e w' => (∃ M, e = .returned (.map (some M)) ∧ w.heap.size ≤ M ∧ MapN w' M l) ∧ Below w.heap.size w w' := by
 obtain ⟨n, hn⟩ : ∃ n, l.length = n := ⟨_, rfl⟩
 have HN : Hid (l.length = n) := hn
 have hz1 := hz.1
 have hc := h.1.1
 rw [hn] at hz1 hc ⊢
 clear hn
 have hmm := runP_makeMap_room Tryz.underlying95
 go_enter Tryz.func59, Tryz.ntmps59
 go_wp2
 go_loopw [11] (fun i wr => ∃ k : Nat, i = .int .i64 k ∧ k ≤ n ∧ MapN wr w.heap.size (l.take k) ∧ Below w.heap.size w wr) (fun i _ => n - (intOf i).toNat)
 case atStart => exact ⟨0, rfl, Nat.zero_le _, MapN.made w, (Below.refl _ _).alloc (Nat.le_refl _) _⟩
 case round =>
  clear hmm
  obtain ⟨k, rfl, hk, hm, hbr⟩ := hrel
  by_cases hkn : k < n
  · have hkl : k < l.length := by rw [HN.out]; exact hkn
    obtain ⟨b, o, rfl, hb, h1, h2⟩ := h.at hkl
    have h1' := (hbr.cell (p := ⟨b, o + k * 2, none⟩) (hO b hb)).trans h1
    have h2' := (hbr.cell (p := ⟨b, o + k * 2 + 1, none⟩) (hO b hb)).trans h2
    have hbs := hbr.size
    have hbl := hO b hb
    have hok := okP_of (hz.at hkl)
    have HT : Hid (l.take (k + 1) = l.take k ++ [l.getD k zN]) := takeP_one hkl
    have HTL : Hid ((l.take k).length = k) := by show _ = _; rw [List.length_take]; omega
    generalize l.getD k zN = x at h1' h2' HT hok
    obtain ⟨xn, xl⟩ := x
    simp only at h1' h2' hok
    clear h1 h2
    have hma : MapN (wr.alloc (.cells #[.string xn, .int .i64 xl] 50)) w.heap.size (l.take k) := hm.same (Below.heap_alloc _ _ _ hm.lt)
    have HBA : Hid (Below w.heap.size w (wr.alloc (.cells #[.string xn, .int .i64 xl] 50))) := hbr.trans ((Below.refl _ _).alloc hbs _)
    have hlk := hma.look hok
    have hfl := field_has
    cases hf : fnd (l.take k) xn with
    | none =>
     rw [hf] at hlk
     obtain ⟨w2, hput, hm2, hg2⟩ := hma.put hok (x := xl) hf (by rw [HTL.out]; omega)
     have HM2 : Hid (MapN w2 w.heap.size (l.take (k + 1))) := by show MapN _ _ _; rw [HT.out]; exact hm2
     have HB2 : Hid (Below w.heap.size w w2) := HBA.out.grown hg2 HBA.out.size (fun q e => by cases e; exact Nat.le_refl _)
     simp only [heldV] at hlk
     clear hm2 hg2 hm hma hf
     go_wp2
     go_roundw
     case rel => exact ⟨k + 1, by simp, by omega, HM2.out, HB2.out⟩
     case measure => simp [intOf]; omega
    | some y =>
     rw [hf] at hlk
     have HM2 : Hid (MapN (wr.alloc (.cells #[.string xn, .int .i64 xl] 50)) w.heap.size (l.take (k + 1))) := by show MapN _ _ _; rw [HT.out]; exact hma.old hf
     simp only [heldV] at hlk
     clear hm hma hf
     go_wp2
     go_roundw
     case rel => exact ⟨k + 1, by simp, by omega, HM2.out, HBA.out⟩
     case measure => simp [intOf]; omega
  · obtain rfl : k = n := by omega
    have HM : Hid (MapN wr w.heap.size l) := by show MapN _ _ _; rw [← List.take_length (l := l), HN.out]; exact hm
    clear hm
    go_wp2
    go_ret
    exact ⟨⟨_, rfl, Nat.le_refl _, HM.out⟩, hbr⟩
theorem Tryz.infoNm : (Tryz.prog.info? 50).map (fun i => (i.zero, i.size, i.bytes)) = some (some (.agg #[.string ⟨#[]⟩, .int .i64 0]), 2, 24) := by kernel_rfl
theorem flatN_one : ∀ (l : Nms) (u : Value), u ∈ flatN l → u.oneCell' = true
 | [], _, h => by simp [flatN] at h
 | x :: r, u, h => by
  simp only [flatN, List.mem_cons] at h
  rcases h with rfl | rfl | h
  · rfl
  · rfl
  · exact flatN_one r u h
theorem RdN.cells {O : Nat → Prop} {w : World} {a : Addr} {c : Nat} {l : Nms} (h : RdN O w (some a) c l) : ∀ j u, (flatN l)[j]? = some u → w.cell? (a.add j) = some u := by
 intro j u hu
 by_cases hl : l = []
 · subst hl; simp [flatN] at hu
 obtain ⟨b, o, hp, _, hc⟩ := h.2 hl
 cases hp
 have hj : j < l.length * 2 := by rw [← flatN_len]; exact (List.getElem?_eq_some_iff.1 hu).1
 have hq : j / 2 < l.length := by omega
 have hx := List.getElem?_eq_getElem hq
 have hf := flatN_at l (j / 2) _ hx
 have hcc := hc (j / 2) _ hx
 rw [addP_flat]
 rcases Nat.mod_two_eq_zero_or_one j with e | e
 · rw [show j = j / 2 * 2 by omega] at hu
   rw [hf.1] at hu
   cases hu
   rw [show o + j = o + j / 2 * 2 by omega]
   exact hcc.1
 · rw [show j = j / 2 * 2 + 1 by omega] at hu
   rw [hf.2] at hu
   cases hu
   rw [show o + j = o + j / 2 * 2 + 1 by omega]
   exact hcc.2
theorem wpList_append_rdN {w : World} {ops : Array Oper} {rest : List Oper} {o : Oper} {a : Act} {Q : Exit → Act → World → Prop} (hgd : o.guard = none) (s x : Operand)
    (ho : o.op = .call { callee := .builtin .append, args := #[s, x], argTypes := #[32, 32] })
    (base : Nat) (v : Value) (L : Nms) (hs : a.eval s = v) (hown : w.ownsRow base 50 2 v L.length (flatN L)) {O : Nat → Prop} {p : Option Addr} {c : Nat} {l : Nms} (hrd : RdN O w p c l) (hx : a.eval x = .slice p l.length c)
    (hlen : L.length ≤ 100000000) (hlen2 : l.length ≤ 100000000) (hbase : base ≤ w.heap.size)
    (h : ∀ v' w', w'.ownsRow base 50 2 v' (L ++ l).length (flatN (L ++ l)) → w.grownBy w' v.ownBlock → wpList Tryz.prog ops Q rest (a.put o.dst v') w') : wpList Tryz.prog ops Q (o :: rest) a w := by
 obtain ⟨i0, hi, hz0, hz1, hz2⟩ := info_parts Tryz.infoNm
 cases p with
 | none =>
  obtain rfl : c = 0 := hrd.1.2 rfl
  have hl0 : l = [] := List.eq_nil_of_length_eq_zero (by have := hrd.1.1; omega)
  subst hl0
  refine wpList_append_own_none hgd s x 32 ho base 50 i0 2 Tryz.underlying32 hi v L.length (flatN L) hs hown hx (h v w ?_ ⟨rfl, rfl, rfl, Nat.le_refl _, fun _ _ _ => rfl⟩)
  rw [List.append_nil]; exact hown
 | some ad =>
  refine wpList_append_own w hgd s x 32 ho base 50 i0 _ 2 24 Tryz.underlying32 hi hz0 hz1 hz2 rfl (by decide) v L.length (flatN L) hs hown ad l.length c (flatN l) hx (flatN_len l) hrd.cells (flatN_one l) (by unfold maxLen; omega) (by omega) hbase ?_
  intro v' w' hown' hgrow _
  exact h v' w' (by rw [List.length_append, flatN_append]; exact hown') hgrow
theorem wpList_append_run {w w' : World} {ops : Array Oper} {rest : List Oper} {o : Oper} {a : Act} {Q : Exit → Act → World → Prop} (hgd : o.guard = none) (s x : Operand) (t u : TypeId)
    (ho : o.op = .call { callee := .builtin .append, args := #[s, x], argTypes := #[t, u] }) {vs vx v' : Value} (hs : a.eval s = vs) (hx : a.eval x = vx) (hrun : (Builtin.append_ #[t, u] o.type #[vs, vx]).run Tryz.prog w = .ok v' w')
    (h : wpList Tryz.prog ops Q rest (a.put o.dst v') w') : wpList Tryz.prog ops Q (o :: rest) a w := by
 refine wpList_plain hgd fun K hK => ?_
 unfold Oper.wp
 simp [execOp, ho, resolve, invoke, builtin, hs, hx, hrun, Result.andThen]
 exact hK _ _ h
theorem grow_any {w : World} (n : Nat) (hn : n ≤ 1000000) :
    Calls Tryz.prog 69 #[.slice none 0 0, .int .i64 n] w fun e w' => (∃ v, e = .returned v ∧ w'.ownsRow w.heap.size 50 2 v 0 []) ∧ Below w.heap.size w w' := by
 obtain ⟨i0, hi, hz0, hz1, hz2⟩ := info_parts Tryz.infoNm
 by_cases h0 : n = 0
 · subst h0
   go_enter Tryz.func69, Tryz.ntmps69
   go_wp2
   go_ret
   exact ⟨⟨_, rfl, World.ownsRow_nil _ _ _ _⟩, Below.refl _ _⟩
 · have hr := fun ty => Lib.run_append_nil_zeros (P := Tryz.prog) w 32 3 ty 50 i0 _ .i64 .i64 Tryz.underlying32 Tryz.underlying3 hi hz0 n (by omega) (by rw [hz1]; decide) (by omega) (by rw [hz2]; omega)
   have hge := grownCap_ge w n 0 50
   have hle := grownCap_le_maxLen w n 0 50 (by unfold maxLen; omega)
   have hsz1 : (Builtin.zeroCells (Value.agg #[Value.string ⟨#[]⟩, Value.int .i64 0]).cells n ++ Builtin.zeroCells (Value.agg #[Value.string ⟨#[]⟩, Value.int .i64 0]).cells (grownCap w n 0 50 - n)).size = grownCap w n 0 50 * 2 := by
    rw [Array.size_append, size_zeroCells, size_zeroCells]
    show n * 2 + (grownCap w n 0 50 - n) * 2 = _
    omega
   have HSZ := (show Hid _ from hsz1)
   clear hsz1
   generalize (Builtin.zeroCells (Value.agg #[Value.string ⟨#[]⟩, Value.int .i64 0]).cells n ++ Builtin.zeroCells (Value.agg #[Value.string ⟨#[]⟩, Value.int .i64 0]).cells (grownCap w n 0 50 - n)) = Z at hr HSZ
   generalize grownCap w n 0 50 = cap at hr hge hle HSZ
   go_enter Tryz.func69, Tryz.ntmps69
   go_wp2_with (refine wpList_append_run rfl _ _ 32 3 rfl rfl rfl (hr _) ?_)
   go_ret
   refine ⟨⟨_, rfl, rfl, .inr ⟨w.heap.size, cap, Z, rfl, Nat.le_refl _, heap_alloc_new w.drew _, Nat.zero_le _, hle, HSZ.out, by simp⟩⟩, ⟨rfl, rfl, rfl, by simp, fun k hk => Below.heap_alloc w.drew _ k hk⟩⟩
theorem concat_any {O : Nat → Prop} {w : World} {p q : Option Addr} {c d g : Nat} {a b : Nms} (ha : RdN O w p c a) (hb : RdN O w q d b) (hO : ∀ k, O k → k < w.heap.size) (hza : SzN a) (hzb : SzN b)
    (h0 : w.cell? ⟨g, 0, none⟩ = some (.slice p a.length c)) (h1 : w.cell? ⟨g, 1, none⟩ = some (.slice q b.length d)) (hg : g < w.heap.size) :
    Calls Tryz.prog 60 #[.slice (some ⟨g, 0, none⟩) 2 2] w fun e w' => (∃ v, e = .returned v ∧ w'.ownsRow w.heap.size 50 2 v (a ++ b).length (flatN (a ++ b))) ∧ Below w.heap.size w w' := by
 obtain ⟨na, hna⟩ : ∃ n, a.length = n := ⟨_, rfl⟩
 obtain ⟨nb, hnb⟩ : ∃ n, b.length = n := ⟨_, rfl⟩
 have HNA : Hid (a.length = na) := hna
 have HNB : Hid (b.length = nb) := hnb
 have hza1 := hza.1
 have hzb1 := hzb.1
 rw [hna] at h0 hza1
 rw [hnb] at h1 hzb1
 clear hna hnb
 go_enter Tryz.func60, Tryz.ntmps60
 go_wp2
 go_loopw [3, 11] (fun s i wr => wr = w ∧ ((s = .int .i64 0 ∧ i = .int .i64 0) ∨ (s = .int .i64 na ∧ i = .int .i64 1) ∨ (s = .int .i64 ((na + nb : Nat) : Int) ∧ i = .int .i64 2))) (fun _ i _ => 2 - (intOf i).toNat)
 case atStart => exact ⟨rfl, .inl ⟨rfl, rfl⟩⟩
 case round =>
  obtain ⟨hwr, ⟨rfl, rfl⟩ | ⟨rfl, rfl⟩ | ⟨rfl, rfl⟩⟩ := hrel
  all_goals (rw [hwr]; clear hwr wr)
  · go_wp2
    go_roundw
    case rel => exact ⟨trivial, .inr (.inl ⟨by simp, rfl⟩)⟩
    case measure => simp [intOf]
  · go_wp2
    go_roundw
    case rel => exact ⟨trivial, .inr (.inr ⟨by simp, rfl⟩)⟩
    case measure => simp [intOf]
  · have hG := grow_any (w := w) (na + nb) (by omega)
    go_wp2_with (go_at_call 69; refine hG.mono ?_; rintro e w1 ⟨⟨v0, rfl, hown0⟩, hb1⟩)
    have HC0 : Hid (w.cell? ⟨g, 0, none⟩ = some (.slice p na c)) := h0
    have HC1 : Hid (w.cell? ⟨g, 1, none⟩ = some (.slice q nb d)) := h1
    have HA : Hid (RdN O w p c a) := ha
    have HB : Hid (RdN O w q d b) := hb
    clear hG h0 h1 ha hb
    go_loopw [6, 27] (fun v i wx => (∃ k : Nat, i = .int .i64 k ∧ ((k = 0 ∧ wx.ownsRow w.heap.size 50 2 v ([] : Nms).length (flatN [])) ∨ (k = 1 ∧ wx.ownsRow w.heap.size 50 2 v a.length (flatN a)) ∨ (k = 2 ∧ wx.ownsRow w.heap.size 50 2 v (a ++ b).length (flatN (a ++ b))))) ∧ Below w.heap.size w wx) (fun _ i _ => 2 - (intOf i).toNat)
    case atStart => exact ⟨⟨0, rfl, .inl ⟨rfl, hown0⟩⟩, hb1⟩
    case round =>
     obtain ⟨⟨k, rfl, hk⟩, hbr⟩ := hrel
     have h0r := (hbr.cell (p := ⟨g, 0, none⟩) hg).trans HC0.out
     have h1r := (hbr.cell (p := ⟨g, 1, none⟩) hg).trans HC1.out
     have hsr := hbr.size
     rcases hk with ⟨rfl, hown⟩ | ⟨rfl, hown⟩ | ⟨rfl, hown⟩
     · have hrd := HA.out.below hO hbr
       have hx := HNA.out
       go_wp2_with (refine wpList_append_rdN rfl _ _ rfl w.heap.size _ [] rfl hown hrd (by rw [HNA.out]; rfl) (by simp) (by rw [HNA.out]; omega) hsr ?_; intro v2 w2 hown2 hg2)
       go_roundw
       case rel => exact ⟨⟨1, rfl, .inr (.inl ⟨rfl, hown2⟩)⟩, hbr.grown hg2 hsr (fun k e => (hown.lt k e).1)⟩
       case measure => simp [intOf]
     · have hrd := HB.out.below hO hbr
       go_wp2_with (refine wpList_append_rdN rfl _ _ rfl w.heap.size _ a rfl hown hrd (by rw [HNB.out]; rfl) (by rw [HNA.out]; omega) (by rw [HNB.out]; omega) hsr ?_; intro v2 w2 hown2 hg2)
       go_roundw
       case rel => exact ⟨⟨2, rfl, .inr (.inr ⟨rfl, hown2⟩)⟩, hbr.grown hg2 hsr (fun k e => (hown.lt k e).1)⟩
       case measure => simp [intOf]
     · go_wp2
       go_ret
       exact ⟨⟨_, rfl, hown⟩, hbr⟩
end Go.Proofs.YtnngalkdjgjmbaaGreat

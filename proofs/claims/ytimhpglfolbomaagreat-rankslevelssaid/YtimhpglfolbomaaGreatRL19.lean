/-
  The document's good values, by contracts.
  Choosing the least key again and again puts keys in order.
  A value that is put in order, as it is being made: its memory.
-/
import Derived.Test.YtimhpglfolbomaaGreatRL18
set_option maxRecDepth 100000
set_option maxHeartbeats 16000000
namespace Go.Proofs.YtimhpglfolbomaaGreat
open Go.RowKit
theorem goodK_of {ks : List ByteArray} (h1 : ∀ m, m < ks.length → letters (keyAtK ks m) = true) (h2 : ∀ b, b < ks.length → ∀ a, a < b → keyAtK ks a ≠ keyAtK ks b) : goodK ks = true := by
 unfold goodK
 rw [Bool.and_eq_true]
 constructor
 · rw [List.all_eq_true]
   intro x hx
   obtain ⟨n, hn, rfl⟩ := List.getElem_of_mem hx
   rw [← keyAtK_at hn]
   exact h1 n hn
 · apply pair_noTwice
   rw [List.pairwise_iff_getElem]
   intro a b ha hb hab
   rw [← keyAtK_at ha, ← keyAtK_at hb]
   exact h2 b hb a hab
theorem goodK_not1 {ks : List ByteArray} {m : Nat} (hm : m < ks.length) (h : letters (keyAtK ks m) = false) : goodK ks = false := by
 cases hg : goodK ks with
 | false => rfl
 | true =>
  unfold goodK at hg
  rw [Bool.and_eq_true, List.all_eq_true] at hg
  rw [keyAtK_at hm, hg.1 _ (List.getElem_mem hm)] at h
  cases h
theorem goodK_not2 {ks : List ByteArray} {a b : Nat} (hb : b < ks.length) (hab : a < b) (h : keyAtK ks b = keyAtK ks a) : goodK ks = false := by
 cases hg : goodK ks with
 | false => rfl
 | true =>
  unfold goodK at hg
  rw [Bool.and_eq_true] at hg
  have hp := List.pairwise_iff_getElem.1 (noTwice_pair hg.2) a b (by omega) hb hab
  rw [← keyAtK_at (by omega), ← keyAtK_at hb] at hp
  exact absurd h.symm hp
theorem letters_stray {s : ByteArray} : (letters s = true → badAt (stray (ints s)) = -1) ∧ (letters s = false → ∃ p : Nat, badAt (stray (ints s)) = p) := by
 unfold letters
 cases stray (ints s) with
 | none => exact ⟨fun _ => rfl, fun h => (by cases h)⟩
 | some p => exact ⟨fun h => (by cases h), fun _ => ⟨p, rfl⟩⟩
theorem rkeys_any {O : Nat → Prop} {ks : List ByteArray} {p : Option Addr} {c : Nat} {w : World} (hrd : RdK O w p c ks) (hO : ∀ k, O k → k < w.heap.size) (hl : ks.length ≤ 100000) (hkz : ∀ k ∈ ks, k.size ≤ 1000000000) :
    Calls Tryz.prog 153 #[.slice p ks.length c] w fun x w' => x = .returned (.bool (goodK ks)) ∧ Below w.heap.size w w' := by
 obtain ⟨n, hn⟩ : ∃ n, ks.length = n := ⟨_, rfl⟩
 have HN : Hid (ks.length = n) := hn
 have hcap := hrd.1
 rw [hn] at hl hcap ⊢
 clear hn
 go_enter Tryz.func153, Tryz.ntmps153
 go_wp2
 go_loopw [3] (fun v wr => ∃ m : Nat, v = .int .i64 m ∧ m ≤ n ∧ Hid ((∀ x, x < m → letters (keyAtK ks x) = true) ∧ ∀ b, b < m → ∀ a, a < b → keyAtK ks a ≠ keyAtK ks b) ∧ Below w.heap.size w wr) (fun v _ => n - (intOf v).toNat)
 case atStart => exact ⟨0, rfl, Nat.zero_le _, ⟨fun x hx => absurd hx (by omega), fun x hx => absurd hx (by omega)⟩, Below.refl _ _⟩
 case round =>
  obtain ⟨m, rfl, hm, HI, hbr⟩ := hrel
  by_cases hmn : m < n
  · have hmi : (m : Int) < (n : Int) := by omega
    have hmk : m < ks.length := by rw [HN.out]; exact hmn
    have HMK : Hid (m < ks.length) := hmk
    obtain ⟨ka, hpk, hOa, hcka⟩ := hrd.2 m hmk
    subst hpk
    have hKA : wr.cell? (ka.add m) = some (.string (keyAtK ks m)) := (World.cell?_of_block (by rw [add_block]; exact hbr.block _ (hO _ hOa))).trans hcka
    have HKX : Hid (∀ x, x < n → ∀ W : World, Below w.heap.size w W → W.cell? (ka.add x) = some (.string (keyAtK ks x))) := fun x hx W hW => by
     obtain ⟨a', ha', hOa', hc'⟩ := hrd.2 x (by rw [HN.out]; exact hx)
     cases ha'
     exact (World.cell?_of_block (by rw [add_block]; exact hW.block _ (hO _ hOa'))).trans hc'
    have hz : (keyAtK ks m).size ≤ 1000000000 := by rw [keyAtK_at hmk]; exact hkz _ (List.getElem_mem hmk)
    have hB := bad_any runes (keyAtK ks m) wr hz
    obtain ⟨u, hu⟩ : ∃ u, keyAtK ks m = u := ⟨_, rfl⟩
    have HU : Hid (keyAtK ks m = u) := hu
    rw [hu] at hKA hB
    clear hu hcka hmk hz
    cases hlu : letters u with
    | false =>
     obtain ⟨bp, hbp⟩ := letters_stray.2 hlu
     rw [hbp] at hB
     have HR : Hid (goodK ks = false) := goodK_not1 HMK.out (by rw [HU.out]; exact hlu)
     go_wp2_with (go_at_call 152; refine hB.mono ?_; rintro x w' ⟨rfl, rfl⟩)
     go_ret
     exact ⟨ret_bool HR.out.symm, hbr⟩
    | true =>
     rw [letters_stray.1 hlu] at hB
     have HLU : Hid (letters u = true) := hlu
     clear hlu
     go_wp2_with (go_at_call 152; refine hB.mono ?_; rintro x w' ⟨rfl, rfl⟩)
     clear hB hKA
     go_loopw [4] (fun v w2 => ∃ a : Nat, v = .int .i64 a ∧ a ≤ m ∧ Hid (∀ x, x < a → keyAtK ks x ≠ u) ∧ Below w.heap.size w w2) (fun v _ => m - (intOf v).toNat)
     case atStart => exact ⟨0, rfl, Nat.zero_le _, fun x hx => absurd hx (by omega), hbr⟩
     case round =>
      obtain ⟨a, rfl, ha, HD, hb2⟩ := hrel
      by_cases ham : a < m
      · have hai : (a : Int) < (m : Int) := by omega
        have han : (a : Int) < (n : Int) := by omega
        obtain ⟨v, hv⟩ : ∃ v, keyAtK ks a = v := ⟨_, rfl⟩
        have HV : Hid (keyAtK ks a = v) := hv
        clear hv
        have hC0 : Below w.heap.size w wr.drew := ⟨hb2.os, hb2.tape, hb2.output, hb2.size, hb2.block⟩
        by_cases huv : u = v
        · have heq : (u.toList == v.toList) = true := by rw [huv]; simp
          have HR : Hid (goodK ks = false) := goodK_not2 (a := a) HMK.out ham (by rw [HU.out, HV.out, huv])
          go_wp2
          refine wp_region_in (by kernel_rfl) (fun W => Below w.heap.size w W) ?_
          change wpIn _ _ _ _ _ _ _ _ (World.drew _)
          refine wpIn_tk (i := 0) (d := some 22) rfl ?_
          refine wpIn_tk (i := 1) (d := some 23) rfl ?_
          refine wpIn_tk (i := 2) (d := some 24) rfl ?_
          refine wpIn_tp (i := 3) (d := some 25) rfl (by (intro wq hq; have q0 := HKX.out m hmn wq hq; rw [HU.out] at q0; go_simp; first | done | with_reducible rfl)) ?_
          refine wpIn_tk (i := 4) (d := some 26) rfl ?_
          refine wpIn_tk (i := 5) (d := some 27) rfl ?_
          refine wpIn_tk (i := 6) (d := some 28) rfl ?_
          refine wpIn_tp (i := 7) (d := some 29) rfl (by (intro wq hq; have q0 := HKX.out a (by omega) wq hq; rw [HV.out] at q0; go_simp; first | done | with_reducible rfl)) ?_
          refine wpIn_tk (i := 8) (d := some 30) rfl ?_
          refine wpIn_done hC0 (by kernel_rfl) ?_ _
          go_wp2
          go_ret
          exact ⟨ret_bool HR.out.symm, hC0⟩
        · have heq : (u.toList == v.toList) = false := by rw [beq_eq_false_iff_ne]; intro e; exact huv (toList_inj e)
          go_wp2
          refine wp_region_in (by kernel_rfl) (fun W => Below w.heap.size w W) ?_
          change wpIn _ _ _ _ _ _ _ _ (World.drew _)
          refine wpIn_tk (i := 0) (d := some 22) rfl ?_
          refine wpIn_tk (i := 1) (d := some 23) rfl ?_
          refine wpIn_tk (i := 2) (d := some 24) rfl ?_
          refine wpIn_tp (i := 3) (d := some 25) rfl (by (intro wq hq; have q0 := HKX.out m hmn wq hq; rw [HU.out] at q0; go_simp; first | done | with_reducible rfl)) ?_
          refine wpIn_tk (i := 4) (d := some 26) rfl ?_
          refine wpIn_tk (i := 5) (d := some 27) rfl ?_
          refine wpIn_tk (i := 6) (d := some 28) rfl ?_
          refine wpIn_tp (i := 7) (d := some 29) rfl (by (intro wq hq; have q0 := HKX.out a (by omega) wq hq; rw [HV.out] at q0; go_simp; first | done | with_reducible rfl)) ?_
          refine wpIn_tk (i := 8) (d := some 30) rfl ?_
          refine wpIn_done hC0 (by kernel_rfl) ?_ _
          go_wp2
          go_roundw
          case rel => exact ⟨a + 1, by go_num, ham, fun x hx => (Nat.lt_succ_iff_lt_or_eq.1 hx).elim (HD.out x) fun e => by rw [e, HV.out]; exact fun e' => huv e'.symm, hC0⟩
          case measure => simp [intOf]; omega
      · obtain rfl : a = m := by omega
        go_wp2
        go_roundw
        case rel =>
         refine ⟨a + 1, by go_num, hmn, ⟨fun x hx => ?_, fun b hb x hx => ?_⟩, hb2⟩
         · rcases Nat.lt_succ_iff_lt_or_eq.1 hx with h | h
           · exact HI.out.1 x h
           · rw [h, HU.out]; exact HLU.out
         · rcases Nat.lt_succ_iff_lt_or_eq.1 hb with h | h
           · exact HI.out.2 b h x hx
           · rw [h, HU.out]; exact HD.out x (by omega)
        case measure => simp [intOf]; omega
  · obtain rfl : m = n := by omega
    have HR : Hid (goodK ks = true) := goodK_of (fun x hx => HI.out.1 x (by rw [← HN.out]; exact hx)) (fun b hb => HI.out.2 b (by rw [← HN.out]; exact hb))
    go_wp2
    go_ret
    exact ⟨ret_bool HR.out.symm, hbr⟩
def shapeB (k i : Int) (t : ByteArray) (ks : List ByteArray) (nl : Nat) : Bool := bareB k i t ks.length nl &&
    (if k = 0 then true
     else if k = 1 then decide (i = 0) || decide (i = 1)
     else if k = 2 then decide (-maxInt ≤ i) && decide (i ≤ maxInt)
     else if k = 3 then letters t
     else if k = 4 then true
     else if k = 5 then decide (ks.length = nl) && goodK ks
     else false)
theorem good_shape (d : Nat) (k i : Int) (t : ByteArray) (ks : List ByteArray) (l : List J) : goodJ (d + 1) (.mk k i t ks l) = (shapeB k i t ks l.length && l.all (goodJ d)) := by
 rw [goodJ, bare_eq]
 unfold shapeB goodK
 cases hb : bareB k i t ks.length l.length with
 | false => rfl
 | true =>
  have hl : k ≠ 4 → k ≠ 5 → l = [] := fun h4 h5 => by
   unfold bareB at hb
   simp only [Bool.and_eq_true, Bool.or_eq_true, decide_eq_true_eq] at hb
   exact List.eq_nil_of_length_eq_zero (by omega)
  simp only [Bool.true_and]
  by_cases k0 : k = 0
  · rw [if_pos k0, if_pos k0, hl (by omega) (by omega)]; rfl
  rw [if_neg k0, if_neg k0]
  by_cases k1 : k = 1
  · rw [if_pos k1, if_pos k1, hl (by omega) (by omega)]; simp
  rw [if_neg k1, if_neg k1]
  by_cases k2 : k = 2
  · rw [if_pos k2, if_pos k2, hl (by omega) (by omega)]; simp
  rw [if_neg k2, if_neg k2]
  by_cases k3 : k = 3
  · rw [if_pos k3, if_pos k3, hl (by omega) (by omega)]; simp
  rw [if_neg k3, if_neg k3]
  by_cases k4 : k = 4
  · rw [if_pos k4, if_pos k4]; rfl
  rw [if_neg k4, if_neg k4]
  by_cases k5 : k = 5
  · rw [if_pos k5, if_pos k5]
  · rw [if_neg k5, if_neg k5]; rfl
theorem shape_any {O : Nat → Prop} {w : World} (k i : Int) (t : ByteArray) (ks : List ByteArray) (pk pl : Option Addr) (nk ck nl cl : Nat) (hnk : ks.length = nk) (hrd : RdK O w pk ck ks) (hO : ∀ k, O k → k < w.heap.size) (hl : nk ≤ 100000) (hll : nl ≤ 100000) (hkz : ∀ k ∈ ks, k.size ≤ 1000000000) (htz : t.size ≤ 1000000000) :
    Calls Tryz.prog 127 #[.agg #[.int .i64 k, .int .i64 i, .string t, .slice pk nk ck, .slice pl nl cl]] w fun x w' => x = .returned (.bool (shapeB k i t ks nl)) ∧ Below w.heap.size w w' := by
 have hn := nil_str (t := t)
 have hbA : Below w.heap.size w (w.alloc (.cells #[.int .i64 k, .int .i64 i, .string t, .slice pk nk ck, .slice pl nl cl] 36)) := (Below.refl _ _).alloc (Nat.le_refl _) _
 have hK := rkeys_any (w := w.alloc (.cells #[.int .i64 k, .int .i64 i, .string t, .slice pk nk ck, .slice pl nl cl] 36)) (hrd.carry fun b hb => ⟨hb, hbA.block b (hO b hb)⟩) (fun b hb => Nat.lt_of_lt_of_le (hO b hb) hbA.size) (by rw [hnk]; exact hl) hkz
 rw [hnk] at hK
 have HNK : Hid (ks.length = nk) := hnk
 have hB := bad_any runes t (w.alloc (.cells #[.int .i64 k, .int .i64 i, .string t, .slice pk nk ck, .slice pl nl cl] 36)) htz
 clear hnk hrd hkz
 by_cases hk0 : k = 0
 · skip
   subst hk0
   by_cases hA : nk + nl = 0
   · skip
     obtain rfl : nk = 0 := by omega
     obtain rfl : nl = 0 := by omega
     by_cases hi : i = 0
     · skip
       subst hi
       by_cases hT : t.size = 0
       · skip
         rw [decide_eq_true hT] at hn
         have HB : Hid (shapeB 0 0 t ks 0 = true) := by show _ = _; unfold shapeB bareB; rw [HNK.out]; simp [*]
         go_enter Tryz.func127, Tryz.ntmps127
         go_wp2
         go_ret
         refine ⟨ret_bool ?_, ?_⟩
         · first | exact HB.out.symm | (rw [HB.out]; simp; omega)
         · exact (Below.refl _ _).alloc (Nat.le_refl _) _
       · skip
         rw [decide_eq_false hT] at hn
         have HB : Hid (shapeB 0 0 t ks 0 = false) := by show _ = _; unfold shapeB bareB; rw [HNK.out]; simp [*]
         go_enter Tryz.func127, Tryz.ntmps127
         go_wp2
         go_ret
         refine ⟨ret_bool ?_, ?_⟩
         · first | exact HB.out.symm | (rw [HB.out]; simp; omega)
         · exact (Below.refl _ _).alloc (Nat.le_refl _) _
     · skip
       have HB : Hid (shapeB 0 i t ks 0 = false) := by show _ = _; unfold shapeB bareB; rw [HNK.out]; simp [*]
       go_enter Tryz.func127, Tryz.ntmps127
       go_wp2
       go_ret
       refine ⟨ret_bool ?_, ?_⟩
       · first | exact HB.out.symm | (rw [HB.out]; simp; omega)
       · exact (Below.refl _ _).alloc (Nat.le_refl _) _
   · skip
     have hpos : 0 < nk + nl := by omega
     have HB : Hid (shapeB 0 i t ks nl = false) := by show _ = _; unfold shapeB bareB; rw [HNK.out]; (by_cases hz1 : nk = 0 <;> by_cases hz2 : nl = 0 <;> first | (exfalso; omega) | simp [hz1, hz2])
     go_enter Tryz.func127, Tryz.ntmps127
     go_wp2
     go_ret
     refine ⟨ret_bool ?_, ?_⟩
     · first | exact HB.out.symm | (rw [HB.out]; simp; omega)
     · exact (Below.refl _ _).alloc (Nat.le_refl _) _
 · skip
   by_cases hk1 : k = 1
   · skip
     subst hk1
     by_cases hA : nk + nl = 0
     · skip
       obtain rfl : nk = 0 := by omega
       obtain rfl : nl = 0 := by omega
       by_cases hi : i = 0
       · skip
         subst hi
         by_cases hT : t.size = 0
         · skip
           rw [decide_eq_true hT] at hn
           have HB : Hid (shapeB 1 0 t ks 0 = true) := by show _ = _; unfold shapeB bareB; rw [HNK.out]; simp [*]
           go_enter Tryz.func127, Tryz.ntmps127
           go_wp2
           go_ret
           refine ⟨ret_bool ?_, ?_⟩
           · first | exact HB.out.symm | (rw [HB.out]; simp; omega)
           · exact (Below.refl _ _).alloc (Nat.le_refl _) _
         · skip
           rw [decide_eq_false hT] at hn
           have HB : Hid (shapeB 1 0 t ks 0 = false) := by show _ = _; unfold shapeB bareB; rw [HNK.out]; simp [*]
           go_enter Tryz.func127, Tryz.ntmps127
           go_wp2
           go_ret
           refine ⟨ret_bool ?_, ?_⟩
           · first | exact HB.out.symm | (rw [HB.out]; simp; omega)
           · exact (Below.refl _ _).alloc (Nat.le_refl _) _
       · skip
         by_cases hi1 : i = 1
         · skip
           subst hi1
           by_cases hT : t.size = 0
           · skip
             rw [decide_eq_true hT] at hn
             have HB : Hid (shapeB 1 1 t ks 0 = true) := by show _ = _; unfold shapeB bareB; rw [HNK.out]; simp [*]
             go_enter Tryz.func127, Tryz.ntmps127
             go_wp2
             go_ret
             refine ⟨ret_bool ?_, ?_⟩
             · first | exact HB.out.symm | (rw [HB.out]; simp; omega)
             · exact (Below.refl _ _).alloc (Nat.le_refl _) _
           · skip
             rw [decide_eq_false hT] at hn
             have HB : Hid (shapeB 1 1 t ks 0 = false) := by show _ = _; unfold shapeB bareB; rw [HNK.out]; simp [*]
             go_enter Tryz.func127, Tryz.ntmps127
             go_wp2
             go_ret
             refine ⟨ret_bool ?_, ?_⟩
             · first | exact HB.out.symm | (rw [HB.out]; simp; omega)
             · exact (Below.refl _ _).alloc (Nat.le_refl _) _
         · skip
           have HB : Hid (shapeB 1 i t ks 0 = false) := by show _ = _; unfold shapeB bareB; rw [HNK.out]; simp [*]
           go_enter Tryz.func127, Tryz.ntmps127
           go_wp2
           go_ret
           refine ⟨ret_bool ?_, ?_⟩
           · first | exact HB.out.symm | (rw [HB.out]; simp; omega)
           · exact (Below.refl _ _).alloc (Nat.le_refl _) _
     · skip
       have hpos : 0 < nk + nl := by omega
       have HB : Hid (shapeB 1 i t ks nl = false) := by show _ = _; unfold shapeB bareB; rw [HNK.out]; (by_cases hz1 : nk = 0 <;> by_cases hz2 : nl = 0 <;> first | (exfalso; omega) | simp [hz1, hz2])
       go_enter Tryz.func127, Tryz.ntmps127
       go_wp2
       go_ret
       refine ⟨ret_bool ?_, ?_⟩
       · first | exact HB.out.symm | (rw [HB.out]; simp; omega)
       · exact (Below.refl _ _).alloc (Nat.le_refl _) _
   · skip
     by_cases hk2 : k = 2
     · skip
       subst hk2
       by_cases hA : nk + nl = 0
       · skip
         obtain rfl : nk = 0 := by omega
         obtain rfl : nl = 0 := by omega
         by_cases hlo : -9007199254740991 ≤ i
         · skip
           by_cases hhi : i ≤ 9007199254740991
           · skip
             by_cases hT : t.size = 0
             · skip
               rw [decide_eq_true hT] at hn
               have HB : Hid (shapeB 2 i t ks 0 = true) := by show _ = _; unfold shapeB bareB; rw [HNK.out]; simp [*, maxInt]
               go_enter Tryz.func127, Tryz.ntmps127
               go_wp2
               go_ret
               refine ⟨ret_bool ?_, ?_⟩
               · first | exact HB.out.symm | (rw [HB.out]; simp; omega)
               · exact (Below.refl _ _).alloc (Nat.le_refl _) _
             · skip
               rw [decide_eq_false hT] at hn
               have HB : Hid (shapeB 2 i t ks 0 = false) := by show _ = _; unfold shapeB bareB; rw [HNK.out]; simp [*, maxInt]
               go_enter Tryz.func127, Tryz.ntmps127
               go_wp2
               go_ret
               refine ⟨ret_bool ?_, ?_⟩
               · first | exact HB.out.symm | (rw [HB.out]; simp; omega)
               · exact (Below.refl _ _).alloc (Nat.le_refl _) _
           · skip
             have HB : Hid (shapeB 2 i t ks 0 = false) := by show _ = _; unfold shapeB bareB; rw [HNK.out]; simp [*, maxInt]
             go_enter Tryz.func127, Tryz.ntmps127
             go_wp2
             go_ret
             refine ⟨ret_bool ?_, ?_⟩
             · first | exact HB.out.symm | (rw [HB.out]; simp; omega)
             · exact (Below.refl _ _).alloc (Nat.le_refl _) _
         · skip
           have HB : Hid (shapeB 2 i t ks 0 = false) := by show _ = _; unfold shapeB bareB; rw [HNK.out]; simp [*, maxInt]
           go_enter Tryz.func127, Tryz.ntmps127
           go_wp2
           go_ret
           refine ⟨ret_bool ?_, ?_⟩
           · first | exact HB.out.symm | (rw [HB.out]; simp; omega)
           · exact (Below.refl _ _).alloc (Nat.le_refl _) _
       · skip
         have hpos : 0 < nk + nl := by omega
         have HB : Hid (shapeB 2 i t ks nl = false) := by show _ = _; unfold shapeB bareB; rw [HNK.out]; (by_cases hz1 : nk = 0 <;> by_cases hz2 : nl = 0 <;> first | (exfalso; omega) | simp [hz1, hz2])
         go_enter Tryz.func127, Tryz.ntmps127
         go_wp2
         go_ret
         refine ⟨ret_bool ?_, ?_⟩
         · first | exact HB.out.symm | (rw [HB.out]; simp; omega)
         · exact (Below.refl _ _).alloc (Nat.le_refl _) _
     · skip
       by_cases hk3 : k = 3
       · skip
         subst hk3
         by_cases hA : nk + nl = 0
         · skip
           obtain rfl : nk = 0 := by omega
           obtain rfl : nl = 0 := by omega
           by_cases hi : i = 0
           · skip
             subst hi
             cases hlt : letters t with
             | true =>
              rw [letters_stray.1 hlt] at hB
              have HB : Hid (shapeB 3 0 t ks 0 = true) := by show _ = _; unfold shapeB bareB; rw [HNK.out]; simp [*]
              go_enter Tryz.func127, Tryz.ntmps127
              go_wp2_with (go_at_call 152; refine hB.mono ?_; rintro x w2 ⟨rfl, rfl⟩)
              go_ret
              refine ⟨ret_bool ?_, ?_⟩
              · first | exact HB.out.symm | (rw [HB.out]; simp; omega)
              · exact (Below.refl _ _).alloc (Nat.le_refl _) _
             | false =>
              obtain ⟨bp, hbp⟩ := letters_stray.2 hlt
              rw [hbp] at hB
              have HB : Hid (shapeB 3 0 t ks 0 = false) := by show _ = _; unfold shapeB bareB; rw [HNK.out]; simp [*]
              go_enter Tryz.func127, Tryz.ntmps127
              go_wp2_with (go_at_call 152; refine hB.mono ?_; rintro x w2 ⟨rfl, rfl⟩)
              go_ret
              refine ⟨ret_bool ?_, ?_⟩
              · first | exact HB.out.symm | (rw [HB.out]; simp; omega)
              · exact (Below.refl _ _).alloc (Nat.le_refl _) _
           · skip
             have HB : Hid (shapeB 3 i t ks 0 = false) := by show _ = _; unfold shapeB bareB; rw [HNK.out]; simp [*]
             go_enter Tryz.func127, Tryz.ntmps127
             go_wp2
             go_ret
             refine ⟨ret_bool ?_, ?_⟩
             · first | exact HB.out.symm | (rw [HB.out]; simp; omega)
             · exact (Below.refl _ _).alloc (Nat.le_refl _) _
         · skip
           have hpos : 0 < nk + nl := by omega
           have HB : Hid (shapeB 3 i t ks nl = false) := by show _ = _; unfold shapeB bareB; rw [HNK.out]; (by_cases hz1 : nk = 0 <;> by_cases hz2 : nl = 0 <;> first | (exfalso; omega) | simp [hz1, hz2])
           go_enter Tryz.func127, Tryz.ntmps127
           go_wp2
           go_ret
           refine ⟨ret_bool ?_, ?_⟩
           · first | exact HB.out.symm | (rw [HB.out]; simp; omega)
           · exact (Below.refl _ _).alloc (Nat.le_refl _) _
       · skip
         by_cases hk4 : k = 4
         · skip
           subst hk4
           by_cases hA : nk = 0
           · skip
             subst hA
             by_cases hi : i = 0
             · skip
               subst hi
               by_cases hT : t.size = 0
               · skip
                 rw [decide_eq_true hT] at hn
                 have HB : Hid (shapeB 4 0 t ks nl = true) := by show _ = _; unfold shapeB bareB; rw [HNK.out]; simp [*]
                 go_enter Tryz.func127, Tryz.ntmps127
                 go_wp2
                 go_ret
                 refine ⟨ret_bool ?_, ?_⟩
                 · first | exact HB.out.symm | (rw [HB.out]; simp; omega)
                 · exact (Below.refl _ _).alloc (Nat.le_refl _) _
               · skip
                 rw [decide_eq_false hT] at hn
                 have HB : Hid (shapeB 4 0 t ks nl = false) := by show _ = _; unfold shapeB bareB; rw [HNK.out]; simp [*]
                 go_enter Tryz.func127, Tryz.ntmps127
                 go_wp2
                 go_ret
                 refine ⟨ret_bool ?_, ?_⟩
                 · first | exact HB.out.symm | (rw [HB.out]; simp; omega)
                 · exact (Below.refl _ _).alloc (Nat.le_refl _) _
             · skip
               have HB : Hid (shapeB 4 i t ks nl = false) := by show _ = _; unfold shapeB bareB; rw [HNK.out]; simp [*]
               go_enter Tryz.func127, Tryz.ntmps127
               go_wp2
               go_ret
               refine ⟨ret_bool ?_, ?_⟩
               · first | exact HB.out.symm | (rw [HB.out]; simp; omega)
               · exact (Below.refl _ _).alloc (Nat.le_refl _) _
           · skip
             have hpos : 0 < nk := by omega
             have HB : Hid (shapeB 4 i t ks nl = false) := by show _ = _; unfold shapeB bareB; rw [HNK.out]; simp [*]
             go_enter Tryz.func127, Tryz.ntmps127
             go_wp2
             go_ret
             refine ⟨ret_bool ?_, ?_⟩
             · first | exact HB.out.symm | (rw [HB.out]; simp; omega)
             · exact (Below.refl _ _).alloc (Nat.le_refl _) _
         · skip
           by_cases hk5 : k = 5
           · skip
             subst hk5
             by_cases hA : nk = nl
             · skip
               subst hA
               by_cases hi : i = 0
               · skip
                 subst hi
                 by_cases hT : t.size = 0
                 · skip
                   rw [decide_eq_true hT] at hn
                   have HB : Hid (shapeB 5 0 t ks nk = goodK ks) := by show _ = _; unfold shapeB bareB; rw [HNK.out]; simp [*]
                   go_enter Tryz.func127, Tryz.ntmps127
                   go_wp2_with (go_at_call 153; refine hK.mono ?_; rintro x w2 ⟨rfl, hb2⟩)
                   go_ret
                   refine ⟨ret_bool ?_, ?_⟩
                   · first | exact HB.out.symm | (rw [HB.out]; simp; omega)
                   · exact below_in ((Below.refl _ _).alloc (Nat.le_refl _) _) hb2
                 · skip
                   rw [decide_eq_false hT] at hn
                   have HB : Hid (shapeB 5 0 t ks nk = false) := by show _ = _; unfold shapeB bareB; rw [HNK.out]; simp [*]
                   go_enter Tryz.func127, Tryz.ntmps127
                   go_wp2
                   go_ret
                   refine ⟨ret_bool ?_, ?_⟩
                   · first | exact HB.out.symm | (rw [HB.out]; simp; omega)
                   · exact (Below.refl _ _).alloc (Nat.le_refl _) _
               · skip
                 have HB : Hid (shapeB 5 i t ks nk = false) := by show _ = _; unfold shapeB bareB; rw [HNK.out]; simp [*]
                 go_enter Tryz.func127, Tryz.ntmps127
                 go_wp2
                 go_ret
                 refine ⟨ret_bool ?_, ?_⟩
                 · first | exact HB.out.symm | (rw [HB.out]; simp; omega)
                 · exact (Below.refl _ _).alloc (Nat.le_refl _) _
             · skip
               have HB : Hid (shapeB 5 i t ks nl = false) := by show _ = _; unfold shapeB bareB; rw [HNK.out]; simp [*]
               go_enter Tryz.func127, Tryz.ntmps127
               go_wp2
               go_ret
               refine ⟨ret_bool ?_, ?_⟩
               · first | exact HB.out.symm | (rw [HB.out]; simp; omega)
               · exact (Below.refl _ _).alloc (Nat.le_refl _) _
           · skip
             have HB : Hid (shapeB k i t ks nl = false) := by show _ = _; unfold shapeB bareB; rw [HNK.out]; simp [*]
             go_enter Tryz.func127, Tryz.ntmps127
             go_wp2
             go_ret
             refine ⟨ret_bool ?_, ?_⟩
             · first | exact HB.out.symm | (rw [HB.out]; simp; omega)
             · exact (Below.refl _ _).alloc (Nat.le_refl _) _
def Rgoods (d : Nat) : Prop := ∀ (w : World) (O : Nat → Prop) (j : J) (k i most : Int) (t : ByteArray) (pk pl : Option Addr) (nk ck nl cl : Nat), (∀ x, O x → x < w.heap.size) → most = (d : Int) → d ≤ 100 → szJ d j = true →
 isJ O w j [.int .i64 k, .int .i64 i, .string t, .slice pk nk ck, .slice pl nl cl] →
 Calls Tryz.prog 96 #[.agg #[.int .i64 k, .int .i64 i, .string t, .slice pk nk ck, .slice pl nl cl], .int .i64 most] w fun x w' => x = .returned (.bool (goodJ d j)) ∧ Below w.heap.size w w'
theorem rgood_zero : Rgoods 0 := by
 intro w O j k i most t pk pl nk ck nl cl hO hm _ _ _
 subst hm
 go_enter Tryz.func96, Tryz.ntmps96
 go_wp2
 go_ret
 exact ⟨by unfold goodJ; rfl, (Below.refl _ _).alloc (Nat.le_refl _) _⟩
theorem rgood_step {d : Nat} (V : Rgoods d) : Rgoods (d + 1) := by
 intro w O j k i most t pk pl nk ck nl cl hO hm hd hsz hj
 obtain ⟨kx, ix, tx, ks, l⟩ := j
 unfold isJ at hj
 obtain ⟨pk', ck', pl', cl', e, hk, hl, hs⟩ := hj
 simp only [List.cons.injEq, Value.int.injEq, Value.string.injEq, Value.slice.injEq, true_and, and_true] at e
 obtain ⟨rfl, rfl, rfl, ⟨rfl, rfl, rfl⟩, rfl, rfl, rfl⟩ := e
 unfold szJ at hsz
 simp only [Bool.and_eq_true, decide_eq_true_eq] at hsz
 obtain ⟨htz, hks, hkz, hll, hlsz⟩ := hsz
 have HLS : Hid (l.all (szJ d) = true) := hlsz
 have hm1 : 1 ≤ most := by omega
 have hm2 : most ≤ 101 := by omega
 have HM : Hid (most - 1 = (d : Int)) := by show _ = _; omega
 have HDL : Hid (d ≤ 100) := by show _ ≤ _; omega
 have HGS : Hid (goodJ (d + 1) (.mk k i t ks l) = (shapeB k i t ks l.length && l.all (goodJ d))) := good_shape d k i t ks l
 clear hm hd hlsz
 obtain ⟨nk, hnk⟩ : ∃ n, ks.length = n := ⟨_, rfl⟩
 obtain ⟨nl, hnl⟩ : ∃ n, l.length = n := ⟨_, rfl⟩
 have HNL : Hid (l.length = nl) := hnl
 rw [hnl] at HGS
 obtain ⟨wB, hwB⟩ : ∃ wB, wB = w.alloc (.cells #[.int .i64 k, .int .i64 i, .string t, .slice pk nk ck, .slice pl nl cl] 36) := ⟨_, rfl⟩
 have hbA : Below w.heap.size w wB := by rw [hwB]; exact (Below.refl _ _).alloc (Nat.le_refl _) _
 have hA : wB.heap[w.heap.size]? = some (.cells #[.int .i64 k, .int .i64 i, .string t, .slice pk nk ck, .slice pl nl cl] 36 (0, 0)) := by rw [hwB]; exact heap_alloc_new _ _
 have hsB : w.heap.size < wB.heap.size := (Array.getElem?_eq_some_iff.1 hA).1
 have hSh := shape_any (w := wB) (O := O) k i t ks pk pl nk ck nl cl hnk (hk.carry fun b hb => ⟨hb, hbA.block b (hO b hb)⟩) (fun b hb => Nat.lt_of_lt_of_le (hO b hb) hbA.size) (by rw [← hnk]; exact hks) (by rw [← hnl]; exact hll) (fun x hx => of_decide_eq_true (List.all_eq_true.1 hkz x hx)) htz
 rw [hnk, hnl]
 have hnlz : nl ≤ 100000 := by rw [← hnl]; exact hll
 have hlc : nl ≤ cl := by rw [← hnl]; exact hl
 have HCA : Hid (∀ W : World, Below wB.heap.size wB W → ∀ n v, [Value.int .i64 k, .int .i64 i, .string t, .slice pk nk ck, .slice pl nl cl][n]? = some v → W.cell? ⟨w.heap.size, n, none⟩ = some v) := fun W hW n v hv =>
  (World.cell?_of_block (a := ⟨w.heap.size, n, none⟩) (hW.block w.heap.size hsB)).trans (cell_row (cur := [.int .i64 k, .int .i64 i, .string t, .slice pk nk ck, .slice pl nl cl]) hA n v hv)
 clear hnk hnl hks hkz hll htz hk hl hA
 cases hsb : shapeB k i t ks nl with
 | false =>
  rw [hsb] at hSh HGS
  rw [hwB] at hSh
  go_enter Tryz.func96, Tryz.ntmps96
  go_wp2_with (go_at_call 127; refine hSh.mono ?_; rintro x w2 ⟨rfl, hb2⟩)
  go_ret
  rw [← hwB] at hb2
  exact ⟨ret_bool HGS.out.symm, below_in hbA hb2⟩
 | true =>
  rw [hsb, Bool.true_and] at HGS
  rw [hsb, hwB] at hSh
  go_enter Tryz.func96, Tryz.ntmps96
  go_wp2_with (go_at_call 127; refine hSh.mono ?_; rintro x w2 ⟨rfl, hb2⟩)
  rw [← hwB] at hb2
  clear hwB hSh hsb
  go_loopw [5] (fun v wr => ∃ m : Nat, v = .int .i64 m ∧ m ≤ nl ∧ Hid ((l.take m).all (goodJ d) = true) ∧ Below wB.heap.size wB wr) (fun v _ => nl - (intOf v).toNat)
  case atStart => exact ⟨0, rfl, Nat.zero_le _, rfl, hb2⟩
  case round =>
   obtain ⟨m, rfl, hm, HT, hb3⟩ := hrel
   have a4 := HCA.out wr hb3 4 _ rfl
   by_cases hml : m < nl
   · have hmi : (m : Int) < (nl : Int) := by omega
     have hml1 : m < l.length := by rw [HNL.out]; exact hml
     have HML : Hid (m < l.length) := hml1
     obtain ⟨lb, lo, cs, hpl, hOl, hcells, hyj⟩ := isJs.at l 0 m hs hml1
     subst hpl
     obtain ⟨x0, x1, x2, p3, n3, c3, p4, n4, c4, rfl⟩ := isJ_shape hyj
     have hB3 := below_cat hbA (by omega) hb3
     have hblk := hB3.block lb (hO _ hOl)
     have cc : ∀ n v, [Value.int .i64 x0, .int .i64 x1, .string x2, .slice p3 n3 c3, .slice p4 n4 c4][n]? = some v → wr.cell? ⟨lb, lo + m * 5 + n, none⟩ = some v := fun n v h => by
      have := hcells n v h
      rw [Nat.zero_add] at this
      exact (World.cell?_of_block (a := ⟨lb, lo + m * 5 + n, none⟩) hblk).trans this
     have y0 : wr.cell? ⟨lb, lo + m * 5, none⟩ = some (.int .i64 x0) := cc 0 _ rfl
     have y1 := cc 1 _ rfl
     have y2 := cc 2 _ rfl
     have y3 := cc 3 _ rfl
     have y4 := cc 4 _ rfl
     have hV := V wr O (l.getD m J.zero) x0 x1 (most - 1) x2 p3 p4 n3 c3 n4 c4 (fun b hb => Nat.lt_of_lt_of_le (hO b hb) hB3.size) HM.out HDL.out (all_at HLS.out hml1) (hyj.carry fun b hb => ⟨hb, hB3.block b (hO b hb)⟩)
     clear cc hcells hml1 hyj hblk
     cases hgj : goodJ d (l.getD m J.zero) with
     | true =>
      rw [hgj] at hV
      go_wp2_with (go_at_call 96; refine hV.mono ?_; rintro x w4 ⟨rfl, hb4⟩)
      go_roundw
      case rel => exact ⟨m + 1, by go_num, hml, by show _ = _; rw [all_take HML.out, HT.out, hgj]; rfl, below_cat hb3 hb3.size hb4⟩
      case measure => simp [intOf]; omega
     | false =>
      rw [hgj] at hV
      go_wp2_with (go_at_call 96; refine hV.mono ?_; rintro x w4 ⟨rfl, hb4⟩)
      go_ret
      exact ⟨ret_bool (by rw [HGS.out]; exact (all_not HML.out hgj).symm), below_cat hbA (by omega) (below_cat hb3 hb3.size hb4)⟩
   · obtain rfl : m = nl := by omega
     go_wp2
     go_ret
     have ht := HT.out
     rw [List.take_of_length_le (by rw [HNL.out]; omega)] at ht
     exact ⟨ret_bool (by rw [HGS.out]; exact ht.symm), below_cat hbA (by omega) hb3⟩
theorem rgoods : ∀ d, Rgoods d
 | 0 => rgood_zero
 | d + 1 => rgood_step (rgoods d)
theorem rGood_any {w : World} {O : Nat → Prop} {j : J} {k i : Int} {t : ByteArray} {pk pl : Option Addr} {nk ck nl cl : Nat} (hO : ∀ x, O x → x < w.heap.size) (hsz : szJ 12 j = true)
    (hj : isJ O w j [.int .i64 k, .int .i64 i, .string t, .slice pk nk ck, .slice pl nl cl]) :
    Calls Tryz.prog 66 #[.agg #[.int .i64 k, .int .i64 i, .string t, .slice pk nk ck, .slice pl nl cl]] w fun x w' => x = .returned (.bool (goodJ 12 j)) ∧ Below w.heap.size w w' := by
 have hbA : Below w.heap.size w (w.alloc (.cells #[.int .i64 k, .int .i64 i, .string t, .slice pk nk ck, .slice pl nl cl] 36)) := (Below.refl _ _).alloc (Nat.le_refl _) _
 have hV := rgoods 12 (w.alloc (.cells #[.int .i64 k, .int .i64 i, .string t, .slice pk nk ck, .slice pl nl cl] 36)) O j k i 12 t pk pl nk ck nl cl (fun b hb => Nat.lt_of_lt_of_le (hO b hb) hbA.size) rfl (by decide) hsz (hj.carry fun b hb => ⟨hb, hbA.block b (hO b hb)⟩)
 go_enter Tryz.func66, Tryz.ntmps66
 go_wp2_with (go_at_call 96; refine hV.mono ?_; rintro x w4 ⟨rfl, hb4⟩)
 go_ret
 exact ⟨rfl, below_in hbA hb4⟩
theorem len_le : ∀ (n : Nat) (P : List Nat), P.Nodup → (∀ i ∈ P, i < n) → P.length ≤ n
 | 0, P, _, h => by
  cases P with
  | nil => exact Nat.le_refl _
  | cons x r => exact absurd (h x (by simp)) (by omega)
 | n + 1, P, hnd, h => by
  have h1 : (P.erase n).length ≤ n := len_le n (P.erase n) (hnd.erase n) fun i hi => by
   have h2 := h i (List.mem_of_mem_erase hi)
   have h3 : i ≠ n := fun e => by subst e; exact (hnd.not_mem_erase) hi
   omega
  have h4 := List.length_erase (a := n) (l := P)
  split at h4 <;> omega
theorem cover_len : ∀ (n : Nat) (P : List Nat), (∀ j, j < n → j ∈ P) → n ≤ P.length
 | 0, _, _ => Nat.zero_le _
 | n + 1, P, h => by
  have h1 : n ≤ (P.erase n).length := cover_len n (P.erase n) fun j hj => (List.mem_erase_of_ne (by omega)).2 (h j (by omega))
  have h2 := List.length_erase_of_mem (h n (by omega))
  have h3 : 0 < P.length := List.length_pos_of_mem (h n (by omega))
  omega
theorem perm_range : ∀ (n : Nat) (P : List Nat), P.Nodup → (∀ i ∈ P, i < n) → P.length = n → P.Perm (List.range n)
 | 0, P, _, _, h => by
  obtain rfl : P = [] := List.eq_nil_of_length_eq_zero h
  exact List.Perm.refl _
 | n + 1, P, hnd, hlt, hl => by
  have hmem : n ∈ P := by
   refine Classical.byContradiction fun hn => ?_
   have := len_le n P hnd fun i hi => by
    have := hlt i hi
    have : i ≠ n := fun e => hn (e ▸ hi)
    omega
   omega
  have h1 := perm_range n (P.erase n) (hnd.erase n) (fun i hi => by
   have h2 := hlt i (List.mem_of_mem_erase hi)
   have h3 : i ≠ n := fun e => by subst e; exact (hnd.not_mem_erase) hi
   omega) (by rw [List.length_erase_of_mem hmem]; omega)
  rw [List.range_succ]
  exact (List.perm_cons_erase hmem).trans ((h1.cons n).trans (List.perm_append_singleton n (List.range n)).symm)
structure Pick (ks : List ByteArray) (P : List Nat) : Prop where
 nd : P.Nodup
 lt : ∀ i ∈ P, i < ks.length
 up : P.Pairwise (fun i j => ltK (keyAtK ks i) (keyAtK ks j) = true)
 over : ∀ i ∈ P, ∀ j, j < ks.length → j ∉ P → ltK (keyAtK ks i) (keyAtK ks j) = true
theorem Pick.nil (ks : List ByteArray) : Pick ks [] := ⟨List.nodup_nil, fun i h => (by cases h), List.Pairwise.nil, fun i h => (by cases h)⟩
theorem Pick.snoc {ks : List ByteArray} {P : List Nat} (h : Pick ks P) {m : Nat} (hm : m < ks.length) (hn : m ∉ P) (hmin : ∀ j, j < ks.length → j ∉ P → j = m ∨ ltK (keyAtK ks m) (keyAtK ks j) = true) : Pick ks (P ++ [m]) := by
 refine ⟨?_, fun i hi => ?_, ?_, fun i hi j hj hnj => ?_⟩
 · unfold List.Nodup
   rw [List.pairwise_append]
   exact ⟨h.nd, List.pairwise_singleton _ _, fun a ha b hb => by rw [List.mem_singleton.1 hb]; exact fun e => hn (e ▸ ha)⟩
 · rcases List.mem_append.1 hi with hi | hi
   · exact h.lt i hi
   · rw [List.mem_singleton.1 hi]; exact hm
 · rw [List.pairwise_append]
   exact ⟨h.up, List.pairwise_singleton _ _, fun a ha b hb => by rw [List.mem_singleton.1 hb]; exact h.over a ha m hm hn⟩
 · have hnP : j ∉ P := fun e => hnj (List.mem_append_left _ e)
   rcases List.mem_append.1 hi with hi | hi
   · exact h.over i hi j hj hnP
   · rw [List.mem_singleton.1 hi]
     rcases hmin j hj hnP with e | e
     · exact absurd (by rw [e]; simp) hnj
     · exact e
theorem Pick.full {ks : List ByteArray} {P : List Nat} {l : List J} (h : Pick ks P) (hlen : P.length = ks.length) (hll : ks.length = l.length) (hd : ks.Pairwise (· ≠ ·)) : sel ks l P = sortK (ks.zip l) := by
 have hp := perm_range ks.length P h.nd h.lt hlen
 have hperm : (sel ks l P).Perm (ks.zip l) := by
  rw [← sel_range ks l hll]
  exact hp.map _
 have hpw : (ks.zip l).Pairwise fun x y => x.1 ≠ y.1 := by
  have : ((ks.zip l).map (·.1)).Pairwise (· ≠ ·) := by rw [List.map_fst_zip (by omega)]; exact hd
  exact List.pairwise_map.1 this
 refine rises_eq _ _ ?_ (sortK_rises' _ hpw) (hperm.trans (sortK_perm _).symm)
 unfold sel
 rw [List.map_map]
 exact rises_of _ P h.up
def LeastTo (ks : List ByteArray) (P : List Nat) (i : Nat) (v : Int) : Prop :=
 (v = -1 ∧ ∀ j, j < i → j ∈ P) ∨ ∃ m : Nat, v = m ∧ m < i ∧ m ∉ P ∧ ∀ j, j < i → j ∉ P → j = m ∨ ltK (keyAtK ks m) (keyAtK ks j) = true
section
variable {ks : List ByteArray} {P : List Nat} {i : Nat} {v : Int}
theorem LeastTo.zero : LeastTo ks P 0 (-1) := .inl ⟨rfl, fun j h => absurd h (by omega)⟩
theorem LeastTo.skip (h : LeastTo ks P i v) (hi : i ∈ P) : LeastTo ks P (i + 1) v := by
 rcases h with ⟨h1, h2⟩ | ⟨m, h1, h2, h3, h4⟩
 · refine .inl ⟨h1, fun j hj => ?_⟩
   by_cases e : j = i
   · rw [e]; exact hi
   · exact h2 j (by omega)
 · refine .inr ⟨m, h1, by omega, h3, fun j hj hn => ?_⟩
   by_cases e : j = i
   · exact absurd (e ▸ hi) hn
   · exact h4 j (by omega) hn
theorem LeastTo.first (h : LeastTo ks P i (-1)) (hi : i ∉ P) : LeastTo ks P (i + 1) i := by
 rcases h with ⟨_, h2⟩ | ⟨m, h1, _⟩
 · refine .inr ⟨i, rfl, by omega, hi, fun j hj hn => .inl ?_⟩
   by_cases e : j = i
   · exact e
   · exact absurd (h2 j (by omega)) hn
 · omega
theorem LeastTo.less {m : Nat} (h : LeastTo ks P i m) (hi : i ∉ P) (hl : ltK (keyAtK ks i) (keyAtK ks m) = true) : LeastTo ks P (i + 1) i := by
 rcases h with ⟨h1, _⟩ | ⟨m', h1, h2, h3, h4⟩
 · omega
 · obtain rfl : m = m' := by omega
   refine .inr ⟨i, rfl, by omega, hi, fun j hj hn => ?_⟩
   by_cases e : j = i
   · exact .inl e
   · right
     rcases h4 j (by omega) hn with e' | e'
     · rw [e']; exact hl
     · exact ltK_trans hl e'
theorem LeastTo.same {m : Nat} (h : LeastTo ks P i m) (hl : ltK (keyAtK ks i) (keyAtK ks m) = false) (hne : m < i → keyAtK ks m ≠ keyAtK ks i) : LeastTo ks P (i + 1) m := by
 rcases h with ⟨h1, _⟩ | ⟨m', h1, h2, h3, h4⟩
 · omega
 · obtain rfl : m = m' := by omega
   refine .inr ⟨m, rfl, by omega, h3, fun j hj hn => ?_⟩
   by_cases e : j = i
   · right
     rw [e]
     rcases ltK_total (hne h2) with h' | h'
     · exact h'
     · rw [h'] at hl; cases hl
   · exact h4 j (by omega) hn
theorem LeastTo.done (h : LeastTo ks P ks.length v) (hP : Pick ks P) (hlen : P.length < ks.length) : ∃ m : Nat, v = m ∧ m < ks.length ∧ m ∉ P ∧ Pick ks (P ++ [m]) := by
 rcases h with ⟨_, h2⟩ | ⟨m, h1, h2, h3, h4⟩
 · have := cover_len ks.length P h2
   omega
 · exact ⟨m, h1, h2, h3, hP.snoc h2 h3 h4⟩
end
theorem bytesLess_eq : ∀ x y : List UInt8, Op.bytesLess x y = lessB x y
 | [], [] => rfl
 | [], _ :: _ => rfl
 | _ :: _, [] => rfl
 | a :: x, b :: y => by
  unfold Op.bytesLess lessB
  rw [bytesLess_eq x y]
  cases h : decide (a = b) <;> simp_all
theorem less_ltK (a b : ByteArray) : Op.bytesLess a.toList b.toList = ltK a b := by
 rw [bytesLess_eq]
 unfold ltK
 rw [Lib.toList_data, Lib.toList_data]
def Eb (O : Nat → Prop) (b D : Nat) (vk vl : Value) (w : World) : Nat → Prop := fun k => O k ∨ (b + 3 ≤ k ∧ k < w.heap.size ∧ vk.ownBlock ≠ some k ∧ vl.ownBlock ≠ some k ∧ k ≠ D)
structure OI (O : Nat → Prop) (w : World) (b D : Nat) (dn : List Bool) (cs5 : Array Value) (c0 c1 c2 : Value) (Sk : List ByteArray) (Sv : List J) (vk vl : Value) (W : World) : Prop where
 box : W.heap[b]? = some (.cells cs5 36 (0, 0))
 res : W.heap[b + 1]? = some (.cells #[.int .i64 0, .int .i64 0, .string ⟨#[]⟩, .slice none 0 0, .slice none 0 0] 36 (0, 0))
 obj : W.heap[b + 2]? = some (.cells #[c0, c1, c2, vk, vl] 36 (0, 0))
 keys : W.ownsRow (b + 3) 9 1 vk Sk.length (Sk.map Value.string)
 vals : ∃ xs, W.ownsRow (b + 3) 36 5 vl Sv.length xs ∧ isRow (Eb O b D vk vl W) W Sv xs
 dnr : D = 0 ∨ (b + 3 ≤ D ∧ W.heap[D]? = some (.cells (dn.map Value.bool).toArray 4 (0, 0)))
 ne : ∀ i, vk.ownBlock = some i → vl.ownBlock ≠ some i
 nek : vk.ownBlock ≠ some D
 nel : vl.ownBlock ≠ some D
 low : ∀ k, O k → k < b
 below : Below b w W
 at' : b = w.heap.size
section
variable {O : Nat → Prop} {w W W2 W4 : World} {b D : Nat} {dn : List Bool} {cs5 : Array Value} {c0 c1 c2 : Value} {Sk : List ByteArray} {Sv : List J} {vk vl vk' vl' : Value}
theorem OI.size (h : OI O w b D dn cs5 c0 c1 c2 Sk Sv vk vl W) : b + 2 < W.heap.size := (Array.getElem?_eq_some_iff.1 h.obj).1
theorem OI.more (h : OI O w b D dn cs5 c0 c1 c2 Sk Sv vk vl W) (hb : Below W.heap.size W W4) : OI O w b D dn cs5 c0 c1 c2 Sk Sv vk vl W4 := by
 have hs := h.size
 have hss := hb.size
 obtain ⟨xs, h1, h2⟩ := h.vals
 have kp : Keep (fun _ => False) W W4 := Keep.of_below hb
 refine ⟨(hb.block b (by omega)).trans h.box, (hb.block (b + 1) (by omega)).trans h.res, (hb.block (b + 2) (by omega)).trans h.obj, own_keep h.keys kp fun _ _ h => h, ⟨xs, own_keep h1 kp fun _ _ h => h, h2.carry fun k hk => ?_⟩, ?_, h.ne, h.nek, h.nel, h.low, h.below.trans ⟨hb.os, hb.tape, hb.output, hb.size, fun k hk => hb.block k (by omega)⟩, h.at'⟩
 · rcases hk with hk | hk
   · have := h.low k hk
     exact ⟨.inl hk, hb.block k (by omega)⟩
   · exact ⟨.inr ⟨hk.1, by have := hk.2.1; omega, hk.2.2⟩, hb.block k hk.2.1⟩
 · rcases h.dnr with h' | ⟨h', h''⟩
   · exact .inl h'
   · exact .inr ⟨h', (hb.block D (Array.getElem?_eq_some_iff.1 h'').1).trans h''⟩
theorem OI.drew (h : OI O w b D dn cs5 c0 c1 c2 Sk Sv vk vl W) : OI O w b D dn cs5 c0 c1 c2 Sk Sv vk vl W.drew := h.more ⟨rfl, rfl, rfl, Nat.le_refl _, fun _ _ => rfl⟩
theorem chg {o : Obj} {row : Option Nat} {f k : Nat} {v : Value} (hg : (W.alloc o).grownBy W2 row) (hk : k < W.heap.size) (hr : row ≠ some k) (hb : k ≠ b + 2) : (W2.setCell ⟨b + 2, f, none⟩ v).heap[k]? = W.heap[k]? := by
 have K3 : Keep (One (b + 2)) W2 (W2.setCell ⟨b + 2, f, none⟩ v) := Keep.setCell (Keep.refl _ _) (fun _ => (rfl : b + 2 = b + 2)) _
 have := hg.size
 simp at this
 rw [K3.block k (by omega) (by unfold One; exact hb), grown_at hg hk hr]
theorem OI.key (h : OI O w b D dn cs5 c0 c1 c2 Sk Sv vk vl W) {x : ByteArray} {o : Obj} (hown : W2.ownsRow (b + 3) 9 1 vk' (Sk.length + 1) (Sk.map Value.string ++ [.string x])) (hg : (W.alloc o).grownBy W2 vk.ownBlock) (hat : vk'.ownBlock = vk.ownBlock ∨ vk'.ownBlock = some (W.alloc o).heap.size) :
    W2.cell? ⟨b + 2, 3, none⟩ = some vk ∧ W2.frozen? ⟨b + 2, 3, none⟩ = false ∧ OI O w b D dn cs5 c0 c1 c2 (Sk ++ [x]) Sv vk' vl (W2.setCell ⟨b + 2, 3, none⟩ vk') := by
 have hs := h.size
 have hgk := own_ge h.keys
 obtain ⟨xs, hv1, hv2⟩ := h.vals
 have hgv := own_ge hv1
 have hgs := hg.size
 simp at hgs
 have ob : W2.heap[b + 2]? = some (.cells #[c0, c1, c2, vk, vl] 36 (0, 0)) := by
  rw [grown_at hg (by omega) (fun e => by have := hgk _ e; omega)]; exact h.obj
 have K3 : Keep (One (b + 2)) W2 (W2.setCell ⟨b + 2, 3, none⟩ vk') := Keep.setCell (Keep.refl _ _) (fun _ => (rfl : b + 2 = b + 2)) _
 have hgk' := own_ge hown
 have new : ∀ i, vk'.ownBlock = some i → vk.ownBlock = some i ∨ W.heap.size < i := fun i e => by
  rcases hat with h1 | h1
  · exact .inl (h1 ▸ e)
  · rw [h1] at e
    have := Option.some.inj e
    simp at this
    exact .inr (by omega)
 have carry : ∀ k, Eb O b D vk vl W k → Eb O b D vk' vl (W2.setCell ⟨b + 2, 3, none⟩ vk') k ∧ (W2.setCell ⟨b + 2, 3, none⟩ vk').heap[k]? = W.heap[k]? := by
  intro k hk
  rcases hk with hk | hk
  · have := h.low k hk
    exact ⟨.inl hk, chg hg (by omega) (fun e => by have := hgk _ e; omega) (by omega)⟩
  · refine ⟨.inr ⟨hk.1, by have := hk.2.1; simp; omega, fun e => ?_, hk.2.2.2.1, hk.2.2.2.2⟩, chg hg hk.2.1 hk.2.2.1 (by have := hk.1; omega)⟩
    rcases new k e with h' | h'
    · exact hk.2.2.1 h'
    · have := hk.2.1; omega
 refine ⟨five_c3 ob, five_fz ob 3, ⟨?_, ?_, ?_, ?_, ⟨xs, ?_, hv2.carry carry⟩, ?_, ?_, ?_, h.nel, h.low, ?_, h.at'⟩⟩
 · rw [chg hg (by omega) (fun e => by have := hgk _ e; omega) (by omega)]; exact h.box
 · rw [chg hg (by omega) (fun e => by have := hgk _ e; omega) (by omega)]; exact h.res
 · rw [heap_setCell_same _ (b + 2) 3 _ _ _ ob]; rfl
 · rw [List.length_append, List.map_append]
   exact own_keep hown K3 fun k e => by have := hgk' k e; unfold One; omega
 · exact own_keep (own_keep (hv1.alloc o) (S := fun k => vk.ownBlock = some k) (Keep.of_grown hg fun _ _ e => e) fun k e e' => h.ne k e' e) K3 fun k e => by have := hgv k e; unfold One; omega
 · rcases h.dnr with h' | ⟨h', h''⟩
   · exact .inl h'
   · exact .inr ⟨h', by rw [chg hg (Array.getElem?_eq_some_iff.1 h'').1 h.nek (by omega)]; exact h''⟩
 · intro i e e'
   rcases new i e with h1 | h1
   · exact h.ne i h1 e'
   · have := (hgv i e').2; omega
 · intro e
   rcases new D e with h1 | h1
   · exact h.nek h1
   · rcases h.dnr with h' | ⟨_, h''⟩
     · omega
     · have := (Array.getElem?_eq_some_iff.1 h'').1; omega
 · refine h.below.trans ⟨hg.os, hg.tape, hg.output, by simp; omega, fun k hk => chg hg (by omega) (fun e => by have := hgk _ e; omega) (by omega)⟩
theorem OI.val (h : OI O w b D dn cs5 c0 c1 c2 Sk Sv vk vl W) {y : J} {cs xs : List Value} {o : Obj} (hv1 : W.ownsRow (b + 3) 36 5 vl Sv.length xs) (hv2 : isRow (Eb O b D vk vl W) W Sv xs) (hy : isJ (Eb O b D vk vl W) W y cs) (hown : W2.ownsRow (b + 3) 36 5 vl' (Sv.length + 1) (xs ++ cs)) (hg : (W.alloc o).grownBy W2 vl.ownBlock) (hat : vl'.ownBlock = vl.ownBlock ∨ vl'.ownBlock = some (W.alloc o).heap.size) :
    W2.cell? ⟨b + 2, 4, none⟩ = some vl ∧ W2.frozen? ⟨b + 2, 4, none⟩ = false ∧ OI O w b D dn cs5 c0 c1 c2 Sk (Sv ++ [y]) vk vl' (W2.setCell ⟨b + 2, 4, none⟩ vl') := by
 have hs := h.size
 have hgk := own_ge h.keys
 have hgv := own_ge hv1
 have hgs := hg.size
 simp at hgs
 have ob : W2.heap[b + 2]? = some (.cells #[c0, c1, c2, vk, vl] 36 (0, 0)) := by
  rw [grown_at hg (by omega) (fun e => by have := hgv _ e; omega)]; exact h.obj
 have K3 : Keep (One (b + 2)) W2 (W2.setCell ⟨b + 2, 4, none⟩ vl') := Keep.setCell (Keep.refl _ _) (fun _ => (rfl : b + 2 = b + 2)) _
 have hgv' := own_ge hown
 have new : ∀ i, vl'.ownBlock = some i → vl.ownBlock = some i ∨ W.heap.size < i := fun i e => by
  rcases hat with h1 | h1
  · exact .inl (h1 ▸ e)
  · rw [h1] at e
    have := Option.some.inj e
    simp at this
    exact .inr (by omega)
 have carry : ∀ k, Eb O b D vk vl W k → Eb O b D vk vl' (W2.setCell ⟨b + 2, 4, none⟩ vl') k ∧ (W2.setCell ⟨b + 2, 4, none⟩ vl').heap[k]? = W.heap[k]? := by
  intro k hk
  rcases hk with hk | hk
  · have := h.low k hk
    exact ⟨.inl hk, chg hg (by omega) (fun e => by have := hgv _ e; omega) (by omega)⟩
  · refine ⟨.inr ⟨hk.1, by have := hk.2.1; simp; omega, hk.2.2.1, fun e => ?_, hk.2.2.2.2⟩, chg hg hk.2.1 hk.2.2.2.1 (by have := hk.1; omega)⟩
    rcases new k e with h' | h'
    · exact hk.2.2.2.1 h'
    · have := hk.2.1; omega
 refine ⟨five_c4 ob, five_fz ob 4, ⟨?_, ?_, ?_, ?_, ⟨xs ++ cs, ?_, isRow.snoc hy.five (hy.carry carry) Sv xs (hv2.carry carry)⟩, ?_, ?_, h.nek, ?_, h.low, ?_, h.at'⟩⟩
 · rw [chg hg (by omega) (fun e => by have := hgv _ e; omega) (by omega)]; exact h.box
 · rw [chg hg (by omega) (fun e => by have := hgv _ e; omega) (by omega)]; exact h.res
 · rw [heap_setCell_same _ (b + 2) 4 _ _ _ ob]; rfl
 · exact own_keep (own_keep (h.keys.alloc o) (S := fun k => vl.ownBlock = some k) (Keep.of_grown hg fun _ _ e => e) fun k e e' => h.ne k e e') K3 fun k e => by have := hgk k e; unfold One; omega
 · rw [List.length_append]
   exact own_keep hown K3 fun k e => by have := hgv' k e; unfold One; omega
 · rcases h.dnr with h' | ⟨h', h''⟩
   · exact .inl h'
   · exact .inr ⟨h', by rw [chg hg (Array.getElem?_eq_some_iff.1 h'').1 h.nel (by omega)]; exact h''⟩
 · intro i e e'
   rcases new i e' with h1 | h1
   · exact h.ne i e h1
   · have := (hgk i e).2; omega
 · intro e
   rcases new D e with h1 | h1
   · exact h.nel h1
   · rcases h.dnr with h' | ⟨_, h''⟩
     · omega
     · have := (Array.getElem?_eq_some_iff.1 h'').1; omega
 · refine h.below.trans ⟨hg.os, hg.tape, hg.output, by simp; omega, fun k hk => chg hg (by omega) (fun e => by have := hgv _ e; omega) (by omega)⟩
theorem OI.new (h : OI O w b D dn cs5 c0 c1 c2 Sk Sv vk vl W) (hb : Below W.heap.size W W4) {y : J} {cs : List Value} (hy : isJ (fun k => O k ∨ New W W4 k) W4 y cs) : isJ (Eb O b D vk vl W4) W4 y cs := by
 have hs := h.size
 have hss := hb.size
 obtain ⟨xs, h1, _⟩ := h.vals
 refine hy.carry fun k hk => ⟨?_, rfl⟩
 rcases hk with hk | hk
 · exact .inl hk
 · have e1 := hk.1
   refine .inr ⟨by omega, hk.2, fun e => by have := (own_ge h.keys k e).2; omega, fun e => by have := (own_ge h1 k e).2; omega, fun e => ?_⟩
   rcases h.dnr with h' | ⟨_, h''⟩
   · omega
   · have := (Array.getElem?_eq_some_iff.1 h'').1; omega
theorem OI.marks (h : OI O w b 0 dn cs5 c0 c1 c2 Sk Sv vk vl W) (ds : List Bool) : OI O w b W.heap.size ds cs5 c0 c1 c2 Sk Sv vk vl (W.alloc (.cells (ds.map Value.bool).toArray 4)) := by
 have hs := h.size
 have hb : Below W.heap.size W (W.alloc (.cells (ds.map Value.bool).toArray 4)) := (Below.refl _ _).alloc (Nat.le_refl _) _
 obtain ⟨xs, h1, h2⟩ := h.vals
 have kp : Keep (fun _ => False) W (W.alloc (.cells (ds.map Value.bool).toArray 4)) := Keep.of_below hb
 refine ⟨(hb.block b (by omega)).trans h.box, (hb.block (b + 1) (by omega)).trans h.res, (hb.block (b + 2) (by omega)).trans h.obj, own_keep h.keys kp fun _ _ h => h, ⟨xs, own_keep h1 kp fun _ _ h => h, h2.carry fun k hk => ?_⟩, .inr ⟨by omega, heap_alloc_new _ _⟩, h.ne, fun e => by have := (own_ge h.keys _ e).2; omega, fun e => by have := (own_ge h1 _ e).2; omega, h.low, h.below.trans ⟨hb.os, hb.tape, hb.output, hb.size, fun k hk => hb.block k (by omega)⟩, h.at'⟩
 rcases hk with hk | hk
 · have := h.low k hk
   exact ⟨.inl hk, hb.block k (by omega)⟩
 · exact ⟨.inr ⟨hk.1, by have := hk.2.1; simp; omega, hk.2.2.1, hk.2.2.2.1, by have := hk.2.1; omega⟩, hb.block k hk.2.1⟩
theorem OI.mark (h : OI O w b D dn cs5 c0 c1 c2 Sk Sv vk vl W) (hD : b + 3 ≤ D) (m : Nat) : OI O w b D (dn.set m true) cs5 c0 c1 c2 Sk Sv vk vl (W.setCell ⟨D, m, none⟩ (.bool true)) := by
 have hs := h.size
 obtain ⟨xs, h1, h2⟩ := h.vals
 have K3 : Keep (One D) W (W.setCell ⟨D, m, none⟩ (.bool true)) := Keep.setCell (Keep.refl _ _) (fun _ => (rfl : D = D)) _
 obtain ⟨_, hd⟩ : b + 3 ≤ D ∧ W.heap[D]? = some (.cells (dn.map Value.bool).toArray 4 (0, 0)) := by
  rcases h.dnr with h' | h'
  · omega
  · exact h'
 have lowK : ∀ k, k < W.heap.size → k ≠ D → (W.setCell ⟨D, m, none⟩ (.bool true)).heap[k]? = W.heap[k]? := fun k hk hn => K3.block k hk (by unfold One; exact hn)
 refine ⟨(lowK b (by omega) (by omega)).trans h.box, (lowK (b + 1) (by omega) (by omega)).trans h.res, (lowK (b + 2) (by omega) (by omega)).trans h.obj, own_keep h.keys K3 fun k e => by unfold One; exact fun e' => h.nek (e' ▸ e), ⟨xs, own_keep h1 K3 fun k e => by unfold One; exact fun e' => h.nel (e' ▸ e), h2.carry fun k hk => ?_⟩, .inr ⟨hD, ?_⟩, h.ne, h.nek, h.nel, h.low, h.below.trans ⟨rfl, rfl, rfl, by simp, fun k hk => lowK k (by omega) (by omega)⟩, h.at'⟩
 · rcases hk with hk | hk
   · have := h.low k hk
     exact ⟨.inl hk, lowK k (by omega) (by omega)⟩
   · exact ⟨.inr ⟨hk.1, by have := hk.2.1; simp; omega, hk.2.2⟩, lowK k hk.2.1 hk.2.2.2.2⟩
 · rw [heap_setCell_same _ D m _ _ _ hd]
   congr 2
   rw [← Array.toList_inj]
   simp [List.map_set]
end
end Go.Proofs.YtimhpglfolbomaaGreat

/-
  Keys that are good, by a contract.
  Whether all values of a list are good, by a contract: given how one is told good.
  Whether a value is good, by a contract.
  A list that is put in order, one value after another.
  A value put in order, by a contract.
  Good and Encode, by contracts.
  What is good is good in order, and no longer.
  What was put in order is in order, stays as it is, and is read back.
  Bytes that are letters: what is encoded is so.
  A text that is written is of letters.
  What is encoded is of letters, is decoded, and is bytes.
  What is encoded is bytes; and Encode's answer is read by Decode.
  The document's letters, by contracts: Letter, and Bad given Rune.
  Chapter 1's examples, as the reader and the writer have them.
-/
import Derived.Test.YtimhpglfolbomaaGreatRY08
set_option maxRecDepth 100000
set_option maxHeartbeats 16000000
namespace Go.Proofs.YtimhpglfolbomaaGreat
open Go.RowKit
def goodK (ks : List ByteArray) : Bool := ks.all letters && noKeyTwice ks
section
variable {w : World} {g : Nat} {L : List Nat} {ks : List ByteArray}
theorem places_len (hP : Places w g L ks) : L.length = ks.length := by rw [hP.1.length_eq]; simp
theorem places_lt (hP : Places w g L ks) {i : Nat} (hi : i < L.length) : L.getD i 0 < ks.length := by
 have := hP.1.subset (List.getElem_mem hi)
 rw [List.getD_eq_getElem?_getD, List.getElem?_eq_getElem hi]
 simpa using this
theorem places_find (hP : Places w g L ks) {n : Nat} (hn : n < ks.length) : ∃ i, i < L.length ∧ L.getD i 0 = n := by
 have : n ∈ L := hP.1.mem_iff.2 (by simpa using hn)
 obtain ⟨i, hi, e⟩ := List.getElem_of_mem this
 exact ⟨i, hi, by rw [List.getD_eq_getElem?_getD, List.getElem?_eq_getElem hi]; exact e⟩
theorem places_ne (hP : Places w g L ks) {i j : Nat} (hi : i < L.length) (hj : j < L.length) (hij : i ≠ j) : L.getD i 0 ≠ L.getD j 0 := by
 have hnd : L.Nodup := hP.1.nodup_iff.2 List.nodup_range
 rw [List.getD_eq_getElem?_getD, List.getElem?_eq_getElem hi, List.getD_eq_getElem?_getD, List.getElem?_eq_getElem hj]
 simp only [Option.getD_some]
 rcases Nat.lt_or_gt_of_ne hij with h | h
 · exact List.pairwise_iff_getElem.1 hnd i j hi hj h
 · exact fun e => List.pairwise_iff_getElem.1 hnd j i hj hi h e.symm
theorem keyAtK_at {n : Nat} (hn : n < ks.length) : keyAtK ks n = ks[n] := by
 unfold keyAtK
 rw [List.getD_eq_getElem?_getD, List.getElem?_eq_getElem hn]; rfl
def Fine (L : List Nat) (ks : List ByteArray) (m : Nat) : Prop := ∀ i, i < m → letters (keyAtK ks (L.getD i 0)) = true ∧ (0 < i → keyAtK ks (L.getD (i - 1) 0) ≠ keyAtK ks (L.getD i 0))
theorem goodK_true (hP : Places w g L ks) (h : Fine L ks L.length) : goodK ks = true := by
 unfold goodK
 rw [Bool.and_eq_true]
 constructor
 · rw [List.all_eq_true]
   intro k hk
   obtain ⟨n, hn, rfl⟩ := List.getElem_of_mem hk
   obtain ⟨i, hi, e⟩ := places_find hP hn
   have := (h i hi).1
   rw [e, keyAtK_at hn] at this
   exact this
 · apply pair_noTwice
   rw [List.pairwise_iff_getElem]
   intro n m hn hm hnm e
   obtain ⟨i, hi, ei⟩ := places_find hP hn
   obtain ⟨j, hj, ej⟩ := places_find hP hm
   have key : ∀ a b, a < b → b < L.length → keyAtK ks (L.getD a 0) = keyAtK ks (L.getD b 0) → False := by
    intro a b hab hb hk
    have h1 := hP.2.1 (b - 1) b (by omega) hb
    have h2 : ltK (keyAtK ks (L.getD (b - 1) 0)) (keyAtK ks (L.getD a 0)) = false := by
     by_cases ha : a = b - 1
     · subst ha; exact ltK_irrefl _
     · exact hP.2.1 a (b - 1) (by omega) (by omega)
    have hne := (h b hb).2 (by omega)
    rcases ltK_total hne with h' | h'
    · rw [hk, h'] at h2; cases h2
    · rw [h'] at h1; cases h1
   have he : keyAtK ks (L.getD i 0) = keyAtK ks (L.getD j 0) := by rw [ei, ej, keyAtK_at hn, keyAtK_at hm]; exact e
   rcases Nat.lt_trichotomy i j with h' | h' | h'
   · exact key i j h' hj he
   · subst h'; omega
   · exact key j i h' hi he.symm
theorem goodK_letters (hP : Places w g L ks) {i : Nat} (hi : i < L.length) (h : letters (keyAtK ks (L.getD i 0)) = false) : goodK ks = false := by
 have hn := places_lt hP hi
 rw [keyAtK_at hn] at h
 cases hg : goodK ks with
 | false => rfl
 | true =>
  unfold goodK at hg
  rw [Bool.and_eq_true, List.all_eq_true] at hg
  rw [hg.1 _ (List.getElem_mem hn)] at h
  cases h
theorem goodK_twice (hP : Places w g L ks) {i : Nat} (hi : i < L.length) (h0 : 0 < i) (h : keyAtK ks (L.getD (i - 1) 0) = keyAtK ks (L.getD i 0)) : goodK ks = false := by
 have hn := places_lt hP hi
 have hm := places_lt hP (i := i - 1) (by omega)
 have hne := places_ne hP (i := i - 1) (by omega) hi (by omega)
 rw [keyAtK_at hn, keyAtK_at hm] at h
 cases hg : goodK ks with
 | false => rfl
 | true =>
  unfold goodK at hg
  rw [Bool.and_eq_true] at hg
  have hp := List.pairwise_iff_getElem.1 (noTwice_pair hg.2)
  rcases Nat.lt_or_gt_of_ne hne with h' | h'
  · exact absurd h (hp _ _ hm hn h')
  · exact absurd h.symm (hp _ _ hn hm h')
end
theorem Places.keep {w w' : World} {g : Nat} {L : List Nat} {ks : List ByteArray} (h : Places w g L ks) (e : w'.heap[g]? = w.heap[g]?) : Places w' g L ks :=
 ⟨h.1, h.2.1, fun j hj => (World.cell?_of_block (a := ⟨g, j, none⟩) e).trans (h.2.2 j hj)⟩
theorem Fine.step {L : List Nat} {ks : List ByteArray} {m : Nat} (h : Fine L ks m) (h1 : letters (keyAtK ks (L.getD m 0)) = true) (h2 : 0 < m → keyAtK ks (L.getD (m - 1) 0) ≠ keyAtK ks (L.getD m 0)) : Fine L ks (m + 1) := by
 intro i hi
 by_cases e : i = m
 · subst e; exact ⟨h1, h2⟩
 · exact h i (by omega)
theorem toList_inj {a b : ByteArray} (h : a.toList = b.toList) : a = b := by
 rw [Lib.toList_data, Lib.toList_data] at h
 cases a; cases b
 exact congrArg ByteArray.mk (Array.toList_inj.1 h)
theorem goodKeys_any {O : Nat → Prop} {ks : List ByteArray} {p : Option Addr} {c : Nat} {w : World} (hrd : RdK O w p c ks) (hO : ∀ k, O k → k < w.heap.size) (hl : ks.length ≤ 100000) (hkz : ∀ k ∈ ks, k.size ≤ 1000000000) :
    Calls Tryz.prog 162 #[.slice p ks.length c] w fun x w' => x = .returned (.bool (goodK ks)) ∧ Below w.heap.size w w' := by
 have hri := rising_any hrd hO (by omega)
 obtain ⟨n, hn⟩ : ∃ n, ks.length = n := ⟨_, rfl⟩
 have HN : Hid (ks.length = n) := hn
 rw [hn] at hri hl ⊢
 go_enter Tryz.func162, Tryz.ntmps162
 go_wp2_with (go_at_call 163; refine hri.mono ?_; rintro x w1 ⟨g, L, rfl, hP, hg0, hg1, hb1⟩)
 clear hri hn
 have HLL : Hid (L.length = n) := (places_len hP).trans HN.out
 have hsz1 := hb1.size
 go_loopw [10] (fun i wr => ∃ k : Nat, i = .int .i64 k ∧ k ≤ n ∧ Fine L ks k ∧ Below w1.heap.size w1 wr) (fun i _ => n - (intOf i).toNat)
 case atStart => exact ⟨0, rfl, Nat.zero_le _, fun i hi => absurd hi (by omega), Below.refl _ _⟩
 case round =>
  obtain ⟨k, rfl, hk, hF, hbr⟩ := hrel
  have HF : Hid (Fine L ks k) := hF
  clear hF
  have hPr := hP.keep (hbr.block g hg1)
  by_cases hkn : k < n
  · have hkL : k < L.length := by rw [HLL.out]; exact hkn
    have hkc : (k : Int) < (n : Int) := by omega
    have gc := hPr.2.2 k hkL
    have hat := places_lt hPr hkL
    obtain ⟨a, ha⟩ : ∃ a, L.getD k 0 = a := ⟨_, rfl⟩
    have HA : Hid (L.getD k 0 = a) := ha
    rw [ha] at gc hat
    obtain ⟨ad, hpe, hOa, hkey⟩ := hrd.2 a hat
    have hcK : ∀ (x : Nat), x < ks.length → ∀ W : World, Below w1.heap.size w1 W → W.cell? (ad.add x) = some (.string (keyAtK ks x)) := by
     intro x hx W hW
     obtain ⟨ad', hpe', hOa', hkey'⟩ := hrd.2 x hx
     rw [hpe] at hpe'
     cases hpe'
     have e1 := hO _ hOa'
     exact (World.cell?_of_block (by rw [add_block]; exact (hW.block _ (by omega)).trans (hb1.block _ e1))).trans hkey'
    subst hpe
    have hca : a < n := by rw [← HN.out]; exact hat
    have hcap : n ≤ c := by have := hrd.1; rw [HN.out] at this; exact this
    have haI : (a : Int) < (n : Int) := by omega
    have hla := letters_any (keyAtK ks a)
    have hza : (keyAtK ks a).size ≤ 1000000000 := by rw [keyAtK_at hat]; exact hkz _ (List.getElem_mem hat)
    have hCA := fun W hW => hcK a hat W hW
    obtain ⟨key, hkeyE⟩ : ∃ key, keyAtK ks a = key := ⟨_, rfl⟩
    have HKE : Hid (keyAtK ks a = key) := hkeyE
    rw [hkeyE] at hla hza hCA
    have HLA := fun W => hla W hza
    have HCK : Hid (∀ (x : Nat), x < ks.length → ∀ W : World, Below w1.heap.size w1 W → W.cell? (ad.add x) = some (.string (keyAtK ks x))) := hcK
    clear hkey hla ha hkeyE hcK
    have hcs : letters key = true ∨ letters key = false := by cases letters key <;> simp
    rcases hcs with hlk | hlk
    · rw [hlk] at HLA
      cases k with
      | zero =>
       go_wp2
       have hC0 : Below w1.heap.size w1 wr.drew := ⟨hbr.os, hbr.tape, hbr.output, hbr.size, hbr.block⟩
       refine wp_region_in (by kernel_rfl) (fun W => Below w1.heap.size w1 W) ?_
       change wpIn _ _ _ _ _ _ _ _ (World.drew _)
       refine wpIn_tk (i := 0) (d := some 15) rfl ?_
       refine wpIn_tk (i := 1) (d := some 16) rfl ?_
       refine wpIn_tk (i := 2) (d := some 17) rfl ?_
       refine wpIn_tp (i := 3) (d := some 18) rfl (by (intro wq hq; have q0 := hCA wq hq; go_simp; first | done | with_reducible rfl)) ?_
       refine wpIn_do (i := 4) hC0 (by kernel_rfl) rfl (by rfl) ?_
       intro K hK
       go_simp
       go_wp2_with (go_at_call 160; refine (HLA _).mono ?_; rintro x w3 ⟨rfl, hb3⟩)
       have hC1 : Below w1.heap.size w1 w3 := hC0.trans ⟨hb3.os, hb3.tape, hb3.output, hb3.size, fun k hk => hb3.block k (by have := hC0.size; omega)⟩
       clear hC0
       refine wpIn_tk (i := 5) (d := some 20) rfl ?_
       refine wpIn_tk (i := 6) (d := some 21) rfl ?_
       refine wpIn_tk (i := 7) (d := some 22) rfl ?_
       refine wpIn_tk (i := 8) (d := some 23) rfl ?_
       refine wpIn_tk (i := 9) (d := some 24) rfl ?_
       refine wpIn_take (i := 10) (d := (some 25)) (v := undef) (a' := ?aqz10) rfl rfl (by kernel_rfl) (by kernel_rfl) (by kernel_rfl) (fun _ _ _ h => h) (Or.inr ⟨by rfl, rfl⟩) ?fqz10 ?_
       case fqz10 => (go_frame; rfl)
       refine wpIn_take (i := 11) (d := (some 26)) (v := undef) (a' := ?aqz11) rfl rfl (by kernel_rfl) (by kernel_rfl) (by kernel_rfl) (fun _ _ _ h => h) (Or.inr ⟨by rfl, rfl⟩) ?fqz11 ?_
       case fqz11 => (go_frame; rfl)
       refine wpIn_take (i := 12) (d := (some 27)) (v := undef) (a' := ?aqz12) rfl rfl (by kernel_rfl) (by kernel_rfl) (by kernel_rfl) (fun _ _ _ h => h) (Or.inr ⟨by rfl, rfl⟩) ?fqz12 ?_
       case fqz12 => (go_frame; rfl)
       refine wpIn_take (i := 13) (d := (some 28)) (v := undef) (a' := ?aqz13) rfl rfl (by kernel_rfl) (by kernel_rfl) (by kernel_rfl) (fun _ _ _ h => h) (Or.inr ⟨by rfl, rfl⟩) ?fqz13 ?_
       case fqz13 => (go_frame; rfl)
       refine wpIn_take (i := 14) (d := (some 29)) (v := undef) (a' := ?aqz14) rfl rfl (by kernel_rfl) (by kernel_rfl) (by kernel_rfl) (fun _ _ _ h => h) (Or.inr ⟨by rfl, rfl⟩) ?fqz14 ?_
       case fqz14 => (go_frame; rfl)
       refine wpIn_take (i := 15) (d := (some 30)) (v := undef) (a' := ?aqz15) rfl rfl (by kernel_rfl) (by kernel_rfl) (by kernel_rfl) (fun _ _ _ h => h) (Or.inr ⟨by rfl, rfl⟩) ?fqz15 ?_
       case fqz15 => (go_frame; rfl)
       refine wpIn_take (i := 16) (d := (some 31)) (v := undef) (a' := ?aqz16) rfl rfl (by kernel_rfl) (by kernel_rfl) (by kernel_rfl) (fun _ _ _ h => h) (Or.inr ⟨by rfl, rfl⟩) ?fqz16 ?_
       case fqz16 => (go_frame; rfl)
       refine wpIn_take (i := 17) (d := (some 32)) (v := undef) (a' := ?aqz17) rfl rfl (by kernel_rfl) (by kernel_rfl) (by kernel_rfl) (fun _ _ _ h => h) (Or.inr ⟨by rfl, rfl⟩) ?fqz17 ?_
       case fqz17 => (go_frame; rfl)
       refine wpIn_take (i := 18) (d := (some 33)) (v := undef) (a' := ?aqz18) rfl rfl (by kernel_rfl) (by kernel_rfl) (by kernel_rfl) (fun _ _ _ h => h) (Or.inr ⟨by rfl, rfl⟩) ?fqz18 ?_
       case fqz18 => (go_frame; rfl)
       refine wpIn_take (i := 19) (d := (some 34)) (v := undef) (a' := ?aqz19) rfl rfl (by kernel_rfl) (by kernel_rfl) (by kernel_rfl) (fun _ _ _ h => h) (Or.inr ⟨by rfl, rfl⟩) ?fqz19 ?_
       case fqz19 => (go_frame; rfl)
       refine wpIn_take (i := 20) (d := (some 35)) (v := undef) (a' := ?aqz20) rfl rfl (by kernel_rfl) (by kernel_rfl) (by kernel_rfl) (fun _ _ _ h => h) (Or.inr ⟨by rfl, rfl⟩) ?fqz20 ?_
       case fqz20 => (go_frame; rfl)
       refine wpIn_take (i := 21) (d := (some 36)) (v := undef) (a' := ?aqz21) rfl rfl (by kernel_rfl) (by kernel_rfl) (by kernel_rfl) (fun _ _ _ h => h) (Or.inr ⟨by rfl, rfl⟩) ?fqz21 ?_
       case fqz21 => (go_frame; rfl)
       refine wpIn_take (i := 22) (d := (some 37)) (v := undef) (a' := ?aqz22) rfl rfl (by kernel_rfl) (by kernel_rfl) (by kernel_rfl) (fun _ _ _ h => h) (Or.inr ⟨by rfl, rfl⟩) ?fqz22 ?_
       case fqz22 => (go_frame; rfl)
       refine wpIn_tk (i := 23) (d := some 38) rfl ?_
       refine wpIn_tk (i := 24) (d := some 39) rfl ?_
       refine wpIn_done hC1 (by kernel_rfl) ?_ _
       go_wp2
       go_roundw
       case rel => exact ⟨1, by go_num, hkn, HF.out.step (by rw [HA.out, HKE.out]; exact hlk) (fun h => absurd h (by omega)), hC1⟩
       case measure => simp [intOf]; omega
      | succ m =>
       have gm := hPr.2.2 m (by omega)
       have hmt := places_lt hPr (i := m) (by omega)
       obtain ⟨b, hbE⟩ : ∃ b, L.getD m 0 = b := ⟨_, rfl⟩
       have HB : Hid (L.getD m 0 = b) := hbE
       rw [hbE] at gm hmt
       have hCB := fun W hW => HCK.out b hmt W hW
       have hcb : b < n := by rw [← HN.out]; exact hmt
       have hbI : (b : Int) < (n : Int) := by omega
       have hmI : (m : Int) < (n : Int) := by omega
       have hwm : IntKind.i64.wrap (m : Int) = (m : Int) := by first | go_num | (simp [IntKind.wrap, IntKind.bits, IntKind.signed]; omega)
       have hGM : ∀ W : World, Below w1.heap.size w1 W → W.cell? ⟨g, m, none⟩ = some (.int .i64 (b : Int)) := fun W hW => by
        have h1 := hP.2.2 m (by omega)
        rw [hbE] at h1
        exact (World.cell?_of_block (a := ⟨g, m, none⟩) (hW.block g hg1)).trans h1
       obtain ⟨kb, hkb⟩ : ∃ kb, keyAtK ks b = kb := ⟨_, rfl⟩
       have HKB : Hid (keyAtK ks b = kb) := hkb
       rw [hkb] at hCB
       clear hbE hkb hmt
       by_cases hsame : kb = key
       · have heq : (kb.toList == key.toList) = true := by rw [hsame]; simp
         go_wp2
         have hC0 : Below w1.heap.size w1 wr.drew := ⟨hbr.os, hbr.tape, hbr.output, hbr.size, hbr.block⟩
         refine wp_region_in (by kernel_rfl) (fun W => Below w1.heap.size w1 W) ?_
         change wpIn _ _ _ _ _ _ _ _ (World.drew _)
         refine wpIn_tk (i := 0) (d := some 15) rfl ?_
         refine wpIn_tk (i := 1) (d := some 16) rfl ?_
         refine wpIn_tk (i := 2) (d := some 17) rfl ?_
         refine wpIn_tp (i := 3) (d := some 18) rfl (by (intro wq hq; have q0 := hCA wq hq; go_simp; first | done | with_reducible rfl)) ?_
         refine wpIn_do (i := 4) hC0 (by kernel_rfl) rfl (by rfl) ?_
         intro K hK
         go_simp
         go_wp2_with (go_at_call 160; refine (HLA _).mono ?_; rintro x w3 ⟨rfl, hb3⟩)
         have hC1 : Below w1.heap.size w1 w3 := hC0.trans ⟨hb3.os, hb3.tape, hb3.output, hb3.size, fun k hk => hb3.block k (by have := hC0.size; omega)⟩
         clear hC0
         refine wpIn_tk (i := 5) (d := some 20) rfl ?_
         refine wpIn_tk (i := 6) (d := some 21) rfl ?_
         refine wpIn_tk (i := 7) (d := some 22) rfl ?_
         refine wpIn_tk (i := 8) (d := some 23) rfl ?_
         refine wpIn_tk (i := 9) (d := some 24) rfl ?_
         refine wpIn_tk (i := 10) (d := some 25) rfl ?_
         refine wpIn_tk (i := 11) (d := some 26) rfl ?_
         refine wpIn_tk (i := 12) (d := some 27) rfl ?_
         refine wpIn_tk (i := 13) (d := some 28) rfl ?_
         refine wpIn_tk (i := 14) (d := some 29) rfl ?_
         refine wpIn_tp (i := 15) (d := some 30) rfl (by (intro wq hq; have q0 := hGM wq hq; go_simp; first | done | with_reducible rfl)) ?_
         refine wpIn_tk (i := 16) (d := some 31) rfl ?_
         refine wpIn_tp (i := 17) (d := some 32) rfl (by (intro wq hq; have q0 := hCB wq hq; go_simp; first | done | with_reducible rfl)) ?_
         refine wpIn_tk (i := 18) (d := some 33) rfl ?_
         refine wpIn_tk (i := 19) (d := some 34) rfl ?_
         refine wpIn_tk (i := 20) (d := some 35) rfl ?_
         refine wpIn_tp (i := 21) (d := some 36) rfl (by (intro wq hq; have q0 := hCA wq hq; go_simp; first | done | with_reducible rfl)) ?_
         refine wpIn_tk (i := 22) (d := some 37) rfl ?_
         refine wpIn_tk (i := 23) (d := some 38) rfl ?_
         refine wpIn_tk (i := 24) (d := some 39) rfl ?_
         refine wpIn_done hC1 (by kernel_rfl) ?_ _
         go_wp2
         go_ret
         exact ⟨ret_bool (goodK_twice hP hkL (by omega) (by rw [HA.out, HKE.out]; show keyAtK ks (L.getD m 0) = _; rw [HB.out, HKB.out]; exact hsame)).symm, hb1.trans ⟨hC1.os, hC1.tape, hC1.output, hC1.size, fun k hk => hC1.block k (by omega)⟩⟩
       · have heq : (kb.toList == key.toList) = false := by rw [beq_eq_false_iff_ne]; intro e; exact hsame (toList_inj e)
         go_wp2
         have hC0 : Below w1.heap.size w1 wr.drew := ⟨hbr.os, hbr.tape, hbr.output, hbr.size, hbr.block⟩
         refine wp_region_in (by kernel_rfl) (fun W => Below w1.heap.size w1 W) ?_
         change wpIn _ _ _ _ _ _ _ _ (World.drew _)
         refine wpIn_tk (i := 0) (d := some 15) rfl ?_
         refine wpIn_tk (i := 1) (d := some 16) rfl ?_
         refine wpIn_tk (i := 2) (d := some 17) rfl ?_
         refine wpIn_tp (i := 3) (d := some 18) rfl (by (intro wq hq; have q0 := hCA wq hq; go_simp; first | done | with_reducible rfl)) ?_
         refine wpIn_do (i := 4) hC0 (by kernel_rfl) rfl (by rfl) ?_
         intro K hK
         go_simp
         go_wp2_with (go_at_call 160; refine (HLA _).mono ?_; rintro x w3 ⟨rfl, hb3⟩)
         have hC1 : Below w1.heap.size w1 w3 := hC0.trans ⟨hb3.os, hb3.tape, hb3.output, hb3.size, fun k hk => hb3.block k (by have := hC0.size; omega)⟩
         clear hC0
         refine wpIn_tk (i := 5) (d := some 20) rfl ?_
         refine wpIn_tk (i := 6) (d := some 21) rfl ?_
         refine wpIn_tk (i := 7) (d := some 22) rfl ?_
         refine wpIn_tk (i := 8) (d := some 23) rfl ?_
         refine wpIn_tk (i := 9) (d := some 24) rfl ?_
         refine wpIn_tk (i := 10) (d := some 25) rfl ?_
         refine wpIn_tk (i := 11) (d := some 26) rfl ?_
         refine wpIn_tk (i := 12) (d := some 27) rfl ?_
         refine wpIn_tk (i := 13) (d := some 28) rfl ?_
         refine wpIn_tk (i := 14) (d := some 29) rfl ?_
         refine wpIn_tp (i := 15) (d := some 30) rfl (by (intro wq hq; have q0 := hGM wq hq; go_simp; first | done | with_reducible rfl)) ?_
         refine wpIn_tk (i := 16) (d := some 31) rfl ?_
         refine wpIn_tp (i := 17) (d := some 32) rfl (by (intro wq hq; have q0 := hCB wq hq; go_simp; first | done | with_reducible rfl)) ?_
         refine wpIn_tk (i := 18) (d := some 33) rfl ?_
         refine wpIn_tk (i := 19) (d := some 34) rfl ?_
         refine wpIn_tk (i := 20) (d := some 35) rfl ?_
         refine wpIn_tp (i := 21) (d := some 36) rfl (by (intro wq hq; have q0 := hCA wq hq; go_simp; first | done | with_reducible rfl)) ?_
         refine wpIn_tk (i := 22) (d := some 37) rfl ?_
         refine wpIn_tk (i := 23) (d := some 38) rfl ?_
         refine wpIn_tk (i := 24) (d := some 39) rfl ?_
         refine wpIn_done hC1 (by kernel_rfl) ?_ _
         go_wp2
         go_roundw
         case rel => exact ⟨m + 1 + 1, by go_num, hkn, HF.out.step (by rw [HA.out, HKE.out]; exact hlk) (fun _ => by rw [HA.out, HKE.out]; show keyAtK ks (L.getD m 0) ≠ _; rw [HB.out, HKB.out]; exact hsame), hC1⟩
         case measure => simp [intOf]; omega
    · rw [hlk] at HLA
      go_wp2
      have hC0 : Below w1.heap.size w1 wr.drew := ⟨hbr.os, hbr.tape, hbr.output, hbr.size, hbr.block⟩
      refine wp_region_in (by kernel_rfl) (fun W => Below w1.heap.size w1 W) ?_
      change wpIn _ _ _ _ _ _ _ _ (World.drew _)
      refine wpIn_tk (i := 0) (d := some 15) rfl ?_
      refine wpIn_tk (i := 1) (d := some 16) rfl ?_
      refine wpIn_tk (i := 2) (d := some 17) rfl ?_
      refine wpIn_tp (i := 3) (d := some 18) rfl (by (intro wq hq; have q0 := hCA wq hq; go_simp; first | done | with_reducible rfl)) ?_
      refine wpIn_do (i := 4) hC0 (by kernel_rfl) rfl (by rfl) ?_
      intro K hK
      go_simp
      go_wp2_with (go_at_call 160; refine (HLA _).mono ?_; rintro x w3 ⟨rfl, hb3⟩)
      have hC1 : Below w1.heap.size w1 w3 := hC0.trans ⟨hb3.os, hb3.tape, hb3.output, hb3.size, fun k hk => hb3.block k (by have := hC0.size; omega)⟩
      clear hC0
      refine wpIn_tk (i := 5) (d := some 20) rfl ?_
      refine wpIn_tk (i := 6) (d := some 21) rfl ?_
      refine wpIn_take (i := 7) (d := (some 22)) (v := undef) (a' := ?aqn7) rfl rfl (by kernel_rfl) (by kernel_rfl) (by kernel_rfl) (fun _ _ _ h => h) (Or.inr ⟨by rfl, rfl⟩) ?fqn7 ?_
      case fqn7 => (go_frame; rfl)
      refine wpIn_take (i := 8) (d := (some 23)) (v := undef) (a' := ?aqn8) rfl rfl (by kernel_rfl) (by kernel_rfl) (by kernel_rfl) (fun _ _ _ h => h) (Or.inr ⟨by rfl, rfl⟩) ?fqn8 ?_
      case fqn8 => (go_frame; rfl)
      refine wpIn_take (i := 9) (d := (some 24)) (v := undef) (a' := ?aqn9) rfl rfl (by kernel_rfl) (by kernel_rfl) (by kernel_rfl) (fun _ _ _ h => h) (Or.inr ⟨by rfl, rfl⟩) ?fqn9 ?_
      case fqn9 => (go_frame; rfl)
      refine wpIn_take (i := 10) (d := (some 25)) (v := undef) (a' := ?aqn10) rfl rfl (by kernel_rfl) (by kernel_rfl) (by kernel_rfl) (fun _ _ _ h => h) (Or.inr ⟨by rfl, rfl⟩) ?fqn10 ?_
      case fqn10 => (go_frame; rfl)
      refine wpIn_take (i := 11) (d := (some 26)) (v := undef) (a' := ?aqn11) rfl rfl (by kernel_rfl) (by kernel_rfl) (by kernel_rfl) (fun _ _ _ h => h) (Or.inr ⟨by rfl, rfl⟩) ?fqn11 ?_
      case fqn11 => (go_frame; rfl)
      refine wpIn_take (i := 12) (d := (some 27)) (v := undef) (a' := ?aqn12) rfl rfl (by kernel_rfl) (by kernel_rfl) (by kernel_rfl) (fun _ _ _ h => h) (Or.inr ⟨by rfl, rfl⟩) ?fqn12 ?_
      case fqn12 => (go_frame; rfl)
      refine wpIn_take (i := 13) (d := (some 28)) (v := undef) (a' := ?aqn13) rfl rfl (by kernel_rfl) (by kernel_rfl) (by kernel_rfl) (fun _ _ _ h => h) (Or.inr ⟨by rfl, rfl⟩) ?fqn13 ?_
      case fqn13 => (go_frame; rfl)
      refine wpIn_take (i := 14) (d := (some 29)) (v := undef) (a' := ?aqn14) rfl rfl (by kernel_rfl) (by kernel_rfl) (by kernel_rfl) (fun _ _ _ h => h) (Or.inr ⟨by rfl, rfl⟩) ?fqn14 ?_
      case fqn14 => (go_frame; rfl)
      refine wpIn_take (i := 15) (d := (some 30)) (v := undef) (a' := ?aqn15) rfl rfl (by kernel_rfl) (by kernel_rfl) (by kernel_rfl) (fun _ _ _ h => h) (Or.inr ⟨by rfl, rfl⟩) ?fqn15 ?_
      case fqn15 => (go_frame; rfl)
      refine wpIn_take (i := 16) (d := (some 31)) (v := undef) (a' := ?aqn16) rfl rfl (by kernel_rfl) (by kernel_rfl) (by kernel_rfl) (fun _ _ _ h => h) (Or.inr ⟨by rfl, rfl⟩) ?fqn16 ?_
      case fqn16 => (go_frame; rfl)
      refine wpIn_take (i := 17) (d := (some 32)) (v := undef) (a' := ?aqn17) rfl rfl (by kernel_rfl) (by kernel_rfl) (by kernel_rfl) (fun _ _ _ h => h) (Or.inr ⟨by rfl, rfl⟩) ?fqn17 ?_
      case fqn17 => (go_frame; rfl)
      refine wpIn_take (i := 18) (d := (some 33)) (v := undef) (a' := ?aqn18) rfl rfl (by kernel_rfl) (by kernel_rfl) (by kernel_rfl) (fun _ _ _ h => h) (Or.inr ⟨by rfl, rfl⟩) ?fqn18 ?_
      case fqn18 => (go_frame; rfl)
      refine wpIn_take (i := 19) (d := (some 34)) (v := undef) (a' := ?aqn19) rfl rfl (by kernel_rfl) (by kernel_rfl) (by kernel_rfl) (fun _ _ _ h => h) (Or.inr ⟨by rfl, rfl⟩) ?fqn19 ?_
      case fqn19 => (go_frame; rfl)
      refine wpIn_take (i := 20) (d := (some 35)) (v := undef) (a' := ?aqn20) rfl rfl (by kernel_rfl) (by kernel_rfl) (by kernel_rfl) (fun _ _ _ h => h) (Or.inr ⟨by rfl, rfl⟩) ?fqn20 ?_
      case fqn20 => (go_frame; rfl)
      refine wpIn_take (i := 21) (d := (some 36)) (v := undef) (a' := ?aqn21) rfl rfl (by kernel_rfl) (by kernel_rfl) (by kernel_rfl) (fun _ _ _ h => h) (Or.inr ⟨by rfl, rfl⟩) ?fqn21 ?_
      case fqn21 => (go_frame; rfl)
      refine wpIn_take (i := 22) (d := (some 37)) (v := undef) (a' := ?aqn22) rfl rfl (by kernel_rfl) (by kernel_rfl) (by kernel_rfl) (fun _ _ _ h => h) (Or.inr ⟨by rfl, rfl⟩) ?fqn22 ?_
      case fqn22 => (go_frame; rfl)
      refine wpIn_take (i := 23) (d := (some 38)) (v := undef) (a' := ?aqn23) rfl rfl (by kernel_rfl) (by kernel_rfl) (by kernel_rfl) (fun _ _ _ h => h) (Or.inr ⟨by rfl, rfl⟩) ?fqn23 ?_
      case fqn23 => (go_frame; rfl)
      refine wpIn_tk (i := 24) (d := some 39) rfl ?_
      refine wpIn_done hC1 (by kernel_rfl) ?_ _
      go_wp2
      go_ret
      exact ⟨ret_bool (goodK_letters hP hkL (by rw [HA.out, HKE.out]; exact hlk)).symm, hb1.trans ⟨hC1.os, hC1.tape, hC1.output, hC1.size, fun k hk => hC1.block k (by omega)⟩⟩
  · obtain rfl : k = n := by omega
    go_wp2
    go_ret
    exact ⟨ret_bool (goodK_true hP (by rw [HLL.out]; exact HF.out)).symm, hb1.trans ⟨hbr.os, hbr.tape, hbr.output, hbr.size, fun k hk => hbr.block k (by omega)⟩⟩
def szJ : Nat → J → Bool
 | 0, _ => true
 | d + 1, .mk _ _ t ks l => decide (t.size ≤ 1000000000) && (decide (ks.length ≤ 100000) && (ks.all (fun k => decide (k.size ≤ 1000000000)) && (decide (l.length ≤ 100000) && l.all (szJ d))))
def Goods (d : Nat) : Prop := ∀ (w : World) (O : Nat → Prop) (j : J) (k i deep : Int) (t : ByteArray) (pk pl : Option Addr) (nk ck nl cl : Nat), (∀ x, O x → x < w.heap.size) → deep = 13 - (d : Int) → szJ d j = true →
 isJ O w j [.int .i64 k, .int .i64 i, .string t, .slice pk nk ck, .slice pl nl cl] →
 Calls Tryz.prog 146 #[.agg #[.int .i64 k, .int .i64 i, .string t, .slice pk nk ck, .slice pl nl cl], .int .i64 deep] w fun x w' => x = .returned (.bool (goodJ d j)) ∧ Below w.heap.size w w'
theorem below_in {a b c : World} (h : Below a.heap.size a b) (g : Below b.heap.size b c) : Below a.heap.size a c := h.trans ⟨g.os, g.tape, g.output, g.size, fun k hk => g.block k (by have := h.size; omega)⟩
theorem all_at {α : Type} {P : α → Bool} {l : List α} {n : Nat} {z : α} (h : l.all P = true) (hn : n < l.length) : P (l.getD n z) = true := by
 rw [List.getD_eq_getElem?_getD, List.getElem?_eq_getElem hn]
 exact List.all_eq_true.1 h _ (List.getElem_mem hn)
theorem all_take {P : J → Bool} {l : List J} {n : Nat} (hn : n < l.length) : (l.take (n + 1)).all P = ((l.take n).all P && P (l.getD n J.zero)) := by
 rw [take_snoc hn, List.all_append]; simp
theorem all_not {P : J → Bool} {l : List J} {n : Nat} (hn : n < l.length) (h : P (l.getD n J.zero) = false) : l.all P = false := by
 cases ha : l.all P with
 | false => rfl
 | true => rw [all_at (z := J.zero) ha hn] at h; cases h
theorem goodAll_any {d : Nat} (V : Goods d) {w : World} {O : Nat → Prop} {l : List J} {pl : Option Addr} {cl : Nat} {deep : Int} (hO : ∀ x, O x → x < w.heap.size) (hdeep : deep = 13 - (d : Int)) (hsz : l.all (szJ d) = true) (hj : isJs O w pl 0 l) (hc : l.length ≤ cl) (hlen : l.length ≤ 100000) :
    Calls Tryz.prog 161 #[.slice pl l.length cl, .int .i64 deep] w fun x w' => x = .returned (.bool (l.all (goodJ d))) ∧ Below w.heap.size w w' := by
 have HD : Hid (deep = 13 - (d : Int)) := hdeep
 clear hdeep
 obtain ⟨n, hn⟩ : ∃ n, l.length = n := ⟨_, rfl⟩
 have HN : Hid (l.length = n) := hn
 rw [hn] at hc hlen ⊢
 clear hn
 go_enter Tryz.func161, Tryz.ntmps161
 go_wp2
 go_loopw [9] (fun i wr => ∃ k : Nat, i = .int .i64 k ∧ k ≤ n ∧ (l.take k).all (goodJ d) = true ∧ Below w.heap.size w wr) (fun i _ => n - (intOf i).toNat)
 case atStart => exact ⟨0, rfl, Nat.zero_le _, rfl, Below.refl _ _⟩
 case round =>
  obtain ⟨k, rfl, hk, hal, hbr⟩ := hrel
  have HAL : Hid ((l.take k).all (goodJ d) = true) := hal
  clear hal
  by_cases hkl : k < n
  · have hkl' : k < l.length := by rw [HN.out]; exact hkl
    have HLL : Hid (k < l.length) := hkl'
    obtain ⟨lb, lo, cs, hpl, hOb, hcells, hyj⟩ := isJs.at l 0 k hj hkl'
    subst hpl
    obtain ⟨kv, iv, tv, pv, nv, cv, qv, mv, dv, rfl⟩ := isJ_shape hyj
    have hblk := hbr.block lb (hO lb hOb)
    have cc : ∀ m v, [Value.int .i64 kv, .int .i64 iv, .string tv, .slice pv nv cv, .slice qv mv dv][m]? = some v → wr.cell? ⟨lb, lo + k * 5 + m, none⟩ = some v := fun m v h => by
     have := hcells m v h
     rw [Nat.zero_add] at this
     exact (World.cell?_of_block (a := ⟨lb, lo + k * 5 + m, none⟩) hblk).trans this
    have y0 : wr.cell? ⟨lb, lo + k * 5, none⟩ = some (.int .i64 kv) := cc 0 _ rfl
    have y1 := cc 1 _ rfl
    have y2 := cc 2 _ rfl
    have y3 := cc 3 _ rfl
    have y4 := cc 4 _ rfl
    clear cc hcells hkl'
    have hkc : (k : Int) < (n : Int) := by omega
    have hbA : Below w.heap.size w (wr.alloc (.cells #[.int .i64 kv, .int .i64 iv, .string tv, .slice pv nv cv, .slice qv mv dv] 36)) := hbr.alloc hbr.size _
    have hV := V (wr.alloc (.cells #[.int .i64 kv, .int .i64 iv, .string tv, .slice pv nv cv, .slice qv mv dv] 36)) O (l.getD k J.zero) kv iv deep tv pv qv nv cv mv dv (fun x hx => Nat.lt_of_lt_of_le (hO x hx) hbA.size) HD.out (all_at hsz HLL.out) (hyj.carry fun x hx => ⟨hx, hbA.block x (hO x hx)⟩)
    cases hgj : goodJ d (l.getD k J.zero) with
    | true =>
     rw [hgj] at hV
     go_wp2_with (go_at_call 146; refine hV.mono ?_; rintro x w4 ⟨rfl, hb4⟩)
     go_roundw
     case rel => exact ⟨k + 1, by go_num, hkl, by rw [all_take HLL.out, HAL.out, hgj]; rfl, hbA.trans ⟨hb4.os, hb4.tape, hb4.output, hb4.size, fun x hx => hb4.block x (by have := hbA.size; omega)⟩⟩
     case measure => simp [intOf]; omega
    | false =>
     rw [hgj] at hV
     go_wp2_with (go_at_call 146; refine hV.mono ?_; rintro x w4 ⟨rfl, hb4⟩)
     go_ret
     exact ⟨ret_bool (all_not HLL.out hgj).symm, hbA.trans ⟨hb4.os, hb4.tape, hb4.output, hb4.size, fun x hx => hb4.block x (by have := hbA.size; omega)⟩⟩
  · obtain rfl : k = n := by omega
    go_wp2
    go_ret
    have := HAL.out
    rw [List.take_of_length_le (by rw [HN.out]; omega)] at this
    exact ⟨ret_bool this.symm, hbr⟩
theorem goods_zero : Goods 0 := by
 intro w O j k i deep t pk pl nk ck nl cl hO hdeep hsz hj
 have h13 : deep = 13 := by omega
 clear hdeep
 subst h13
 have HG : Hid (goodJ 0 j = false) := by show _ = _; unfold goodJ; rfl
 clear hj hsz
 go_enter Tryz.func146, Tryz.ntmps146
 go_wp2
 go_ret
 exact ⟨ret_bool HG.out.symm, (Below.refl _ _).alloc (Nat.le_refl _) _⟩
theorem bare_eq (k i : Int) (t : ByteArray) (ks : List ByteArray) (l : List J) : bare (.mk k i t ks l) = bareB k i t ks.length l.length := by unfold bare bareB; rfl
theorem goods_succ {d : Nat} (V : Goods d) (hd : d + 1 ≤ 12) : Goods (d + 1) := by
 intro w O j k i deep t pk pl nk ck nl cl hO hdeep hsz hj
 have hd0 : 0 ≤ deep := by omega
 have hd1 : deep ≤ 12 := by omega
 have HD : Hid (deep + 1 = 13 - (d : Int)) := by show _ = _; omega
 clear hdeep
 cases j with
 | mk k' i' t' ks l =>
  unfold isJ at hj
  obtain ⟨pk', ck', pl', cl', e, hrk, hlc, hjs⟩ := hj
  cases e
  unfold szJ at hsz
  simp only [Bool.and_eq_true, decide_eq_true_eq] at hsz
  obtain ⟨ht, hkl, hkz, hll, hls⟩ := hsz
  have hkz' : ∀ x ∈ ks, x.size ≤ 1000000000 := fun x hx => of_decide_eq_true (List.all_eq_true.1 hkz x hx)
  have hbA : Below w.heap.size w (w.alloc (.cells #[.int .i64 k, .int .i64 i, .string t, .slice pk ks.length ck, .slice pl l.length cl] 36)) := (Below.refl _ _).alloc (Nat.le_refl _) _
  have bb := bare_any k i t pk pl ks.length ck l.length cl (w.alloc (.cells #[.int .i64 k, .int .i64 i, .string t, .slice pk ks.length ck, .slice pl l.length cl] 36))
  have HB : Hid (goodJ (d + 1) (.mk k i t ks l) = (bareB k i t ks.length l.length &&
   (if k = 0 then true else if k = 1 then decide (i = 0) || decide (i = 1) else if k = 2 then decide (-maxInt ≤ i) && decide (i ≤ maxInt) else if k = 3 then letters t else if k = 4 then l.all (goodJ d)
    else if k = 5 then decide (ks.length = l.length) && (ks.all letters && noKeyTwice ks) && l.all (goodJ d) else false))) := by show _ = _; rw [goodJ, bare_eq]
  have bk : ∀ w2 : World, Below (w.alloc (.cells #[.int .i64 k, .int .i64 i, .string t, .slice pk ks.length ck, .slice pl l.length cl] 36)).heap.size (w.alloc (.cells #[.int .i64 k, .int .i64 i, .string t, .slice pk ks.length ck, .slice pl l.length cl] 36)) w2 →
      w2.heap[w.heap.size]? = some (.cells #[.int .i64 k, .int .i64 i, .string t, .slice pk ks.length ck, .slice pl l.length cl] 36 (0, 0)) ∧ Below w.heap.size w w2 := fun w2 h2 =>
   ⟨by rw [h2.block w.heap.size (by simp)]; exact heap_alloc_new _ _, hbA.trans ⟨h2.os, h2.tape, h2.output, h2.size, fun x hx => h2.block x (by simp; omega)⟩⟩
  clear hkz
  cases hbr : bareB k i t ks.length l.length with
  | false =>
   have HG : Hid (goodJ (d + 1) (.mk k i t ks l) = false) := by show _ = _; rw [HB.out, hbr]; rfl
   rw [hbr] at bb
   go_enter Tryz.func146, Tryz.ntmps146
   go_wp2_with (first
    | (go_at_call 159; refine bb.mono ?_; rintro x w2 ⟨rfl, hb2⟩; obtain ⟨hv, hbw⟩ := bk w2 hb2; clear bk; have c0 := five_c0 hv; have c1 := five_c1 hv; have c2 := five_c2 hv; have c3 := five_c3 hv; have c4 := five_c4 hv))
   go_ret
   exact ⟨ret_bool HG.out.symm, hbw⟩
  | true =>
   rw [hbr] at bb HB
   simp only [Bool.true_and] at HB
   by_cases k0 : k = 0
   · subst k0
     have HG : Hid (goodJ (d + 1) (.mk 0 i t ks l) = true) := by show _ = _; rw [HB.out]; rfl
     go_enter Tryz.func146, Tryz.ntmps146
     go_wp2_with (first
      | (go_at_call 159; refine bb.mono ?_; rintro x w2 ⟨rfl, hb2⟩; obtain ⟨hv, hbw⟩ := bk w2 hb2; clear bk; have c0 := five_c0 hv; have c1 := five_c1 hv; have c2 := five_c2 hv; have c3 := five_c3 hv; have c4 := five_c4 hv))
     go_ret
     exact ⟨ret_bool HG.out.symm, hbw⟩
   rw [if_neg k0] at HB
   by_cases k1 : k = 1
   · subst k1
     rw [if_pos rfl] at HB
     by_cases i0 : i = 0
     · subst i0
       have HG : Hid (goodJ (d + 1) (.mk 1 0 t ks l) = true) := by show _ = _; rw [HB.out]; rfl
       go_enter Tryz.func146, Tryz.ntmps146
       go_wp2_with (first
        | (go_at_call 159; refine bb.mono ?_; rintro x w2 ⟨rfl, hb2⟩; obtain ⟨hv, hbw⟩ := bk w2 hb2; clear bk; have c0 := five_c0 hv; have c1 := five_c1 hv; have c2 := five_c2 hv; have c3 := five_c3 hv; have c4 := five_c4 hv))
       go_ret
       exact ⟨ret_bool HG.out.symm, hbw⟩
     · by_cases i1 : i = 1
       · subst i1
         have HG : Hid (goodJ (d + 1) (.mk 1 1 t ks l) = true) := by show _ = _; rw [HB.out]; rfl
         go_enter Tryz.func146, Tryz.ntmps146
         go_wp2_with (first
          | (go_at_call 159; refine bb.mono ?_; rintro x w2 ⟨rfl, hb2⟩; obtain ⟨hv, hbw⟩ := bk w2 hb2; clear bk; have c0 := five_c0 hv; have c1 := five_c1 hv; have c2 := five_c2 hv; have c3 := five_c3 hv; have c4 := five_c4 hv))
         go_ret
         exact ⟨ret_bool HG.out.symm, hbw⟩
       · skip
         have HG : Hid (goodJ (d + 1) (.mk 1 i t ks l) = false) := by show _ = _; rw [HB.out]; simp [i0, i1]
         go_enter Tryz.func146, Tryz.ntmps146
         go_wp2_with (first
          | (go_at_call 159; refine bb.mono ?_; rintro x w2 ⟨rfl, hb2⟩; obtain ⟨hv, hbw⟩ := bk w2 hb2; clear bk; have c0 := five_c0 hv; have c1 := five_c1 hv; have c2 := five_c2 hv; have c3 := five_c3 hv; have c4 := five_c4 hv))
         go_ret
         refine ⟨ret_bool ?_, hbw⟩
         rw [HG.out]
         first | rfl | simp [i0, i1]
   rw [if_neg k1] at HB
   by_cases k2 : k = 2
   · subst k2
     rw [if_pos rfl] at HB
     unfold maxInt at HB
     by_cases i0 : -9007199254740991 ≤ i
     · skip
       by_cases i1 : i ≤ 9007199254740991
       · skip
         have HG : Hid (goodJ (d + 1) (.mk 2 i t ks l) = true) := by show _ = _; rw [HB.out]; simp [i0, i1]
         go_enter Tryz.func146, Tryz.ntmps146
         go_wp2_with (first
          | (go_at_call 159; refine bb.mono ?_; rintro x w2 ⟨rfl, hb2⟩; obtain ⟨hv, hbw⟩ := bk w2 hb2; clear bk; have c0 := five_c0 hv; have c1 := five_c1 hv; have c2 := five_c2 hv; have c3 := five_c3 hv; have c4 := five_c4 hv))
         go_ret
         refine ⟨ret_bool ?_, hbw⟩
         first | exact HG.out.symm | (rw [HG.out]; simp [i0, i1])
       · skip
         have HG : Hid (goodJ (d + 1) (.mk 2 i t ks l) = false) := by show _ = _; rw [HB.out]; simp [i1]
         go_enter Tryz.func146, Tryz.ntmps146
         go_wp2_with (first
          | (go_at_call 159; refine bb.mono ?_; rintro x w2 ⟨rfl, hb2⟩; obtain ⟨hv, hbw⟩ := bk w2 hb2; clear bk; have c0 := five_c0 hv; have c1 := five_c1 hv; have c2 := five_c2 hv; have c3 := five_c3 hv; have c4 := five_c4 hv))
         go_ret
         refine ⟨ret_bool ?_, hbw⟩
         first | exact HG.out.symm | (rw [HG.out]; simp [i1])
     · skip
       have HG : Hid (goodJ (d + 1) (.mk 2 i t ks l) = false) := by show _ = _; rw [HB.out]; simp [i0]
       go_enter Tryz.func146, Tryz.ntmps146
       go_wp2_with (first
        | (go_at_call 159; refine bb.mono ?_; rintro x w2 ⟨rfl, hb2⟩; obtain ⟨hv, hbw⟩ := bk w2 hb2; clear bk; have c0 := five_c0 hv; have c1 := five_c1 hv; have c2 := five_c2 hv; have c3 := five_c3 hv; have c4 := five_c4 hv))
       go_ret
       refine ⟨ret_bool ?_, hbw⟩
       first | exact HG.out.symm | (rw [HG.out]; simp [i0])
   rw [if_neg k2] at HB
   by_cases k3 : k = 3
   · subst k3
     rw [if_pos rfl] at HB
     go_enter Tryz.func146, Tryz.ntmps146
     go_wp2_with (first
      | (go_at_call 159; refine bb.mono ?_; rintro x w2 ⟨rfl, hb2⟩; obtain ⟨hv, hbw⟩ := bk w2 hb2; clear bk; have c0 := five_c0 hv; have c1 := five_c1 hv; have c2 := five_c2 hv; have c3 := five_c3 hv; have c4 := five_c4 hv)
      | (go_at_call 160; refine (letters_any t w2 ht).mono ?_; rintro x w3 ⟨rfl, hb3⟩))
     go_ret
     exact ⟨ret_bool HB.out.symm, below_in hbw hb3⟩
   rw [if_neg k3] at HB
   by_cases k4 : k = 4
   · subst k4
     rw [if_pos rfl] at HB
     go_enter Tryz.func146, Tryz.ntmps146
     go_wp2_with (first
      | (go_at_call 159; refine bb.mono ?_; rintro x w2 ⟨rfl, hb2⟩; obtain ⟨hv, hbw⟩ := bk w2 hb2; clear bk; have c0 := five_c0 hv; have c1 := five_c1 hv; have c2 := five_c2 hv; have c3 := five_c3 hv; have c4 := five_c4 hv)
      | (go_at_call 161; refine (goodAll_any V (fun x hx => Nat.lt_of_lt_of_le (hO x hx) (hbw).size) HD.out hls (hjs.carry fun x hx => ⟨hx, (hbw).block x (hO x hx)⟩) hlc hll).mono ?_; rintro x w4 ⟨rfl, hb4⟩))
     go_ret
     exact ⟨ret_bool HB.out.symm, below_in hbw hb4⟩
   rw [if_neg k4] at HB
   by_cases k5 : k = 5
   · subst k5
     rw [if_pos rfl] at HB
     by_cases he : ks.length = l.length
     · have heI : ((ks.length : Int) == (l.length : Int)) = true := by simp [he]
       have HE : Hid (ks.length = l.length) := he
       clear he
       cases hgk : goodK ks with
       | true =>
        have HGK : Hid (goodK ks = true) := hgk
        have HG : Hid (goodJ (d + 1) (.mk 5 i t ks l) = l.all (goodJ d)) := by
         show _ = _
         rw [HB.out]
         unfold goodK at hgk
         rw [hgk, decide_eq_true HE.out]
         rfl
        clear hgk
        go_enter Tryz.func146, Tryz.ntmps146
        go_wp2_with (first
         | (go_at_call 159; refine bb.mono ?_; rintro x w2 ⟨rfl, hb2⟩; obtain ⟨hv, hbw⟩ := bk w2 hb2; clear bk; have c0 := five_c0 hv; have c1 := five_c1 hv; have c2 := five_c2 hv; have c3 := five_c3 hv; have c4 := five_c4 hv)
         | (go_at_call 162; refine (goodKeys_any (hrk.carry fun x hx => ⟨hx, hbw.block x (hO x hx)⟩) (fun x hx => Nat.lt_of_lt_of_le (hO x hx) hbw.size) hkl hkz').mono ?_; rw [HGK.out]; rintro x w3 ⟨rfl, hb3⟩; have hv3 := (hb3.block w.heap.size (Array.getElem?_eq_some_iff.1 hv).1).trans hv; have hbw3 := below_in hbw hb3; have c03 := five_c0 hv3; have c13 := five_c1 hv3; have c23 := five_c2 hv3; have c33 := five_c3 hv3; have c43 := five_c4 hv3)
         | (go_at_call 161; refine (goodAll_any V (fun x hx => Nat.lt_of_lt_of_le (hO x hx) (hbw3).size) HD.out hls (hjs.carry fun x hx => ⟨hx, (hbw3).block x (hO x hx)⟩) hlc hll).mono ?_; rintro x w4 ⟨rfl, hb4⟩))
        go_ret
        exact ⟨ret_bool HG.out.symm, below_in hbw3 hb4⟩
       | false =>
        have HGK : Hid (goodK ks = false) := hgk
        have HG : Hid (goodJ (d + 1) (.mk 5 i t ks l) = false) := by
         show _ = _
         rw [HB.out]
         unfold goodK at hgk
         rw [hgk, decide_eq_true HE.out]
         rfl
        clear hgk
        go_enter Tryz.func146, Tryz.ntmps146
        go_wp2_with (first
         | (go_at_call 159; refine bb.mono ?_; rintro x w2 ⟨rfl, hb2⟩; obtain ⟨hv, hbw⟩ := bk w2 hb2; clear bk; have c0 := five_c0 hv; have c1 := five_c1 hv; have c2 := five_c2 hv; have c3 := five_c3 hv; have c4 := five_c4 hv)
         | (go_at_call 162; refine (goodKeys_any (hrk.carry fun x hx => ⟨hx, hbw.block x (hO x hx)⟩) (fun x hx => Nat.lt_of_lt_of_le (hO x hx) hbw.size) hkl hkz').mono ?_; rw [HGK.out]; rintro x w3 ⟨rfl, hb3⟩; have hv3 := (hb3.block w.heap.size (Array.getElem?_eq_some_iff.1 hv).1).trans hv; have hbw3 := below_in hbw hb3; have c03 := five_c0 hv3; have c13 := five_c1 hv3; have c23 := five_c2 hv3; have c33 := five_c3 hv3; have c43 := five_c4 hv3))
        go_ret
        exact ⟨ret_bool HG.out.symm, hbw3⟩
     · have heI : ((ks.length : Int) == (l.length : Int)) = false := by simp; omega
       have HG : Hid (goodJ (d + 1) (.mk 5 i t ks l) = false) := by
        show _ = _
        rw [HB.out, decide_eq_false he]
        rfl
       clear he
       go_enter Tryz.func146, Tryz.ntmps146
       go_wp2_with (first
        | (go_at_call 159; refine bb.mono ?_; rintro x w2 ⟨rfl, hb2⟩; obtain ⟨hv, hbw⟩ := bk w2 hb2; clear bk; have c0 := five_c0 hv; have c1 := five_c1 hv; have c2 := five_c2 hv; have c3 := five_c3 hv; have c4 := five_c4 hv))
       go_ret
       exact ⟨ret_bool HG.out.symm, hbw⟩
   · rw [if_neg k5] at HB
     go_enter Tryz.func146, Tryz.ntmps146
     go_wp2_with (first
      | (go_at_call 159; refine bb.mono ?_; rintro x w2 ⟨rfl, hb2⟩; obtain ⟨hv, hbw⟩ := bk w2 hb2; clear bk; have c0 := five_c0 hv; have c1 := five_c1 hv; have c2 := five_c2 hv; have c3 := five_c3 hv; have c4 := five_c4 hv))
     go_ret
     exact ⟨ret_bool HB.out.symm, hbw⟩
theorem goods : ∀ d, d ≤ 12 → Goods d
 | 0, _ => goods_zero
 | d + 1, h => goods_succ (goods d (by omega)) h
def Elo (O : Nat → Prop) (B : Nat) (v : Value) (w : World) : Nat → Prop := fun k => O k ∨ (B ≤ k ∧ k < w.heap.size ∧ v.ownBlock ≠ some k)
structure AI (O : Nat → Prop) (B b : Nat) (WA : World) (cs5 : Array Value) (acc : List J) (vl : Value) (wr : World) : Prop where
 box : wr.heap[b]? = some (.cells cs5 36 (0, 0))
 res : wr.heap[b + 1]? = some (.cells #[.int .i64 0, .int .i64 0, .string ⟨#[]⟩, .slice none 0 0, .slice none 0 0] 36 (0, 0))
 vals : ∃ xs, wr.ownsRow B 36 5 vl acc.length xs ∧ isRow (Elo O B vl wr) wr acc xs
 below : Below B WA wr
 szA : WA.heap.size = B
 lt : b + 1 < B
 low : ∀ k, O k → k < b
section
variable {O : Nat → Prop} {B b : Nat} {WA W W4 W5 : World} {cs5 : Array Value} {acc : List J} {vl vl' : Value} {o1 o2 : Obj} {y : J} {cs xs : List Value}
theorem AI.size (h : AI O B b WA cs5 acc vl W) : B ≤ W.heap.size := by have := h.below.size; have := h.szA; omega
theorem AI.more (h : AI O B b WA cs5 acc vl W) (hb : Below W.heap.size W W4) : AI O B b WA cs5 acc vl W4 := by
 have hs := h.size
 have hlt := h.lt
 have hss := hb.size
 obtain ⟨xs, h1, h2⟩ := h.vals
 have kp : Keep (fun _ => False) W W4 := Keep.of_below hb
 refine ⟨(hb.block b (by omega)).trans h.box, (hb.block (b + 1) (by omega)).trans h.res, ⟨xs, own_keep h1 kp fun _ _ h => h, h2.carry fun k hk => ?_⟩, h.below.trans ⟨hb.os, hb.tape, hb.output, hb.size, fun k hk => hb.block k (by omega)⟩, h.szA, hlt, h.low⟩
 rcases hk with hk | hk
 · have := h.low k hk
   exact ⟨.inl hk, hb.block k (by omega)⟩
 · exact ⟨.inr ⟨hk.1, by have := hk.2.1; omega, hk.2.2⟩, hb.block k hk.2.1⟩
theorem AI.alloc (h : AI O B b WA cs5 acc vl W) (o : Obj) : AI O B b WA cs5 acc vl (W.alloc o) := h.more ((Below.refl _ _).alloc (Nat.le_refl _) o)
theorem AI.push (h : AI O B b WA cs5 acc vl W) (h1 : W.ownsRow B 36 5 vl acc.length xs) (h2 : isRow (Elo O B vl W) W acc xs) (hy : isJ (Elo O B vl W) W y cs)
    (hown : W5.ownsRow B 36 5 vl' (acc.length + 1) (xs ++ cs)) (hg : W.grownBy W5 vl.ownBlock) (hat : vl'.ownBlock = vl.ownBlock ∨ vl'.ownBlock = some W.heap.size) : AI O B b WA cs5 (acc ++ [y]) vl' W5 := by
 have hs := h.size
 have hlt := h.lt
 have hss := hg.size
 have hgv := own_ge h1
 have low : ∀ k, k < B → W5.heap[k]? = W.heap[k]? := fun k hk => hg.block k (by omega) fun e => by have := (hgv k e.symm).1; omega
 have carry : ∀ k, Elo O B vl W k → Elo O B vl' W5 k ∧ W5.heap[k]? = W.heap[k]? := by
  intro k hk
  rcases hk with hk | hk
  · have := h.low k hk
    exact ⟨.inl hk, low k (by omega)⟩
  · refine ⟨.inr ⟨hk.1, by have := hk.2.1; omega, fun e => ?_⟩, hg.block k hk.2.1 fun e => hk.2.2 e.symm⟩
    rcases hat with h' | h'
    · exact hk.2.2 (h' ▸ e)
    · rw [h'] at e
      have := Option.some.inj e
      have := hk.2.1
      omega
 exact ⟨(low b (by omega)).trans h.box, (low (b + 1) (by omega)).trans h.res, ⟨xs ++ cs, by rw [List.length_append]; exact hown, isRow.snoc hy.five (hy.carry carry) acc xs (h2.carry carry)⟩, h.below.trans ⟨hg.os, hg.tape, hg.output, hg.size, low⟩, h.szA, hlt, h.low⟩
theorem AI.new (h : AI O B b WA cs5 acc vl W) (hb : Below W.heap.size W W4) (hy : isJ (fun k => O k ∨ New W W4 k) W4 y cs) (o : Obj) : isJ (Elo O B vl (W4.alloc o)) (W4.alloc o) y cs := by
 have hs := h.size
 have hss := hb.size
 obtain ⟨xs, h1, _⟩ := h.vals
 refine hy.carry fun k hk => ?_
 rcases hk with hk | hk
 · have := h.low k hk
   have := h.lt
   exact ⟨.inl hk, Below.heap_alloc _ _ _ (by omega)⟩
 · have e1 := hk.1
   have e2 := hk.2
   exact ⟨.inr ⟨by omega, by simp; omega, fun e => by have := (own_ge h1 k e).2; omega⟩, Below.heap_alloc _ _ _ e2⟩
end
theorem ordL_length : ∀ l : List J, (ordL l).length = l.length
 | [] => by simp [ordL]
 | j :: r => by simp [ordL, ordL_length r]
theorem ordL_snoc (j : J) : ∀ l : List J, ordL (l ++ [j]) = ordL l ++ [ord j]
 | [] => by simp [ordL]
 | i :: r => by simp [ordL, ordL_snoc j r]
def Arrs (d : Nat) : Prop := ∀ (w : World) (O : Nat → Prop) (j : J) (k i : Int) (t : ByteArray) (pk pl : Option Addr) (nk ck nl cl : Nat), (∀ x, O x → x < w.heap.size) → goodJ d j = true → szJ d j = true →
 isJ O w j [.int .i64 k, .int .i64 i, .string t, .slice pk nk ck, .slice pl nl cl] →
 Calls Tryz.prog 121 #[.agg #[.int .i64 k, .int .i64 i, .string t, .slice pk nk ck, .slice pl nl cl]] w fun x w' => ∃ k i t pk nk ck pl nl cl, x = .returned (.agg #[.int .i64 k, .int .i64 i, .string t, .slice pk nk ck, .slice pl nl cl]) ∧
  isJ (fun x => O x ∨ New w w' x) w' (ord j) [.int .i64 k, .int .i64 i, .string t, .slice pk nk ck, .slice pl nl cl] ∧ Below w.heap.size w w'
theorem arrs_zero : Arrs 0 := by
 intro w O j k i t pk pl nk ck nl cl hO hg
 unfold goodJ at hg
 cases hg
theorem good_sub {d : Nat} {k i : Int} {t : ByteArray} {ks : List ByteArray} {l : List J} (h : goodJ (d + 1) (.mk k i t ks l) = true) : l.all (goodJ d) = true ∧ (k = 5 → ks.length = l.length ∧ ks.Pairwise (· ≠ ·)) ∧ (k ≠ 5 → ks = []) := by
 rw [goodJ, Bool.and_eq_true] at h
 obtain ⟨hb, h⟩ := h
 unfold bare at hb
 simp only [Bool.and_eq_true, Bool.or_eq_true, decide_eq_true_eq] at hb
 obtain ⟨⟨⟨_, _⟩, hk⟩, hl⟩ := hb
 refine ⟨?_, fun e => ?_, fun e => ?_⟩
 · by_cases k4 : k = 4
   · subst k4; simpa using h
   · by_cases k5 : k = 5
     · subst k5
       simp at h
       rw [List.all_eq_true]
       exact h.2
     · have : l = [] := List.eq_nil_of_length_eq_zero (by omega)
       subst this; rfl
 · subst e
   rw [if_neg (by decide), if_neg (by decide), if_neg (by decide), if_neg (by decide), if_neg (by decide), if_pos rfl] at h
   simp only [Bool.and_eq_true, decide_eq_true_eq] at h
   exact ⟨h.1.1, noTwice_pair h.1.2.2⟩
 · exact List.eq_nil_of_length_eq_zero (by omega)
theorem ai_start {O : Nat → Prop} {w : World} (hO : ∀ x, O x → x < w.heap.size) (cs5 : Array Value) : AI O (w.heap.size + 2) w.heap.size ((w.alloc (.cells cs5 36)).alloc zJ) cs5 [] (.slice none 0 0) ((w.alloc (.cells cs5 36)).alloc zJ) := by
 refine ⟨?_, ?_, ⟨[], World.ownsRow_nil _ _ _ _, rfl⟩, Below.refl _ _, by simp, by omega, hO⟩
 · rw [Below.heap_alloc _ _ _ (by simp)]; exact heap_alloc_new _ _
 · have := heap_alloc_new (w.alloc (.cells cs5 36)) zJ
   rw [show (w.alloc (.cells cs5 36)).heap.size = w.heap.size + 1 by simp] at this
   exact this
theorem ai_below {O : Nat → Prop} {w wr : World} {cs5 : Array Value} {acc : List J} {vl : Value} (h : AI O (w.heap.size + 2) w.heap.size ((w.alloc (.cells cs5 36)).alloc zJ) cs5 acc vl wr) : Below w.heap.size w wr := by
 have h1 : Below w.heap.size w ((w.alloc (.cells cs5 36)).alloc zJ) := ((Below.refl _ _).alloc (Nat.le_refl _) _).alloc (by simp) _
 have h2 := h.below
 exact h1.trans ⟨h2.os, h2.tape, h2.output, h2.size, fun k hk => h2.block k (by omega)⟩
theorem arr_below {w wr W5 : World} (h : Below w.heap.size w wr) (HK5 : Keep (One (w.heap.size + 1)) wr W5) : Below w.heap.size w W5 :=
 h.trans (HK5.below h.size fun k hk => by unfold One; omega)
theorem arr_fin {w wr W5 : World} {O : Nat → Prop} {j : J} {cs : List Value} (HK5 : Keep (One (w.heap.size + 1)) wr W5) (hj : isJ (fun x => O x ∨ (w.heap.size + 2 ≤ x ∧ x < wr.heap.size)) wr j cs) (hO : ∀ x, O x → x < w.heap.size) (hs : w.heap.size + 2 ≤ wr.heap.size) : isJ (fun x => O x ∨ New w W5 x) W5 j cs := by
 have hss := HK5.size
 refine hj.carry fun k hk => ?_
 rcases hk with hk | hk
 · have := hO k hk
   exact ⟨.inl hk, HK5.block k (by omega) (by unfold One; omega)⟩
 · exact ⟨.inr ⟨by have := hk.1; omega, by have := hk.2; omega⟩, HK5.block k hk.2 (by unfold One; have := hk.1; omega)⟩
theorem arrs_succ {d : Nat} (V : Arrs d) : Arrs (d + 1) := by
 intro w O j k i t pk pl nk ck nl cl hO hg hsz hj
 cases j with
 | mk k' i' t' ks l =>
  unfold isJ at hj
  obtain ⟨pk', ck', pl', cl', e, hrk, hlc, hjs⟩ := hj
  cases e
  unfold szJ at hsz
  simp only [Bool.and_eq_true, decide_eq_true_eq] at hsz
  obtain ⟨ht, hkl, hkz, hll, hls⟩ := hsz
  obtain ⟨hgl, hg5, hgn⟩ := good_sub hg
  have HG5 : Hid (k = 5 → ks.length = l.length ∧ ks.Pairwise (· ≠ ·)) := hg5
  have HGN : Hid (k ≠ 5 → ks = []) := hgn
  clear hg5 hgn hg hkz
  obtain ⟨n, hn⟩ : ∃ n, l.length = n := ⟨_, rfl⟩
  have HN : Hid (l.length = n) := hn
  obtain ⟨m, hm⟩ : ∃ m, ks.length = m := ⟨_, rfl⟩
  have HM : Hid (ks.length = m) := hm
  rw [hn, hm]
  rw [hn] at hll hlc
  rw [hm] at hkl
  have hai0 := ai_start hO #[.int .i64 k, .int .i64 i, .string t, .slice pk m ck, .slice pl n cl]
  clear hn hm
  go_enter Tryz.func121, Tryz.ntmps121
  go_wp2
  go_loopw [3, 9] (fun vl iv wr => ∃ q : Nat, iv = .int .i64 q ∧ q ≤ n ∧ AI O (w.heap.size + 2) w.heap.size ((w.alloc (.cells #[.int .i64 k, .int .i64 i, .string t, .slice pk m ck, .slice pl n cl] 36)).alloc zJ) #[.int .i64 k, .int .i64 i, .string t, .slice pk m ck, .slice pl n cl] (ordL (l.take q)) vl wr) (fun _ iv _ => n - (intOf iv).toNat)
  case atStart => exact ⟨0, rfl, Nat.zero_le _, by rw [List.take_zero]; exact hai0⟩
  case round =>
   clear hai0
   obtain ⟨q, rfl, hq, hai⟩ := hrel
   obtain ⟨xs0, hE0, _⟩ := hai.vals
   obtain ⟨sl1, sl2, sl3, rfl⟩ := own_slice hE0
   clear hE0
   have c0 := five_c0 hai.box; have c1 := five_c1 hai.box; have c2 := five_c2 hai.box; have c3 := five_c3 hai.box; have c4 := five_c4 hai.box
   have hbw := ai_below hai
   by_cases hql : q < n
   · have hql' : q < l.length := by rw [HN.out]; exact hql
     have HQL : Hid (q < l.length) := hql'
     obtain ⟨lb, lo, cs, hpl, hOb, hcells, hyj⟩ := isJs.at l 0 q hjs hql'
     subst hpl
     obtain ⟨kv, iv, tv, pv, nv, cv, qv, mv, dv, rfl⟩ := isJ_shape hyj
     have hblk := hbw.block lb (hO lb hOb)
     have cc : ∀ m v, [Value.int .i64 kv, .int .i64 iv, .string tv, .slice pv nv cv, .slice qv mv dv][m]? = some v → wr.cell? ⟨lb, lo + q * 5 + m, none⟩ = some v := fun m v h => by
      have := hcells m v h
      rw [Nat.zero_add] at this
      exact (World.cell?_of_block (a := ⟨lb, lo + q * 5 + m, none⟩) hblk).trans this
     have y0 : wr.cell? ⟨lb, lo + q * 5, none⟩ = some (.int .i64 kv) := cc 0 _ rfl
     have y1 := cc 1 _ rfl
     have y2 := cc 2 _ rfl
     have y3 := cc 3 _ rfl
     have y4 := cc 4 _ rfl
     clear cc hcells hql'
     have hqc : (q : Int) < (n : Int) := by omega
     have hai1 := hai.alloc (.cells #[.int .i64 kv, .int .i64 iv, .string tv, .slice pv nv cv, .slice qv mv dv] 36)
     have hb1 := ai_below hai1
     have hV := V (wr.alloc (.cells #[.int .i64 kv, .int .i64 iv, .string tv, .slice pv nv cv, .slice qv mv dv] 36)) O (l.getD q J.zero) kv iv tv pv qv nv cv mv dv (fun x hx => Nat.lt_of_lt_of_le (hO x hx) hb1.size) (all_at hgl HQL.out) (all_at hls HQL.out) (hyj.carry fun x hx => ⟨hx, hb1.block x (hO x hx)⟩)
     go_wp2_with (first
      | (go_at_call 121; refine hV.mono ?_; rintro x w4 ⟨kr, ir, tr, pr, nr, cr, qr, mr, dr, rfl, hjr, hb4⟩
         have hy := hai1.new hb4 hjr (.cells #[.int .i64 kr, .int .i64 ir, .string tr, .slice pr nr cr, .slice qr mr dr] 36)
         have hai4 := (hai1.more hb4).alloc (.cells #[.int .i64 kr, .int .i64 ir, .string tr, .slice pr nr cr, .slice qr mr dr] 36)
         obtain ⟨xs, hv1, hv2⟩ := hai4.vals)
      | (at_builtin; refine wpList_app rfl _ _ 34 rfl (w.heap.size + 2) 36 (.agg #[.int .i64 0, .int .i64 0, .string ⟨#[]⟩, .slice none 0 0, .slice none 0 0]) 5 80 Tryz.underlying34 Tryz.info36 rfl (by decide) (by decide) (.slice sl1 sl2 sl3) (ordL (l.take q)).length xs rfl hv1 _ [.int .i64 kr, .int .i64 ir, .string tr, .slice pr nr cr, .slice qr mr dr] rfl rfl (cells_at5 rfl) one5 (by rw [ordL_length, List.length_take]; omega) hai4.size ?_
         intro vl2 W5 hown5 hg5 hat5
         obtain ⟨q5, n5, c5, hE5⟩ := own_slice hown5
         subst hE5
         have hai5 := hai4.push hv1 hv2 hy hown5 hg5 hat5
         clear hown5 hg5 hat5))
     go_roundw
     case rel => exact ⟨q + 1, by go_num, hql, by rw [take_snoc HQL.out, ordL_snoc]; exact hai5⟩
     case measure => simp [intOf]; omega
   · obtain rfl : q = n := by omega
     have hlt : l.take q = l := List.take_of_length_le (by rw [HN.out]; omega)
     rw [hlt] at hai
     clear hlt
     obtain ⟨xs, hv1, hv2⟩ := hai.vals
     obtain ⟨q2, c2', hvl, hc2, hrj⟩ := own_js hv1 hv2
     have hrj' : isJs (fun x => O x ∨ (w.heap.size + 2 ≤ x ∧ x < wr.heap.size)) wr q2 0 (ordL l) := hrj.carry fun x hx => ⟨by
      rcases hx with (hx | hx) | hx
      · exact .inl hx
      · exact .inr ⟨hx.1, hx.2.1⟩
      · exact .inr hx, rfl⟩
     have HRJ : Hid (isJs (fun x => O x ∨ (w.heap.size + 2 ≤ x ∧ x < wr.heap.size)) wr q2 0 (ordL l)) := hrj'
     have HC2 : Hid ((ordL l).length ≤ c2') := hc2
     have HOL : Hid ((ordL l).length = q) := (ordL_length l).trans HN.out
     rw [HOL.out] at hvl
     cases hvl
     have hrkR : RdK (fun x => O x ∨ (w.heap.size + 2 ≤ x ∧ x < wr.heap.size)) wr pk ck ks := hrk.carry fun x hx => ⟨.inl hx, hbw.block x (hO x hx)⟩
     have HRK : Hid (RdK (fun x => O x ∨ (w.heap.size + 2 ≤ x ∧ x < wr.heap.size)) wr pk ck ks) := hrkR
     have hOw : ∀ x, (O x ∨ (w.heap.size + 2 ≤ x ∧ x < wr.heap.size)) → x < wr.heap.size := fun x hx => by
      rcases hx with hx | hx
      · have := hO x hx; have := hbw.size; omega
      · exact hx.2
     have i0 := five_c0 hai.res; have i1 := five_c1 hai.res; have i2 := five_c2 hai.res; have i3 := five_c3 hai.res; have i4 := five_c4 hai.res
     have z0 := five_fz hai.res 0; have z1 := five_fz hai.res 1; have z2 := five_fz hai.res 2; have z3 := five_fz hai.res 3; have z4 := five_fz hai.res 4
     have hsR := hai.size
     clear hrj hrj' hrkR hc2 hv1 hv2 hrk hjs
     by_cases k5 : k = 5
     · subst k5
       obtain ⟨hkn, hdist⟩ := HG5.out rfl
       have hmo := mapOf_any (cl := sl3) HRK.out HRJ.out (by rw [HOL.out, ← HN.out]; exact hkn) hOw (by rw [HM.out]; exact hkl) hdist
       rw [HM.out, HOL.out] at hmo
       clear hkn hdist
       go_wp2_with (first
       | (go_at_call 147; refine hmo.mono ?_; rintro x w8 ⟨csr, rfl, hjr, hb8⟩
          obtain ⟨kr, ir, tr, pr, nr, cr, qr, mr, dr, hcs⟩ := isJ_shape hjr
          obtain rfl : csr = #[.int .i64 kr, .int .i64 ir, .string tr, .slice pr nr cr, .slice qr mr dr] := by rw [← Array.toList_inj]; exact hcs
          have hres8 := (hb8.block _ (Array.getElem?_eq_some_iff.1 hai.res).1).trans hai.res
          have j0 := five_c0 hres8; have j1 := five_c1 hres8; have j2 := five_c2 hres8; have j3 := five_c3 hres8; have j4 := five_c4 hres8
          have x0 := five_fz hres8 0; have x1 := five_fz hres8 1; have x2 := five_fz hres8 2; have x3 := five_fz hres8 3; have x4 := five_fz hres8 4))
       have h5 := set5_heap hres8 (.int .i64 kr) (.int .i64 ir) (.string tr) (.slice pr nr cr) (.slice qr mr dr)
       have HK5 : Keep (One (w.heap.size + 1)) w8 _ := set5_keep w8 (w.heap.size + 1) (.int .i64 kr) (.int .i64 ir) (.string tr) (.slice pr nr cr) (.slice qr mr dr)
       unfold set5 at h5 HK5
       have k0 := five_c0 h5; have k1 := five_c1 h5; have k2 := five_c2 h5; have k3 := five_c3 h5; have k4 := five_c4 h5
       refine bodyPost_ret (v := .agg #[.int .i64 kr, .int .i64 ir, .string tr, .slice pr nr cr, .slice qr mr dr]) (by simp [results, Tryz.results121, go_sem, k0, k1, k2, k3, k4]) rfl ?_
       have hbE := arr_below (below_in hbw hb8) HK5
       refine ⟨_, _, _, _, _, _, _, _, _, rfl, ?_, hbE⟩
       have e : ord (.mk 5 i t ks l) = mapOf ks (ordL l) := by rw [ord, if_pos rfl]
       rw [e]
       exact arr_fin HK5 (hjr.carry fun x hx => ⟨by
        rcases hx with (hx | hx) | hx
        · exact .inl hx
        · exact .inr ⟨hx.1, by have := hb8.size; have := hx.2; omega⟩
        · exact .inr ⟨by have := hx.1; omega, hx.2⟩, rfl⟩) (fun x hx => hO x hx) (by have := hb8.size; omega)
     · have HE : Hid (ord (.mk k i t ks l) = .mk k i t [] (ordL l)) := by show _ = _; rw [ord, if_neg k5]
       go_wp2
       have h5 := set5_heap hai.res (.int .i64 k) (.int .i64 i) (.string t) (.slice none 0 0) (.slice sl1 q sl3)
       have HK5 : Keep (One (w.heap.size + 1)) wr _ := set5_keep wr (w.heap.size + 1) (.int .i64 k) (.int .i64 i) (.string t) (.slice none 0 0) (.slice sl1 q sl3)
       unfold set5 at h5 HK5
       have k0 := five_c0 h5; have k1 := five_c1 h5; have k2 := five_c2 h5; have k3 := five_c3 h5; have k4 := five_c4 h5
       refine bodyPost_ret (v := .agg #[.int .i64 k, .int .i64 i, .string t, .slice none 0 0, .slice sl1 q sl3]) (by simp [results, Tryz.results121, go_sem, k0, k1, k2, k3, k4]) rfl ?_
       have hbE := arr_below hbw HK5
       refine ⟨_, _, _, _, _, _, _, _, _, rfl, ?_, hbE⟩
       rw [HE.out]
       refine arr_fin HK5 (cs := _) ?_ (fun x hx => hO x hx) hsR
       unfold isJ
       exact ⟨none, 0, sl1, sl3, by rw [HOL.out]; rfl, RdK.nil _ _, HC2.out, HRJ.out⟩
theorem arrs : ∀ d, Arrs d
 | 0 => arrs_zero
 | d + 1 => arrs_succ (arrs d)
theorem box_stays {w w2 : World} {cs : Array Value} {t : TypeId} (h : Below (w.alloc (.cells cs t)).heap.size (w.alloc (.cells cs t)) w2) : w2.heap[w.heap.size]? = some (.cells cs t (0, 0)) ∧ Below w.heap.size w w2 :=
 ⟨by rw [h.block w.heap.size (by simp)]; exact heap_alloc_new _ _, below_in ((Below.refl _ _).alloc (Nat.le_refl _) _) h⟩
theorem good_any {w : World} {O : Nat → Prop} {j : J} {k i : Int} {t : ByteArray} {pk pl : Option Addr} {nk ck nl cl : Nat} (hO : ∀ x, O x → x < w.heap.size) (hsz : szJ 12 j = true)
    (hj : isJ O w j [.int .i64 k, .int .i64 i, .string t, .slice pk nk ck, .slice pl nl cl]) :
    Calls Tryz.prog 120 #[.agg #[.int .i64 k, .int .i64 i, .string t, .slice pk nk ck, .slice pl nl cl]] w fun x w' => x = .returned (.bool (goodJ 12 j)) ∧ Below w.heap.size w w' := by
 have hG := goods 12 (Nat.le_refl _) (w.alloc (.cells #[.int .i64 k, .int .i64 i, .string t, .slice pk nk ck, .slice pl nl cl] 36)) O j k i 1 t pk pl nk ck nl cl (fun x hx => by have := hO x hx; simp; omega) rfl hsz
  (hj.carry fun x hx => ⟨hx, Below.heap_alloc _ _ _ (hO x hx)⟩)
 go_enter Tryz.func120, Tryz.ntmps120
 go_wp2_with (go_at_call 146; refine hG.mono ?_; rintro x w2 ⟨rfl, hb2⟩)
 go_ret
 exact ⟨rfl, (box_stays hb2).2⟩
theorem mem_ordL {x : J} : ∀ {l : List J}, x ∈ ordL l → ∃ y ∈ l, x = ord y
 | [], h => by simp [ordL] at h
 | j :: r, h => by
  rw [ordL] at h
  rcases List.mem_cons.1 h with rfl | h
  · exact ⟨j, List.mem_cons_self .., rfl⟩
  · obtain ⟨y, hy, e⟩ := mem_ordL h
    exact ⟨y, List.mem_cons_of_mem _ hy, e⟩
section
variable {ks : List ByteArray} {l : List J}
theorem sorted_keys (hl : ks.length = l.length) : ((sortK (ks.zip l)).map (·.1)).Perm ks := by
 have := (sortK_perm (ks.zip l)).map (·.1)
 rw [List.map_fst_zip (by omega)] at this
 exact this
theorem sorted_vals (hl : ks.length = l.length) : ((sortK (ks.zip l)).map (·.2)).Perm l := by
 have := (sortK_perm (ks.zip l)).map (·.2)
 rw [List.map_snd_zip (by omega)] at this
 exact this
end
theorem good_ord : ∀ (d : Nat) (j : J), goodJ d j = true → goodJ d (ord j) = true
 | 0, j, h => by unfold goodJ at h; cases h
 | d + 1, .mk k i t ks l, h => by
  obtain ⟨hgl, hg5, hgn⟩ := good_sub h
  have hall : ∀ x ∈ ordL l, goodJ d x = true := fun x hx => by
   obtain ⟨y, hy, rfl⟩ := mem_ordL hx
   exact good_ord d y (List.all_eq_true.1 hgl y hy)
  rw [ord]
  by_cases k5 : k = 5
  · subst k5
    rw [if_pos rfl]
    obtain ⟨hlen, hp⟩ := hg5 rfl
    have hlen' : ks.length = (ordL l).length := by rw [ordL_length]; exact hlen
    have pk := sorted_keys hlen'
    have pv := sorted_vals hlen'
    have hlet : ks.all letters = true := by
     rw [goodJ, Bool.and_eq_true] at h
     have h2 := h.2
     rw [if_neg (by decide), if_neg (by decide), if_neg (by decide), if_neg (by decide), if_neg (by decide), if_pos rfl] at h2
     simp only [Bool.and_eq_true] at h2
     exact h2.1.2.1
    unfold mapOf
    rw [goodJ]
    have e1 : ((sortK (ks.zip (ordL l))).map (·.1)).all letters = true := by
     rw [List.all_eq_true] at hlet ⊢
     exact fun x hx => hlet x (pk.mem_iff.1 hx)
    have e2 : noKeyTwice ((sortK (ks.zip (ordL l))).map (·.1)) = true := pair_noTwice (pk.symm.pairwise hp fun {_ _} h => h.symm)
    have e3 : ((sortK (ks.zip (ordL l))).map (·.2)).all (goodJ d) = true := by
     rw [List.all_eq_true]
     exact fun x hx => hall x (pv.mem_iff.1 hx)
    rw [e1, e2, e3]
    simp [bare, nix, ByteArray.size]
  · rw [if_neg k5]
    have hks := hgn k5
    subst hks
    rw [goodJ, Bool.and_eq_true] at h ⊢
    have hal : (ordL l).all (goodJ d) = true := List.all_eq_true.2 hall
    refine ⟨by have := h.1; rw [bare_eq] at this ⊢; rw [ordL_length]; exact this, ?_⟩
    have h2 := h.2
    rw [hal]
    rw [hgl] at h2
    rw [if_neg k5] at h2 ⊢
    exact h2
theorem inOrdL_all : ∀ l : List J, inOrdL l = true ↔ ∀ x ∈ l, inOrd x = true
 | [] => by simp [inOrdL]
 | j :: r => by
  rw [inOrdL, Bool.and_eq_true, inOrdL_all r]
  simp
theorem inOrd_ord : ∀ (d : Nat) (j : J), goodJ d j = true → inOrd (ord j) = true
 | 0, j, h => by unfold goodJ at h; cases h
 | d + 1, .mk k i t ks l, h => by
  obtain ⟨hgl, hg5, hgn⟩ := good_sub h
  have hall : ∀ x ∈ ordL l, inOrd x = true := fun x hx => by
   obtain ⟨y, hy, rfl⟩ := mem_ordL hx
   exact inOrd_ord d y (List.all_eq_true.1 hgl y hy)
  rw [ord]
  by_cases k5 : k = 5
  · subst k5
    rw [if_pos rfl]
    obtain ⟨hlen, hp⟩ := hg5 rfl
    have hlen' : ks.length = (ordL l).length := by rw [ordL_length]; exact hlen
    have pv := sorted_vals hlen'
    unfold mapOf
    rw [inOrd, Bool.and_eq_true, inOrdL_all]
    refine ⟨sortK_rises' _ ?_, fun x hx => hall x (pv.mem_iff.1 hx)⟩
    have : ((ks.zip (ordL l)).map (·.1)).Pairwise (· ≠ ·) := by rw [List.map_fst_zip (by omega)]; exact hp
    exact List.pairwise_map.1 this
  · rw [if_neg k5]
    rw [inOrd, Bool.and_eq_true, inOrdL_all]
    exact ⟨rfl, hall⟩
theorem letter_any (n : Int) (h0 : 0 ≤ n) (w : World) : Calls Tryz.prog 181 #[.int .i64 n] w fun x w' => x = .returned (.bool (letterOk n)) ∧ w = w' := by
 by_cases h1 : n ≤ 1114111
 · by_cases h2 : n < 55296
   · have HL : Hid (letterOk n = true) := by show _ = _; unfold letterOk; simp [h1, h2]
     go_enter Tryz.func181, Tryz.ntmps181
     go_wp2
     go_ret
     refine ⟨ret_bool ?_, rfl⟩
     first | exact HL.out.symm | (rw [HL.out]; simp; omega)
   · have HL : Hid (letterOk n = decide (57344 ≤ n)) := by show _ = _; unfold letterOk; simp [h1, h2]
     go_enter Tryz.func181, Tryz.ntmps181
     go_wp2
     go_ret
     refine ⟨ret_bool ?_, rfl⟩
     rw [HL.out, decide_eq_decide]
     omega
 · have HL : Hid (letterOk n = false) := by show _ = _; unfold letterOk; simp [h1]
   go_enter Tryz.func181, Tryz.ntmps181
   go_wp2
   go_ret
   refine ⟨ret_bool ?_, rfl⟩
   first | exact HL.out.symm | (rw [HL.out]; simp; omega)
def Runes : Prop := ∀ (s : ByteArray) (p : Nat) (w : World), p < s.size → s.size ≤ 1000000000 →
 Calls Tryz.prog 171 #[.string s, .int .i64 p] w fun x w' => x = .returned (.tuple #[.int .i64 (runeAt (ints s) p).1, .int .i64 ((runeAt (ints s) p).2 : Nat)]) ∧ w = w'
def badAt (r : Option Nat) : Int := match r with
 | none => -1
 | some p => p
theorem bad_any (V : Runes) (s : ByteArray) (w : World) (hs : s.size ≤ 1000000000) : Calls Tryz.prog 152 #[.string s] w fun x w' => x = .returned (.int .i64 (badAt (stray (ints s)))) ∧ w = w' := by
 go_enter Tryz.func152, Tryz.ntmps152
 go_wp2
 go_loopw [3] (fun i wr => ∃ (p m : Nat), i = .int .i64 p ∧ p ≤ s.size + 4 ∧ s.size ≤ p + m ∧ strayL (ints s) m p = stray (ints s) ∧ wr = w) (fun i _ => s.size - (intOf i).toNat)
 case atStart => exact ⟨0, s.size, rfl, by omega, by omega, by unfold stray; rw [ints_length], rfl⟩
 case round =>
  obtain ⟨p, m, rfl, hp4, hpm, hst, rfl⟩ := hrel
  have HS : Hid (strayL (ints s) m p = stray (ints s)) := hst
  clear hst
  by_cases hp : p < s.size
  · have hpc : (p : Int) < (s.size : Int) := by omega
    have hV := V s p wr hp hs
    obtain ⟨m, rfl⟩ : ∃ m', m = m' + 1 := ⟨m - 1, by omega⟩
    unfold strayL at HS
    rw [ints_length, if_pos hp] at HS
    have hw4 := rune_width (ints s) p
    obtain ⟨⟨c, wd⟩, hr⟩ : ∃ r, runeAt (ints s) p = r := ⟨_, rfl⟩
    rw [hr] at HS hV hw4
    simp only at HS hV hw4
    clear hr
    by_cases h0 : wd = 0
    · subst h0
      rw [if_pos rfl] at HS
      go_wp2_with (go_at_call 171; refine hV.mono ?_; rintro x w' ⟨rfl, rfl⟩)
      go_ret
      rw [← HS.out]
      exact ⟨rfl, rfl⟩
    · rw [if_neg h0] at HS
      have hwi : (wd : Int) ≠ 0 := by omega
      go_wp2_with (go_at_call 171; refine hV.mono ?_; rintro x w' ⟨rfl, rfl⟩)
      go_roundw
      case rel => exact ⟨p + wd, m, by go_num, by omega, by omega, HS.out, trivial⟩
      case measure => simp [intOf]; omega
  · go_wp2
    go_ret
    have hn : strayL (ints s) m p = none := by
     cases m with
     | zero => rfl
     | succ m => unfold strayL; rw [ints_length, if_neg hp]
    rw [← HS.out, hn]
    exact ⟨rfl, rfl⟩
end Go.Proofs.YtimhpglfolbomaaGreat

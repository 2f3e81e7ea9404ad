/-
  The places of keys in the order in which the keys rise, by a contract.
  Keys in order stand in one way alone.
  Two operations of a drawn region that may come up in either order; an append inside one.
  The reader's small steps, by contracts.
  A reader of JSON goes on, and never past the end.
  What is written as a text is read as it was.
  The reader's steps over signs, blanks and words, by contracts.
  Letters written as digits of radix 16, by contracts.
  Escapes, words, digits and numbers, by contracts.
  A number read, as a value of JSON: by a contract.
  A map of keys and values, in order: by a contract.
  A map of keys and values, in order: by a contract.
  A text between its signs, read: by a contract.
  Keys that stood already, and a key read: by a contract.
-/
import Derived.Test.YtimhpglfolbomabGreatRL06
set_option maxRecDepth 100000
set_option maxHeartbeats 16000000
namespace Go.Proofs.YtimhpglfolbomabGreat
open Go.RowKit Go.Lib Go.Sort
theorem cmp_less : ∀ x y : List UInt8, decide (Lib.compareBytes x y < 0) = lessB x y
 | [], [] => rfl
 | [], _ :: _ => rfl
 | _ :: _, [] => rfl
 | a :: x, b :: y => by
  unfold Lib.compareBytes lessB
  by_cases h1 : a < b
  · simp [h1]
  · by_cases h2 : b < a
    · have h3 : ¬ a = b := fun h => by subst h; exact h1 h2
      simp [h1, h2, h3]
    · have h3 : a = b := Classical.byContradiction fun h => (UInt8.lt_or_lt_of_ne h).elim h1 h2
      rw [if_neg h1, if_neg h2, cmp_less x y]
      simp [h3]
def keyAtK (ks : List ByteArray) (i : Nat) : ByteArray := ks.getD i nix
theorem rising_clo {O : Nat → Prop} {ks : List ByteArray} {p : Option Addr} {c Bx : Nat} {W : World} (hrd : RdK O W p c ks) (hbx : W.cell? ⟨Bx, 0, none⟩ = some (.slice p ks.length c)) (a b : Nat) (ha : a < ks.length) (hb : b < ks.length) :
    Calls Tryz.prog 143 #[.int .i64 a, .int .i64 b, .pointer (some ⟨Bx, 0, none⟩)] W fun e w' => e = .returned (.int .i64 (Lib.compareBytes (keyAtK ks a).data.toList (keyAtK ks b).data.toList)) ∧ ∃ q, w' = W.drewN q := by
 obtain ⟨ad, rfl, _, hca⟩ := hrd.2 a ha
 obtain ⟨ad', he, _, hcb⟩ := hrd.2 b hb
 cases he
 change W.cell? (ad.add a) = some (.string (keyAtK ks a)) at hca
 change W.cell? (ad.add b) = some (.string (keyAtK ks b)) at hcb
 have hcon := fun wx : World => Tryz.strings_Compare (keyAtK ks a) (keyAtK ks b) wx
 generalize Lib.compareBytes (keyAtK ks a).data.toList (keyAtK ks b).data.toList = r at hcon ⊢
 generalize keyAtK ks a = x at *
 generalize keyAtK ks b = y at *
 go_enter Tryz.func143, Tryz.ntmps143
 go_wp2
 go_quiet (first | (go_at_call 144; exact Calls.quiet_of_same (hcon _)))
 go_wp2
 go_ret
 exact ⟨rfl, nq, rfl⟩
theorem keep_sort {α : Type} [Inhabited α] (enc : α → Value) (w : World) (g m : Nat) (d : Array α) (os : Array Obj) : Keep (fun k => k = g) w (sortWorld enc w g 0 m d os) := by
 refine ⟨rfl, rfl, rfl, ?_, fun k hk hn => ?_⟩
 · unfold sortWorld grow putRow mapBlock Sort.ahead
   simp
 · unfold sortWorld
   rw [heap_grow_old _ _ (by unfold putRow mapBlock Sort.ahead; simpa using hk)]
   unfold putRow mapBlock Sort.ahead
   simp only [Array.getElem?_modify]
   rw [if_neg (fun h => hn h.symm)]
def encP' (m : Nat) (x : Fin (m + 1)) : Value := .int .i64 (x.val : Int)
def cfK (ks : List ByteArray) (m : Nat) (x y : Fin (m + 1)) : Int := Lib.compareBytes (keyAtK ks x.val).data.toList (keyAtK ks y.val).data.toList
theorem cfK_lt (ks : List ByteArray) (m : Nat) (x y : Fin (m + 1)) : ltOf (cfK ks m) x y = ltK (keyAtK ks x.val) (keyAtK ks y.val) := cmp_less _ _
theorem ltK_ntrans {a b c : ByteArray} (h : ltK a b = false) (h' : ltK b c = false) : ltK a c = false := by
 cases hac : ltK a c with
 | false => rfl
 | true =>
  by_cases hab : a = b
  · subst hab; rw [h'] at hac; cases hac
  · rcases ltK_total hab with h1 | h1
    · rw [h1] at h; cases h
    · have := ltK_trans h1 hac
      rw [h'] at this; cases this
theorem swoK (ks : List ByteArray) (m : Nat) : SWO (ltOf (cfK ks m)) where
 irrefl x := by rw [cfK_lt]; exact ltK_irrefl _
 trans x y z h1 h2 := by rw [cfK_lt] at *; exact ltK_trans h1 h2
 ntrans x y z h1 h2 := by rw [cfK_lt] at *; exact ltK_ntrans h1 h2
def Places (w : World) (g : Nat) (L : List Nat) (ks : List ByteArray) : Prop :=
 L.Perm (List.range ks.length) ∧ (∀ i j, i < j → j < L.length → ltK (keyAtK ks (L.getD j 0)) (keyAtK ks (L.getD i 0)) = false) ∧ ∀ j, j < L.length → w.cell? ⟨g, j, none⟩ = some (.int .i64 ((L.getD j 0 : Nat) : Int))
def fillC (k n : Nat) : Array Value := ((List.range n).map fun i => Value.int .i64 ((if i < k then i else 0 : Nat) : Int)).toArray
theorem fillC_at (k n i : Nat) (h : i < n) : (fillC k n)[i]? = some (.int .i64 ((if i < k then i else 0 : Nat) : Int)) := by
 unfold fillC
 simp [h]
theorem fillC_set (k n : Nat) (h : k < n) : (fillC k n).setIfInBounds k (.int .i64 (k : Int)) = fillC (k + 1) n := by
 apply Array.ext_getElem?
 intro i
 rw [Array.getElem?_setIfInBounds]
 by_cases hi : k = i
 · subst hi
   rw [if_pos rfl, if_pos (by unfold fillC; simpa using h), fillC_at _ _ _ h, if_pos (by omega)]
 · rw [if_neg hi]
   by_cases hn : i < n
   · rw [fillC_at _ _ _ hn, fillC_at _ _ _ hn]
     by_cases h1 : i < k
     · rw [if_pos h1, if_pos (by omega)]
     · rw [if_neg h1, if_neg (by omega)]
   · unfold fillC
     rw [List.getElem?_toArray, List.getElem?_toArray, List.getElem?_eq_none (by simp; omega), List.getElem?_eq_none (by simp; omega)]
def fins (m : Nat) : Array (Fin (m + 1)) := (List.finRange (m + 1)).toArray
theorem fins_size (m : Nat) : (fins m).size = m + 1 := by unfold fins; simp
theorem fins_at (m j : Nat) (h : j < m + 1) : (fins m)[j]! = ⟨j, h⟩ := by
 unfold fins
 rw [getElem!_pos _ j (by simpa using h)]
 simp
theorem Tryz.info3 : (Tryz.prog.info? 3).map (fun i => (i.zero, i.size, i.bytes)) = some (some (.int .i64 0), 1, 8) := by kernel_rfl
theorem places_of {m : Nat} {ks : List ByteArray} (hm : ks.length = m + 1) {d' : Array (Fin (m + 1))} (hp : PermIn 0 (fins m).size (fins m) d') (hs : SortedIn (ltOf (cfK ks m)) 0 (fins m).size d') {w : World} {g : Nat} (hH : Holds (encP' m) w g 0 d') :
    Places w g (d'.toList.map (·.val)) ks := by
 obtain ⟨h1, _, h3⟩ := hp
 have hsz : d'.size = m + 1 := by rw [h1, fins_size]
 have e1 : (d'.extract 0 (fins m).size).toList = d'.toList := by rw [← h1, Array.extract_size]
 have e2 : ((fins m).extract 0 (fins m).size).toList = List.finRange (m + 1) := by rw [Array.extract_size]; unfold fins; simp
 rw [e1, e2] at h3
 have hget : ∀ j, j < m + 1 → (d'.toList.map (·.val)).getD j 0 = d'[j]!.val := by
  intro j hj
  rw [List.getD_eq_getElem?_getD, List.getElem?_map, List.getElem?_eq_getElem (by simpa [hsz] using hj), getElem!_pos d' j (by omega)]
  simp
 refine ⟨?_, fun i j hij hj => ?_, fun j hj => ?_⟩
 · have := h3.map (fun x : Fin (m + 1) => x.val)
   have e3 : (List.finRange (m + 1)).map (fun x : Fin (m + 1) => x.val) = List.range (m + 1) := by
    apply List.ext_getElem
    · simp
    · intro n h1 h2; simp
   rw [e3] at this
   rw [hm]
   exact this
 · have hj' : j < m + 1 := by simpa [hsz] using hj
   rw [hget j hj', hget i (by omega)]
   have := hs i j (Nat.zero_le _) hij (by rw [fins_size]; exact hj')
   rw [cfK_lt] at this
   exact this
 · have hj' : j < m + 1 := by simpa [hsz] using hj
   have := (hH j (by omega)).1
   rw [Nat.zero_add] at this
   rw [this, hget j hj']
   rfl
theorem row_own {w : World} {B e g n : Nat} {xs : List Value} (h : w.ownsRow B e 1 (.slice (some ⟨g, 0, none⟩) n n) n xs) : w.heap[g]? = some (.cells xs.toArray e (0, 0)) := by
 rcases h.2 with ⟨h', _⟩ | ⟨g', cap, cur, he, hg, hgg, h1, h2, h3, h4⟩
 · cases h'
 · cases he
   rw [hgg]
   have e : xs = cur.toList := by rw [← h4, List.take_of_length_le (by simp; omega)]
   rw [e]
theorem fillC_zero (n : Nat) : (madeCells #[Value.int .i64 0] n).toList.toArray = fillC 0 n := by
 rw [toList_madeCells_one]
 unfold fillC
 congr 1
 apply List.ext_getElem
 · simp
 · intro i h1 h2; simp
theorem eg65 : ∀ args w, (callFunc 143 args).run Tryz.prog w = .ok (.enter 143 args) w := enters_of Tryz.func143 (by kernel_rfl) rfl
theorem rising_some {O : Nat → Prop} {ks : List ByteArray} {p : Option Addr} {c m : Nat} {w : World} (hrd : RdK O w p c ks) (hO : ∀ k, O k → k < w.heap.size) (hm : ks.length = m + 1) (hl : ks.length ≤ 1000000) :
    Calls Tryz.prog 134 #[.slice p ks.length c] w fun e w' => ∃ g L, e = .returned (.slice (some ⟨g, 0, none⟩) ks.length ks.length) ∧ Places w' g L ks ∧ w.heap.size ≤ g ∧ g < w'.heap.size ∧ Below w.heap.size w w' := by
 obtain ⟨i0, hi, hz0, hz1, hz2⟩ := info_parts Tryz.info3
 have HM : Hid (ks.length = m + 1) := hm
 clear hm
 have hbx : (w.alloc (.cells #[.slice p ks.length c] 22)).cell? ⟨w.heap.size, 0, none⟩ = some (.slice p ks.length c) := cell_row (cur := [_]) (heap_alloc_new _ _) 0 _ rfl
 have hb0 : Below w.heap.size w (w.alloc (.cells #[.slice p ks.length c] 22)) := (Below.refl _ _).alloc (Nat.le_refl _) _
 go_enter Tryz.func134, Tryz.ntmps134
 go_wp2_with (first
  | (at_make; refine wpList_make_full _ rfl _ _ 28 rfl (w.heap.size + 1) 3 i0 (.int .i64 0) 1 Tryz.underlying28 hi hz0 hz1 _ _ _ _ ks.length rfl rfl rfl rfl ?b2 ?b3 ?b4 ?_))
 case b2 => rw [hz2]; omega
 case b3 => unfold maxLen; omega
 case b4 => simp
 intro w1 hown hgrow
 have hsz1 : (w.alloc (.cells #[.slice p ks.length c] 22)).heap.size = w.heap.size + 1 := by simp
 have hrow := row_own hown
 rw [fillC_zero] at hrow
 have hb1 : RowKit.Below (w.heap.size + 1) (w.alloc (.cells #[.slice p ks.length c] 22)) w1 := (RowKit.Below.refl _ _).grown hgrow (by rw [hsz1]; exact Nat.le_refl _) (by simp)
 clear hown hgrow
 go_wp2
 go_loopw [10] (fun i wr => ∃ k : Nat, i = .int .i64 k ∧ k ≤ ks.length ∧ wr.heap[w.heap.size + 1]? = some (.cells (fillC k ks.length) 3 (0, 0)) ∧ RowKit.Below (w.heap.size + 1) (w.alloc (.cells #[.slice p ks.length c] 22)) wr) (fun i _ => ks.length - (intOf i).toNat)
 case atStart => exact ⟨0, rfl, Nat.zero_le _, hrow, hb1⟩
 case round =>
  clear hrow hb1
  obtain ⟨k, rfl, hk, hrow, hb⟩ := hrel
  by_cases hlt : k < ks.length
  · have hcell : wr.cell? ⟨w.heap.size + 1, k, none⟩ = some (.int .i64 ((if k < k then k else 0 : Nat) : Int)) := by
      simp only [World.cell?, hrow]
      exact fillC_at k ks.length k hlt
    have hfz : wr.frozen? ⟨w.heap.size + 1, k, none⟩ = false := frozen_of_row wr _ k _ _ hrow
    have HROW : Hid ((wr.setCell ⟨w.heap.size + 1, k, none⟩ (.int .i64 (k : Int))).heap[w.heap.size + 1]? = some (.cells (fillC (k + 1) ks.length) 3 (0, 0))) := by
     rw [heap_setCell_same wr _ k _ _ _ hrow, fillC_set k _ hlt]; rfl
    have HB := hb.setCell (p := ⟨w.heap.size + 1, k, none⟩) (Nat.le_refl _) (.int .i64 (k : Int))
    go_wp2
    go_roundw
    case rel => exact ⟨k + 1, by go_num, hlt, HROW.out, HB⟩
    case measure => simp [intOf]; omega
  · obtain rfl : k = ks.length := by omega
    have hm := HM.out
    have hsz := hb.size
    rw [hsz1] at hsz
    have hglt : w.heap.size + 1 < wr.heap.size := (Array.getElem?_eq_some_iff.1 hrow).1
    have hH : Holds (encP' m) wr (w.heap.size + 1) 0 (fins m) := by
     intro j hj
     rw [fins_size] at hj
     rw [Nat.zero_add]
     refine ⟨?_, frozen_of_row wr _ j _ _ hrow⟩
     have hfc := fillC_at ks.length ks.length j (by omega)
     rw [if_pos (show j < ks.length by omega)] at hfc
     rw [fins_at m j hj]
     simp only [World.cell?, hrow]
     exact hfc
    have hbw : RowKit.Below w.heap.size w wr := ((RowKit.Below.refl _ _).alloc (Nat.le_refl _) _).trans (hb.mono (by omega))
    have hcmp : CmpReads Tryz.prog 143 #[.pointer (some ⟨w.heap.size, 0, none⟩)] (encP' m) (cfK ks m) (w.heap.size + 1) 0 (fins m).size wr := by
     intro n os dk hdk x y
     have hks := keep_sort (encP' m) wr (w.heap.size + 1) n dk os
     have hbox : (sortWorld (encP' m) wr (w.heap.size + 1) 0 n dk os).cell? ⟨w.heap.size, 0, none⟩ = some (.slice p ks.length c) := by
      rw [hks.cell (p := ⟨w.heap.size, 0, none⟩) (by simp only; omega) (by simp only; omega), hb.cell (p := ⟨w.heap.size, 0, none⟩) (by simp only; omega)]
      exact hbx
     have hrd' : RdK O (sortWorld (encP' m) wr (w.heap.size + 1) 0 n dk os) p c ks := hrd.carry fun k hk => ⟨hk, by
      have hkl := hO k hk
      rw [hks.block k (by omega) (by omega), hbw.block k hkl]⟩
     exact rising_clo hrd' hbox x.val y.val (by omega) (by omega)
    have hcon : Calls Tryz.prog 45 #[.slice (some ⟨w.heap.size + 1, 0, none⟩) ks.length ks.length, .func (.func 143) #[] #[.pointer (some ⟨w.heap.size, 0, none⟩)]] wr fun e w' => e = .returned (.tuple #[]) ∧ (∃ L, Places w' (w.heap.size + 1) L ks) ∧ Keep (fun k => k = w.heap.size + 1) wr w' := by
     have harg : (Value.slice (some ⟨w.heap.size + 1, 0, none⟩) ks.length ks.length) = Value.slice (some ⟨w.heap.size + 1, 0, none⟩) (fins m).size ks.length := by rw [fins_size, hm]
     rw [harg]
     refine (Tryz.slices_SortFunc (encP' m) (fun _ => rfl) (cfK ks m) (swoK ks m) 143 #[.pointer (some ⟨w.heap.size, 0, none⟩)] (w.heap.size + 1) 0 ks.length (fins m) wr eg65 hcmp.lays hH hglt (by rw [fins_size]; omega)).mono fun e w' ⟨h1, d', n, os, hp, hs, hw⟩ => ?_
     subst hw
     exact ⟨h1, ⟨_, places_of hm hp hs (holds_sortWorld (encP' m) wr (w.heap.size + 1) 0 n (fins m) d' os hglt hH hp.1)⟩, keep_sort _ _ _ _ _ _⟩
    clear hm hcmp hH hrow
    go_wp2_with (first
     | (go_at_call 45; refine hcon.mono ?_; rintro e w2 ⟨rfl, ⟨L, hL⟩, hk2⟩))
    go_ret
    refine ⟨w.heap.size + 1, L, rfl, hL, by omega, by have := hk2.size; omega, ?_⟩
    exact hbw.trans (hk2.below (by omega) fun k hk => by omega)
theorem rising_none (p : Option Addr) (c : Nat) (w : World) :
    Calls Tryz.prog 134 #[.slice p 0 c] w fun e w' => ∃ g, e = .returned (.slice (some ⟨g, 0, none⟩) 0 0) ∧ w.heap.size ≤ g ∧ g < w'.heap.size ∧ Below w.heap.size w w' := by
 obtain ⟨i0, hi, hz0, hz1, hz2⟩ := info_parts Tryz.info3
 have hbx : (w.alloc (.cells #[.slice p 0 c] 22)).cell? ⟨w.heap.size, 0, none⟩ = some (.slice p 0 c) := cell_row (cur := [_]) (heap_alloc_new _ _) 0 _ rfl
 go_enter Tryz.func134, Tryz.ntmps134
 go_wp2_with (first
  | (at_make; refine wpList_make_full _ rfl _ _ 28 rfl (w.heap.size + 1) 3 i0 (.int .i64 0) 1 Tryz.underlying28 hi hz0 hz1 _ _ _ _ 0 rfl rfl rfl rfl ?b2 ?b3 ?b4 ?_))
 case b2 => omega
 case b3 => unfold maxLen; omega
 case b4 => simp
 intro w1 hown hgrow
 have hsz1 : (w.alloc (.cells #[.slice p 0 c] 22)).heap.size = w.heap.size + 1 := by simp
 have hrow := row_own hown
 have hglt : w.heap.size + 1 < w1.heap.size := (Array.getElem?_eq_some_iff.1 hrow).1
 have hb1 : RowKit.Below w.heap.size (w.alloc (.cells #[.slice p 0 c] 22)) w1 := (RowKit.Below.refl _ _).grown hgrow (by rw [hsz1]; omega) (by simp)
 have hb : RowKit.Below w.heap.size w w1 := ((RowKit.Below.refl _ _).alloc (Nat.le_refl _) _).trans hb1
 have hnone : ∀ wx : World, Calls Tryz.prog 45 #[.slice (some ⟨w.heap.size + 1, 0, none⟩) 0 0, .func (.func 143) #[] #[.pointer (some ⟨w.heap.size, 0, none⟩)]] wx fun e w' => e = .returned (.tuple #[]) ∧ wx = w' :=
  fun wx => (Tryz.slices_SortFunc_none (α := Nat) (some ⟨w.heap.size + 1, 0, none⟩) 0 _ wx).mono fun _ _ h => ⟨h.1, h.2.symm⟩
 clear hown hgrow hrow hb1
 go_wp2
 refine wp_loop_rounds 1 ?_
 rw [rounds_succ]
 go_wp2_with (first
  | (go_at_call 45; refine (hnone _).mono ?_; rintro e w' ⟨rfl, rfl⟩))
 go_ret
 exact ⟨w.heap.size + 1, rfl, by omega, hglt, hb⟩
theorem rising_any {O : Nat → Prop} {ks : List ByteArray} {p : Option Addr} {c : Nat} {w : World} (hrd : RdK O w p c ks) (hO : ∀ k, O k → k < w.heap.size) (hl : ks.length ≤ 1000000) :
    Calls Tryz.prog 134 #[.slice p ks.length c] w fun e w' => ∃ g L, e = .returned (.slice (some ⟨g, 0, none⟩) ks.length ks.length) ∧ Places w' g L ks ∧ w.heap.size ≤ g ∧ g < w'.heap.size ∧ Below w.heap.size w w' := by
 cases ks with
 | nil =>
  refine (rising_none p c w).mono fun e w' ⟨g, h1, h2, h3, h4⟩ => ⟨g, [], h1, ⟨List.Perm.refl _, fun i j _ hj => absurd hj (by simp), fun j hj => absurd hj (by simp)⟩, h2, h3, h4⟩
 | cons k r => exact rising_some hrd hO rfl hl
end Go.Proofs.YtimhpglfolbomabGreat
namespace Go.Proofs.YtimhpglfolbomabGreat
theorem putK_perm (k : ByteArray) (v : J) : ∀ (q : List (ByteArray × J)), (putK k v q).Perm ((k, v) :: q)
 | [] => List.Perm.refl _
 | y :: q => by
  unfold putK
  split
  · exact List.Perm.refl _
  · exact ((putK_perm k v q).cons y).trans (List.Perm.swap _ _ _)
theorem sortK_perm : ∀ (q : List (ByteArray × J)), (sortK q).Perm q
 | [] => List.Perm.refl _
 | y :: q => by
  unfold sortK
  exact (putK_perm y.1 y.2 _).trans ((sortK_perm q).cons y)
theorem ltK_asymm {a b : ByteArray} (h : ltK a b = true) : ltK b a = false := by
 cases h' : ltK b a with
 | false => rfl
 | true => have := ltK_trans h h'; rw [ltK_irrefl] at this; cases this
theorem rises_eq : ∀ (a b : List (ByteArray × J)), rises (a.map (·.1)) = true → rises (b.map (·.1)) = true → a.Perm b → a = b
 | [], b, _, _, h => (List.nil_perm.1 h).symm ▸ rfl
 | x :: a, [], _, _, h => by have := h.length_eq; simp at this
 | x :: a, y :: b, ha, hb, h => by
  simp only [List.map_cons, rises, Bool.and_eq_true] at ha hb
  have hx : x ∈ y :: b := h.subset (by simp)
  have hy : y ∈ x :: a := h.symm.subset (by simp)
  have hxy : x = y := by
   rcases List.mem_cons.1 hx with h1 | h1
   · exact h1
   · rcases List.mem_cons.1 hy with h2 | h2
     · exact h2.symm
     · have g1 := List.all_eq_true.1 hb.1 x.1 (List.mem_map.2 ⟨x, h1, rfl⟩)
       have g2 := List.all_eq_true.1 ha.1 y.1 (List.mem_map.2 ⟨y, h2, rfl⟩)
       rw [ltK_asymm g1] at g2; cases g2
  subst hxy
  rw [rises_eq a b ha.2 hb.2 ((List.perm_cons x).1 h)]
theorem noTwice_pair : ∀ {ks : List ByteArray}, noKeyTwice ks = true → ks.Pairwise (· ≠ ·)
 | [], _ => List.Pairwise.nil
 | k :: r, h => by
  simp only [noKeyTwice, Bool.and_eq_true, Bool.not_eq_true', List.any_eq_false, decide_eq_true_eq] at h
  refine List.pairwise_cons.2 ⟨fun x hx e => h.1 x hx (by rw [e]), noTwice_pair h.2⟩
theorem pair_noTwice : ∀ {ks : List ByteArray}, ks.Pairwise (· ≠ ·) → noKeyTwice ks = true
 | [], _ => rfl
 | k :: r, h => by
  have h' := List.pairwise_cons.1 h
  simp only [noKeyTwice, Bool.and_eq_true, Bool.not_eq_true', List.any_eq_false, decide_eq_true_eq]
  refine ⟨fun x hx e => h'.1 x hx ?_, pair_noTwice h'.2⟩
  cases x; cases k
  simp only at e
  rw [e]
def valAt (l : List J) (i : Nat) : J := l.getD i J.zero
def sel (ks : List ByteArray) (l : List J) (L : List Nat) : List (ByteArray × J) := L.map fun i => (keyAtK ks i, valAt l i)
theorem sel_range : ∀ (ks : List ByteArray) (l : List J), ks.length = l.length → sel ks l (List.range ks.length) = ks.zip l
 | ks, l, h => by
  unfold sel
  apply List.ext_getElem
  · simp; omega
  · intro i h1 h2
    have hi : i < ks.length := by simpa using h1
    simp only [List.getElem_map, List.getElem_range, List.getElem_zip, keyAtK, valAt]
    rw [List.getD_eq_getElem?_getD, List.getD_eq_getElem?_getD, List.getElem?_eq_getElem hi, List.getElem?_eq_getElem (by omega)]
    rfl
theorem rises_of {α : Type} (f : α → ByteArray) : ∀ (l : List α), l.Pairwise (fun x y => ltK (f x) (f y) = true) → rises (l.map f) = true
 | [], _ => rfl
 | x :: l, h => by
  have h' := List.pairwise_cons.1 h
  simp only [List.map_cons, rises, Bool.and_eq_true]
  refine ⟨List.all_eq_true.2 fun z hz => ?_, rises_of f l h'.2⟩
  obtain ⟨y, hy, rfl⟩ := List.mem_map.1 hz
  exact h'.1 y hy
theorem places_sort {w : World} {g : Nat} {L : List Nat} {ks : List ByteArray} {l : List J} (hP : Places w g L ks) (hd : ks.Pairwise (· ≠ ·)) (hl : ks.length = l.length) : sel ks l L = sortK (ks.zip l) := by
 obtain ⟨hp, hs, _⟩ := hP
 have hlen : L.length = ks.length := by rw [hp.length_eq]; simp
 have hperm : (sel ks l L).Perm (ks.zip l) := by
  rw [← sel_range ks l hl]
  exact hp.map _
 have hpw : (ks.zip l).Pairwise fun x y => x.1 ≠ y.1 := by
  have : ((ks.zip l).map (·.1)).Pairwise (· ≠ ·) := by rw [List.map_fst_zip (by omega)]; exact hd
  exact List.pairwise_map.1 this
 refine rises_eq _ _ ?_ (sortK_rises' _ hpw) (hperm.trans (sortK_perm _).symm)
 unfold sel
 rw [List.map_map]
 refine rises_of _ L ?_
 rw [List.pairwise_iff_getElem]
 intro i j hi hj hij
 have h1 := hs i j hij hj
 have gi : L.getD i 0 = L[i] := by rw [List.getD_eq_getElem?_getD, List.getElem?_eq_getElem hi]; rfl
 have gj : L.getD j 0 = L[j] := by rw [List.getD_eq_getElem?_getD, List.getElem?_eq_getElem hj]; rfl
 rw [gi, gj] at h1
 have hnd : L.Nodup := hp.nodup_iff.2 List.nodup_range
 have hne : L[i] ≠ L[j] := List.pairwise_iff_getElem.1 hnd i j hi hj hij
 have mi : L[i] < ks.length := by have := hp.subset (List.getElem_mem hi); simpa using this
 have mj : L[j] < ks.length := by have := hp.subset (List.getElem_mem hj); simpa using this
 have hkne : keyAtK ks L[i] ≠ keyAtK ks L[j] := by
  unfold keyAtK
  rw [List.getD_eq_getElem?_getD, List.getD_eq_getElem?_getD, List.getElem?_eq_getElem mi, List.getElem?_eq_getElem mj]
  simp only [Option.getD_some]
  intro e
  rcases Nat.lt_or_gt_of_ne hne with h | h
  · exact List.pairwise_iff_getElem.1 hd _ _ mi mj h e
  · exact List.pairwise_iff_getElem.1 hd _ _ mj mi h e.symm
 rcases ltK_total hkne with h | h
 · exact h
 · rw [h] at h1; cases h1
end Go.Proofs.YtimhpglfolbomabGreat
namespace Go.Proofs.YtimhpglfolbomabGreat
open Go.RowKit
section
variable {P : Program} {ops : Array Oper} {Q : Exit → Act → World → Prop} {md : Region.Mode} {C : World → Prop}
theorem wpIn_pair {i j : Nat} {o u : Oper} {n : Nat} {listed : Array Bool} {a : Act} {w : World} (hC : C w) (hr : Region.ready md ops listed = [i, j]) (hi : ops[i]? = some o) (hj : ops[j]? = some u)
    (hw : Region.wanted o (yielded ops a.tmps) = true) (hv : Region.wanted u (yielded ops a.tmps) = true)
    (h : ∀ K' : Act → World → Prop, (∀ a w, wpIn P md ops Q C n (listed.setIfInBounds i true) a w → K' a w) → Oper.wp P o a w K' Q)
    (h' : ∀ K' : Act → World → Prop, (∀ a w, wpIn P md ops Q C n (listed.setIfInBounds j true) a w → K' a w) → Oper.wp P u a w K' Q) : wpIn P md ops Q C (n + 1) listed a w := by
 refine ⟨hC, fun h0 => (by rw [hr] at h0; cases h0), fun m hm => ?_⟩
 rw [hr] at hm
 unfold wpOp
 rcases List.mem_cons.1 hm with rfl | hm
 · rw [hi]
   simp only
   rw [if_pos hw]
   exact .inl (h _ fun _ _ h' => h')
 · rw [List.mem_singleton.1 hm, hj]
   simp only
   rw [if_pos hv]
   exact .inl (h' _ fun _ _ h' => h')
end
theorem wp_append_at {w : World} {o : Oper} {a : Act} {K : Act → World → Prop} {Q : Exit → Act → World → Prop} (s x : Operand) (t : TypeId)
    (ho : o.op = .call { callee := .builtin .append, args := #[s, x], argTypes := #[t, t] })
    (base : Nat) (e : TypeId) (z : Value) (size bytes : Nat) (ht : Tryz.prog.underlying t = some (.slice e)) (hinfo : (Tryz.prog.info? e).map (fun i => (i.zero, i.size, i.bytes)) = some (some z, size, bytes))
    (hzs : z.cells.size = size) (hsz : 0 < size) (hby : bytes ≤ 100)
    (v : Value) (n : Nat) (xs : List Value) (hs : a.eval s = v) (hown : w.ownsRow base e size v n xs)
    (ad : Addr) (news : List Value) (hx : a.eval x = .slice (some ad) 1 1) (hl : news.length = size) (hnews : ∀ j u, news[j]? = some u → w.cell? (ad.add j) = some u) (h1 : ∀ u ∈ news, u.oneCell' = true)
    (hn : n ≤ 1000000) (hbase : base ≤ w.heap.size)
    (h : ∀ v' w', w'.ownsRow base e size v' (n + 1) (xs ++ news) → w.grownBy w' v.ownBlock → (v'.ownBlock = v.ownBlock ∨ v'.ownBlock = some w.heap.size) → K (a.put o.dst v') w') : o.wp Tryz.prog a w K Q := by
 obtain ⟨i0, hi, hz0, hz1, hz2⟩ := info_parts hinfo
 have hbb : (n + 1) * bytes ≤ 140737488355328 := by
  have : (n + 1) * bytes ≤ (n + 1) * 100 := Nat.mul_le_mul_left _ hby
  omega
 obtain ⟨v', w', hr, h2, h3, h4, h5⟩ := run_append_own_at (P := Tryz.prog) w base t o.type e i0 z size bytes ht hi hz0 hz1 hz2 hzs hsz v n xs hown ad 1 1 news (by rw [hl, Nat.one_mul]) hnews h1 (by unfold maxLen; omega) hbb hbase
 unfold Oper.wp execOp
 simp only [ho, resolve, invoke, builtin, Sem.run_bind, Sem.run_pure, Result.andThen_ok, List.map_toArray, List.map_cons, List.map_nil, hs, hx, hr]
 exact h v' w' h2 h3 h5
theorem Tryz.info9 : (Tryz.prog.info? 9).map (fun i => (i.zero, i.size, i.bytes)) = some (some (.string ⟨#[]⟩), 1, 16) := by kernel_rfl
theorem Tryz.info38 : (Tryz.prog.info? 38).map (fun i => (i.zero, i.size, i.bytes)) = some (some (.agg #[.int .i64 0, .int .i64 0, .string ⟨#[]⟩, .slice none 0 0, .slice none 0 0]), 5, 80) := by kernel_rfl
def One (R : Nat) : Nat → Prop := fun k => k = R
theorem byte_in (s : ByteArray) (i : Nat) (h : i < s.size) : byteAt (ints s) i = (s[i].toNat : Int) := ints_getD s i h
def New (w w' : World) : Nat → Prop := fun k => w.heap.size ≤ k ∧ k < w'.heap.size
section
variable {w : World} {b : Nat} {a0 a1 a2 a3 a4 : Value} {t : TypeId}
theorem five_c0 (h : w.heap[b]? = some (.cells #[a0, a1, a2, a3, a4] t (0, 0))) : w.cell? ⟨b, 0, none⟩ = some a0 := cell_row (cur := [_, _, _, _, _]) h 0 _ rfl
theorem five_c1 (h : w.heap[b]? = some (.cells #[a0, a1, a2, a3, a4] t (0, 0))) : w.cell? ⟨b, 1, none⟩ = some a1 := cell_row (cur := [_, _, _, _, _]) h 1 _ rfl
theorem five_c2 (h : w.heap[b]? = some (.cells #[a0, a1, a2, a3, a4] t (0, 0))) : w.cell? ⟨b, 2, none⟩ = some a2 := cell_row (cur := [_, _, _, _, _]) h 2 _ rfl
theorem five_c3 (h : w.heap[b]? = some (.cells #[a0, a1, a2, a3, a4] t (0, 0))) : w.cell? ⟨b, 3, none⟩ = some a3 := cell_row (cur := [_, _, _, _, _]) h 3 _ rfl
theorem five_c4 (h : w.heap[b]? = some (.cells #[a0, a1, a2, a3, a4] t (0, 0))) : w.cell? ⟨b, 4, none⟩ = some a4 := cell_row (cur := [_, _, _, _, _]) h 4 _ rfl
theorem five_fz (h : w.heap[b]? = some (.cells #[a0, a1, a2, a3, a4] t (0, 0))) (j : Nat) : w.frozen? ⟨b, j, none⟩ = false := frozen_of_row w b j _ _ h
def set5 (w : World) (b : Nat) (v0 v1 v2 v3 v4 : Value) : World := ((((w.setCell ⟨b, 0, none⟩ v0).setCell ⟨b, 1, none⟩ v1).setCell ⟨b, 2, none⟩ v2).setCell ⟨b, 3, none⟩ v3).setCell ⟨b, 4, none⟩ v4
theorem set5_heap (h : w.heap[b]? = some (.cells #[a0, a1, a2, a3, a4] t (0, 0))) (v0 v1 v2 v3 v4 : Value) : (set5 w b v0 v1 v2 v3 v4).heap[b]? = some (.cells #[v0, v1, v2, v3, v4] t (0, 0)) := by
 have h0 : (w.setCell ⟨b, 0, none⟩ v0).heap[b]? = some (.cells #[v0, a1, a2, a3, a4] t (0, 0)) := by rw [heap_setCell_same w b 0 _ _ _ h]; rfl
 have h1 : ((w.setCell ⟨b, 0, none⟩ v0).setCell ⟨b, 1, none⟩ v1).heap[b]? = some (.cells #[v0, v1, a2, a3, a4] t (0, 0)) := by rw [heap_setCell_same _ b 1 _ _ _ h0]; rfl
 have h2 : (((w.setCell ⟨b, 0, none⟩ v0).setCell ⟨b, 1, none⟩ v1).setCell ⟨b, 2, none⟩ v2).heap[b]? = some (.cells #[v0, v1, v2, a3, a4] t (0, 0)) := by rw [heap_setCell_same _ b 2 _ _ _ h1]; rfl
 have h3 : ((((w.setCell ⟨b, 0, none⟩ v0).setCell ⟨b, 1, none⟩ v1).setCell ⟨b, 2, none⟩ v2).setCell ⟨b, 3, none⟩ v3).heap[b]? = some (.cells #[v0, v1, v2, v3, a4] t (0, 0)) := by rw [heap_setCell_same _ b 3 _ _ _ h2]; rfl
 unfold set5
 rw [heap_setCell_same _ b 4 _ _ _ h3]; rfl
theorem set5_keep (w : World) (b : Nat) (v0 v1 v2 v3 v4 : Value) : Keep (One b) w (set5 w b v0 v1 v2 v3 v4) :=
 Keep.setCell (Keep.setCell (Keep.setCell (Keep.setCell (Keep.setCell (Keep.refl _ _) (fun _ => (rfl : b = b)) _) (fun _ => (rfl : b = b)) _) (fun _ => (rfl : b = b)) _) (fun _ => (rfl : b = b)) _) (fun _ => (rfl : b = b)) _
end
theorem RdK.below {O : Nat → Prop} {w w' : World} {p : Option Addr} {c : Nat} {ks : List ByteArray} (h : RdK O w p c ks) (hO : ∀ k, O k → k < w.heap.size) (hb : Below w.heap.size w w') : RdK O w' p c ks :=
 h.carry fun k hk => ⟨hk, hb.block k (hO k hk)⟩
theorem isJ_one {O : Nat → Prop} {w : World} {j : J} {cs : List Value} (h : isJ O w j cs) : ∀ u ∈ cs, u.oneCell' = true := by
 cases j
 unfold isJ at h
 obtain ⟨_, _, _, _, rfl, _⟩ := h
 intro u hu
 simp at hu
 rcases hu with rfl | rfl | rfl | rfl | rfl <;> rfl
theorem own_rdK {w : World} {B : Nat} {v : Value} {S : List ByteArray} (h : w.ownsRow B 9 1 v S.length (S.map Value.string)) : ∃ q cq, v = .slice q S.length cq ∧ RdK (fun k => B ≤ k ∧ k < w.heap.size) w q cq S := by
 rcases h.2 with ⟨rfl, hn⟩ | ⟨g, cap, cur, rfl, hg, hgg, h1, h2, h3, h4⟩
 · obtain rfl : S = [] := List.eq_nil_of_length_eq_zero hn
   exact ⟨none, 0, rfl, RdK.nil _ _⟩
 · refine ⟨_, cap, rfl, ⟨h1, fun j hj => ⟨_, rfl, ⟨hg, (Array.getElem?_eq_some_iff.1 hgg).1⟩, ?_⟩⟩⟩
   have := h.cells (g := g) rfl j (.string (S.getD j nix)) (by rw [List.getElem?_map, List.getD_eq_getElem?_getD, List.getElem?_eq_getElem hj]; rfl)
   exact this
theorem own_js {O : Nat → Prop} {w : World} {B : Nat} {v : Value} {l : List J} {xs : List Value} (h : w.ownsRow B 38 5 v l.length xs) (hr : isRow O w l xs) : ∃ q cq, v = .slice q l.length cq ∧ l.length ≤ cq ∧ isJs (fun k => O k ∨ (B ≤ k ∧ k < w.heap.size)) w q 0 l := by
 rcases h.2 with ⟨rfl, hn⟩ | ⟨g, cap, cur, rfl, hg, hgg, h1, h2, h3, h4⟩
 · obtain rfl : l = [] := List.eq_nil_of_length_eq_zero hn
   exact ⟨none, 0, rfl, Nat.le_refl _, by unfold isJs; trivial⟩
 · refine ⟨_, cap, rfl, h1, ?_⟩
   refine isRow.isJs (O := fun k => O k ∨ (B ≤ k ∧ k < w.heap.size)) (.inr ⟨hg, (Array.getElem?_eq_some_iff.1 hgg).1⟩) l xs 0 (hr.carry fun k hk => ⟨.inl hk, rfl⟩) fun i u hi => ?_
   have hc : cur[i]? = some u := by
    rw [← h4] at hi
    rw [List.getElem?_take] at hi
    split at hi
    · simpa using hi
    · cases hi
   rw [Nat.zero_mul, Nat.add_zero, Nat.zero_add]
   simp only [World.cell?, hgg]
   exact hc
structure MI (O : Nat → Prop) (wB : World) (b : Nat) (Sk : List ByteArray) (Sv : List J) (vk vl : Value) (wr : World) : Prop where
 obj : wr.heap[b + 1]? = some (.cells #[.int .i64 5, .int .i64 0, .string ⟨#[]⟩, vk, vl] 38 (0, 0))
 res : wr.heap[b]? = some (.cells #[.int .i64 0, .int .i64 0, .string ⟨#[]⟩, .slice none 0 0, .slice none 0 0] 38 (0, 0))
 keys : wr.ownsRow wB.heap.size 9 1 vk Sk.length (Sk.map Value.string)
 vals : ∃ xs, wr.ownsRow wB.heap.size 38 5 vl Sv.length xs ∧ isRow O wr Sv xs
 ne : ∀ i, vk.ownBlock = some i → vl.ownBlock ≠ some i
 keep : Keep (One (b + 1)) wB wr
 lt : b + 1 < wB.heap.size
 low : ∀ k, O k → k < b
section
variable {O : Nat → Prop} {wB W W2 : World} {b : Nat} {Sk : List ByteArray} {Sv : List J} {vk vl vk' vl' : Value}
theorem MI.drew (h : MI O wB b Sk Sv vk vl W) : MI O wB b Sk Sv vk vl W.drew := ⟨h.obj, h.res, h.keys, by
 obtain ⟨xs, h1, h2⟩ := h.vals
 exact ⟨xs, h1, isRow.carry (w := W) (w' := W.drew) (fun k hk => ⟨hk, rfl⟩) Sv xs h2⟩, h.ne, h.keep.drew, h.lt, h.low⟩
theorem MI.c3 (h : MI O wB b Sk Sv vk vl W) : W.cell? ⟨b + 1, 3, none⟩ = some vk := five_c3 h.obj
theorem MI.c4 (h : MI O wB b Sk Sv vk vl W) : W.cell? ⟨b + 1, 4, none⟩ = some vl := five_c4 h.obj
theorem MI.size (h : MI O wB b Sk Sv vk vl W) : wB.heap.size ≤ W.heap.size := h.keep.size
theorem grown_at {o : Obj} {row : Option Nat} {k : Nat} (hg : (W.alloc o).grownBy W2 row) (hk : k < W.heap.size) (hr : row ≠ some k) : W2.heap[k]? = W.heap[k]? := by
 rw [hg.block k (by simp; omega) (fun e => hr e.symm), Below.heap_alloc W o k hk]
theorem MI.key (h : MI O wB b Sk Sv vk vl W) {x : ByteArray} {o : Obj} (hown : W2.ownsRow wB.heap.size 9 1 vk' (Sk.length + 1) (Sk.map Value.string ++ [.string x])) (hg : (W.alloc o).grownBy W2 vk.ownBlock) (hat : vk'.ownBlock = vk.ownBlock ∨ vk'.ownBlock = some (W.alloc o).heap.size) :
    W2.cell? ⟨b + 1, 3, none⟩ = some vk ∧ W2.frozen? ⟨b + 1, 3, none⟩ = false ∧ MI O wB b (Sk ++ [x]) Sv vk' vl (W2.setCell ⟨b + 1, 3, none⟩ vk') := by
 have hsz := h.size
 have hlt := h.lt
 have hgk := own_ge h.keys
 obtain ⟨xs, hv1, hv2⟩ := h.vals
 have hgv := own_ge hv1
 have ob : W2.heap[b + 1]? = some (.cells #[.int .i64 5, .int .i64 0, .string ⟨#[]⟩, vk, vl] 38 (0, 0)) := by
  rw [grown_at hg (by omega) (fun e => by have := hgk _ e; omega)]; exact h.obj
 have rs : W2.heap[b]? = some (.cells #[.int .i64 0, .int .i64 0, .string ⟨#[]⟩, .slice none 0 0, .slice none 0 0] 38 (0, 0)) := by
  rw [grown_at hg (by omega) (fun e => by have := hgk _ e; omega)]; exact h.res
 have K3 : Keep (One (b + 1)) W2 (W2.setCell ⟨b + 1, 3, none⟩ vk') := Keep.setCell (Keep.refl _ _) (fun _ => (rfl : b + 1 = b + 1)) _
 have hgk' := own_ge hown
 refine ⟨five_c3 ob, five_fz ob 3, ⟨?_, ?_, ?_, ⟨xs, ?_, ?_⟩, ?_, ?_, hlt, h.low⟩⟩
 · rw [heap_setCell_same _ (b + 1) 3 _ _ _ ob]; rfl
 · rw [K3.block b (by have := (Array.getElem?_eq_some_iff.1 rs).1; omega) (by unfold One; omega)]; exact rs
 · rw [List.length_append, List.map_append]
   exact own_keep hown K3 fun k e => by have := hgk' k e; unfold One; omega
 · refine own_keep (own_keep (hv1.alloc o) (S := fun k => vk.ownBlock = some k) (Keep.of_grown hg fun _ _ e => e) fun k e e' => h.ne k e' e) K3 fun k e => by have := hgv k e; unfold One; omega
 · refine hv2.carry fun k hk => ⟨hk, ?_⟩
   have := h.low k hk
   rw [K3.block k (by have := hg.size; simp at this; omega) (by unfold One; omega), grown_at hg (by omega) (fun e => by have := hgk _ e; omega)]
 · intro i e e'
   rcases hat with h1 | h1
   · exact h.ne i (h1 ▸ e) e'
   · rw [h1] at e
     have h2 := (hgv i e').2
     have h3 : (W.alloc o).heap.size = i := Option.some.inj e
     simp at h3
     omega
 · have k1 : Keep (One (b + 1)) wB (W.alloc o) := h.keep.alloc o
   exact (k1.grown hg fun k e => (hgk k e).1).then K3
theorem MI.val (h : MI O wB b Sk Sv vk vl W) {y : J} {cs xs : List Value} {o : Obj} (hv1 : W.ownsRow wB.heap.size 38 5 vl Sv.length xs) (hv2 : isRow O W Sv xs) (hy : isJ O W y cs) (hown : W2.ownsRow wB.heap.size 38 5 vl' (Sv.length + 1) (xs ++ cs)) (hg : (W.alloc o).grownBy W2 vl.ownBlock) (hat : vl'.ownBlock = vl.ownBlock ∨ vl'.ownBlock = some (W.alloc o).heap.size) :
    W2.cell? ⟨b + 1, 4, none⟩ = some vl ∧ W2.frozen? ⟨b + 1, 4, none⟩ = false ∧ MI O wB b Sk (Sv ++ [y]) vk vl' (W2.setCell ⟨b + 1, 4, none⟩ vl') := by
 have hsz := h.size
 have hlt := h.lt
 have hgk := own_ge h.keys
 have hgv := own_ge hv1
 have ob : W2.heap[b + 1]? = some (.cells #[.int .i64 5, .int .i64 0, .string ⟨#[]⟩, vk, vl] 38 (0, 0)) := by
  rw [grown_at hg (by omega) (fun e => by have := hgv _ e; omega)]; exact h.obj
 have rs : W2.heap[b]? = some (.cells #[.int .i64 0, .int .i64 0, .string ⟨#[]⟩, .slice none 0 0, .slice none 0 0] 38 (0, 0)) := by
  rw [grown_at hg (by omega) (fun e => by have := hgv _ e; omega)]; exact h.res
 have K3 : Keep (One (b + 1)) W2 (W2.setCell ⟨b + 1, 4, none⟩ vl') := Keep.setCell (Keep.refl _ _) (fun _ => (rfl : b + 1 = b + 1)) _
 have hgv' := own_ge hown
 have carry : ∀ k, O k → O k ∧ (W2.setCell ⟨b + 1, 4, none⟩ vl').heap[k]? = W.heap[k]? := fun k hk => by
  have := h.low k hk
  exact ⟨hk, by rw [K3.block k (by have := hg.size; simp at this; omega) (by unfold One; omega), grown_at hg (by omega) (fun e => by have := hgv _ e; omega)]⟩
 refine ⟨five_c4 ob, five_fz ob 4, ⟨?_, ?_, ?_, ⟨xs ++ cs, ?_, ?_⟩, ?_, ?_, hlt, h.low⟩⟩
 · rw [heap_setCell_same _ (b + 1) 4 _ _ _ ob]; rfl
 · rw [K3.block b (by have := (Array.getElem?_eq_some_iff.1 rs).1; omega) (by unfold One; omega)]; exact rs
 · exact own_keep (own_keep (h.keys.alloc o) (S := fun k => vl.ownBlock = some k) (Keep.of_grown hg fun _ _ e => e) fun k e e' => h.ne k e e') K3 fun k e => by have := hgk k e; unfold One; omega
 · rw [List.length_append]
   exact own_keep hown K3 fun k e => by have := hgv' k e; unfold One; omega
 · exact isRow.snoc hy.five (hy.carry carry) Sv xs (hv2.carry carry)
 · intro i e e'
   rcases hat with h1 | h1
   · exact h.ne i e (h1 ▸ e')
   · rw [h1] at e'
     have h2 := (hgk i e).2
     have h3 : (W.alloc o).heap.size = i := Option.some.inj e'
     simp at h3
     omega
 · have k1 : Keep (One (b + 1)) wB (W.alloc o) := h.keep.alloc o
   exact (k1.grown hg fun k e => (hgv k e).1).then K3
end
theorem map_end {O : Nat → Prop} {w wB wr W5 : World} {q1 q2 : Option Addr} {c1 c2 : Nat} {ks : List ByteArray} {l : List J} (hO : ∀ k, O k → k < w.heap.size) (hbw : Below w.heap.size w wB) (hkeep : Keep (One (w.heap.size + 1)) wB wr) (HK5 : Keep (One w.heap.size) wr W5)
    (hrk : RdK (fun k => wB.heap.size ≤ k ∧ k < wr.heap.size) wr q1 c1 ks) (hrj : isJs (fun k => O k ∨ (wB.heap.size ≤ k ∧ k < wr.heap.size)) wr q2 0 l) (hc : l.length ≤ c2) (hsz : w.heap.size + 2 ≤ wB.heap.size) :
    isJ (fun k => O k ∨ New w W5 k) W5 (.mk 5 0 nix ks l) [.int .i64 5, .int .i64 0, .string nix, .slice q1 ks.length c1, .slice q2 l.length c2] ∧ Below w.heap.size w W5 := by
 have s1 := hkeep.size
 have s2 := HK5.size
 have carry : ∀ i, (O i ∨ (wB.heap.size ≤ i ∧ i < wr.heap.size)) → (O i ∨ New w W5 i) ∧ W5.heap[i]? = wr.heap[i]? := by
  intro i hi
  rcases hi with hi | hi
  · have := hO i hi
    exact ⟨.inl hi, HK5.block i (by omega) (by unfold One; omega)⟩
  · exact ⟨.inr ⟨by omega, by omega⟩, HK5.block i (by omega) (by unfold One; omega)⟩
 refine ⟨?_, ?_⟩
 · unfold isJ
   exact ⟨q1, c1, q2, c2, rfl, hrk.carry fun i hi => carry i (.inr hi), hc, hrj.carry carry⟩
 · exact (hbw.trans (hkeep.below (by omega) fun k hk => by unfold One; omega)).trans (HK5.below (by omega) fun k hk => by unfold One; omega)
theorem cell_one_new (w : World) (v : Value) (t : Nat) : ∀ j u, [v][j]? = some u → (w.alloc (.cells #[v] t)).cell? ((⟨w.heap.size, 0, none⟩ : Addr).add j) = some u := by
 intro j u hj
 match j, hj with
 | 0, hj => simp at hj; subst hj; exact cell_row (cur := [_]) (heap_alloc_new _ _) 0 _ rfl
theorem str_one (x : ByteArray) : ∀ u ∈ [Value.string x], u.oneCell' = true := by
 intro u hu; simp at hu; subst hu; rfl
theorem cells_new5 (w : World) (t : Nat) (y0 y1 y2 y3 y4 : Value) : ∀ j u, [y0, y1, y2, y3, y4][j]? = some u → (w.alloc (.cells #[y0, y1, y2, y3, y4] t)).cell? ((⟨w.heap.size, 0, none⟩ : Addr).add j) = some u := by
 intro j u hj
 have e : (⟨w.heap.size, 0, none⟩ : Addr).add j = ⟨w.heap.size, j, none⟩ := by unfold Addr.add; split <;> simp_all
 rw [e]
 exact cell_row (cur := [_, _, _, _, _]) (heap_alloc_new _ _) j u hj
theorem mapOf_any {O : Nat → Prop} {w : World} {ks : List ByteArray} {l : List J} {pk pl : Option Addr} {ck cl : Nat} (hk : RdK O w pk ck ks) (hj : isJs O w pl 0 l) (hll : ks.length = l.length) (hO : ∀ k, O k → k < w.heap.size) (hn : ks.length ≤ 100000) (hd : ks.Pairwise (· ≠ ·)) :
    Calls Tryz.prog 123 #[.slice pk ks.length ck, .slice pl l.length cl] w fun e w' => ∃ cs, e = .returned (.agg cs) ∧ isJ (fun k => O k ∨ New w w' k) w' (mapOf ks l) cs.toList ∧ Below w.heap.size w w' := by
 have HLL : Hid (ks.length = l.length) := hll
 clear hll
 have hbA : Below w.heap.size w ((w.alloc (.cells #[.int .i64 0, .int .i64 0, .string ⟨#[]⟩, .slice none 0 0, .slice none 0 0] 38)).alloc (.cells #[.int .i64 5, .int .i64 0, .string ⟨#[]⟩, .slice none 0 0, .slice none 0 0] 38)) := ((Below.refl _ _).alloc (Nat.le_refl _) _).alloc (by simp) _
 have hkA := hk.below hO hbA
 have hszA : ((w.alloc (.cells #[.int .i64 0, .int .i64 0, .string ⟨#[]⟩, .slice none 0 0, .slice none 0 0] 38)).alloc (.cells #[.int .i64 5, .int .i64 0, .string ⟨#[]⟩, .slice none 0 0, .slice none 0 0] 38)).heap.size = w.heap.size + 2 := by simp
 have hob : ((w.alloc (.cells #[.int .i64 0, .int .i64 0, .string ⟨#[]⟩, .slice none 0 0, .slice none 0 0] 38)).alloc (.cells #[.int .i64 5, .int .i64 0, .string ⟨#[]⟩, .slice none 0 0, .slice none 0 0] 38)).heap[w.heap.size + 1]? = some (.cells #[.int .i64 5, .int .i64 0, .string ⟨#[]⟩, .slice none 0 0, .slice none 0 0] 38 (0, 0)) := by
  have := heap_alloc_new (w.alloc (.cells #[.int .i64 0, .int .i64 0, .string ⟨#[]⟩, .slice none 0 0, .slice none 0 0] 38)) (.cells #[.int .i64 5, .int .i64 0, .string ⟨#[]⟩, .slice none 0 0, .slice none 0 0] 38)
  rw [show (w.alloc (.cells #[.int .i64 0, .int .i64 0, .string ⟨#[]⟩, .slice none 0 0, .slice none 0 0] 38)).heap.size = w.heap.size + 1 by simp] at this
  exact this
 have hres : ((w.alloc (.cells #[.int .i64 0, .int .i64 0, .string ⟨#[]⟩, .slice none 0 0, .slice none 0 0] 38)).alloc (.cells #[.int .i64 5, .int .i64 0, .string ⟨#[]⟩, .slice none 0 0, .slice none 0 0] 38)).heap[w.heap.size]? = some (.cells #[.int .i64 0, .int .i64 0, .string ⟨#[]⟩, .slice none 0 0, .slice none 0 0] 38 (0, 0)) := by
  rw [Below.heap_alloc _ _ _ (by simp)]; exact heap_alloc_new _ _
 go_enter Tryz.func123, Tryz.ntmps123
 go_wp2_with (first
  | (go_at_call 134; refine (rising_any hkA (fun k hk => by have := hO k hk; rw [hszA]; omega) (by omega)).mono ?_; rintro e wB ⟨g, L, rfl, hP, hg1, hg2, hbB⟩))
 rw [hszA] at hg1 hbB
 have hszB := hbB.size
 rw [hszA] at hszB
 have hlen : L.length = ks.length := by rw [hP.1.length_eq]; simp
 have hbw : Below w.heap.size w wB := hbA.trans (hbB.mono (by omega))
 have hmi0 : MI O wB w.heap.size [] [] (.slice none 0 0) (.slice none 0 0) wB := ⟨(hbB.block _ (by omega)).trans hob, (hbB.block _ (by omega)).trans hres, World.ownsRow_nil _ _ _ _, ⟨[], World.ownsRow_nil _ _ _ _, rfl⟩, (fun i h => by cases h), Keep.refl _ _, by omega, hO⟩
 clear hob hres hkA
 go_loopw [12] (fun i wr => ∃ (k : Nat) (vk vl : Value), i = .int .i64 k ∧ k ≤ ks.length ∧ MI O wB w.heap.size ((sel ks l (L.take k)).map (·.1)) ((sel ks l (L.take k)).map (·.2)) vk vl wr) (fun i _ => ks.length - (intOf i).toNat)
 case atStart => exact ⟨0, _, _, rfl, Nat.zero_le _, hmi0⟩
 case round =>
  clear hmi0
  obtain ⟨k, vk, vl, rfl, hkn, hmi⟩ := hrel
  by_cases hlt : k < ks.length
  · obtain ⟨a, ha⟩ : ∃ a, L.getD k 0 = a := ⟨_, rfl⟩
    have hpl : wr.cell? ⟨g, k, none⟩ = some (.int .i64 (a : Int)) := by
     rw [hmi.keep.cell (p := ⟨g, k, none⟩) hg2 (by unfold One; simp only; omega), hP.2.2 k (by omega), ha]
    have hal : a < ks.length := by
     have hm : L.getD k 0 ∈ L := by rw [List.getD_eq_getElem?_getD, List.getElem?_eq_getElem (by omega)]; exact List.getElem_mem _
     have := hP.1.subset hm
     rw [ha] at this
     simpa using this
    have HSEL : Hid (sel ks l (L.take (k + 1)) = sel ks l (L.take k) ++ [(keyAtK ks a, valAt l a)]) := by
     unfold sel
     rw [List.take_add_one, List.getElem?_eq_getElem (by omega : k < L.length), List.map_append]
     rw [List.getD_eq_getElem?_getD, List.getElem?_eq_getElem (by omega : k < L.length)] at ha
     simp only [Option.getD_some] at ha
     rw [ha]; rfl
    obtain ⟨x, hx⟩ : ∃ x, keyAtK ks a = x := ⟨_, rfl⟩
    obtain ⟨y, hy⟩ : ∃ y, valAt l a = y := ⟨_, rfl⟩
    rw [hx, hy] at HSEL
    obtain ⟨adk, rfl, hadk, hck⟩ := hk.2 a hal
    change w.cell? (adk.add a) = some (.string (keyAtK ks a)) at hck
    rw [hx] at hck
    obtain ⟨lb, lo, cs, rfl, hadl, hcl', hyj⟩ := isJs.at l 0 a hj (by rw [← HLL.out]; exact hal)
    change isJ O w (valAt l a) cs at hyj
    rw [hy] at hyj
    rw [Nat.zero_add] at hcl'
    obtain ⟨y0, y1, y2, y3, y4, rfl⟩ : ∃ y0 y1 y2 y3 y4, cs = [y0, y1, y2, y3, y4] := by
     match cs, hyj.five with
     | [y0, y1, y2, y3, y4], _ => exact ⟨y0, y1, y2, y3, y4, rfl⟩
    have hone5 : ∀ u ∈ [y0, y1, y2, y3, y4], u.oneCell' = true := isJ_one hyj
    have hsel : (sel ks l (L.take k)).length = k := by unfold sel; simp; omega
    have hSkl : ((sel ks l (L.take k)).map (·.1)).length = k := by simp [hsel]
    have hSvl : ((sel ks l (L.take k)).map (·.2)).length = k := by simp [hsel]
    obtain ⟨Sk, hSk⟩ : ∃ Sk, (sel ks l (L.take k)).map (·.1) = Sk := ⟨_, rfl⟩
    obtain ⟨Sv, hSv⟩ : ∃ Sv, (sel ks l (L.take k)).map (·.2) = Sv := ⟨_, rfl⟩
    rw [hSk] at hSkl hmi
    rw [hSv] at hSvl hmi
    have HSk : Hid ((sel ks l (L.take (k + 1))).map (·.1) = Sk ++ [x]) := by rw [HSEL.out, List.map_append, hSk]; rfl
    have HSv : Hid ((sel ks l (L.take (k + 1))).map (·.2) = Sv ++ [y]) := by rw [HSEL.out, List.map_append, hSv]; rfl
    have hkeepO : ∀ {Sk' : List ByteArray} {Sv' : List J} {vk' vl' : Value} {W : World}, MI O wB w.heap.size Sk' Sv' vk' vl' W → ∀ i, O i → W.heap[i]? = w.heap[i]? := by
     intro Sk' Sv' vk' vl' W h i hi
     have := hO i hi
     rw [h.keep.block i (by omega) (by unfold One; omega), hbw.block i this]
    have hcx : ∀ {Sk' : List ByteArray} {Sv' : List J} {vk' vl' : Value} (W : World), MI O wB w.heap.size Sk' Sv' vk' vl' W → W.cell? (adk.add a) = some (.string x) := fun W h => (World.cell?_of_block (by rw [add_block]; exact hkeepO h _ hadk)).trans hck
    have hcl5 : ∀ i u, [y0, y1, y2, y3, y4][i]? = some u → w.cell? ⟨lb, lo + a * 5 + i, none⟩ = some u := hcl'
    have hcy : ∀ {Sk' : List ByteArray} {Sv' : List J} {vk' vl' : Value} (W : World), MI O wB w.heap.size Sk' Sv' vk' vl' W → W.cell? ⟨lb, lo + a * 5, none⟩ = some y0 ∧ W.cell? ⟨lb, lo + a * 5 + 1, none⟩ = some y1 ∧ W.cell? ⟨lb, lo + a * 5 + 2, none⟩ = some y2 ∧ W.cell? ⟨lb, lo + a * 5 + 3, none⟩ = some y3 ∧ W.cell? ⟨lb, lo + a * 5 + 4, none⟩ = some y4 := by
     intro Sk' Sv' vk' vl' W h
     have hh := hkeepO h _ hadl
     exact ⟨(World.cell?_of_block hh).trans (hcl5 0 _ rfl), (World.cell?_of_block hh).trans (hcl5 1 _ rfl), (World.cell?_of_block hh).trans (hcl5 2 _ rfl), (World.cell?_of_block hh).trans (hcl5 3 _ rfl), (World.cell?_of_block hh).trans (hcl5 4 _ rfl)⟩
    have hyJ : ∀ {Sk' : List ByteArray} {Sv' : List J} {vk' vl' : Value} (W : World), MI O wB w.heap.size Sk' Sv' vk' vl' W → isJ O W y [y0, y1, y2, y3, y4] := fun W h => hyj.carry fun i hi => ⟨hi, hkeepO h i hi⟩
    have hcx2 : ∀ {Sk' : List ByteArray} {Sv' : List J} {vk' vl' : Value} {W : World} {o : Obj} (W2 : World), (W.alloc o).grownBy W2 vk'.ownBlock → MI O wB w.heap.size Sk' Sv' vk' vl' W → W2.cell? (adk.add a) = some (.string x) := by
     intro Sk' Sv' vk' vl' W o W2 hg h
     have h1 := h.low _ hadk
     have h2 := h.size
     have h3 := h.lt
     have hgk := own_ge h.keys
     rw [World.cell?_of_block (w := W) (by rw [add_block]; exact grown_at hg (by omega) (fun e => by have := hgk _ e; omega))]
     exact hcx W h
    have hcyA : ∀ {Sk' : List ByteArray} {Sv' : List J} {vk' vl' : Value} (W : World), MI O wB w.heap.size Sk' Sv' vk' vl' W → (W.alloc (.cells #[y0, y1, y2, y3, y4] 38)).drew.cell? ⟨lb, lo + a * 5, none⟩ = some y0 ∧ (W.alloc (.cells #[y0, y1, y2, y3, y4] 38)).drew.cell? ⟨lb, lo + a * 5 + 1, none⟩ = some y1 ∧ (W.alloc (.cells #[y0, y1, y2, y3, y4] 38)).drew.cell? ⟨lb, lo + a * 5 + 2, none⟩ = some y2 ∧ (W.alloc (.cells #[y0, y1, y2, y3, y4] 38)).drew.cell? ⟨lb, lo + a * 5 + 3, none⟩ = some y3 ∧ (W.alloc (.cells #[y0, y1, y2, y3, y4] 38)).drew.cell? ⟨lb, lo + a * 5 + 4, none⟩ = some y4 := by
     intro Sk' Sv' vk' vl' W h
     have h1 := h.low _ hadl
     have h2 := h.size
     have h3 := h.lt
     have hh : (W.alloc (.cells #[y0, y1, y2, y3, y4] 38)).drew.heap[lb]? = W.heap[lb]? := Below.heap_alloc W _ _ (by omega)
     obtain ⟨g0, g1, g2, g3, g4⟩ := hcy W h
     exact ⟨(World.cell?_of_block hh).trans g0, (World.cell?_of_block hh).trans g1, (World.cell?_of_block hh).trans g2, (World.cell?_of_block hh).trans g3, (World.cell?_of_block hh).trans g4⟩
    have hcyB : ∀ {Sk' : List ByteArray} {Sv' : List J} {vk' vl' : Value} {W : World} {o : Obj} (W2 : World), (W.alloc o).grownBy W2 vl'.ownBlock → MI O wB w.heap.size Sk' Sv' vk' vl' W → W2.cell? ⟨lb, lo + a * 5, none⟩ = some y0 ∧ W2.cell? ⟨lb, lo + a * 5 + 1, none⟩ = some y1 ∧ W2.cell? ⟨lb, lo + a * 5 + 2, none⟩ = some y2 ∧ W2.cell? ⟨lb, lo + a * 5 + 3, none⟩ = some y3 ∧ W2.cell? ⟨lb, lo + a * 5 + 4, none⟩ = some y4 := by
     intro Sk' Sv' vk' vl' W o W2 hg h
     have h1 := h.low _ hadl
     have h2 := h.size
     have h3 := h.lt
     obtain ⟨xs, hv1, _⟩ := h.vals
     have hgv := own_ge hv1
     have hh : W2.heap[lb]? = W.heap[lb]? := grown_at hg (by omega) (fun e => by have := hgv _ e; omega)
     obtain ⟨g0, g1, g2, g3, g4⟩ := hcy W h
     exact ⟨(World.cell?_of_block hh).trans g0, (World.cell?_of_block hh).trans g1, (World.cell?_of_block hh).trans g2, (World.cell?_of_block hh).trans g3, (World.cell?_of_block hh).trans g4⟩
    have hal' : (a : Int) < (ks.length : Int) := by omega
    have hal2 : (a : Int) < (l.length : Int) := by have := HLL.out; omega
    have hSkb : Sk.length ≤ 100000 := by omega
    have hSvb : Sv.length ≤ 100000 := by omega
    clear hx hy hck hcl' hcl5 hSk hSv hsel hP hj hk hyj ha hSkl hSvl
    go_wp2
    have hmd := hmi.drew
    have hC0 : wr.drew.cell? (adk.add a) = some (.string x) := hcx wr hmi
    have hC1 : (wr.alloc (.cells #[.string x] 9)).drew.cell? (adk.add a) = some (.string x) := by
     have hh := World.cell?_of_block (a := adk.add a) (Below.heap_alloc wr (.cells #[.string x] 9) (adk.add a).block (by rw [add_block]; have := hmi.size; have := hmi.low _ hadk; have := hmi.lt; omega))
     exact hh.trans (hcx wr hmi)
    have d3 := hmd.c3
    have d3a : (wr.alloc (.cells #[.string x] 9)).drew.cell? ⟨w.heap.size + 1, 3, none⟩ = some vk := by
     have hh := World.cell?_of_block (a := ⟨w.heap.size + 1, 3, none⟩) (Below.heap_alloc wr (.cells #[.string x] 9) (w.heap.size + 1) (by have := hmi.size; have := hmi.lt; omega))
     exact hh.trans hmi.c3
    refine wp_region_in (by kernel_rfl) (fun w' => w'.cell? (adk.add a) = some (.string x)) ?_
    change wpIn _ _ _ _ _ _ _ _ (World.drew _)
    refine wpIn_tk (i := 0) (d := some 16) rfl ?_
    refine wpIn_tk (i := 2) (d := some 18) rfl ?_
    refine wpIn_tk (i := 3) (d := some 19) rfl ?_
    refine wpIn_tk (i := 4) (d := some 20) rfl ?_
    refine wpIn_tk (i := 5) (d := some 21) rfl ?_
    refine wpIn_pair (i := 1) (j := 6) hC0 (by kernel_rfl) rfl rfl (by rfl) (by rfl) ?_ ?_
    · intro K hK
      go_simp
      refine hK _ _ ?_
      clear hK K
      refine wpIn_do (i := 6) hC0 (by kernel_rfl) rfl (by rfl) ?_
      intro K hK
      go_simp
      refine hK _ _ ?_
      clear hK K
      refine wpIn_do (i := 7) hC1 (by kernel_rfl) rfl (by rfl) ?_
      intro K hK
      refine wp_append_at (.tmp 17) (.tmp 22) 22 rfl wB.heap.size 9 (.string ⟨#[]⟩) 1 16 Tryz.underlying22 Tryz.info9 rfl (by decide) (by decide) _ Sk.length (Sk.map Value.string) rfl (hmd.keys.alloc _) _ [.string x] rfl rfl (cell_one_new _ _ _) (str_one x) (by omega) (by have := hmi.size; simp; omega) ?_
      intro vk2 W2 hown2 hg2 hat2
      refine hK _ _ ?_
      clear hK K
      obtain ⟨q2, c2, hv2⟩ : ∃ q c, vk2 = .slice q (Sk.length + 1) c := by
       rcases hown2.2 with ⟨h', h0⟩ | ⟨g', cap', cur, h', _⟩
       · omega
       · exact ⟨_, _, h'⟩
      subst hv2
      have hg2' : (wr.drew.alloc (.cells #[.string x] 9)).grownBy W2 vk.ownBlock := hg2
      have hat2' : (Value.slice q2 (Sk.length + 1) c2).ownBlock = vk.ownBlock ∨ (Value.slice q2 (Sk.length + 1) c2).ownBlock = some (wr.drew.alloc (.cells #[.string x] 9)).heap.size := hat2
      obtain ⟨e3, f3, hmi3⟩ := hmd.key hown2 hg2' hat2'
      have hC2 := hcx2 W2 hg2' hmd
      have hC3 := hcx _ hmi3
      clear hown2 hg2 hat2 hg2' hat2' d3 d3a hC1 hC0
      refine wpIn_tk (i := 8) (d := some 24) rfl ?_
      refine wpIn_do (i := 9) hC2 (by kernel_rfl) rfl (by rfl) ?_
      intro K hK
      go_simp
      refine hK _ _ ?_
      clear hK K
      refine wpIn_done hC3 (by kernel_rfl) ?_ _
      clear hC2 hC3 e3 f3 hmd hmi
      go_wp2
      obtain ⟨wk, hwk⟩ : ∃ wk, wk = W2.setCell ⟨w.heap.size + 1, 3, none⟩ (.slice q2 (Sk.length + 1) c2) := ⟨_, rfl⟩
      rw [← hwk] at hmi3 ⊢
      clear hwk
      have hmd := hmi3.drew
      obtain ⟨xs, hv1, hv2⟩ := hmd.vals
      have hC0 := hcy wk.drew hmd
      have hC1 := hcyA wk hmi3
      have d4 := hmd.c4
      have d4a : (wk.alloc (.cells #[y0, y1, y2, y3, y4] 38)).drew.cell? ⟨w.heap.size + 1, 4, none⟩ = some vl := by
       have hh := World.cell?_of_block (a := ⟨w.heap.size + 1, 4, none⟩) (Below.heap_alloc wk (.cells #[y0, y1, y2, y3, y4] 38) (w.heap.size + 1) (by have := hmi3.size; have := hmi3.lt; omega))
       exact hh.trans hmi3.c4
      refine wp_region_in (by kernel_rfl) (fun w' => w'.cell? ⟨lb, lo + a * 5, none⟩ = some y0 ∧ w'.cell? ⟨lb, lo + a * 5 + 1, none⟩ = some y1 ∧ w'.cell? ⟨lb, lo + a * 5 + 2, none⟩ = some y2 ∧ w'.cell? ⟨lb, lo + a * 5 + 3, none⟩ = some y3 ∧ w'.cell? ⟨lb, lo + a * 5 + 4, none⟩ = some y4) ?_
      change wpIn _ _ _ _ _ _ _ _ (World.drew _)
      refine wpIn_tk (i := 0) (d := some 25) rfl ?_
      refine wpIn_tk (i := 2) (d := some 27) rfl ?_
      refine wpIn_tk (i := 3) (d := some 28) rfl ?_
      refine wpIn_tk (i := 4) (d := some 29) rfl ?_
      refine wpIn_tp (i := 5) (d := some 30) rfl (by (intro wq hq; obtain ⟨q0, q1, q2, q3, q4⟩ := hq; go_simp; first | done | with_reducible rfl)) ?_
      refine wpIn_pair (i := 1) (j := 6) hC0 (by kernel_rfl) rfl rfl (by rfl) (by rfl) ?_ ?_
      · intro K hK
        go_simp
        refine hK _ _ ?_
        clear hK K
        refine wpIn_do (i := 6) hC0 (by kernel_rfl) rfl (by rfl) ?_
        intro K hK
        go_simp
        refine hK _ _ ?_
        clear hK K
        refine wpIn_do (i := 7) hC1 (by kernel_rfl) rfl (by rfl) ?_
        intro K hK
        refine wp_append_at (.tmp 26) (.tmp 31) 36 rfl wB.heap.size 38 (.agg #[.int .i64 0, .int .i64 0, .string ⟨#[]⟩, .slice none 0 0, .slice none 0 0]) 5 80 Tryz.underlying36 Tryz.info38 rfl (by decide) (by decide) _ Sv.length xs rfl (hv1.alloc _) _ [y0, y1, y2, y3, y4] rfl rfl (cells_new5 _ _ _ _ _ _ _) hone5 (by omega) (by have := hmi3.size; simp; omega) ?_
        intro vl2 W4 hown4 hg4 hat4
        refine hK _ _ ?_
        clear hK K
        obtain ⟨q4, c4, hv4⟩ : ∃ q c, vl2 = .slice q (Sv.length + 1) c := by
         rcases hown4.2 with ⟨h', h0⟩ | ⟨g', cap', cur, h', _⟩
         · omega
         · exact ⟨_, _, h'⟩
        subst hv4
        have hg4' : (wk.drew.alloc (.cells #[y0, y1, y2, y3, y4] 38)).grownBy W4 vl.ownBlock := hg4
        have hat4' : (Value.slice q4 (Sv.length + 1) c4).ownBlock = vl.ownBlock ∨ (Value.slice q4 (Sv.length + 1) c4).ownBlock = some (wk.drew.alloc (.cells #[y0, y1, y2, y3, y4] 38)).heap.size := hat4
        obtain ⟨e4, f4, hmi5⟩ := hmd.val hv1 hv2 (hyJ wk.drew hmd) hown4 hg4' hat4'
        have hC2 := hcyB W4 hg4' hmd
        have hC3 := hcy _ hmi5
        clear hown4 hg4 hat4 hg4' hat4' d4 d4a hC1 hC0 hv1 hv2
        refine wpIn_tk (i := 8) (d := some 33) rfl ?_
        refine wpIn_do (i := 9) hC2 (by kernel_rfl) rfl (by rfl) ?_
        intro K hK
        go_simp
        refine hK _ _ ?_
        clear hK K
        refine wpIn_done hC3 (by kernel_rfl) ?_ _
        clear hC2 hC3 e4 f4 hmd hmi3
        go_wp2
        go_roundw
        case rel => exact ⟨k + 1, _, _, by go_num, by omega, by rw [HSk.out, HSv.out]; exact hmi5⟩
        case measure => simp [intOf]; omega
      · intro K hK
        go_simp
        refine hK _ _ ?_
        clear hK K
        refine wpIn_do (i := 1) hC1 (by kernel_rfl) rfl (by rfl) ?_
        intro K hK
        go_simp
        refine hK _ _ ?_
        clear hK K
        refine wpIn_do (i := 7) hC1 (by kernel_rfl) rfl (by rfl) ?_
        intro K hK
        refine wp_append_at (.tmp 26) (.tmp 31) 36 rfl wB.heap.size 38 (.agg #[.int .i64 0, .int .i64 0, .string ⟨#[]⟩, .slice none 0 0, .slice none 0 0]) 5 80 Tryz.underlying36 Tryz.info38 rfl (by decide) (by decide) _ Sv.length xs rfl (hv1.alloc _) _ [y0, y1, y2, y3, y4] rfl rfl (cells_new5 _ _ _ _ _ _ _) hone5 (by omega) (by have := hmi3.size; simp; omega) ?_
        intro vl2 W4 hown4 hg4 hat4
        refine hK _ _ ?_
        clear hK K
        obtain ⟨q4, c4, hv4⟩ : ∃ q c, vl2 = .slice q (Sv.length + 1) c := by
         rcases hown4.2 with ⟨h', h0⟩ | ⟨g', cap', cur, h', _⟩
         · omega
         · exact ⟨_, _, h'⟩
        subst hv4
        have hg4' : (wk.drew.alloc (.cells #[y0, y1, y2, y3, y4] 38)).grownBy W4 vl.ownBlock := hg4
        have hat4' : (Value.slice q4 (Sv.length + 1) c4).ownBlock = vl.ownBlock ∨ (Value.slice q4 (Sv.length + 1) c4).ownBlock = some (wk.drew.alloc (.cells #[y0, y1, y2, y3, y4] 38)).heap.size := hat4
        obtain ⟨e4, f4, hmi5⟩ := hmd.val hv1 hv2 (hyJ wk.drew hmd) hown4 hg4' hat4'
        have hC2 := hcyB W4 hg4' hmd
        have hC3 := hcy _ hmi5
        clear hown4 hg4 hat4 hg4' hat4' d4 d4a hC1 hC0 hv1 hv2
        refine wpIn_tk (i := 8) (d := some 33) rfl ?_
        refine wpIn_do (i := 9) hC2 (by kernel_rfl) rfl (by rfl) ?_
        intro K hK
        go_simp
        refine hK _ _ ?_
        clear hK K
        refine wpIn_done hC3 (by kernel_rfl) ?_ _
        clear hC2 hC3 e4 f4 hmd hmi3
        go_wp2
        go_roundw
        case rel => exact ⟨k + 1, _, _, by go_num, by omega, by rw [HSk.out, HSv.out]; exact hmi5⟩
        case measure => simp [intOf]; omega
    · intro K hK
      go_simp
      refine hK _ _ ?_
      clear hK K
      refine wpIn_do (i := 1) hC1 (by kernel_rfl) rfl (by rfl) ?_
      intro K hK
      go_simp
      refine hK _ _ ?_
      clear hK K
      refine wpIn_do (i := 7) hC1 (by kernel_rfl) rfl (by rfl) ?_
      intro K hK
      refine wp_append_at (.tmp 17) (.tmp 22) 22 rfl wB.heap.size 9 (.string ⟨#[]⟩) 1 16 Tryz.underlying22 Tryz.info9 rfl (by decide) (by decide) _ Sk.length (Sk.map Value.string) rfl (hmd.keys.alloc _) _ [.string x] rfl rfl (cell_one_new _ _ _) (str_one x) (by omega) (by have := hmi.size; simp; omega) ?_
      intro vk2 W2 hown2 hg2 hat2
      refine hK _ _ ?_
      clear hK K
      obtain ⟨q2, c2, hv2⟩ : ∃ q c, vk2 = .slice q (Sk.length + 1) c := by
       rcases hown2.2 with ⟨h', h0⟩ | ⟨g', cap', cur, h', _⟩
       · omega
       · exact ⟨_, _, h'⟩
      subst hv2
      have hg2' : (wr.drew.alloc (.cells #[.string x] 9)).grownBy W2 vk.ownBlock := hg2
      have hat2' : (Value.slice q2 (Sk.length + 1) c2).ownBlock = vk.ownBlock ∨ (Value.slice q2 (Sk.length + 1) c2).ownBlock = some (wr.drew.alloc (.cells #[.string x] 9)).heap.size := hat2
      obtain ⟨e3, f3, hmi3⟩ := hmd.key hown2 hg2' hat2'
      have hC2 := hcx2 W2 hg2' hmd
      have hC3 := hcx _ hmi3
      clear hown2 hg2 hat2 hg2' hat2' d3 d3a hC1 hC0
      refine wpIn_tk (i := 8) (d := some 24) rfl ?_
      refine wpIn_do (i := 9) hC2 (by kernel_rfl) rfl (by rfl) ?_
      intro K hK
      go_simp
      refine hK _ _ ?_
      clear hK K
      refine wpIn_done hC3 (by kernel_rfl) ?_ _
      clear hC2 hC3 e3 f3 hmd hmi
      go_wp2
      obtain ⟨wk, hwk⟩ : ∃ wk, wk = W2.setCell ⟨w.heap.size + 1, 3, none⟩ (.slice q2 (Sk.length + 1) c2) := ⟨_, rfl⟩
      rw [← hwk] at hmi3 ⊢
      clear hwk
      have hmd := hmi3.drew
      obtain ⟨xs, hv1, hv2⟩ := hmd.vals
      have hC0 := hcy wk.drew hmd
      have hC1 := hcyA wk hmi3
      have d4 := hmd.c4
      have d4a : (wk.alloc (.cells #[y0, y1, y2, y3, y4] 38)).drew.cell? ⟨w.heap.size + 1, 4, none⟩ = some vl := by
       have hh := World.cell?_of_block (a := ⟨w.heap.size + 1, 4, none⟩) (Below.heap_alloc wk (.cells #[y0, y1, y2, y3, y4] 38) (w.heap.size + 1) (by have := hmi3.size; have := hmi3.lt; omega))
       exact hh.trans hmi3.c4
      refine wp_region_in (by kernel_rfl) (fun w' => w'.cell? ⟨lb, lo + a * 5, none⟩ = some y0 ∧ w'.cell? ⟨lb, lo + a * 5 + 1, none⟩ = some y1 ∧ w'.cell? ⟨lb, lo + a * 5 + 2, none⟩ = some y2 ∧ w'.cell? ⟨lb, lo + a * 5 + 3, none⟩ = some y3 ∧ w'.cell? ⟨lb, lo + a * 5 + 4, none⟩ = some y4) ?_
      change wpIn _ _ _ _ _ _ _ _ (World.drew _)
      refine wpIn_tk (i := 0) (d := some 25) rfl ?_
      refine wpIn_tk (i := 2) (d := some 27) rfl ?_
      refine wpIn_tk (i := 3) (d := some 28) rfl ?_
      refine wpIn_tk (i := 4) (d := some 29) rfl ?_
      refine wpIn_tp (i := 5) (d := some 30) rfl (by (intro wq hq; obtain ⟨q0, q1, q2, q3, q4⟩ := hq; go_simp; first | done | with_reducible rfl)) ?_
      refine wpIn_pair (i := 1) (j := 6) hC0 (by kernel_rfl) rfl rfl (by rfl) (by rfl) ?_ ?_
      · intro K hK
        go_simp
        refine hK _ _ ?_
        clear hK K
        refine wpIn_do (i := 6) hC0 (by kernel_rfl) rfl (by rfl) ?_
        intro K hK
        go_simp
        refine hK _ _ ?_
        clear hK K
        refine wpIn_do (i := 7) hC1 (by kernel_rfl) rfl (by rfl) ?_
        intro K hK
        refine wp_append_at (.tmp 26) (.tmp 31) 36 rfl wB.heap.size 38 (.agg #[.int .i64 0, .int .i64 0, .string ⟨#[]⟩, .slice none 0 0, .slice none 0 0]) 5 80 Tryz.underlying36 Tryz.info38 rfl (by decide) (by decide) _ Sv.length xs rfl (hv1.alloc _) _ [y0, y1, y2, y3, y4] rfl rfl (cells_new5 _ _ _ _ _ _ _) hone5 (by omega) (by have := hmi3.size; simp; omega) ?_
        intro vl2 W4 hown4 hg4 hat4
        refine hK _ _ ?_
        clear hK K
        obtain ⟨q4, c4, hv4⟩ : ∃ q c, vl2 = .slice q (Sv.length + 1) c := by
         rcases hown4.2 with ⟨h', h0⟩ | ⟨g', cap', cur, h', _⟩
         · omega
         · exact ⟨_, _, h'⟩
        subst hv4
        have hg4' : (wk.drew.alloc (.cells #[y0, y1, y2, y3, y4] 38)).grownBy W4 vl.ownBlock := hg4
        have hat4' : (Value.slice q4 (Sv.length + 1) c4).ownBlock = vl.ownBlock ∨ (Value.slice q4 (Sv.length + 1) c4).ownBlock = some (wk.drew.alloc (.cells #[y0, y1, y2, y3, y4] 38)).heap.size := hat4
        obtain ⟨e4, f4, hmi5⟩ := hmd.val hv1 hv2 (hyJ wk.drew hmd) hown4 hg4' hat4'
        have hC2 := hcyB W4 hg4' hmd
        have hC3 := hcy _ hmi5
        clear hown4 hg4 hat4 hg4' hat4' d4 d4a hC1 hC0 hv1 hv2
        refine wpIn_tk (i := 8) (d := some 33) rfl ?_
        refine wpIn_do (i := 9) hC2 (by kernel_rfl) rfl (by rfl) ?_
        intro K hK
        go_simp
        refine hK _ _ ?_
        clear hK K
        refine wpIn_done hC3 (by kernel_rfl) ?_ _
        clear hC2 hC3 e4 f4 hmd hmi3
        go_wp2
        go_roundw
        case rel => exact ⟨k + 1, _, _, by go_num, by omega, by rw [HSk.out, HSv.out]; exact hmi5⟩
        case measure => simp [intOf]; omega
      · intro K hK
        go_simp
        refine hK _ _ ?_
        clear hK K
        refine wpIn_do (i := 1) hC1 (by kernel_rfl) rfl (by rfl) ?_
        intro K hK
        go_simp
        refine hK _ _ ?_
        clear hK K
        refine wpIn_do (i := 7) hC1 (by kernel_rfl) rfl (by rfl) ?_
        intro K hK
        refine wp_append_at (.tmp 26) (.tmp 31) 36 rfl wB.heap.size 38 (.agg #[.int .i64 0, .int .i64 0, .string ⟨#[]⟩, .slice none 0 0, .slice none 0 0]) 5 80 Tryz.underlying36 Tryz.info38 rfl (by decide) (by decide) _ Sv.length xs rfl (hv1.alloc _) _ [y0, y1, y2, y3, y4] rfl rfl (cells_new5 _ _ _ _ _ _ _) hone5 (by omega) (by have := hmi3.size; simp; omega) ?_
        intro vl2 W4 hown4 hg4 hat4
        refine hK _ _ ?_
        clear hK K
        obtain ⟨q4, c4, hv4⟩ : ∃ q c, vl2 = .slice q (Sv.length + 1) c := by
         rcases hown4.2 with ⟨h', h0⟩ | ⟨g', cap', cur, h', _⟩
         · omega
         · exact ⟨_, _, h'⟩
        subst hv4
        have hg4' : (wk.drew.alloc (.cells #[y0, y1, y2, y3, y4] 38)).grownBy W4 vl.ownBlock := hg4
        have hat4' : (Value.slice q4 (Sv.length + 1) c4).ownBlock = vl.ownBlock ∨ (Value.slice q4 (Sv.length + 1) c4).ownBlock = some (wk.drew.alloc (.cells #[y0, y1, y2, y3, y4] 38)).heap.size := hat4
        obtain ⟨e4, f4, hmi5⟩ := hmd.val hv1 hv2 (hyJ wk.drew hmd) hown4 hg4' hat4'
        have hC2 := hcyB W4 hg4' hmd
        have hC3 := hcy _ hmi5
        clear hown4 hg4 hat4 hg4' hat4' d4 d4a hC1 hC0 hv1 hv2
        refine wpIn_tk (i := 8) (d := some 33) rfl ?_
        refine wpIn_do (i := 9) hC2 (by kernel_rfl) rfl (by rfl) ?_
        intro K hK
        go_simp
        refine hK _ _ ?_
        clear hK K
        refine wpIn_done hC3 (by kernel_rfl) ?_ _
        clear hC2 hC3 e4 f4 hmd hmi3
        go_wp2
        go_roundw
        case rel => exact ⟨k + 1, _, _, by go_num, by omega, by rw [HSk.out, HSv.out]; exact hmi5⟩
        case measure => simp [intOf]; omega
  · obtain rfl : k = ks.length := by omega
    have hLt : L.take ks.length = L := List.take_of_length_le (by omega)
    rw [hLt, places_sort hP hd HLL.out] at hmi
    obtain ⟨xs, hv1, hv2⟩ := hmi.vals
    have hkl : ((sortK (ks.zip l)).map (·.1)).length = ks.length := by rw [List.length_map, sortK_length]; simp; have := HLL.out; omega
    have hvl : ((sortK (ks.zip l)).map (·.2)).length = ks.length := by rw [List.length_map, sortK_length]; simp; have := HLL.out; omega
    obtain ⟨q1, c1, hvk, hrk⟩ := own_rdK hmi.keys
    obtain ⟨q2, c2, hvl2, hc2, hrj⟩ := own_js hv1 hv2
    subst hvk hvl2
    have j0 := five_c0 hmi.obj; have j1 := five_c1 hmi.obj; have j2 := five_c2 hmi.obj; have j3 := five_c3 hmi.obj; have j4 := five_c4 hmi.obj
    have i0 := five_c0 hmi.res; have i1 := five_c1 hmi.res; have i2 := five_c2 hmi.res; have i3 := five_c3 hmi.res; have i4 := five_c4 hmi.res
    have z0 := five_fz hmi.res 0; have z1 := five_fz hmi.res 1; have z2 := five_fz hmi.res 2; have z3 := five_fz hmi.res 3; have z4 := five_fz hmi.res 4
    have h5 := set5_heap hmi.res (.int .i64 5) (.int .i64 0) (.string ⟨#[]⟩) (.slice q1 ((sortK (ks.zip l)).map (·.1)).length c1) (.slice q2 ((sortK (ks.zip l)).map (·.2)).length c2)
    have HK5 : Keep (One w.heap.size) wr _ := set5_keep wr w.heap.size (.int .i64 5) (.int .i64 0) (.string ⟨#[]⟩) (.slice q1 ((sortK (ks.zip l)).map (·.1)).length c1) (.slice q2 ((sortK (ks.zip l)).map (·.2)).length c2)
    have hsz := hmi.size
    have hkeep := hmi.keep
    unfold set5 at h5 HK5
    have HRK : Hid (RdK (fun k => wB.heap.size ≤ k ∧ k < wr.heap.size) wr q1 c1 ((sortK (ks.zip l)).map (·.1))) := hrk
    have HRJ : Hid (isJs (fun k => O k ∨ (wB.heap.size ≤ k ∧ k < wr.heap.size)) wr q2 0 ((sortK (ks.zip l)).map (·.2))) := hrj
    have k0 := five_c0 h5; have k1 := five_c1 h5; have k2 := five_c2 h5; have k3 := five_c3 h5; have k4 := five_c4 h5
    obtain ⟨n1, hn1⟩ : ∃ n1, ((sortK (ks.zip l)).map (·.1)).length = n1 := ⟨_, rfl⟩
    obtain ⟨n2, hn2⟩ : ∃ n2, ((sortK (ks.zip l)).map (·.2)).length = n2 := ⟨_, rfl⟩
    rw [hn1, hn2] at h5 HK5 k3 k4
    rw [hn1] at j3 k0 k1 k2
    rw [hn2] at j4 k0 k1 k2
    clear hrk hrj hv1 hv2 hmi hP hkl hvl hk hj
    go_wp2
    refine bodyPost_ret (v := .agg #[.int .i64 5, .int .i64 0, .string ⟨#[]⟩, .slice q1 n1 c1, .slice q2 n2 c2]) (by simp [results, Tryz.results123, go_sem, k0, k1, k2, k3, k4]) rfl ?_
    obtain ⟨r1, r2⟩ := map_end hO hbw hkeep HK5 HRK.out HRJ.out hc2 (by omega)
    rw [hn1, hn2] at r1
    exact ⟨_, rfl, r1, r2⟩
end Go.Proofs.YtimhpglfolbomabGreat

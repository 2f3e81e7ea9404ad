/-
  within, Union, Common, Apart, by contracts.
-/
import Derived.Test.YtmkppbcngpgkdabOCounted
import Derived.Maps.RangeWalk
namespace Go.Proofs.Ytmkppbcngpgkdab
open Go.RowKit Go.Maps

theorem wf_of_lit {x : Int} (h : (Lit.int .i64 x).wf = true) : wf64 x := by
  have h1 : IntKind.i64.min = -9223372036854775808 := rfl
  have h2 : IntKind.i64.max = 9223372036854775807 := rfl
  unfold wf64
  simp only [Lit.wf, Bool.and_eq_true, decide_eq_true_eq] at h
  omega
theorem wpList_next_cnt (w : World) {ops : Array Oper} {rest : List Oper} {o : Oper} {a : Act} {Q : Exit → Act → World → Prop} (hg : o.guard = none) (it : Operand) (hop : o.op = Op.next it false)
    (b r n : Nat) (D : DataW Unit) (left : Lit → Bool) (cnt : Nat) (hit : a.eval it = .pointer (some ⟨r, 0, none⟩)) (h : w.ranges Try.prog 3 cntElem b r n D left cnt)
    (hDone : cnt = 0 → (∀ kl, left kl = false) → wpList Try.prog ops Q rest (a.put o.dst (.tuple #[.bool false])) w)
    (hMore : ∀ (x : Int) (c : Int × Int) (w' : World) (cnt' : Nat), wf64 x → left (klI x) = true → (∀ zd, D.atKey (klI x) zd = cntD c.1 c.2) → w'.ranges Try.prog 3 cntElem b r n D (fun z => left z && !z.sameKey (klI x)) cnt' → cnt' < cnt →
      w.grownBy w' (some r) → w'.heap.size = w.heap.size → (Instr.entry (.pointer (some ⟨r, 0, none⟩))).run Try.prog w' = .ok (.tuple #[.int .i64 x, .agg #[.int .i64 c.1, .int .i64 c.2]]) w' → wpList Try.prog ops Q rest (a.put o.dst (.tuple #[.bool true, .int .i64 x, .agg #[.int .i64 c.1, .int .i64 c.2]])) w') :
    wpList Try.prog ops Q (o :: rest) a w :=
  wpList_next_ranges w hg it hop 3 lawI cntElem (Value.int .i64) cntV (fun key kl hkey => by obtain ⟨x, rfl, _⟩ := Maps.keyOf_int_inv Try.underlying3 hkey; exact ⟨x, rfl⟩) (fun v y hv => by obtain ⟨c, rfl, _⟩ := cntElem_inv hv; exact ⟨c, rfl⟩)
    b r n D left cnt hit h hDone (fun x c kl y w' cnt' hkey hlk hv hat hrg hlt hgr hsz hen => by
      obtain ⟨x', ex, rfl, hwx⟩ := Maps.keyOf_int_inv Try.underlying3 hkey
      cases ex
      obtain ⟨c', ec, rfl⟩ := cntElem_inv hv
      obtain rfl : c = c' := by
        unfold cntV at ec
        simp at ec
        exact Prod.ext ec.1 ec.2
      exact hMore x c w' cnt' (wf_of_lit hwx) hlk hat hrg hlt hgr hsz hen)
/-- Those met so far. -/
structure Col (P : List (List Int)) (lo hi : Int) (left : Lit → Bool) (L : List Int) : Prop where
  nodup : L.Nodup
  mem : ∀ x, x ∈ L ↔ wf64 x ∧ 0 < fr P x ∧ left (klI x) = false ∧ lo ≤ fr P x ∧ fr P x ≤ hi
theorem ct_full {P : List (List Int)} {D : DataW Unit} (h : Ct P P.length 0 D) : (∀ x, wf64 x → Maps.has D (klI x) = decide (0 < fr P x)) ∧ ∀ x, wf64 x → ∀ c : Int × Int, (∀ z, D.atKey (klI x) z = cntD c.1 c.2) → c.1 = (fr P x : Int) ∧ 0 < fr P x := by
  have e : ∀ x, fj P P.length 0 x = fr P x := fun x => by rw [fj_zero, List.take_length]
  refine ⟨fun x hx => by rw [h.has x hx, e], fun x hx c hc => ?_⟩
  have h1 := has_true_of_atKey hc
  rw [h.has x hx, e, decide_eq_true_eq] at h1
  obtain ⟨l, h2, _⟩ := h.cnt x hx (by rw [e]; exact h1)
  have h3 := h2 (cntD 0 0)
  rw [hc, e] at h3
  exact ⟨(cntD_inj h3).1, h1⟩
theorem Col.start {P : List (List Int)} {D : DataW Unit} (lo hi : Int) (h : Ct P P.length 0 D) : Col P lo hi (Maps.has D) [] := by
  refine ⟨List.nodup_nil, fun x => ⟨fun hx => by simp at hx, ?_⟩⟩
  rintro ⟨h1, h2, h3, _⟩
  rw [(ct_full h).1 x h1, decide_eq_false_iff_not] at h3
  exact absurd h2 h3
theorem strike_at (left : Lit → Bool) (x y : Int) : (left (klI y) && !(klI y).sameKey (klI x)) = false ↔ left (klI y) = false ∨ y = x := by
  by_cases e : y = x
  · subst e
    simp [WideAt.sameKey_self (klI_key y)]
  · rw [sameKey_ne (fun h => e (klI_inj h))]
    simp [e]
theorem Col.yes {P : List (List Int)} {lo hi : Int} {left : Lit → Bool} {L : List Int} (h : Col P lo hi left L) {x : Int} (hx : wf64 x) (hf : 0 < fr P x) (hl : left (klI x) = true) (h1 : lo ≤ fr P x) (h2 : fr P x ≤ hi) : Col P lo hi (fun z => left z && !z.sameKey (klI x)) (L ++ [x]) := by
  have hn : x ∉ L := fun hm => by have := ((h.mem x).1 hm).2.2.1; rw [hl] at this; cases this
  refine ⟨?_, fun y => ?_⟩
  · rw [List.nodup_append]
    refine ⟨h.nodup, by simp, fun a ha c hc => ?_⟩
    rw [List.mem_singleton.1 hc]
    rintro rfl
    exact hn ha
  · simp only [strike_at, List.mem_append, List.mem_singleton, h.mem y]
    constructor
    · rintro (⟨a, b, c, d⟩ | rfl)
      · exact ⟨a, b, .inl c, d⟩
      · exact ⟨hx, hf, .inr rfl, h1, h2⟩
    · rintro ⟨a, b, c | c, d⟩
      · exact .inl ⟨a, b, c, d⟩
      · exact .inr c
theorem Col.no {P : List (List Int)} {lo hi : Int} {left : Lit → Bool} {L : List Int} (h : Col P lo hi left L) {x : Int} (hn : ¬ (lo ≤ fr P x ∧ fr P x ≤ hi)) : Col P lo hi (fun z => left z && !z.sameKey (klI x)) L := by
  refine ⟨h.nodup, fun y => ?_⟩
  simp only [strike_at, h.mem y]
  constructor
  · rintro ⟨a, b, c, d⟩; exact ⟨a, b, .inl c, d⟩
  · rintro ⟨a, b, c | rfl, d⟩
    · exact ⟨a, b, c, d⟩
    · exact absurd d hn
/-- What is told: rising, and just those. -/
structure Rs (P : List (List Int)) (lo hi : Int) (l : List Int) : Prop where
  rise : l.Pairwise (· < ·)
  mem : ∀ x, x ∈ l ↔ 0 < fr P x ∧ lo ≤ fr P x ∧ fr P x ≤ hi
theorem Col.done {P : List (List Int)} {lo hi : Int} {left : Lit → Bool} {L : List Int} (h : Col P lo hi left L) (hl : ∀ kl, left kl = false) (hw : ∀ r ∈ P, ∀ y ∈ r, wf64 y) : Rs P lo hi (L.mergeSort fun x y => decide (x ≤ y)) := by
  have hp : (L.mergeSort fun x y => decide (x ≤ y)).Perm L := List.mergeSort_perm _ _
  have hso : (L.mergeSort fun x y => decide (x ≤ y)).Pairwise fun x y => decide (x ≤ y) = true :=
    List.pairwise_mergeSort (le := fun x y : Int => decide (x ≤ y)) (fun a b c h1 h2 => by simp at *; omega) (fun a b => by simp; omega) _
  have hnd : (L.mergeSort fun x y => decide (x ≤ y)).Pairwise (· ≠ ·) := hp.nodup_iff.2 h.nodup
  refine ⟨(hso.and hnd).imp fun ⟨h1, h2⟩ => by simp at h1; omega, fun x => ?_⟩
  rw [hp.mem_iff, h.mem x]
  constructor
  · rintro ⟨_, b, _, d⟩; exact ⟨b, d⟩
  · rintro ⟨b, d⟩
    obtain ⟨r, hr, hx⟩ := fr_pos.1 b
    exact ⟨hw r hr x hx, b, hl _, d⟩
theorem ranges_apart {w : World} {B b r n : Nat} {D : DataW Unit} {left : Lit → Bool} {cnt : Nat} {v : Value} {m : Nat} {xs : List Value} (h : w.ranges Try.prog 3 cntElem b r n D left cnt) (ho : w.ownsRow B 3 1 v m xs) : v.ownBlock ≠ some b ∧ v.ownBlock ≠ some r := by
  obtain ⟨es, clock, since, seen, c0, hb, _, _, _, hr, _⟩ := h
  rcases ho.2 with ⟨rfl, _⟩ | ⟨g, cap, cur, rfl, _, hg, _⟩
  · simp [Value.ownBlock]
  · refine ⟨fun e => ?_, fun e => ?_⟩
    · simp [Value.ownBlock] at e
      rw [e, hb] at hg
      cases hg
    · simp [Value.ownBlock] at e
      rw [e, hr] at hg
      cases hg
/-- What within tells. -/
def WithinP (P : List (List Int)) (lo hi : Int) (w : World) (e : Ending) (w' : World) : Prop :=
  ∃ v l, e = .returned v ∧ w'.ownsRow w.heap.size 3 1 v l.length (l.map (Value.int .i64)) ∧ Rs P lo hi l ∧ l.length ≤ 1000000 ∧ Below w.heap.size w w'

set_option maxRecDepth 100000 in
set_option maxHeartbeats 8000000 in
theorem within_any (P : List (List Int)) (lo hi : Int) (p : Option Addr) (c : Nat) (w : World) (r : RdR (· < w.heap.size) w p c P) (hP : P.length ≤ 1000) (hl : ∀ x ∈ P, x.length ≤ 1000) (hw : ∀ x ∈ P, ∀ y ∈ x, wf64 y) :
    Calls Try.prog 11 #[.slice p P.length c, .int .i64 lo, .int .i64 hi] w (WithinP P lo hi w) := by
  have hcn := counted_any P p c w r hP hl hw
  have HW : Hid (∀ x ∈ P, ∀ y ∈ x, wf64 y) := hw
  have HS : Hid (∀ (wx : World) v (l : List Int), wx.ownsRow w.heap.size 3 1 v l.length (l.map (Value.int .i64)) → l.length ≤ 1000000 → Calls Try.prog 14 #[v] wx fun e w' => e = .returned (.tuple #[]) ∧ w'.ownsRow w.heap.size 3 1 v l.length ((l.mergeSort fun x y => decide (x ≤ y)).map (Value.int .i64)) ∧ wx.grownBy w' v.ownBlock) := fun wx v l h1 h2 => sort_own wx h1 h2
  generalize P.length = n at *
  clear hl hw r hP
  go_enter Try.func11, Try.ntmps11
  go_wp2_with (first
    | (go_at_call 13; refine hcn.mono ?_; rintro e w1 ⟨mb, N, D, rfl, hmb, hown, hN, hct, hb1⟩; have HC : Hid _ := hct; clear hct hcn)
    | (at_range; refine wpList_range_own _ rfl _ 34 rfl 3 37 lawI Try.underlying34 _ mb N _ rfl hown ?_; intro w2 hrg0 hg0 hs0))
  have hbl0 : Below w.heap.size w w2 := hb1.grown hg0 hb1.size (fun k hk => by cases hk)
  have HC0 : Hid (Col P lo hi (Maps.has D) []) := Col.start lo hi HC.out
  have hsz0 : Maps.size D ≤ N := hown.size_le
  have HF : Hid (∀ x, wf64 x → ∀ c : Int × Int, (∀ z, D.atKey (klI x) z = cntD c.1 c.2) → c.1 = (fr P x : Int) ∧ 0 < fr P x) := (ct_full HC.out).2
  obtain ⟨B, hB⟩ : ∃ B, w.heap.size = B := ⟨_, rfl⟩
  have HB : Hid (w.heap.size = B) := hB
  rw [hB] at hbl0 HS hmb
  obtain ⟨ri, hri⟩ : ∃ ri, w1.heap.size = ri := ⟨_, rfl⟩
  have hB1 : B ≤ ri := by rw [← hB, ← hri]; exact hb1.size
  rw [hri] at hrg0
  go_frame
  rw [hri]
  clear hB hri hg0 hs0 hb1 hown HC
  go_loopw [7] (fun tv wr => ∃ (left : Lit → Bool) (cnt : Nat) (L : List Int), wr.ranges Try.prog 3 cntElem mb ri N D left cnt ∧ wr.ownsRow B 3 1 tv L.length (L.map (Value.int .i64)) ∧ Hid (Col P lo hi left L) ∧ L.length + cnt ≤ N ∧ Below B w wr) (fun _ wr => wr.rangeLeft mb ri)
  case atStart => exact ⟨_, _, [], hrg0, World.ownsRow_nil _ _ _ _, HC0, by simpa using hsz0, hbl0⟩
  case round =>
    clear hrg0 HC0 hsz0 hbl0
    obtain ⟨left, cnt, L, hrg, hown, HC, hLN, hbl⟩ := hrel
    go_wp2_with (first
      | (at_next; refine wpList_next_cnt _ rfl _ rfl mb ri N _ _ _ rfl hrg ?done ?more))
    case done =>
      intro _ hl0
      have HD : Hid (Rs P lo hi (L.mergeSort fun x y => decide (x ≤ y))) := HC.out.done hl0 HW.out
      have hso := HS.out wr _ L hown (by omega)
      go_wp2_with (first
        | (go_at_call 14; refine hso.mono ?_; rintro e w3 ⟨rfl, ho3, hg3⟩))
      go_ret
      have hbB := hbl.size
      refine ⟨_, _, rfl, ?_, HD.out, by rw [List.length_mergeSort]; omega, ?_⟩
      · rw [HB.out, List.length_mergeSort]; exact ho3
      · rw [HB.out]
        exact hbl.grown hg3 (by have := HB.out; omega) fun k hk => (hown.lt k hk).1
    case more =>
      intro x c1 c2 w3 cnt3 hwx hlx hat hrg3 hlt3 hg3 hs3 hen
      obtain ⟨hc1, hf⟩ := HF.out x hwx (c1, c2) hat
      simp only at hc1
      subst hc1
      have hap := ranges_apart hrg hown
      have hap2 := hrg.lt
      have hbB := hbl.size
      have hown3 := hown.kept hg3 (.inr hap.2)
      have hbl3 : Below B w w3 := hbl.grown hg3 (by have := HB.out; omega) fun k hk => by cases hk; exact hB1
      have HLt : Hid (left (klI x) = true) := hlx
      have HWx : Hid (wf64 x) := hwx
      clear hown hg3 hlx hat hwx
      have HYes : Hid (lo ≤ fr P x → fr P x ≤ hi → Col P lo hi (fun z => left z && !z.sameKey (klI x)) (L ++ [x])) := fun h1 h2 => HC.out.yes HWx.out hf HLt.out h1 h2
      have HNo : Hid (¬ (lo ≤ fr P x ∧ fr P x ≤ hi) → Col P lo hi (fun z => left z && !z.sameKey (klI x)) L) := fun h => HC.out.no h
      generalize (fr P x : Int) = f at *
      by_cases h1 : lo ≤ f
      · have d1 : decide (lo ≤ f) = true := decide_eq_true h1
        by_cases h2 : f ≤ hi
        · have HCy := HYes.out h1 h2
          have HCY : Hid _ := HCy
          clear HYes HNo HCy HC
          go_wp2_with (first
            | (at_builtin; refine wpList_push rfl (.tmp 28) (.tmp 30) 24 3 (.int .i64 0) 8 rfl Try.underlying24 Try.info3 rfl (by decide) int_one B _ L rfl ?a0 _ x rfl ?a1 ?a2 ?a3 ?_))
          case a0 => exact (hown3.alloc _).alloc _
          case a1 =>
            rw [show wr.heap.size + 1 = (w3.alloc (.cells #[.int .i64 f, .int .i64 c2] 37)).heap.size by simp [hs3]]
            exact cell_row (cur := [_]) (heap_alloc_new _ _) 0 _ rfl
          case a2 => omega
          case a3 => simp; omega
          intro v' w5 ho5 hg5 _
          have ho6 : w5.ownsRow B 3 1 v' (L ++ [x]).length ((L ++ [x]).map (Value.int .i64)) := by rw [List.length_append, List.map_append]; exact ho5
          have hrg5 := ((hrg3.alloc _).alloc _).kept hg5 (fun e => hap.1 e.symm) (fun e => hap.2 e.symm)
          have hbl5 : Below B w w5 := ((hbl3.alloc (by omega) _).alloc (by simp; omega) _).grown hg5 (by simp; omega) fun k hk => (hown3.lt k hk).1
          clear ho5 hg5
          go_wp2
          go_roundw
          case rel => exact ⟨_, cnt3, L ++ [x], hrg5, ho6, HCY, by simp; omega, hbl5⟩
          case measure => rw [hrg5.left_eq, hrg.left_eq]; exact hlt3
        · have d2 : decide (f ≤ hi) = false := decide_eq_false h2
          have HCN : Hid _ := HNo.out (fun h => h2 h.2)
          clear HYes HNo HC
          go_wp2
          go_roundw
          case rel => exact ⟨_, cnt3, L, hrg3.alloc _, hown3.alloc _, HCN, by omega, hbl3.alloc (by omega) _⟩
          case measure => rw [(hrg3.alloc _).left_eq, hrg.left_eq]; exact hlt3
      · have d1 : decide (lo ≤ f) = false := decide_eq_false h1
        have HCN : Hid _ := HNo.out (fun h => h1 h.1)
        clear HYes HNo HC
        go_wp2
        go_roundw
        case rel => exact ⟨_, cnt3, L, hrg3.alloc _, hown3.alloc _, HCN, by omega, hbl3.alloc (by omega) _⟩
        case measure => rw [(hrg3.alloc _).left_eq, hrg.left_eq]; exact hlt3

set_option maxHeartbeats 1000000 in
theorem union_any (P : List (List Int)) (p : Option Addr) (c : Nat) (w : World) (r : RdR (· < w.heap.size) w p c P) (hP : P.length ≤ 1000) (hl : ∀ x ∈ P, x.length ≤ 1000) (hw : ∀ x ∈ P, ∀ y ∈ x, wf64 y) :
    Calls Try.prog 5 #[.slice p P.length c] w (WithinP P 1 P.length w) := by
  have hc := within_any P 1 P.length p c w r hP hl hw
  generalize P.length = n at *
  clear r hl hw
  go_enter Try.func5, Try.ntmps5
  go_wp2_with (first
    | (go_at_call 11; refine hc.mono ?_; rintro e w1 ⟨v, l, rfl, h⟩))
  go_ret
  exact ⟨v, l, rfl, h⟩
set_option maxHeartbeats 1000000 in
theorem common_any (P : List (List Int)) (p : Option Addr) (c : Nat) (w : World) (r : RdR (· < w.heap.size) w p c P) (hP : P.length ≤ 1000) (hl : ∀ x ∈ P, x.length ≤ 1000) (hw : ∀ x ∈ P, ∀ y ∈ x, wf64 y) :
    Calls Try.prog 6 #[.slice p P.length c] w (WithinP P P.length P.length w) := by
  have hc := within_any P P.length P.length p c w r hP hl hw
  generalize P.length = n at *
  clear r hl hw
  go_enter Try.func6, Try.ntmps6
  go_wp2_with (first
    | (go_at_call 11; refine hc.mono ?_; rintro e w1 ⟨v, l, rfl, h⟩))
  go_ret
  exact ⟨v, l, rfl, h⟩
set_option maxHeartbeats 1000000 in
theorem apart_any (P : List (List Int)) (p : Option Addr) (c : Nat) (w : World) (r : RdR (· < w.heap.size) w p c P) (hP : P.length ≤ 1000) (hl : ∀ x ∈ P, x.length ≤ 1000) (hw : ∀ x ∈ P, ∀ y ∈ x, wf64 y) :
    Calls Try.prog 7 #[.slice p P.length c] w (WithinP P 1 ((P.length : Int) - 1) w) := by
  have hc := within_any P 1 ((P.length : Int) - 1) p c w r hP hl hw
  generalize P.length = n at *
  clear r hl hw
  go_enter Try.func7, Try.ntmps7
  go_wp2_with (first
    | (go_at_call 11; refine hc.mono ?_; rintro e w1 ⟨v, l, rfl, h⟩))
  go_ret
  exact ⟨v, l, rfl, h⟩
end Go.Proofs.Ytmkppbcngpgkdab

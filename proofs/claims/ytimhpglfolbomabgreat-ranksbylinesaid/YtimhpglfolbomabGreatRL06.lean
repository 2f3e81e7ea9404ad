/-
  counted, by a contract.
  within, Union, Common, Apart, by contracts.
  Linear where all parents are things: the walk.
  Linear, whatever its parents and ranks.
  Rows of the call's own: each once, turned round; rows of marks.
  Right pasts, and the places that a past has: by contracts.
  The places of a row that a past has: by a contract.
  Rows of bytes of the call's own: one byte more, and as a text.
-/
import Derived.Test.YtimhpglfolbomabGreatRL05
import Derived.Maps.RangeWalk
set_option maxRecDepth 100000
set_option maxHeartbeats 16000000
namespace Go.Proofs.YtimhpglfolbomabGreat.Od
open Go.RowKit Go.Maps
def CountP (P : List (List Int)) (w : World) (e : Ending) (w' : World) : Prop :=
 ∃ mb N D, e = .returned (.map (some mb)) ∧ w.heap.size ≤ mb ∧ w'.ownsMap Tryz.prog 3 cntElem mb N D ∧ N ≤ 1000000 ∧ Ct P P.length 0 D ∧ Below w.heap.size w w'
theorem counted_any (P : List (List Int)) (p : Option Addr) (c : Nat) (w : World) (r : RdR (· < w.heap.size) w p c P) (hP : P.length ≤ 1000) (hl : ∀ x ∈ P, x.length ≤ 1000) (hw : ∀ x ∈ P, ∀ y ∈ x, wf64 y) :
    Calls Tryz.prog 83 #[.slice p P.length c] w (CountP P w) := by
 have hmm := @run_makeMap Tryz.prog
 have HL : Hid (∀ x ∈ P, x.length ≤ 1000) := hl
 have HW : Hid (∀ x ∈ P, ∀ y ∈ x, wf64 y) := hw
 obtain ⟨n, hn⟩ : ∃ n, P.length = n := ⟨_, rfl⟩
 have HN : Hid (P.length = n) := hn
 obtain ⟨B, hB⟩ : ∃ B, w.heap.size = B := ⟨_, rfl⟩
 have HB : Hid (w.heap.size = B) := hB
 have HR : Hid (RdR (· < B) w p c P) := by rw [← hB]; exact r
 rw [hn] at hP ⊢
 clear hl hw r hn
 go_enter Tryz.func83, Tryz.ntmps83
 go_wp2
 clear hmm
 have HS0 : Hid (Below B w (w.alloc (.map #[] 0))) := by rw [← hB]; exact (Below.refl _ _).alloc (Nat.le_refl _) _
 have HM0 : Hid ((w.alloc (.map #[] 0)).ownsMap Tryz.prog 3 cntElem B 0 (.map [])) := by rw [← hB]; exact World.ownsMap_made _ _ _ _
 clear hB
 go_loopw [12] (fun i wr => ∃ (k N : Nat) (D : DataW Unit), k ≤ n ∧ i = .int .i64 k ∧ N ≤ k * 1000 ∧ wr.ownsMap Tryz.prog 3 cntElem B N D ∧ Hid (Ct P k 0 D) ∧ Below B w wr) (fun i _ => n - (intOf i).toNat)
 case atStart => exact ⟨0, 0, .map [], Nat.zero_le _, rfl, by omega, HM0.out, Ct.start P, HS0.out⟩
 case round =>
  obtain ⟨k, N, D, hk, rfl, hN, hown, HC, hbl⟩ := hrel
  clear HS0 HM0
  by_cases hlt : k < n
  · obtain ⟨ad, p1, c1, rfl, _, hcell, hr⟩ := (HR.out.below hbl).at k (by rw [HN.out]; exact hlt)
    have hkP : P.getD k [] ∈ P := getD_inm (by rw [HN.out]; exact hlt)
    have hrl := HL.out _ hkP
    have HWk : Hid _ := HW.out _ hkP
    have HRr : Hid (∀ wx, Below B wr wx → RdI (· < B) wx p1 c1 (P.getD k [])) := fun wx hx => hr.below hx
    obtain ⟨m, hm⟩ : ∃ m, (P.getD k []).length = m := ⟨_, rfl⟩
    have HM : Hid ((P.getD k []).length = m) := hm
    rw [hm] at hcell hrl
    clear hm hr hkP
    obtain ⟨wrr, hwrr⟩ : ∃ x, x = wr := ⟨_, rfl⟩
    have HWR : Hid (wrr = wr) := hwrr
    rw [← hwrr] at HRr hbl
    clear hwrr
    go_wp2
    go_loopw [19] (fun i wx => ∃ (j N : Nat) (D : DataW Unit), j ≤ m ∧ i = .int .i64 j ∧ N ≤ k * 1000 + j ∧ wx.ownsMap Tryz.prog 3 cntElem B N D ∧ Hid (Ct P k j D) ∧ Below B wrr wx) (fun i _ => m - (intOf i).toNat)
    case atStart => exact ⟨0, N, D, Nat.zero_le _, rfl, by omega, hown, HC, by rw [HWR.out]; exact Below.refl _ _⟩
    case round =>
     clear hown HC hN hcell
     obtain ⟨j, N, D, hj, rfl, hN, hown, HC, hbl2⟩ := hrel
     have hkb : k * 1000 ≤ 1000 * 1000 := Nat.mul_le_mul_right _ (by omega)
     have hNm : N < maxLen := by unfold maxLen; omega
     clear hkb
     by_cases hjt : j < m
     · have hjm : j < (P.getD k []).length := by rw [HM.out]; exact hjt
       obtain ⟨ad, rfl, _, hcj⟩ := (HRr.out _ hbl2).at j 0 hjm
       have hwx := HWk.out _ (getD_inm (d := 0) hjm)
       have hfl := fj_le P k j ((P.getD k []).getD j 0)
       have HLk : Hid (∀ c : Int × Int, D.atKey (klI ((P.getD k []).getD j 0)) (cntD 0 0) = cntD c.1 c.2 → _) := fun c hc => HC.out.look hwx hc
       have HOld : Hid (_ → Ct P k (j + 1) D) := HC.out.old hjm
       have HNew : Hid (_ → Ct P k (j + 1) _) := HC.out.new hjm
       have HF0 : Hid (fj P k j ((P.getD k []).getD j 0) = 0 → (P.getD k []).getD j 0 ∉ (P.getD k []).take j) := fun h hm => by unfold fj at h; rw [if_pos hm] at h; omega
       generalize (P.getD k []).getD j 0 = x at *
       by_cases hf : fj P k j x = 0
       · rw [hf] at HLk HNew
         have HD : Hid (Ct P k (j + 1) (D.put (klI x) (cntD 1 k))) := HNew.out (HF0.out hf)
         clear HNew HOld HF0 HC hfl
         go_wp2_with (first
          | (at_lookup; refine wpList_lookup_cnt _ rfl _ _ rfl B N D rfl hown x hwx rfl ?_; intro c hat; obtain ⟨hc1, hc2⟩ := HLk.out c hat; clear hat hc2)
          | (at_mapUpdate; refine wpList_mapUpdate_own _ rfl _ _ _ 120 rfl 3 123 lawI Tryz.underlying120 cntElem B N D rfl ?a0 hNm _ (cntV (1, k)) (klI x) rfl ?a1 (keyI hwx) _ [] (cntElem_mk _) ?_))
         case a0 => exact hown.alloc _
         case a1 => rfl
         intro w1 hown1 hg1
         have hb1 : Below B wrr w1 := (hbl2.alloc (Nat.le_of_lt hown.lt) _).grown hg1 (by have := hown.lt; simp; omega) (fun k hk => by cases hk; exact Nat.le_refl _)
         clear hg1 hown
         go_wp2
         go_roundw
         case rel => exact ⟨j + 1, N + 1, _, by omega, by go_num, by omega, hown1, HD, hb1⟩
         case measure => simp [intOf]; omega
       · obtain ⟨y, hy⟩ : ∃ y, fj P k j x = y + 1 := ⟨fj P k j x - 1, by omega⟩
         rw [hy] at HLk HNew hfl
         clear HF0
         have hy0 : ((y : Int) + 1 == 0) = false := by rw [beq_eq_false_iff_ne]; omega
         by_cases hm : x ∈ (P.getD k []).take j
         · have HD : Hid (Ct P k (j + 1) D) := HOld.out hm
           have HM2 : Hid (x ∈ (P.getD k []).take j) := hm
           clear HNew HOld HC hm
           go_wp2_with (first
            | (at_lookup; refine wpList_lookup_cnt _ rfl _ _ rfl B N D rfl hown x hwx rfl ?_; intro c hat; obtain ⟨hc1, hc2⟩ := HLk.out c hat; have hc3 : c.2 = (k : Int) := Classical.byContradiction fun h => hc2.1 (.inr h) HM2.out; clear hat hc2))
           go_roundw
           case rel => exact ⟨j + 1, N, _, by omega, by go_num, by omega, hown.alloc _, HD, hbl2.alloc (Nat.le_of_lt hown.lt) _⟩
           case measure => simp [intOf]; omega
         · have HD : Hid (Ct P k (j + 1) (D.put (klI x) (cntD ((y : Int) + 1 + 1) k))) := HNew.out hm
           have HM2 : Hid (x ∉ (P.getD k []).take j) := hm
           clear HNew HOld HC hm
           go_wp2_with (first
            | (at_lookup; refine wpList_lookup_cnt _ rfl _ _ rfl B N D rfl hown x hwx rfl ?_; intro c hat; obtain ⟨hc1, hc2⟩ := HLk.out c hat; have hc3 : (c.2 == (k : Int)) = false := by { rw [beq_eq_false_iff_ne]; have := hc2.2 HM2.out; rcases this with h | h; { omega }; { exact h } }; clear hat hc2)
            | (at_mapUpdate; refine wpList_mapUpdate_own _ rfl _ _ _ 120 rfl 3 123 lawI Tryz.underlying120 cntElem B N D rfl ?a0 hNm _ (cntV ((y : Int) + 1 + 1, k)) (klI x) rfl ?a1 (keyI hwx) _ [] (cntElem_mk _) ?_))
           case a0 => exact hown.alloc _
           case a1 => rfl
           intro w1 hown1 hg1
           have hb1 : Below B wrr w1 := (hbl2.alloc (Nat.le_of_lt hown.lt) _).grown hg1 (by have := hown.lt; simp; omega) (fun k hk => by cases hk; exact Nat.le_refl _)
           clear hg1 hown
           go_wp2
           go_roundw
           case rel => exact ⟨j + 1, N + 1, _, by omega, by go_num, by omega, hown1, HD, hb1⟩
           case measure => simp [intOf]; omega
     · obtain rfl : j = m := by omega
       have HD : Hid (Ct P (k + 1) 0 D) := by
        have := HC.out
        rw [← HM.out] at this
        exact this.row (by rw [HN.out]; exact hlt)
       clear HC
       go_wp2
       go_roundw
       case rel => exact ⟨k + 1, N, D, by omega, by go_num, by omega, hown, HD, hbl.trans hbl2⟩
       case measure => simp [intOf]; omega
  · obtain rfl : k = n := by omega
    go_wp2
    go_ret
    exact ⟨B, N, D, rfl, by rw [HB.out]; exact Nat.le_refl _, hown, by have : k * 1000 ≤ 1000 * 1000 := Nat.mul_le_mul_right _ hP; omega, by rw [HN.out]; exact HC.out, by rw [HB.out]; exact hbl⟩
theorem wf_of_lit {x : Int} (h : (Lit.int .i64 x).wf = true) : wf64 x := by
 have h1 : IntKind.i64.min = -9223372036854775808 := rfl
 have h2 : IntKind.i64.max = 9223372036854775807 := rfl
 unfold wf64
 simp only [Lit.wf, Bool.and_eq_true, decide_eq_true_eq] at h
 omega
theorem wpList_next_cnt (w : World) {ops : Array Oper} {rest : List Oper} {o : Oper} {a : Act} {Q : Exit → Act → World → Prop} (hg : o.guard = none) (it : Operand) (hop : o.op = Op.next it false)
    (b r n : Nat) (D : DataW Unit) (left : Lit → Bool) (cnt : Nat) (hit : a.eval it = .pointer (some ⟨r, 0, none⟩)) (h : w.ranges Tryz.prog 3 cntElem b r n D left cnt)
    (hDone : cnt = 0 → (∀ kl, left kl = false) → wpList Tryz.prog ops Q rest (a.put o.dst (.tuple #[.bool false])) w)
    (hMore : ∀ (x : Int) (c : Int × Int) (w' : World) (cnt' : Nat), wf64 x → left (klI x) = true → (∀ zd, D.atKey (klI x) zd = cntD c.1 c.2) → w'.ranges Tryz.prog 3 cntElem b r n D (fun z => left z && !z.sameKey (klI x)) cnt' → cnt' < cnt →
     w.grownBy w' (some r) → w'.heap.size = w.heap.size → (Instr.entry (.pointer (some ⟨r, 0, none⟩))).run Tryz.prog w' = .ok (.tuple #[.int .i64 x, .agg #[.int .i64 c.1, .int .i64 c.2]]) w' → wpList Tryz.prog ops Q rest (a.put o.dst (.tuple #[.bool true, .int .i64 x, .agg #[.int .i64 c.1, .int .i64 c.2]])) w') :
    wpList Tryz.prog ops Q (o :: rest) a w :=
 wpList_next_ranges w hg it hop 3 lawI cntElem (Value.int .i64) cntV (fun key kl hkey => by obtain ⟨x, rfl, _⟩ := Maps.keyOf_int_inv Tryz.underlying3 hkey; exact ⟨x, rfl⟩) (fun v y hv => by obtain ⟨c, rfl, _⟩ := cntElem_inv hv; exact ⟨c, rfl⟩)
  b r n D left cnt hit h hDone (fun x c kl y w' cnt' hkey hlk hv hat hrg hlt hgr hsz hen => by
   obtain ⟨x', ex, rfl, hwx⟩ := Maps.keyOf_int_inv Tryz.underlying3 hkey
   cases ex
   obtain ⟨c', ec, rfl⟩ := cntElem_inv hv
   obtain rfl : c = c' := by
    unfold cntV at ec
    simp at ec
    exact Prod.ext ec.1 ec.2
   exact hMore x c w' cnt' (wf_of_lit hwx) hlk hat hrg hlt hgr hsz hen)
structure Col (P : List (List Int)) (lo hi : Int) (left : Lit → Bool) (L : List Int) : Prop where
 nodup : L.Nodup
 mem : ∀ x, x ∈ L ↔ wf64 x ∧ 0 < fr P x ∧ left (klI x) = false ∧ lo ≤ fr P x ∧ fr P x ≤ hi
theorem ct_full {P : List (List Int)} {D : DataW Unit} (h : Ct P P.length 0 D) : (∀ x, wf64 x → Maps.has D (klI x) = decide (0 < fr P x)) ∧ ∀ x, wf64 x → ∀ c : Int × Int, (∀ z, D.atKey (klI x) z = cntD c.1 c.2) → c.1 = (fr P x : Int) ∧ 0 < fr P x := by
 have e : ∀ x, fj P P.length 0 x = fr P x := fun x => by rw [fj_zero, List.take_length]
 refine ⟨fun x hx => by rw [h.has x hx, e], fun x hx c hc => ?_⟩
 have h1 := has_true_of_atKey hc
 rw [h.has x hx, e, decide_eq_true_eq] at h1
 obtain ⟨l, h2, _⟩ := h.cnt x hx (by rw [e]; exact h1)
 have h3 := h2 (cntD 0 0)
 rw [hc, e] at h3
 exact ⟨(cntD_inj h3).1, h1⟩
theorem Col.start {P : List (List Int)} {D : DataW Unit} (lo hi : Int) (h : Ct P P.length 0 D) : Col P lo hi (Maps.has D) [] := by
 refine ⟨List.nodup_nil, fun x => ⟨fun hx => by simp at hx, ?_⟩⟩
 rintro ⟨h1, h2, h3, _⟩
 rw [(ct_full h).1 x h1, decide_eq_false_iff_not] at h3
 exact absurd h2 h3
theorem strike_at (left : Lit → Bool) (x y : Int) : (left (klI y) && !(klI y).sameKey (klI x)) = false ↔ left (klI y) = false ∨ y = x := by
 by_cases e : y = x
 · subst e
   simp [WideAt.sameKey_self (klI_key y)]
 · rw [sameKey_ne (fun h => e (klI_inj h))]
   simp [e]
theorem Col.yes {P : List (List Int)} {lo hi : Int} {left : Lit → Bool} {L : List Int} (h : Col P lo hi left L) {x : Int} (hx : wf64 x) (hf : 0 < fr P x) (hl : left (klI x) = true) (h1 : lo ≤ fr P x) (h2 : fr P x ≤ hi) : Col P lo hi (fun z => left z && !z.sameKey (klI x)) (L ++ [x]) := by
 have hn : x ∉ L := fun hm => by have := ((h.mem x).1 hm).2.2.1; rw [hl] at this; cases this
 refine ⟨?_, fun y => ?_⟩
 · rw [List.nodup_append]
   refine ⟨h.nodup, by simp, fun a ha c hc => ?_⟩
   rw [List.mem_singleton.1 hc]
   rintro rfl
   exact hn ha
 · simp only [strike_at, List.mem_append, List.mem_singleton, h.mem y]
   constructor
   · rintro (⟨a, b, c, d⟩ | rfl)
     · exact ⟨a, b, .inl c, d⟩
     · exact ⟨hx, hf, .inr rfl, h1, h2⟩
   · rintro ⟨a, b, c | c, d⟩
     · exact .inl ⟨a, b, c, d⟩
     · exact .inr c
theorem Col.no {P : List (List Int)} {lo hi : Int} {left : Lit → Bool} {L : List Int} (h : Col P lo hi left L) {x : Int} (hn : ¬ (lo ≤ fr P x ∧ fr P x ≤ hi)) : Col P lo hi (fun z => left z && !z.sameKey (klI x)) L := by
 refine ⟨h.nodup, fun y => ?_⟩
 simp only [strike_at, h.mem y]
 constructor
 · rintro ⟨a, b, c, d⟩; exact ⟨a, b, .inl c, d⟩
 · rintro ⟨a, b, c | rfl, d⟩
   · exact ⟨a, b, c, d⟩
   · exact absurd d hn
structure Rs (P : List (List Int)) (lo hi : Int) (l : List Int) : Prop where
 rise : l.Pairwise (· < ·)
 mem : ∀ x, x ∈ l ↔ 0 < fr P x ∧ lo ≤ fr P x ∧ fr P x ≤ hi
theorem Col.done {P : List (List Int)} {lo hi : Int} {left : Lit → Bool} {L : List Int} (h : Col P lo hi left L) (hl : ∀ kl, left kl = false) (hw : ∀ r ∈ P, ∀ y ∈ r, wf64 y) : Rs P lo hi (L.mergeSort fun x y => decide (x ≤ y)) := by
 have hp : (L.mergeSort fun x y => decide (x ≤ y)).Perm L := List.mergeSort_perm _ _
 have hso : (L.mergeSort fun x y => decide (x ≤ y)).Pairwise fun x y => decide (x ≤ y) = true :=
  List.pairwise_mergeSort (le := fun x y : Int => decide (x ≤ y)) (fun a b c h1 h2 => by simp at *; omega) (fun a b => by simp; omega) _
 have hnd : (L.mergeSort fun x y => decide (x ≤ y)).Pairwise (· ≠ ·) := hp.nodup_iff.2 h.nodup
 refine ⟨(hso.and hnd).imp fun ⟨h1, h2⟩ => by simp at h1; omega, fun x => ?_⟩
 rw [hp.mem_iff, h.mem x]
 constructor
 · rintro ⟨_, b, _, d⟩; exact ⟨b, d⟩
 · rintro ⟨b, d⟩
   obtain ⟨r, hr, hx⟩ := fr_pos.1 b
   exact ⟨hw r hr x hx, b, hl _, d⟩
theorem ranges_apart {w : World} {B b r n : Nat} {D : DataW Unit} {left : Lit → Bool} {cnt : Nat} {v : Value} {m : Nat} {xs : List Value} (h : w.ranges Tryz.prog 3 cntElem b r n D left cnt) (ho : w.ownsRow B 3 1 v m xs) : v.ownBlock ≠ some b ∧ v.ownBlock ≠ some r := by
 obtain ⟨es, clock, since, seen, c0, hb, _, _, _, hr, _⟩ := h
 rcases ho.2 with ⟨rfl, _⟩ | ⟨g, cap, cur, rfl, _, hg, _⟩
 · simp [Value.ownBlock]
 · refine ⟨fun e => ?_, fun e => ?_⟩
   · simp [Value.ownBlock] at e
     rw [e, hb] at hg
     cases hg
   · simp [Value.ownBlock] at e
     rw [e, hr] at hg
     cases hg
def WithinP (P : List (List Int)) (lo hi : Int) (w : World) (e : Ending) (w' : World) : Prop :=
 ∃ v l, e = .returned v ∧ w'.ownsRow w.heap.size 3 1 v l.length (l.map (Value.int .i64)) ∧ Rs P lo hi l ∧ l.length ≤ 1000000 ∧ Below w.heap.size w w'
theorem within_any (P : List (List Int)) (lo hi : Int) (p : Option Addr) (c : Nat) (w : World) (r : RdR (· < w.heap.size) w p c P) (hP : P.length ≤ 1000) (hl : ∀ x ∈ P, x.length ≤ 1000) (hw : ∀ x ∈ P, ∀ y ∈ x, wf64 y) :
    Calls Tryz.prog 60 #[.slice p P.length c, .int .i64 lo, .int .i64 hi] w (WithinP P lo hi w) := by
 have hcn := counted_any P p c w r hP hl hw
 have HW : Hid (∀ x ∈ P, ∀ y ∈ x, wf64 y) := hw
 have HS : Hid (∀ (wx : World) v (l : List Int), wx.ownsRow w.heap.size 3 1 v l.length (l.map (Value.int .i64)) → l.length ≤ 1000000 → Calls Tryz.prog 49 #[v] wx fun e w' => e = .returned (.tuple #[]) ∧ w'.ownsRow w.heap.size 3 1 v l.length ((l.mergeSort fun x y => decide (x ≤ y)).map (Value.int .i64)) ∧ wx.grownBy w' v.ownBlock) := fun wx v l h1 h2 => sort_own wx h1 h2
 generalize P.length = n at *
 clear hl hw r hP
 go_enter Tryz.func60, Tryz.ntmps60
 go_wp2_with (first
  | (go_at_call 83; refine hcn.mono ?_; rintro e w1 ⟨mb, N, D, rfl, hmb, hown, hN, hct, hb1⟩; have HC : Hid _ := hct; clear hct hcn)
  | (at_range; refine wpList_range_own _ rfl _ 120 rfl 3 123 lawI Tryz.underlying120 _ mb N _ rfl hown ?_; intro w2 hrg0 hg0 hs0))
 have hbl0 : Below w.heap.size w w2 := hb1.grown hg0 hb1.size (fun k hk => by cases hk)
 have HC0 : Hid (Col P lo hi (Maps.has D) []) := Col.start lo hi HC.out
 have hsz0 : Maps.size D ≤ N := hown.size_le
 have HF : Hid (∀ x, wf64 x → ∀ c : Int × Int, (∀ z, D.atKey (klI x) z = cntD c.1 c.2) → c.1 = (fr P x : Int) ∧ 0 < fr P x) := (ct_full HC.out).2
 obtain ⟨B, hB⟩ : ∃ B, w.heap.size = B := ⟨_, rfl⟩
 have HB : Hid (w.heap.size = B) := hB
 rw [hB] at hbl0 HS hmb
 obtain ⟨ri, hri⟩ : ∃ ri, w1.heap.size = ri := ⟨_, rfl⟩
 have hB1 : B ≤ ri := by rw [← hB, ← hri]; exact hb1.size
 rw [hri] at hrg0
 go_frame
 rw [hri]
 clear hB hri hg0 hs0 hb1 hown HC
 go_loopw [7] (fun tv wr => ∃ (left : Lit → Bool) (cnt : Nat) (L : List Int), wr.ranges Tryz.prog 3 cntElem mb ri N D left cnt ∧ wr.ownsRow B 3 1 tv L.length (L.map (Value.int .i64)) ∧ Hid (Col P lo hi left L) ∧ L.length + cnt ≤ N ∧ Below B w wr) (fun _ wr => wr.rangeLeft mb ri)
 case atStart => exact ⟨_, _, [], hrg0, World.ownsRow_nil _ _ _ _, HC0, by simpa using hsz0, hbl0⟩
 case round =>
  clear hrg0 HC0 hsz0 hbl0
  obtain ⟨left, cnt, L, hrg, hown, HC, hLN, hbl⟩ := hrel
  go_wp2_with (first
   | (at_next; refine wpList_next_cnt _ rfl _ rfl mb ri N _ _ _ rfl hrg ?done ?more))
  case done =>
   intro _ hl0
   have HD : Hid (Rs P lo hi (L.mergeSort fun x y => decide (x ≤ y))) := HC.out.done hl0 HW.out
   have hso := HS.out wr _ L hown (by omega)
   go_wp2_with (first
    | (go_at_call 49; refine hso.mono ?_; rintro e w3 ⟨rfl, ho3, hg3⟩))
   go_ret
   have hbB := hbl.size
   refine ⟨_, _, rfl, ?_, HD.out, by rw [List.length_mergeSort]; omega, ?_⟩
   · rw [HB.out, List.length_mergeSort]; exact ho3
   · rw [HB.out]
     exact hbl.grown hg3 (by have := HB.out; omega) fun k hk => (hown.lt k hk).1
  case more =>
   intro x c1 c2 w3 cnt3 hwx hlx hat hrg3 hlt3 hg3 hs3 hen
   obtain ⟨hc1, hf⟩ := HF.out x hwx (c1, c2) hat
   simp only at hc1
   subst hc1
   have hap := ranges_apart hrg hown
   have hap2 := hrg.lt
   have hbB := hbl.size
   have hown3 := hown.kept hg3 (.inr hap.2)
   have hbl3 : Below B w w3 := hbl.grown hg3 (by have := HB.out; omega) fun k hk => by cases hk; exact hB1
   have HLt : Hid (left (klI x) = true) := hlx
   have HWx : Hid (wf64 x) := hwx
   clear hown hg3 hlx hat hwx
   have HYes : Hid (lo ≤ fr P x → fr P x ≤ hi → Col P lo hi (fun z => left z && !z.sameKey (klI x)) (L ++ [x])) := fun h1 h2 => HC.out.yes HWx.out hf HLt.out h1 h2
   have HNo : Hid (¬ (lo ≤ fr P x ∧ fr P x ≤ hi) → Col P lo hi (fun z => left z && !z.sameKey (klI x)) L) := fun h => HC.out.no h
   generalize (fr P x : Int) = f at *
   by_cases h1 : lo ≤ f
   · have d1 : decide (lo ≤ f) = true := decide_eq_true h1
     by_cases h2 : f ≤ hi
     · have HCy := HYes.out h1 h2
       have HCY : Hid _ := HCy
       clear HYes HNo HCy HC
       go_wp2_with (first
        | (at_builtin; refine wpList_push rfl (.tmp 28) (.tmp 30) 28 3 (.int .i64 0) 8 rfl Tryz.underlying28 Tryz.info3 rfl (by decide) int_one B _ L rfl ?a0 _ x rfl ?a1 ?a2 ?a3 ?_))
       case a0 => exact (hown3.alloc _).alloc _
       case a1 =>
        rw [show wr.heap.size + 1 = (w3.alloc (.cells #[.int .i64 f, .int .i64 c2] 123)).heap.size by simp [hs3]]
        exact cell_row (cur := [_]) (heap_alloc_new _ _) 0 _ rfl
       case a2 => omega
       case a3 => simp; omega
       intro v' w5 ho5 hg5 _
       have ho6 : w5.ownsRow B 3 1 v' (L ++ [x]).length ((L ++ [x]).map (Value.int .i64)) := by rw [List.length_append, List.map_append]; exact ho5
       have hrg5 := ((hrg3.alloc _).alloc _).kept hg5 (fun e => hap.1 e.symm) (fun e => hap.2 e.symm)
       have hbl5 : Below B w w5 := ((hbl3.alloc (by omega) _).alloc (by simp; omega) _).grown hg5 (by simp; omega) fun k hk => (hown3.lt k hk).1
       clear ho5 hg5
       go_wp2
       go_roundw
       case rel => exact ⟨_, cnt3, L ++ [x], hrg5, ho6, HCY, by simp; omega, hbl5⟩
       case measure => rw [hrg5.left_eq, hrg.left_eq]; exact hlt3
     · have d2 : decide (f ≤ hi) = false := decide_eq_false h2
       have HCN : Hid _ := HNo.out (fun h => h2 h.2)
       clear HYes HNo HC
       go_wp2
       go_roundw
       case rel => exact ⟨_, cnt3, L, hrg3.alloc _, hown3.alloc _, HCN, by omega, hbl3.alloc (by omega) _⟩
       case measure => rw [(hrg3.alloc _).left_eq, hrg.left_eq]; exact hlt3
   · have d1 : decide (lo ≤ f) = false := decide_eq_false h1
     have HCN : Hid _ := HNo.out (fun h => h1 h.1)
     clear HYes HNo HC
     go_wp2
     go_roundw
     case rel => exact ⟨_, cnt3, L, hrg3.alloc _, hown3.alloc _, HCN, by omega, hbl3.alloc (by omega) _⟩
     case measure => rw [(hrg3.alloc _).left_eq, hrg.left_eq]; exact hlt3
theorem union_any (P : List (List Int)) (p : Option Addr) (c : Nat) (w : World) (r : RdR (· < w.heap.size) w p c P) (hP : P.length ≤ 1000) (hl : ∀ x ∈ P, x.length ≤ 1000) (hw : ∀ x ∈ P, ∀ y ∈ x, wf64 y) :
    Calls Tryz.prog 32 #[.slice p P.length c] w (WithinP P 1 P.length w) := by
 have hc := within_any P 1 P.length p c w r hP hl hw
 generalize P.length = n at *
 clear r hl hw
 go_enter Tryz.func32, Tryz.ntmps32
 go_wp2_with (first
  | (go_at_call 60; refine hc.mono ?_; rintro e w1 ⟨v, l, rfl, h⟩))
 go_ret
 exact ⟨v, l, rfl, h⟩
theorem St.make {w1 : World} {B s wb : Nat} {rp : Option Addr} {rc : Nat} {R : List Int} {wr w' : World} {v : Value} {W : List Int} {h : List Nat} (S : St w1 B s wb rp rc R wr nilS v [] W h) (n : Nat) (hn : n ≤ 1000) (hw : w' = wr.alloc (.cells ((List.replicate n (0 : Int)).map (Value.int .i64)).toArray 3)) :
    St w1 B s wb rp rc R w' (.slice (some ⟨wr.heap.size, 0, none⟩) 0 n) v [] W h := by
 subst hw
 have hs := S.keep.size
 have hsz := S.size
 have hq := obj_lt S.qu.obj
 have S1 := S.queue ((Qk.refl S.qu).still ((Keep.refl _ wr).alloc (.cells ((List.replicate n (0 : Int)).map (Value.int .i64)).toArray 3)))
 refine ⟨S1.size, S1.bl, S1.wl, S1.keep, S1.ik, S1.qu, S1.vl, ⟨rfl, .inr ⟨wr.heap.size, n, _, rfl, by omega, heap_alloc_new _ _, Nat.zero_le _, by unfold maxLen; omega, by simp, by simp [zs]⟩⟩, ?_, ?_⟩
 · simp only [Value.ownBlock, ne_eq, Option.some.injEq]
   omega
 · intro k hk e
   simp only [Value.ownBlock, Option.some.injEq] at hk
   have := (S.qu.row.lt k e).2
   omega
theorem St.start {w1 w2 : World} {B s wb n : Nat} {rp : Option Addr} {rc : Nat} {R : List Int} {W : List Int} (hs : w1.heap.size = s) (hB : B ≤ wb) (hwb : wb < s) (hik : Ik w1 wb W) (hn : R.length = n) (hr : RdI (· < B) w1 rp rc R) (hw2 : w2 = w1.alloc (.cells #[.slice rp n rc, nilS] 100)) :
    St w1 B s wb rp rc R w2 nilS nilS [] W [] := by
 subst hw2
 have hk : Keep (fun k => k = wb ∨ s ≤ k) w1 (w1.alloc (.cells #[.slice rp n rc, nilS] 100)) := (Keep.refl _ w1).alloc _
 have hb : Below w1.heap.size w1 (w1.alloc (.cells #[.slice rp n rc, nilS] 100)) := (Below.refl _ _).alloc (Nat.le_refl _) _
 refine ⟨hs, hB, hwb, hk, hik.same (hb.block wb (by omega)), ⟨?_, World.ownsRow_nil _ _ _ _, by simp [Value.ownBlock], hr.same (Same.of_below hb fun k hk => by omega), by omega, by simp⟩, by simp [Value.ownBlock], World.ownsRow_nil _ _ _ _, by simp [Value.ownBlock], by simp [Value.ownBlock]⟩
 rw [← hs, hn]
 exact heap_alloc_new _ _
theorem kids_at (Q : List (List Nat)) (n i : Nat) (hi : i < n) : ((List.range n).map fun p => zs (kidR Q n p)).getD i [] = zs (kidR Q n i) := by
 rw [getD_in (by simp; exact hi)]
 simp
def lenV : Value → Nat
 | .slice _ n _ => n
 | _ => 0
theorem lin_out {Q : List (List Nat)} {R : List Int} {T : List Nat} {W : List Int} (L : Lin Q R T W []) (h : ¬ T.length < Q.length) : lin Q R = some T := by rw [L.stop, if_neg h]
theorem lin_none {Q : List (List Nat)} {R : List Int} {T : List Nat} {W : List Int} (L : Lin Q R T W []) (h : T.length < Q.length) : lin Q R = none := by rw [L.stop, if_pos h]
theorem linear_ok (Q : List (List Nat)) (R : List Int) (p rp : Option Addr) (c rc : Nat) (w : World) (he : R.length = Q.length) (hins : insB Q.length (Q.map zs) = true) (r : RdR (· < w.heap.size) w p c (Q.map zs)) (rr : RdI (· < w.heap.size) w rp rc R) (hQ : Q.length ≤ 900) (hl : ∀ i, (par Q i).length ≤ 1000) (hin : ∀ i, ∀ x ∈ par Q i, x < Q.length) :
    Calls Tryz.prog 34 #[.slice p Q.length c, .slice rp R.length rc] w (LinP (lin Q R) w) := by
 have hi := inside_any (Q.map zs) p c w r (by simp; omega) (fun x hx => by
  obtain ⟨q, hq, rfl⟩ := List.mem_map.1 hx
  obtain ⟨j, hj, rfl⟩ := List.getElem_of_mem hq
  rw [zs_len]
  have := hl j
  unfold par at this
  rw [getD_in hj] at this
  exact this)
 have hed := edges_any Q p c w r (by omega) hl hin
 rw [List.length_map, hins] at hi
 have HR : Hid (R.length = Q.length) := he
 have HK : Hid (∀ p, (kidR Q Q.length p).length ≤ 1000000) := fun p => by
  have := kidR_len (p := p) hl Q.length
  have : Q.length * 1000 ≤ 900 * 1000 := Nat.mul_le_mul_right _ hQ
  omega
 have HRR : Hid (RdI (· < w.heap.size) w rp rc R) := rr
 have HLL : Hid (∀ i, (par Q i).length ≤ 1000) := hl
 have hRn : R.length ≤ 1000 := by omega
 clear r rr hl hin hins
 rw [he]
 obtain ⟨n, hn⟩ : ∃ n, Q.length = n := ⟨_, rfl⟩
 have HN : Hid (Q.length = n) := hn
 rw [hn] at hi hed hQ he HR HK ⊢
 obtain ⟨B, hB⟩ : ∃ B, w.heap.size = B := ⟨_, rfl⟩
 have HB : Hid (w.heap.size = B) := hB
 rw [hB] at HRR
 clear hn hB
 go_enter Tryz.func34, Tryz.ntmps34
 go_wp2_with (first
  | (go_at_call 63; refine hi.mono ?_; rintro e w' ⟨rfl, rfl⟩)
  | (go_at_call 64; refine hed.mono ?_; rintro e w1 ⟨wb, cb, he1, h1, h2, h3, h4, h5⟩; rw [HN.out] at he1 h4 h5; have H5 : Hid _ := h5; have H3 : Hid _ := h3; have H4 : Hid _ := h4; clear h5 h3 h4 hed; subst he1))
 obtain ⟨s, hs⟩ : ∃ s, w1.heap.size = s := ⟨_, rfl⟩
 have HS0 : Hid (St w1 B s wb rp rc R (w1.alloc (.cells #[.slice rp n rc, nilS] 100)) nilS nilS [] (wl Q n n) []) :=
  St.start hs (by rw [← HB.out]; exact h1) (by rw [← hs]; exact h2) H4.out HR.out (HRR.out.same (Same.of_below H3.out fun k hk => by rw [HB.out]; exact hk)) rfl
 have HL0 : Hid (Loa Q R 0 []) := Loa.nil Q R
 have HKD : Hid (∀ wx i, Keep (fun k => k = wb ∨ s ≤ k) w1 wx → i < n → ∃ p1 c1, wx.cell? ⟨cb, i, none⟩ = some (.slice p1 (kidR Q n i).length c1) ∧ ∀ wy, Keep (fun k => k = wb ∨ s ≤ k) w1 wy → RdI (fun k => B ≤ k ∧ k ≠ wb ∧ k < s) wy p1 c1 (zs (kidR Q n i))) := by
  have hS : ∀ wx, Keep (fun k => k = wb ∨ s ≤ k) w1 wx → Same (fun k => w.heap.size ≤ k ∧ k ≠ wb ∧ k < w1.heap.size) w1 wx := fun wx hx => Same.of_keep hx fun k hk => ⟨hk.2.2, by rintro (e | e) <;> omega⟩
  intro wx i hx hi
  obtain ⟨ad, p1, c1, e, hO, hcl, hr⟩ := RdR.at H5.out i (by simp; exact hi)
  cases e
  rw [kids_at Q n i hi] at hcl hr
  rw [zs_len, add_flat, Nat.zero_add] at hcl
  refine ⟨p1, c1, (World.cell?_of_block ((hS wx hx) cb hO)).trans hcl, fun wy hy => hr.carry (hS wy hy) fun k hk => ⟨by rw [← HB.out]; exact hk.1, hk.2.1, by rw [← hs]; exact hk.2.2⟩⟩
 have HBw : Hid (∀ wx, Keep (fun k => k = wb ∨ s ≤ k) w1 wx → Below w.heap.size w wx) := fun wx hx =>
  H3.out.trans (hx.below (by omega) fun k hk => by rintro (e | e) <;> omega)
 rw [hs]
 have HS : Hid (w1.heap.size = s) := hs
 clear hs H3 H4 H5 HRR
 go_loopw [35] (fun i wr => ∃ (k : Nat) (v : Value) (h : List Nat), k ≤ n ∧ i = .int .i64 k ∧ Hid (St w1 B s wb rp rc R wr nilS v [] (wl Q n n) h) ∧ Hid (Loa Q R k h)) (fun i _ => n - (intOf i).toNat)
 case atStart => exact ⟨0, _, _, Nat.zero_le _, rfl, HS0, HL0⟩
 case round =>
  obtain ⟨k, v, h, hk, rfl, HSt, HLo⟩ := hrel
  clear HS0 HL0
  by_cases hlt : k < n
  · have hck := HSt.out.ik.cell k (by rw [wl_len]; exact hlt)
    rw [wl_at Q n k hlt] at hck
    have hhl := HLo.out.hlen
    by_cases hz : (par Q k).length = 0
    · rw [hz] at hck
      have hput := put_any HSt.out.qu HLo.out.heap k (by omega) (by omega) hRn
      have HY : Hid (∀ h', Hp R h' → h'.Perm (h ++ [k]) → Loa Q R (k + 1) h') := fun h' a b => HLo.out.yes hz a b
      clear HLo hz
      go_wp2_with (first
       | (go_at_call 65; refine hput.mono ?_; rintro e w2 ⟨rfl, v2, h2', hq2, hh2, hp2⟩; have HSt2 : Hid _ := HSt.out.queue hq2; have HL2 : Hid _ := HY.out h2' hh2 hp2; clear hq2 hh2 hp2))
      go_roundw
      case rel => exact ⟨k + 1, v2, h2', by omega, by go_num, HSt2, HL2⟩
      case measure => simp [intOf]; omega
    · have hz' : (((par Q k).length : Int) == 0) = false := by rw [beq_eq_false_iff_ne]; omega
      have HL2 : Hid (Loa Q R (k + 1) h) := HLo.out.no hz
      clear HLo
      generalize (par Q k).length = y at *
      go_wp2
      go_roundw
      case rel => exact ⟨k + 1, v, h, by omega, by go_num, HSt, HL2⟩
      case measure => simp [intOf]; omega
  · obtain rfl : k = n := by omega
    have HLi : Hid (Lin Q R [] (wl Q k k) h) := by
     have := HLo.out
     rw [← HN.out] at this ⊢
     exact this.go
    clear HLo
    go_wp2_with (first
     | (refine wpList_ints rfl _ _ rfl 0 k (Nat.zero_le _) (by omega) rfl rfl ?_; intro w2 hw2; have HS2 : Hid _ := HSt.out.make k (by omega) hw2.out; clear hw2))
    clear HSt hlt hk
    have hst : St w1 B s wb rp rc R w2 _ v [] (wl Q k k) h := HS2.out
    have HS3 : Hid _ := hst
    clear hst HS2
    generalize Value.slice (some ⟨wr.heap.size, 0, none⟩) 0 k = tv0 at *
    go_loopw [11] (fun tv wx => ∃ (T : List Nat) (W : List Int) (v : Value) (h : List Nat), Hid (St w1 B s wb rp rc R wx tv v T W h) ∧ Hid (Lin Q R T W h)) (fun tv _ => k - lenV tv)
    case atStart => exact ⟨[], _, v, h, HS3, HLi⟩
    case round =>
     clear HS3 HLi
     obtain ⟨T, W, v, h, HSt, HLi⟩ := hrel
     have htl := HLi.out.tlen
     rw [HN.out] at htl
     have hhl := HLi.out.hlen
     rw [HN.out] at hhl
     have hlen := qlen_any HSt.out.qu
     obtain ⟨q, cq, htv, _⟩ := own_rd HSt.out.own
     rw [zs_len] at htv
     subst htv
     cases hh : h with
     | nil =>
      subst hh
      by_cases hT : T.length < k
      · have HF : Hid (lin Q R = none) := lin_none HLi.out (by rw [HN.out]; exact hT)
        have HBl : Hid (Below w.heap.size w wr) := HBw.out _ HSt.out.keep
        go_wp2_with (first
         | (go_at_call 66; refine hlen.mono ?_; rintro e w' ⟨rfl, rfl⟩))
        go_ret2
        exact ⟨_, by rw [HF.out]; rfl, by rw [HF.out]; exact World.ownsRow_nil _ _ _ _, HBl.out⟩
      · have HF : Hid (lin Q R = some T) := lin_out HLi.out (by rw [HN.out]; exact hT)
        have HBl : Hid (Below w.heap.size w wr) := HBw.out _ HSt.out.keep
        have HO : Hid (wr.ownsRow w.heap.size 3 1 (.slice q T.length cq) (zs T).length ((zs T).map (Value.int .i64))) := own_le HSt.out.own (by rw [HB.out]; have := HSt.out.bl; have := HSt.out.wl; omega)
        go_wp2_with (first
         | (go_at_call 66; refine hlen.mono ?_; rintro e w' ⟨rfl, rfl⟩))
        go_ret2
        exact ⟨_, by rw [HF.out]; rfl, by rw [HF.out]; exact HO.out, HBl.out⟩
     | cons i0 h0 =>
      have hp : 0 < h.length := by rw [hh]; simp
      clear hh
      have htk := take_any HSt.out.qu HLi.out.heap hp (by omega) hRn
      have hi0 := ((HLi.out.mem _).1 (getD_inm (d := 0) hp)).1
      rw [HN.out] at hi0
      have HT : Hid (∀ h', Hp R h' → (h.getD 0 0 :: h').Perm h → Lon Q R T (h.getD 0 0) 0 W h' ∧ T.length < Q.length) := fun h' a b => HLi.out.take hp a b
      unfold TakeP at htk
      generalize h.getD 0 0 = i at *
      generalize h.length = hl at *
      have tok1 : True := trivial
      go_wp2_with (first
       | (go_at_call 66; refine hlen.mono ?_; rintro e w' ⟨rfl, rfl⟩)
       | (go_at_call 67; refine htk.mono ?_; rintro e w3 ⟨rfl, v3, h3, hq3, hh3, hp3⟩; obtain ⟨hl3, hT3⟩ := HT.out h3 hh3 hp3; have HS4 : Hid _ := HSt.out.queue hq3; have HL4 : Hid _ := hl3; rw [HN.out] at hT3; clear hq3 hh3 hp3 hl3)
       | (at_builtin; have _t := tok1; refine wpList_push rfl (.tmp 54) (.tmp 56) 28 3 (.int .i64 0) 8 rfl Tryz.underlying28 Tryz.info3 rfl (by decide) int_one s _ (zs T) rfl ?a0 _ (i : Int) rfl ?a1 ?a2 ?a3 ?_; clear tok1))
      case a0 => exact HS4.out.own.alloc _
      case a1 => exact cell_row (cur := [_]) (heap_alloc_new _ _) 0 _ rfl
      case a2 => rw [zs_len]; omega
      case a3 => have := HS4.out.keep.size; have := HS4.out.size; simp; omega
      intro tv' w5 ho0 hg5 hl5
      have ho5 : w5.ownsRow s 3 1 tv' (zs T ++ [(i : Int)]).length ((zs T ++ [(i : Int)]).map (Value.int .i64)) := by rw [List.length_append, List.map_append]; exact ho0
      have HS5 : Hid (St w1 B s wb rp rc R w5 tv' v3 (T ++ [i]) W h3) := by
       refine HS4.out.told ho5 (((Keep.refl _ w3).alloc (.cells #[.int .i64 i] 3)).trans (Keep.of_grown (S := ((Value.slice q T.length cq).ownBlock = some ·)) hg5 fun k _ e => e) fun _ _ h => h) ?_
       refine hl5.imp id fun e k hk => ?_
       rw [e] at hk
       cases hk
       simp
      obtain ⟨q5, c5, htv5, _⟩ := own_rd ho5
      rw [show (zs T ++ [(i : Int)]).length = T.length + 1 by simp [zs_len]] at htv5
      subst htv5
      clear ho0 ho5 hg5 hl5 HS4
      obtain ⟨p1, c1, hkc, hkr⟩ := HKD.out w5 i HS5.out.keep hi0
      have HKR : Hid _ := hkr
      have hkl := HK.out i
      clear hkr
      obtain ⟨m, hm⟩ : ∃ m, (kidR Q k i).length = m := ⟨_, rfl⟩
      have HM : Hid ((kidR Q k i).length = m) := hm
      rw [hm] at hkc hkl
      clear hm
      go_wp2
      go_loopw [63] (fun jv wx => ∃ (j : Nat) (W : List Int) (v : Value) (h : List Nat), j ≤ m ∧ jv = .int .i64 j ∧ Hid (St w1 B s wb rp rc R wx (.slice q5 (T.length + 1) c5) v (T ++ [i]) W h) ∧ Hid (Lon Q R T i j W h)) (fun jv _ => m - (intOf jv).toNat)
      case atStart => exact ⟨0, W, v3, h3, Nat.zero_le _, rfl, HS5, HL4⟩
      case round =>
       clear HS5 HL4 hkc
       obtain ⟨j, W, v, h, hj, rfl, HSt, HLo⟩ := hrel
       by_cases hjt : j < m
       · have hjm : j < (kidR Q Q.length i).length := by rw [HN.out, HM.out]; exact hjt
         have hjm' : j < (kidR Q k i).length := by rw [HM.out]; exact hjt
         obtain ⟨ad, rfl, _, hcj⟩ := (HKR.out _ HSt.out.keep).at j 0 (by rw [zs_len]; exact hjm')
         rw [zs_getD] at hcj
         obtain ⟨hcl, hc1, hcT⟩ := HLo.out.kid hjm
         have hwt := HLo.out.wait _ hcl
         have hNo : Hid (_ → _) := HLo.out.no hjm
         have hYes : Hid (∀ h', _) := fun h' => HLo.out.yes (h' := h') hjm
         have hhl2 := HLo.out.hlen
         rw [HN.out] at hcl hc1 hcT hwt hNo hYes hhl2
         generalize (kidR Q k i).getD j 0 = c at *
         have hms : miss Q T c ≤ 1000 := Nat.le_trans List.countP_le_length (HLL.out c)
         obtain ⟨y, hy⟩ : ∃ y : Nat, W.getD c 0 = (y : Int) + 1 := ⟨(W.getD c 0 - 1).toNat, by omega⟩
         have hy2 : y ≤ 1000 := by omega
         have hwl := HSt.out.ik.cell c (by rw [HLo.out.wlen, HN.out]; exact hcl)
         have hwf := HSt.out.ik.fz c
         rw [hy] at hwl hNo hYes
         have e1 : (y : Int) + 1 - 1 = (y : Int) := by omega
         rw [e1] at hNo hYes
         have HS6 : Hid _ := HSt.out.wait c (y : Int)
         clear hwt hc1 hcT hy hms
         by_cases hy0 : y = 0
         · subst hy0
           have hput := put_any HS6.out.qu HLo.out.heap c (by omega) (by omega) hRn
           clear hNo HLo
           go_wp2_with (first
            | (go_at_call 65; refine hput.mono ?_; rintro e w7 ⟨rfl, v7, h7, hq7, hh7, hp7⟩; have HS7 : Hid _ := HS6.out.queue hq7; have HL7 : Hid _ := hYes.out h7 rfl hh7 hp7; clear hq7 hh7 hp7))
           go_roundw
           case rel => exact ⟨j + 1, _, v7, h7, by omega, by go_num, HS7, HL7⟩
           case measure => simp [intOf]; omega
         · have hy1 : ((y : Int) == 0) = false := by rw [beq_eq_false_iff_ne]; omega
           have HL7 : Hid _ := hNo.out (by omega)
           clear hYes HLo hNo
           go_wp2
           go_roundw
           case rel => exact ⟨j + 1, _, v, h, by omega, by go_num, HS6, HL7⟩
           case measure => simp [intOf]; omega
       · obtain rfl : j = m := by omega
         have HLd : Hid (Lin Q R (T ++ [i]) W h) := by
          have := HLo.out
          rw [← HM.out, ← HN.out] at this
          exact this.done
         go_wp2
         go_roundw
         case rel => exact ⟨_, W, v, h, HSt, HLd⟩
         case measure => simp [lenV]; omega
theorem linear_any (P : List (List Int)) (R : List Int) (p rp : Option Addr) (c rc : Nat) (w : World) (r : RdR (· < w.heap.size) w p c P) (rr : RdI (· < w.heap.size) w rp rc R) (hP : P.length ≤ 900) (hl : ∀ x ∈ P, x.length ≤ 1000) (hR : R.length ≤ 1000) :
    Calls Tryz.prog 34 #[.slice p P.length c, .slice rp R.length rc] w (LinP (linP P R) w) := by
 by_cases he : R.length = P.length
 · cases hi : insB P.length P with
   | false => exact linear_ins P R p rp c rc w he hi r (by omega) hl
   | true =>
    rw [linP_ok he hi]
    have hq := toQ_zs hi
    have hn := toQ_len P
    have hpl := par_len hi hl
    have hpt := par_lt hi
    generalize toQ P = Q at *
    subst hq
    rw [List.length_map] at he hi hP hpt ⊢
    exact linear_ok Q R p rp c rc w he hi r rr hP hpl hpt
 · exact linear_len P R p rp c rc w he (by omega) hR
theorem compact_own {B : Nat} {v : Value} {l : List Int} (w : World) (h : w.ownsRow B 3 1 v l.length (l.map (Value.int .i64))) (hl : l.length ≤ 1000000) :
    Calls Tryz.prog 50 #[v] w fun e w' => ∃ v', e = .returned v' ∧ w'.ownsRow B 3 1 v' (Lib.compact l).length ((Lib.compact l).map (Value.int .i64)) ∧ w.grownBy w' v.ownBlock ∧ v'.ownBlock = v.ownBlock := by
 by_cases hv : v = .slice none 0 0
 · subst hv
   rcases h.2 with ⟨_, hn⟩ | ⟨g, cap, cur, e, _⟩
   · obtain rfl : l = [] := List.eq_nil_of_length_eq_zero hn
     refine (Tryz.slices_Compact_int_empty none 0 w).mono ?_
     rintro e w' ⟨rfl, rfl⟩
     exact ⟨_, rfl, h, ⟨rfl, rfl, rfl, Nat.le_refl _, fun _ _ _ => rfl⟩, rfl⟩
   · cases e
 · obtain ⟨g, cap, rfl, hbg, hgl, hncap, hcm, _, hH⟩ := Lib.holds_of_ownsRow h hv
   refine (Tryz.slices_Compact_int g 0 cap l w hH (by omega) hncap).mono ?_
   rintro e w' ⟨rfl, n, rfl⟩
   have hle := Lib.compact_length_le l
   have hp := Lib.ownsRow_putRow (q := n) (k := (Lib.compact l).length) (ys := Lib.compact l ++ List.replicate (l.length - (Lib.compact l).length) 0) h (by simp; omega) (by omega)
   rw [List.take_left] at hp
   exact ⟨_, rfl, hp, grown_put, rfl⟩
theorem reverse_own {B : Nat} {v : Value} {l : List Int} (w : World) (h : w.ownsRow B 3 1 v l.length (l.map (Value.int .i64))) (hl : l.length ≤ 1000000) :
    Calls Tryz.prog 62 #[v] w fun e w' => e = .returned (.tuple #[]) ∧ w'.ownsRow B 3 1 v l.length (l.reverse.map (Value.int .i64)) ∧ w.grownBy w' v.ownBlock := by
 by_cases hv : v = .slice none 0 0
 · subst hv
   rcases h.2 with ⟨_, hn⟩ | ⟨g, cap, cur, e, _⟩
   · obtain rfl : l = [] := List.eq_nil_of_length_eq_zero hn
     refine (Tryz.slices_Reverse_int_empty none 0 w).mono ?_
     rintro e w' ⟨rfl, rfl⟩
     exact ⟨rfl, h, ⟨rfl, rfl, rfl, Nat.le_refl _, fun _ _ _ => rfl⟩⟩
   · cases e
 · obtain ⟨g, cap, rfl, hbg, hgl, hncap, hcm, _, hH⟩ := Lib.holds_of_ownsRow h hv
   refine (Tryz.slices_Reverse_int g 0 cap l w hH (by omega)).mono ?_
   rintro e w' ⟨rfl, n, rfl⟩
   have hp := Lib.ownsRow_putRow (q := n) (k := l.length) (ys := l.reverse) h (List.length_reverse) (Nat.le_refl _)
   rw [List.take_of_length_le (by rw [List.length_reverse]; exact Nat.le_refl _)] at hp
   exact ⟨rfl, hp, grown_put⟩
theorem compact_upto {d : Array Int} (hd : ∀ i j, i ≤ j → j < d.size → d[i]! ≤ d[j]!) : ∀ m, m ≤ d.size → (Lib.compactUpTo d m).Pairwise (· < ·) ∧ ∀ x, x ∈ Lib.compactUpTo d m ↔ ∃ j, j < m ∧ d[j]! = x
 | 0, _ => ⟨by simp [Lib.compactUpTo], fun x => by simp [Lib.compactUpTo]⟩
 | m + 1, hm => by
  obtain ⟨h1, h2⟩ := compact_upto hd m (by omega)
  rw [Lib.compactUpTo_succ]
  cases hk : Lib.keeps d m with
  | true =>
   refine ⟨?_, fun x => ?_⟩
   · rw [if_pos rfl, List.pairwise_append]
     refine ⟨h1, by simp, fun a ha b hb => ?_⟩
     rw [List.mem_singleton.1 hb]
     obtain ⟨j, hj, rfl⟩ := (h2 a).1 ha
     have hne : d[m]! ≠ d[m - 1]! := by
      unfold Lib.keeps at hk
      simp only [decide_eq_true_eq] at hk
      rcases hk with hk | hk
      · omega
      · exact hk
     have g1 := hd j (m - 1) (by omega) (by omega)
     have g2 := hd (m - 1) m (by omega) (by omega)
     omega
   · rw [if_pos rfl, List.mem_append, List.mem_singleton, h2]
     constructor
     · rintro (⟨j, hj, e⟩ | rfl)
       · exact ⟨j, by omega, e⟩
       · exact ⟨m, by omega, rfl⟩
     · rintro ⟨j, hj, rfl⟩
       rcases Nat.lt_or_ge j m with h | h
       · exact .inl ⟨j, h, rfl⟩
       · right; rw [show j = m by omega]
  | false =>
   simp only [Bool.false_eq_true, if_false, List.append_nil]
   refine ⟨h1, fun x => ?_⟩
   rw [h2]
   constructor
   · rintro ⟨j, hj, e⟩; exact ⟨j, by omega, e⟩
   · rintro ⟨j, hj, rfl⟩
     rcases Nat.lt_or_ge j m with h | h
     · exact ⟨j, h, rfl⟩
     · have e : j = m := by omega
       subst e
       unfold Lib.keeps at hk
       simp only [decide_eq_false_iff_not, not_or, Decidable.not_not] at hk
       exact ⟨j - 1, by omega, hk.2.symm⟩
theorem compact_there {n : Nat} {l ps : List Int} (hps : ∀ x, x ∈ ps ↔ x ∈ l ∧ 0 ≤ x ∧ x < (n : Int)) : Lib.compact (ps.mergeSort fun x y => decide (x ≤ y)) = zs (thereT n l) := by
 obtain ⟨s, hs⟩ : ∃ s, s = ps.mergeSort fun x y => decide (x ≤ y) := ⟨_, rfl⟩
 have hp : s.Perm ps := by rw [hs]; exact List.mergeSort_perm _ _
 have hso : s.Pairwise fun x y => decide (x ≤ y) = true := by
  rw [hs]
  exact List.pairwise_mergeSort (le := fun x y : Int => decide (x ≤ y)) (fun a b c h1 h2 => by simp at *; omega) (fun a b => by simp; omega) _
 rw [← hs]
 have hd : ∀ i j, i ≤ j → j < s.toArray.size → s.toArray[i]! ≤ s.toArray[j]! := by
  intro i j hij hj
  have hj' : j < s.length := by simpa using hj
  rw [getElem!_pos _ i (by simp; omega), getElem!_pos _ j hj]
  rcases Nat.lt_or_eq_of_le hij with h | h
  · have := List.pairwise_iff_getElem.1 hso i j (by omega) hj' h
    simpa using this
  · subst h; simp
 obtain ⟨h1, h2⟩ := compact_upto hd s.toArray.size (Nat.le_refl _)
 have e : Lib.compact s = Lib.compactUpTo s.toArray s.toArray.size := by unfold Lib.compact; simp
 rw [e]
 refine riseZ_ext h1 (zs_rises (there_rises n l)) fun x => ?_
 rw [h2]
 have hz : x ∈ zs (thereT n l) ↔ x ∈ l ∧ 0 ≤ x ∧ x < (n : Int) := by
  constructor
  · intro h
    obtain ⟨y, hy, e⟩ := List.mem_map.1 h
    obtain ⟨h3, h4⟩ := there_mem.1 hy
    subst e
    exact ⟨h4, by omega, by omega⟩
  · rintro ⟨h3, h4, h5⟩
    have : x = ((x.toNat : Nat) : Int) := by omega
    rw [this]
    exact (zs_mem _ _).2 (there_mem.2 ⟨by omega, by rw [← this]; exact h3⟩)
 rw [hz, ← hps]
 constructor
 · rintro ⟨j, hj, rfl⟩
   rw [getElem!_pos _ j hj]
   exact hp.mem_iff.1 (by simp)
 · intro h
   obtain ⟨j, hj, e⟩ := List.getElem_of_mem (hp.mem_iff.2 h)
   exact ⟨j, by simpa using hj, by rw [getElem!_pos _ j (by simpa using hj)]; simpa using e⟩
def Bk (w : World) (b : Nat) (L : List Bool) : Prop := w.heap[b]? = some (.cells (L.map Value.bool).toArray 4)
theorem Bk.same {w w' : World} {b : Nat} {L : List Bool} (h : Bk w b L) (hs : w'.heap[b]? = w.heap[b]?) : Bk w' b L := hs.trans h
theorem Bk.cell {w : World} {b : Nat} {L : List Bool} (h : Bk w b L) (j : Nat) (hj : j < L.length) : w.cell? ⟨b, j, none⟩ = some (.bool (L.getD j false)) :=
 cell_row (cur := L.map Value.bool) h j _ (by rw [List.getElem?_map, List.getElem?_eq_getElem hj, getD_in hj]; rfl)
theorem Bk.fz {w : World} {b : Nat} {L : List Bool} (h : Bk w b L) (j : Nat) : w.frozen? ⟨b, j, none⟩ = false := frozen_of_row w b j _ _ h
theorem Bk.set {w : World} {b : Nat} {L : List Bool} (h : Bk w b L) (j : Nat) : Bk (w.setCell ⟨b, j, none⟩ (.bool true)) b (L.set j true) := by
 unfold Bk
 rw [heap_setCell_same w b j _ _ _ h]
 congr 2
 simp
theorem made_bools (n : Nat) : madeCells (Value.bool false).cells (n * 1) = ((List.replicate n false).map Value.bool).toArray := by
 rw [← Array.toList_inj]
 apply List.ext_getElem
 · simp [madeCells]
 · intro i h1 h2
   simp [madeCells, Value.cells]
   rw [Nat.mod_one]
   rfl
theorem Tryz.info4 : (Tryz.prog.info? 4).map (fun i => (i.zero, i.size, i.bytes)) = some (some (.bool false), 1, 1) := by kernel_rfl
theorem make_bools (W : World) (n : Nat) (hn : n ≤ 1000000) : (Instr.makeSlice 25 (.int .i64 (n : Int)) (.int .i64 (n : Int))).run Tryz.prog W = .ok (.slice (some ⟨W.heap.size, 0, none⟩) n n) (W.alloc (.cells ((List.replicate n false).map Value.bool).toArray 4)) := by
 obtain ⟨i0, hi, hz0, hz1, hz2⟩ := info_parts Tryz.info4
 have := run_makeSlice (P := Tryz.prog) W 25 4 i0 (.bool false) Tryz.underlying25 hi hz0 .i64 .i64 n n (by omega) (Int.le_refl _) (by rw [hz1]; simp; omega) (by rw [hz2]; omega) (by omega)
 rw [hz1] at this
 simp only [Int.toNat_natCast] at this
 rw [made_bools] at this
 exact this
theorem rep_at (n j : Nat) : (List.replicate n false).getD j false = false := by
 rw [List.getD_eq_getElem?_getD, List.getElem?_replicate]
 split <;> rfl
theorem getD_setB (L : List Bool) (i j : Nat) (hj : j < L.length) : (L.set i true).getD j false = (decide (j = i) || L.getD j false) := by
 simp only [List.getD_eq_getElem?_getD, List.getElem?_set]
 by_cases h : i = j
 · subst h; simp [hj]
 · simp [h, Ne.symm h]
def setAll (L : List Bool) (ns : List Nat) : List Bool := ns.foldl (fun L i => L.set i true) L
theorem setAll_len (L : List Bool) (ns : List Nat) : (setAll L ns).length = L.length := by
 unfold setAll
 induction ns generalizing L with
 | nil => rfl
 | cons i r ih => rw [List.foldl_cons, ih]; simp
theorem setAll_at (L : List Bool) (ns : List Nat) (j : Nat) (hj : j < L.length) : (setAll L ns).getD j false = (L.getD j false || decide (j ∈ ns)) := by
 unfold setAll
 induction ns generalizing L with
 | nil => simp
 | cons i r ih =>
  rw [List.foldl_cons, ih (L.set i true) (by simpa using hj), getD_setB L i j hj]
  by_cases h : j = i
  · simp [h]
  · simp [h]
theorem setAll_snoc (L : List Bool) (ns : List Nat) (k : Nat) (hk : k < ns.length) : setAll L (ns.take (k + 1)) = (setAll L (ns.take k)).set (ns.getD k 0) true := by
 unfold setAll
 rw [List.take_succ_eq_append_getElem hk, List.foldl_append, getD_in hk]
 rfl
theorem mark_any {O : Nat → Prop} (L : List Bool) (bk cb : Nat) (ns : List Nat) (p : Option Addr) (c : Nat) (w : World) (ho : Bk w bk L) (_hcb : L.length ≤ cb) (r : RdI O w p c (zs ns)) (hO : ¬ O bk) (hlt : ∀ x ∈ ns, x < L.length) (_hL : L.length ≤ 1000) (hn : ns.length ≤ 1000) (hOl : ns ≠ [] → ∀ k, O k → k < w.heap.size) :
    Calls Tryz.prog 61 #[.slice (some ⟨bk, 0, none⟩) L.length cb, .slice p (zs ns).length c] w fun e w' => e = .returned (.tuple #[]) ∧ Bk w' bk (setAll L ns) ∧ Keep (· = bk) w w' := by
 have HL : Hid (∀ x ∈ ns, x < L.length) := hlt
 have HO : Hid (ns ≠ [] → ∀ k, O k → k < w.heap.size) := hOl
 obtain ⟨n, hnn⟩ : ∃ n, (zs ns).length = n := ⟨_, rfl⟩
 have HN : Hid (ns.length = n) := by rw [← hnn, zs_len]; exact rfl
 have hn' : n ≤ 1000 := by rw [← HN.out]; exact hn
 have HNN : Hid ((zs ns).length = n) := hnn
 rw [hnn]
 obtain ⟨m, hmm⟩ : ∃ m, L.length = m := ⟨_, rfl⟩
 have HM : Hid (L.length = m) := hmm
 rw [hmm] at _hL _hcb ⊢
 clear hlt hOl hn hnn hmm
 go_enter Tryz.func61, Tryz.ntmps61
 go_wp2
 go_loopw [8] (fun i wr => ∃ k : Nat, k ≤ n ∧ i = .int .i64 k ∧ Bk wr bk (setAll L (ns.take k)) ∧ Keep (· = bk) w wr) (fun i _ => n - (intOf i).toNat)
 case atStart => exact ⟨0, Nat.zero_le _, rfl, ho, Keep.refl _ _⟩
 case round =>
  obtain ⟨k, hk, rfl, hb, hkp⟩ := hrel
  by_cases hlt : k < n
  · have hkn : k < ns.length := by rw [HN.out]; exact hlt
    have r' : RdI O wr p c (zs ns) := r.same (Same.of_keep hkp fun j hj => ⟨HO.out (by rintro rfl; simp at hkn) j hj, fun e => hO (e ▸ hj)⟩)
    obtain ⟨ad, rfl, _, hcell⟩ := r'.at k 0 (by rw [HNN.out]; exact hlt)
    rw [zs_getD] at hcell
    have hx := HL.out _ (getD_inm (d := 0) hkn)
    have HS : Hid (setAll L (ns.take (k + 1)) = (setAll L (ns.take k)).set (ns.getD k 0) true) := setAll_snoc L ns k hkn
    rw [HM.out] at hx
    generalize ns.getD k 0 = x at *
    have c1 := hb.cell x (by rw [setAll_len, HM.out]; exact hx)
    have f1 := hb.fz x
    have hb2 := hb.set x
    have HB : Hid (Bk (wr.setCell ⟨bk, x, none⟩ (.bool true)) bk (setAll L (ns.take (k + 1)))) := by rw [HS.out]; exact hb2
    have HK : Keep (· = bk) w (wr.setCell ⟨bk, x, none⟩ (.bool true)) := hkp.setCell (fun _ => rfl) _
    clear hb2 hb r'
    go_wp2
    go_roundw
    case rel => exact ⟨k + 1, by omega, by go_num, HB.out, HK⟩
    case measure => simp [intOf]; omega
  · obtain rfl : k = n := by omega
    rw [← HN.out, List.take_length] at hb
    go_wp2
    exact bodyPost_end (v := .tuple #[]) (by simp [results, Tryz.results61, go_sem]) rfl ⟨rfl, hb, hkp⟩
theorem range_next {f : Nat → Bool} {k : Nat} : (List.range (k + 1)).all f = ((List.range k).all f && f k) := by
 rw [List.range_succ, List.all_append]
 simp
theorem range_bad {f : Nat → Bool} {n k : Nat} (hk : k < n) (h : f k = false) : (List.range n).all f = false := by
 rw [List.all_eq_false]
 exact ⟨k, List.mem_range.2 hk, by rw [h]; simp⟩
theorem backwards_any (P : List (List Int)) (n : Nat) (p : Option Addr) (c : Nat) (w : World) (r : RdR (· < w.heap.size) w p c P) (hP : P.length ≤ 1000) (hl : ∀ x ∈ P, x.length ≤ 1000) :
    Calls Tryz.prog 37 #[.slice p P.length c, .int .i64 (n : Int)] w fun e w' => e = .returned (.bool (backT P n)) ∧ w = w' := by
 have HL : Hid (∀ x ∈ P, x.length ≤ 1000) := hl
 clear hl
 obtain ⟨m, hm⟩ : ∃ m, P.length = m := ⟨_, rfl⟩
 have HM : Hid (P.length = m) := hm
 have HN : Hid (backT P n = ((List.range m).all (fun i => belowT (P.getD i []) i) && decide (m = n))) := by show _ = _; unfold backT; rw [hm]
 rw [hm] at hP ⊢
 clear hm
 go_enter Tryz.func37, Tryz.ntmps37
 go_wp2
 go_loopw [11] (fun i wr => ∃ k : Nat, k ≤ m ∧ i = .int .i64 k ∧ wr = w ∧ Hid ((List.range k).all (fun i => belowT (P.getD i []) i) = true)) (fun i _ => m - (intOf i).toNat)
 case atStart => exact ⟨0, Nat.zero_le _, rfl, rfl, by show _ = _; simp⟩
 case round =>
  obtain ⟨k, hk, rfl, rfl, HA⟩ := hrel
  by_cases hlt : k < m
  · obtain ⟨ad, p1, c1, rfl, _, hcell, hr⟩ := r.at k (by rw [HM.out]; exact hlt)
    have hrl := HL.out _ (getD_inm (l := P) (j := k) (d := []) (by rw [HM.out]; exact hlt))
    have HT : Hid ((List.range (k + 1)).all (fun i => belowT (P.getD i []) i) = belowT (P.getD k []) k) := by show _ = _; rw [range_next, HA.out, Bool.true_and]
    have HB : Hid (belowT (P.getD k []) k = false → backT P n = false) := fun h => by rw [HN.out, range_bad (f := fun i => belowT (P.getD i []) i) hlt h]; rfl
    clear HA
    generalize P.getD k [] = row at *
    go_wp2
    go_loopw [18] (fun i wx => ∃ j : Nat, j ≤ row.length ∧ i = .int .i64 j ∧ wx = wr ∧ Hid ((row.take j).all (fun p => decide (0 ≤ p ∧ p < (k : Int))) = true)) (fun i _ => row.length - (intOf i).toNat)
    case atStart => exact ⟨0, Nat.zero_le _, rfl, rfl, by show _ = _; simp⟩
    case round =>
     obtain ⟨j, hj, rfl, rfl, HA⟩ := hrel
     by_cases hjt : j < row.length
     · obtain ⟨ad, rfl, _, hc1⟩ := hr.at j 0 hjt
       have HT2 : Hid _ := all_next (fun p => decide (0 ≤ p ∧ p < (k : Int))) row j 0 hjt
       have HB2 : Hid ((decide (0 ≤ row.getD j 0 ∧ row.getD j 0 < (k : Int))) = false → belowT row k = false) := fun h => all_bad (d := 0) hjt h
       generalize row.getD j 0 = x at *
       by_cases h0 : x < 0
       · have d0 : decide (x < 0) = true := decide_eq_true h0
         have HF : Hid (backT P n = false) := HB.out (HB2.out (by simp; omega))
         go_wp2
         go_ret
         exact ⟨ret_bool HF.out.symm, rfl⟩
       · have d0 : decide (x < 0) = false := decide_eq_false h0
         by_cases h1 : (k : Int) ≤ x
         · have HF : Hid (backT P n = false) := HB.out (HB2.out (by simp; omega))
           go_wp2
           go_ret
           exact ⟨ret_bool HF.out.symm, rfl⟩
         · go_wp2
           go_roundw
           case rel => exact ⟨j + 1, by omega, by go_num, by first | rfl | trivial, by show _ = _; rw [HT2.out, HA.out]; simp; omega⟩
           case measure => simp [intOf]; omega
     · obtain rfl : j = row.length := by omega
       rw [List.take_length] at HA
       go_wp2
       go_roundw
       case rel => exact ⟨k + 1, by omega, by go_num, by first | rfl | trivial, HT.out.trans HA.out⟩
       case measure => simp [intOf]; omega
  · obtain rfl : k = m := by omega
    rw [HA.out, Bool.true_and] at HN
    by_cases hmn : k = n
    · subst hmn
      have HF : Hid (backT P k = true) := by show _ = _; rw [HN.out]; simp
      go_wp2
      go_ret
      exact ⟨ret_bool (by rw [HF.out]; try simp), rfl⟩
    · have HF : Hid (backT P n = false) := by show _ = _; rw [HN.out]; simp [hmn]
      have e1 : ((k : Int) == (n : Int)) = false := by rw [beq_eq_false_iff_ne]; omega
      go_wp2
      go_ret
      exact ⟨ret_bool (by rw [HF.out]; try simpa using hmn), rfl⟩
theorem right_any {w : World} {p : Pa} {q : Pq} (h : IsPa (· < w.heap.size) w p q) (hz : SzPa p) :
    Calls Tryz.prog 13 #[valPa p q] w fun e w' => e = .returned (.bool (rightT p)) ∧ Below w.heap.size w w' := by
 have hb0 : Below w.heap.size w (w.alloc (.cells (cellsPa p q).toArray 27)) := (Below.refl _ _).alloc (Nat.le_refl _) _
 have V := isVP_new h
 have c0 := V.c0; have c1 := V.c1; have c2 := V.c2; have c3 := V.c3; have c4 := V.c4
 have HP := backwards_any p.prev p.evs.length q.v q.cv _ V.pa.prev (by have := hz.prev; omega) (fun x hx => by have := hz.prevs x hx; omega)
 have HA := backwards_any p.auth p.evs.length q.a q.ca _ V.pa.auth (by have := hz.auth; omega) (fun x hx => by have := hz.auths x hx; omega)
 have e1 := hz.evs; have e2 := hz.names; have e3 := hz.den
 have HR : Hid (rightT p = (decide (p.names.length = p.evs.length) && decide (p.den.length = p.evs.length) && backT p.prev p.evs.length && backT p.auth p.evs.length)) := rfl
 clear V h hz
 unfold valPa
 unfold cellsPa at *
 generalize backT p.prev p.evs.length = b1 at *
 generalize backT p.auth p.evs.length = b2 at *
 generalize rightT p = R at *
 generalize p.names.length = n0 at *
 generalize p.evs.length = n1 at *
 generalize p.prev.length = n2 at *
 generalize p.auth.length = n3 at *
 generalize p.den.length = n4 at *
 by_cases h0 : n0 = n1
 · subst h0
   by_cases h4 : n4 = n0
   · subst h4
     cases b1 with
     | false =>
      go_enter Tryz.func13, Tryz.ntmps13
      go_wp2_with (first | (go_at_call 37; refine HP.mono ?_; rintro e w' ⟨rfl, rfl⟩))
      go_ret
      exact ⟨ret_bool (by rw [HR.out]; simp), hb0⟩
     | true =>
      go_enter Tryz.func13, Tryz.ntmps13
      go_wp2_with (first
       | (go_at_call 37; have _hh := HP; refine HP.mono ?_; rintro e w' ⟨rfl, rfl⟩; clear HP _hh)
       | (go_at_call 37; refine HA.mono ?_; rintro e w' ⟨rfl, rfl⟩))
      go_ret
      exact ⟨ret_bool (by rw [HR.out]; simp), hb0⟩
   · have e4 : ((n4 : Int) == (n0 : Int)) = false := by rw [beq_eq_false_iff_ne]; omega
     go_enter Tryz.func13, Tryz.ntmps13
     go_wp2
     go_ret
     exact ⟨ret_bool (by rw [HR.out]; simp [h4]), hb0⟩
 · have e0 : ((n0 : Int) == (n1 : Int)) = false := by rw [beq_eq_false_iff_ne]; omega
   go_enter Tryz.func13, Tryz.ntmps13
   go_wp2
   go_ret
   exact ⟨ret_bool (by rw [HR.out]; simp [h0]), hb0⟩
theorem has_any {w : World} {p : Pa} {q : Pq} (h : IsPa (· < w.heap.size) w p q) (i : Int) :
    Calls Tryz.prog 48 #[valPa p q, .int .i64 i] w fun e w' => e = .returned (.bool (decide (0 ≤ i ∧ i < (p.evs.length : Int)))) ∧ Below w.heap.size w w' := by
 have hb0 : Below w.heap.size w (w.alloc (.cells (cellsPa p q).toArray 27)) := (Below.refl _ _).alloc (Nat.le_refl _) _
 have V := isVP_new h
 have c1 := V.c1
 clear V h
 unfold valPa
 unfold cellsPa at *
 generalize p.evs.length = n1 at *
 by_cases h0 : 0 ≤ i
 · by_cases h1 : i < (n1 : Int)
   · go_enter Tryz.func48, Tryz.ntmps48
     go_wp2
     go_ret
     exact ⟨ret_bool (by simp [h0, h1]), hb0⟩
   · go_enter Tryz.func48, Tryz.ntmps48
     go_wp2
     go_ret
     exact ⟨ret_bool (by simp [h1]), hb0⟩
 · go_enter Tryz.func48, Tryz.ntmps48
   go_wp2
   go_ret
   exact ⟨ret_bool (by simp; omega), hb0⟩
def hasT (n : Nat) (x : Int) : Bool := decide (0 ≤ x ∧ x < (n : Int))
theorem filter_next {f : Int → Bool} {l : List Int} {k : Nat} (hk : k < l.length) : (l.take (k + 1)).filter f = (l.take k).filter f ++ if f (l.getD k 0) then [l.getD k 0] else [] := by
 rw [take_snoc l k 0 hk, List.filter_append]
 congr 1
 generalize l.getD k 0 = x
 cases h : f x <;> simp [h]
theorem has_filter {n : Nat} {l : List Int} {x : Int} : x ∈ l.filter (hasT n) ↔ x ∈ l ∧ 0 ≤ x ∧ x < (n : Int) := by
 unfold hasT
 rw [List.mem_filter]
 simp
def RowP (xs : List Int) (w : World) (e : Ending) (w' : World) : Prop := ∃ v, e = .returned v ∧ w'.ownsRow w.heap.size 3 1 v xs.length (xs.map (Value.int .i64)) ∧ Below w.heap.size w w'
theorem RowP.of_own {xs : List Int} {w w' : World} {v : Value} {B : Nat} (h : w'.ownsRow B 3 1 v xs.length (xs.map (Value.int .i64))) (hB : w.heap.size ≤ B) (hb : Below w.heap.size w w') : RowP xs w (.returned v) w' := ⟨v, rfl, own_le h hB, hb⟩
theorem RowP.rd {xs : List Int} {w : World} {e : Ending} {w' : World} (h : RowP xs w e w') : ∃ p c, e = .returned (.slice p xs.length c) ∧ RdI (fun k => w.heap.size ≤ k ∧ k < w'.heap.size) w' p c xs ∧ Below w.heap.size w w' := by
 obtain ⟨v, rfl, ho, hb⟩ := h
 obtain ⟨q, cq, rfl, hr⟩ := own_rd ho
 exact ⟨q, cq, rfl, hr.carry (fun _ _ => rfl) fun k hk => ho.lt k hk, hb⟩
theorem there_any {O : Nat → Prop} {w : World} {p : Pa} {q : Pq} {l : List Int} {pl : Option Addr} {cl : Nat} (h : IsPa (· < w.heap.size) w p q) (hr : RdI O w pl cl l) (hO : ∀ k, O k → k < w.heap.size) (hl : l.length ≤ 1000) :
    Calls Tryz.prog 17 #[valPa p q, .slice pl l.length cl] w (RowP (zs (thereT p.evs.length l)) w) := by
 obtain ⟨W0, hW0⟩ : ∃ W0, W0 = w.alloc (.cells (cellsPa p q).toArray 27) := ⟨_, rfl⟩
 have hb0 : Below w.heap.size w W0 := by rw [hW0]; exact (Below.refl _ _).alloc (Nat.le_refl _) _
 have hs0 : W0.heap.size = w.heap.size + 1 := by rw [hW0]; simp
 have V : IsVP W0 w.heap.size p q := by rw [hW0]; exact isVP_new h
 have HLD : Hid (∀ X, Below W0.heap.size W0 X → (Instr.loadAt 27 (.pointer (some ⟨w.heap.size, 0, none⟩))).run Tryz.prog X = .ok (.agg (cellsPa p q).toArray) X) := fun X hX => (V.below hX).load
 have HHAS : Hid (∀ X i, Below W0.heap.size W0 X → Calls Tryz.prog 48 #[valPa p q, .int .i64 i] X fun e w' => e = .returned (.bool (hasT p.evs.length i)) ∧ Below X.heap.size X w') := fun X i hX => has_any (V.below hX).pa i
 have HR : Hid (∀ X, Below W0.heap.size W0 X → RdI O X pl cl l) := fun X hX => hr.same (Same.of_below (belowP hb0 hX) hO)
 have HS : Hid (∀ (wx : World) v (l : List Int), wx.ownsRow W0.heap.size 3 1 v l.length (l.map (Value.int .i64)) → l.length ≤ 1000 → Calls Tryz.prog 49 #[v] wx fun e w' => e = .returned (.tuple #[]) ∧ w'.ownsRow W0.heap.size 3 1 v l.length ((l.mergeSort fun x y => decide (x ≤ y)).map (Value.int .i64)) ∧ wx.grownBy w' v.ownBlock) := fun wx v l h1 h2 => sort_own wx h1 (by omega)
 have HC : Hid (∀ (wx : World) v (l : List Int), wx.ownsRow W0.heap.size 3 1 v l.length (l.map (Value.int .i64)) → l.length ≤ 1000 → Calls Tryz.prog 50 #[v] wx fun e w' => ∃ v', e = .returned v' ∧ w'.ownsRow W0.heap.size 3 1 v' (Lib.compact l).length ((Lib.compact l).map (Value.int .i64)) ∧ wx.grownBy w' v.ownBlock ∧ v'.ownBlock = v.ownBlock) := fun wx v l h1 h2 => compact_own wx h1 (by omega)
 obtain ⟨n, hn⟩ : ∃ n, l.length = n := ⟨_, rfl⟩
 have HN : Hid (l.length = n) := hn
 rw [hn] at hl ⊢
 clear hn hr h
 unfold valPa at HHAS ⊢
 generalize p.evs.length = N at *
 generalize cellsPa p q = M at *
 go_enter Tryz.func17, Tryz.ntmps17
 go_upto_region 1 with fail
 rw [← hW0]
 clear hW0 V
 obtain ⟨B, hB⟩ : ∃ B, W0.heap.size = B := ⟨_, rfl⟩
 have HB : Hid (W0.heap.size = B) := hB
 rw [hB] at HLD HHAS HR HS HC
 clear hB
 go_upto_region 3 with fail
 go_loopw [5, 10] (fun v i wr => ∃ k : Nat, ∃ L : List Int, k ≤ n ∧ i = .int .i64 k ∧ wr.ownsRow B 3 1 v L.length (L.map (Value.int .i64)) ∧ Hid (L = (l.take k).filter (hasT N)) ∧ L.length ≤ k ∧ Below B W0 wr) (fun _ i _ => n - (intOf i).toNat)
 case atStart => exact ⟨0, [], Nat.zero_le _, rfl, World.ownsRow_nil _ _ _ _, rfl, Nat.le_refl _, Below.refl _ _⟩
 case round =>
  obtain ⟨k, L, hk, rfl, hown, HL, hLk, hb⟩ := hrel
  by_cases hlt : k < n
  · have hkl : k < l.length := by rw [HN.out]; exact hlt
    obtain ⟨ad, rfl, _, hc⟩ := (HR.out wr hb).at k 0 hkl
    have HT : Hid ((l.take (k + 1)).filter (hasT N) = (l.take k).filter (hasT N) ++ if hasT N (l.getD k 0) then [l.getD k 0] else []) := filter_next hkl
    have hH := HHAS.out wr (l.getD k 0) hb
    generalize l.getD k 0 = x at *
    cases hx : hasT N x with
    | true =>
     rw [hx] at hH HT
     have hbB := hb.size
     have hbs := HB.out
     go_upto_region 6 with (first
      | (refine wpList_loadK rfl 27 _ rfl w.heap.size 0 rfl M (HLD.out _ hb) ?_)
      | (go_at_call 48; refine hH.mono ?_; rintro e w2 ⟨rfl, hb2⟩))
     have hb2' : Below B W0 w2 := hb.trans (hb2.mono (by omega))
     have hown2 := own_below hown hb2
     have hs2 := hb2.size
     clear hc hown hH
     go_wp2_with (first
      | (at_builtin; refine wpList_push rfl (.tmp 17) (.tmp 19) 28 3 (.int .i64 0) 8 rfl Tryz.underlying28 Tryz.info3 rfl (by decide) int_one B _ L rfl ?a0 _ x rfl ?a1 ?a2 ?a3 ?_))
     case a0 => exact hown2.alloc _
     case a1 => exact cell_row (cur := [_]) (heap_alloc_new _ _) 0 _ rfl
     case a2 => omega
     case a3 => simp; omega
     intro v' w5 ho5 hg5 _
     have ho6 := own_snoc ho5
     clear ho5
     have hbl5 : Below B W0 w5 := (hb2'.alloc (by omega) _).grown hg5 (by simp; omega) fun k hk => (hown2.lt k hk).1
     have HL5 : Hid (L ++ [x] = (l.take (k + 1)).filter (hasT N)) := by show _ = _; rw [HT.out, HL.out]; rfl
     clear hg5 hown2
     go_wp2
     go_roundw
     case rel => exact ⟨k + 1, L ++ [x], by omega, by go_num, ho6, HL5, by simp; omega, hbl5⟩
     case measure => simp [intOf]; omega
    | false =>
     rw [hx] at hH HT
     have hbB := hb.size
     have hbs := HB.out
     have HL5 : Hid (L = (l.take (k + 1)).filter (hasT N)) := by show _ = _; rw [HT.out, HL.out]; simp
     go_wp2_with (first
      | (refine wpList_loadK rfl 27 _ rfl w.heap.size 0 rfl M (HLD.out _ hb) ?_)
      | (go_at_call 48; refine hH.mono ?_; rintro e w2 ⟨rfl, hb2⟩))
     have hb2' : Below B W0 w2 := hb.trans (hb2.mono (by omega))
     have hown2 := own_below hown hb2
     go_roundw
     case rel => exact ⟨k + 1, L, by omega, by go_num, hown2, HL5, by omega, hb2'⟩
     case measure => simp [intOf]; omega
  · obtain rfl : k = n := by omega
    have HF : Hid (L = l.filter (hasT N)) := by
     have := HL.out
     rw [← HN.out, List.take_length] at this
     exact this
    have HCP : Hid (Lib.compact (L.mergeSort fun x y => decide (x ≤ y)) = zs (thereT N l)) := compact_there fun x => by rw [HF.out]; exact has_filter
    have hso := HS.out wr _ L hown (by omega)
    have hbs := HB.out
    have hbB := hb.size
    clear HL
    go_wp2_with (first
     | (go_at_call 49; refine hso.mono ?_; rintro e w3 ⟨rfl, ho3, hg3⟩; have ho3' := own_len ho3 (List.length_mergeSort (le := fun x y => decide (x ≤ y)) L); have hco := HC.out w3 _ _ ho3' (by rw [List.length_mergeSort]; omega); rw [HCP.out] at hco; clear hso)
     | (go_at_call 50; refine hco.mono ?_; rintro e w4 ⟨v', rfl, ho4, hg4, _⟩))
    go_ret
    have hb3 : Below B W0 w3 := hb.grown hg3 (by omega) fun k hk => (hown.lt k hk).1
    have hb4 : Below B W0 w4 := hb3.grown hg4 (by have := hg3.size; omega) fun k hk => (hown.lt k hk).1
    exact RowP.of_own ho4 (by omega) (hb0.trans (hb4.mono (by omega)))
end Go.Proofs.YtimhpglfolbomabGreat.Od
namespace Go.Proofs.YtimhpglfolbomabGreat
open Go.RowKit
theorem own_ge {w : World} {B e size n : Nat} {v : Value} {xs : List Value} (h : w.ownsRow B e size v n xs) : ∀ k, v.ownBlock = some k → B ≤ k ∧ k < w.heap.size := by
 intro k hk
 rcases h.2 with ⟨rfl, _⟩ | ⟨g, cap, cur, rfl, hg, hgg, _⟩
 · cases hk
 · cases hk; exact ⟨hg, (Array.getElem?_eq_some_iff.1 hgg).1⟩
theorem Keep.grown {S : Nat → Prop} {a b c : World} {row : Option Nat} (h : Keep S a b) (hg : b.grownBy c row) (hr : ∀ k, row = some k → a.heap.size ≤ k) : Keep S a c :=
 h.trans (S' := fun k => row = some k) (Keep.of_grown hg fun _ _ e => e) fun i hi e => absurd (hr i e) (by omega)
end Go.Proofs.YtimhpglfolbomabGreat

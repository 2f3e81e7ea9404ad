/-
  OrderParts, walked.
-/
import Derived.Test.YtmkppbcngpgkdabOAwake
import Derived.Deep.QuietTactic
namespace Go.Proofs.Ytmkppbcngpgkdab
open Go.RowKit Go.Maps

/-- What each statement tells. -/
def TrueP (w : World) (e : Ending) (w' : World) : Prop := e = .returned (.bool true) ∧ Below w.heap.size w w'
theorem awake_from {w w1 : World} (hb : Below w.heap.size w w1) : Calls Try.prog 10 #[] w1 fun e w' => e = .returned (.bool true) ∧ Below w.heap.size w w' :=
  (awake_any w1).mono fun _ _ h => ⟨h.1, hb.trans (h.2.mono hb.size)⟩
theorem own_view {B : Nat} {w : World} {v : Value} {l : List Int} (h : w.ownsRow B 3 1 v l.length (l.map (Value.int .i64))) : ∃ q cq, v = .slice q l.length cq ∧ ∀ wx, Below w.heap.size w wx → RdI (fun k => B ≤ k ∧ k < w.heap.size) wx q cq l := by
  obtain ⟨q, cq, hv, hr⟩ := own_rd h
  exact ⟨q, cq, hv, fun wx hx => hr.carry (Same.of_below hx fun k hk => (h.lt k hk).2) fun k hk => h.lt k hk⟩
theorem at_quiet {O : Nat → Prop} (x : Int) (l : List Int) (p : Option Addr) (c : Nat) (w : World) (r : RdI O w p c l) (hl : l.length ≤ 1000000) (n : Nat) :
    Calls Try.prog 8 #[.int .i64 x, .slice p l.length c] (w.drewN n) fun e w' => e = .returned (.int .i64 (atZ x l)) ∧ w' = w.drewN n :=
  (at_any x l p c (w.drewN n) (r.same (fun _ _ => rfl)) hl).mono fun _ _ h => ⟨h.1, h.2.symm⟩
theorem atZ_in {x : Int} {l : List Int} (h : x ∈ l) : 0 ≤ atZ x l ∧ atZ x l ≤ l.length := by
  unfold atZ
  rw [if_pos h]
  have := List.idxOf_lt_length_of_mem h
  omega
theorem atZ_out {x : Int} {l : List Int} (h : x ∉ l) : atZ x l = -1 := by unfold atZ; rw [if_neg h]
theorem subz_len : ∀ {l T : List Int}, l.Nodup → (∀ x ∈ l, x ∈ T) → l.length ≤ T.length
  | [], _, _, _ => by simp
  | a :: r, T, hn, h => by
    rw [List.nodup_cons] at hn
    have h1 := subz_len (T := T.erase a) hn.2 fun x hx => (List.mem_erase_of_ne (by rintro rfl; exact hn.1 hx)).2 (h x (by simp [hx]))
    have h2 := h a (by simp)
    rw [List.length_erase_of_mem h2] at h1
    have := List.length_pos_of_mem h2
    simp
    omega
theorem rise_nodup {l : List Int} (h : l.Pairwise (· < ·)) : l.Nodup := h.imp fun h e => by omega
section
variable {P : List (List Int)} {U C A : List Int}
/-- Of all that rows have each is in common or apart, never both. -/
theorem part_one (hU : Rs P 1 P.length U) (hC : Rs P P.length P.length C) (hA : Rs P 1 ((P.length : Int) - 1) A) (x : Int) : (x ∈ U ↔ x ∈ C ∨ x ∈ A) ∧ ¬ (x ∈ C ∧ x ∈ A) := by
  have h1 := fr_le P x
  rw [hU.mem x, hC.mem x, hA.mem x]
  omega
theorem part_len (hU : Rs P 1 P.length U) (hC : Rs P P.length P.length C) (hA : Rs P 1 ((P.length : Int) - 1) A) : C.length + A.length = U.length := by
  have hn : (C ++ A).Nodup := by
    rw [List.nodup_append]
    refine ⟨rise_nodup hC.rise, rise_nodup hA.rise, fun a ha b hb e => ?_⟩
    subst e
    exact (part_one hU hC hA a).2 ⟨ha, hb⟩
  have h1 := subz_len hn (T := U) fun x hx => (part_one hU hC hA x).1.2 (List.mem_append.1 hx)
  have h2 := subz_len (rise_nodup hU.rise) (T := C ++ A) fun x hx => List.mem_append.2 ((part_one hU hC hA x).1.1 hx)
  rw [List.length_append] at h1 h2
  omega
theorem fr_iff (P : List (List Int)) (x : Int) : (0 < fr P x ↔ ∃ r ∈ P, x ∈ r) ∧ (fr P x = P.length ↔ ∀ r ∈ P, x ∈ r) := ⟨fr_pos, fr_all⟩
theorem rs_turn {T : List (List Int)} {a b : List Int} (hT : ∀ r, r ∈ T ↔ r ∈ P) (h : Rs P 1 P.length a) (k : Rs T 1 T.length b) : b = a := by
  refine riseZ_ext k.rise h.rise fun x => ?_
  have h1 := fr_le P x
  have h2 := fr_le T x
  have h3 : 0 < fr T x ↔ 0 < fr P x := by rw [fr_pos, fr_pos]; simp only [hT]
  rw [h.mem x, k.mem x]
  omega
theorem rs_turnC {T : List (List Int)} {a b : List Int} (hT : ∀ r, r ∈ T ↔ r ∈ P) (h : Rs P P.length P.length a) (k : Rs T T.length T.length b) : b = a := by
  refine riseZ_ext k.rise h.rise fun x => ?_
  have h1 := fr_le P x
  have h2 := fr_le T x
  have h3 : 0 < fr T x ↔ 0 < fr P x := by rw [fr_pos, fr_pos]; simp only [hT]
  have h4 : fr T x = T.length ↔ fr P x = P.length := by rw [fr_all, fr_all]; simp only [hT]
  rw [h.mem x, k.mem x]
  omega
theorem rs_turnA {T : List (List Int)} {a b : List Int} (hT : ∀ r, r ∈ T ↔ r ∈ P) (h : Rs P 1 ((P.length : Int) - 1) a) (k : Rs T 1 ((T.length : Int) - 1) b) : b = a := by
  refine riseZ_ext k.rise h.rise fun x => ?_
  have h1 := fr_le P x
  have h2 := fr_le T x
  have h3 : 0 < fr T x ↔ 0 < fr P x := by rw [fr_pos, fr_pos]; simp only [hT]
  have h4 : fr T x = T.length ↔ fr P x = P.length := by rw [fr_all, fr_all]; simp only [hT]
  rw [h.mem x, k.mem x]
  omega
end
/-- A slice, as a value. -/
def slV (s : Option Addr × Nat × Nat) : Value := .slice s.1 s.2.1 s.2.2
theorem slV_one (s : Option Addr × Nat × Nat) : (slV s).oneCell' = true := rfl
theorem getD_snoc {α : Type} (l : List α) (x d : α) (j : Nat) : (l ++ [x]).getD j d = if j < l.length then l.getD j d else if j = l.length then x else d := by
  simp only [List.getD_eq_getElem?_getD]
  split
  · rename_i h; rw [List.getElem?_append_left h]
  · rename_i h
    split
    · rename_i h'; subst h'; simp
    · rw [List.getElem?_eq_none (by simp; omega)]; rfl
/-- tv, of the call's own from block s on, holds rows that lie below B. -/
structure Tn (s B : Nat) (w : World) (tv : Value) (vs : List (Option Addr × Nat × Nat)) (rows : List (List Int)) : Prop where
  len : vs.length = rows.length
  brow : w.ownsRow s 24 1 tv vs.length (vs.map slV)
  cells : ∀ j, j < rows.length → (vs.getD j (none, 0, 0)).2.1 = (rows.getD j []).length ∧ RdI (· < B) w (vs.getD j (none, 0, 0)).1 (vs.getD j (none, 0, 0)).2.2 (rows.getD j [])
theorem Tn.nil (s B : Nat) (w : World) : Tn s B w nilS [] [] := ⟨rfl, World.ownsRow_nil _ _ _ _, fun j hj => absurd hj (by simp)⟩
theorem Tn.row {s B : Nat} {w w2 : World} {tv tv' : Value} {vs : List (Option Addr × Nat × Nat)} {rows : List (List Int)} {l : List Int} {p1 : Option Addr} {c1 : Nat} (h : Tn s B w tv vs rows) (hr : RdI (· < B) w p1 c1 l)
    (ho : w2.ownsRow s 24 1 tv' (vs ++ [(p1, l.length, c1)]).length ((vs ++ [(p1, l.length, c1)]).map slV)) (hb : Below B w w2) : Tn s B w2 tv' (vs ++ [(p1, l.length, c1)]) (rows ++ [l]) := by
  refine ⟨by simp [h.len], ho, fun j hj => ?_⟩
  rw [getD_snoc, getD_snoc, h.len]
  simp only [List.length_append, List.length_singleton] at hj
  by_cases hj' : j < rows.length
  · rw [if_pos hj', if_pos hj']
    obtain ⟨e1, r1⟩ := h.cells j hj'
    exact ⟨e1, r1.below hb⟩
  · rw [if_neg hj', if_pos (by omega), if_neg hj', if_pos (by omega)]
    exact ⟨rfl, hr.below hb⟩
theorem Tn.read {s B : Nat} {w : World} {tv : Value} {vs : List (Option Addr × Nat × Nat)} {rows : List (List Int)} (h : Tn s B w tv vs rows) (hB : B ≤ w.heap.size) : ∃ q c, tv = .slice q rows.length c ∧ ∀ wx, Below w.heap.size w wx → RdR (· < wx.heap.size) wx q c rows := by
  obtain ⟨q, c, hv, hrd⟩ := own_rd h.brow
  refine ⟨q, c, by rw [hv, h.len], fun wx hx => ⟨by have := hrd.1; rw [h.len] at this; exact this, fun j hj => ?_⟩⟩
  have hxs := hx.size
  obtain ⟨e1, r1⟩ := h.cells j hj
  have hjv : j < vs.length := by rw [h.len]; exact hj
  obtain ⟨b, o, hq, hO, hc⟩ := hrd.2 (by intro e; rw [e] at hjv; simp at hjv)
  have hbl := (h.brow.lt b hO).2
  refine ⟨b, o, _, _, hq, by omega, ?_, r1.carry (fun k hk => hx.block k (by omega)) fun k hk => by omega⟩
  rw [World.cell?_of_block (hx.block b hbl), hc j (vs.getD j (none, 0, 0)) (by rw [List.getElem?_eq_getElem hjv, getD_in hjv]), ← e1]
  rfl
theorem rev_step (P : List (List Int)) (k : Nat) (hk : k < P.length) : (P.drop k).reverse = (P.drop (k + 1)).reverse ++ [P.getD k []] := by
  rw [List.drop_eq_getElem_cons hk, List.reverse_cons, getD_in hk]
theorem rise_at {l : List Int} (h : l.Pairwise (· < ·)) {k : Nat} (hk : k + 1 < l.length) : l.getD k 0 < l.getD (k + 1) 0 := by
  rw [getD_in (by omega), getD_in hk]
  exact List.pairwise_iff_getElem.1 h k (k + 1) (by omega) hk (by omega)

set_option maxRecDepth 100000 in
set_option maxHeartbeats 16000000 in
theorem orderParts_any (P : List (List Int)) (p : Option Addr) (c : Nat) (w : World) (r : RdR (· < w.heap.size) w p c P) (hP : P.length ≤ 9223372036854775807) (hl : ∀ x ∈ P, x.length ≤ 9223372036854775807) (hw : ∀ x ∈ P, ∀ y ∈ x, wf64 y) :
    Calls Try.prog 3 #[.slice p P.length c] w (TrueP w) := by
  have hfew := few_any P p c w r hP hl
  cases hf : fewB P with
  | false =>
    rw [hf] at hfew
    clear r hl hf
    generalize P.length = n at *
    go_enter Try.func3, Try.ntmps3
    go_wp2_with (first
      | (go_at_call 4; refine hfew.mono ?_; rintro e w' ⟨rfl, rfl⟩))
    go_ret
    exact ⟨rfl, Below.refl _ _⟩
  | true =>
    rw [hf] at hfew
    obtain ⟨h1, h2⟩ := few_iff.1 hf
    have h3 : ∀ x ∈ P, x.length ≤ 1000 := fun x hx => by have := h2 x hx; omega
    have hr : ∀ wx, Below w.heap.size w wx → RdR (· < wx.heap.size) wx p c P := fun wx hx => (r.below hx).carry (fun _ _ => rfl) fun _ h => Nat.lt_of_lt_of_le h hx.size
    have HU : Hid (∀ wx, Below w.heap.size w wx → _) := fun wx hx => union_any P p c wx (hr wx hx) (by omega) h3 hw
    have HC : Hid (∀ wx, Below w.heap.size w wx → _) := fun wx hx => common_any P p c wx (hr wx hx) (by omega) h3 hw
    have HA : Hid (∀ wx, Below w.heap.size w wx → _) := fun wx hx => apart_any P p c wx (hr wx hx) (by omega) h3 hw
    have HR : Hid (RdR (· < w.heap.size) w p c P) := r
    have H3 : Hid (∀ x ∈ P, x.length ≤ 1000) := h3
    have HW : Hid (∀ x ∈ P, ∀ y ∈ x, wf64 y) := hw
    have hb0 : Below w.heap.size w w := Below.refl _ _
    have HPt : Hid (∀ U C A, Rs P 1 P.length U → Rs P P.length P.length C → Rs P 1 ((P.length : Int) - 1) A → C.length + A.length = U.length ∧ ∀ x ∈ U, (x ∈ C ∧ x ∉ A) ∨ (x ∉ C ∧ x ∈ A)) := fun U C A hU hC hA => ⟨part_len hU hC hA, fun x hx => by
      have := part_one hU hC hA x
      by_cases hc : x ∈ C
      · exact .inl ⟨hc, fun ha => this.2 ⟨hc, ha⟩⟩
      · exact .inr ⟨hc, (this.1.1 hx).resolve_left hc⟩⟩
    clear r hl hf h2 h3 hr hw hP
    obtain ⟨n, hn⟩ : ∃ n, P.length = n := ⟨_, rfl⟩
    have HN : Hid (P.length = n) := hn
    rw [hn] at hfew h1 HU HC HA HPt ⊢
    clear hn
    go_enter Try.func3, Try.ntmps3
    go_wp2_with (first
      | (go_at_call 4; refine hfew.mono ?_; rintro e w' ⟨rfl, rfl⟩)
      | (go_at_call 5; refine (HU.out _ hb0).mono ?_; rintro e w1 ⟨v1, U, rfl, ho1, hr1, hn1, hx1⟩; have hb1 := hb0.trans (hx1.mono hb0.size); obtain ⟨q1, c1, rfl, hv1⟩ := own_view ho1; clear ho1)
      | (go_at_call 6; refine (HC.out _ hb1).mono ?_; rintro e w2 ⟨v2, C, rfl, ho2, hr2, hn2, hx2⟩; have hb2 := hb1.trans (hx2.mono hb1.size); obtain ⟨q2, c2, rfl, hv2⟩ := own_view ho2; clear ho2)
      | (go_at_call 7; refine (HA.out _ hb2).mono ?_; rintro e w3 ⟨v3, A, rfl, ho3, hr3, hn3, hx3⟩; have hb3 := hb2.trans (hx3.mono hb2.size); obtain ⟨q3, c3, rfl, hv3⟩ := own_view ho3; obtain ⟨hlen, hone⟩ := HPt.out U C A hr1 hr2 hr3; have hlen' : (C.length : Int) + (A.length : Int) = (U.length : Int) := by { omega }; clear ho3))
    have HRu : Hid (Rs P 1 P.length U) := by have := hr1; rw [← HN.out] at this; exact this
    have HRc : Hid (Rs P P.length P.length C) := by have := hr2; rw [← HN.out] at this; exact this
    have HRa : Hid (Rs P 1 ((P.length : Int) - 1) A) := by have := hr3; rw [← HN.out] at this; exact this
    have hz1 := hx1.size
    have hz2 := hx2.size
    have hz3 := hx3.size
    have HV1 : Hid (∀ wx, Below w3.heap.size w3 wx → RdI (· < w3.heap.size) wx q1 c1 U) := fun wx hx => (hv1 wx (hx2.trans ((hx3.trans (hx.mono hz3)).mono hz2))).carry (fun _ _ => rfl) fun k hk => by omega
    have HV2 : Hid (∀ wx, Below w3.heap.size w3 wx → RdI (· < w3.heap.size) wx q2 c2 C) := fun wx hx => (hv2 wx (hx3.trans (hx.mono hz3))).carry (fun _ _ => rfl) fun k hk => by omega
    have HV3 : Hid (∀ wx, Below w3.heap.size w3 wx → RdI (· < w3.heap.size) wx q3 c3 A) := fun wx hx => (hv3 wx hx).carry (fun _ _ => rfl) fun k hk => by omega
    have HOne : Hid _ := hone
    have HRise : Hid (U.Pairwise (· < ·)) := hr1.rise
    clear hv1 hv2 hv3 hr1 hr2 hr3 hone hx1 hx2 hx3 hb1 hb2 hz1 hz2 hz3 HU HC HA HPt hlen
    obtain ⟨mu, hmu⟩ : ∃ mu, U.length = mu := ⟨_, rfl⟩
    have HMU : Hid (U.length = mu) := hmu
    rw [hmu] at hlen' hn1 ⊢
    clear hmu
    go_loopw [6] (fun i wr => ∃ k : Nat, k ≤ mu ∧ i = .int .i64 k ∧ wr.heap = w3.heap ∧ Keep (fun _ => False) w3 wr) (fun i _ => mu - (intOf i).toNat)
    case atStart => exact ⟨0, Nat.zero_le _, rfl, rfl, Keep.refl _ _⟩
    case round =>
      obtain ⟨k, hk, rfl, hhp, hkp⟩ := hrel
      have HHP : Hid (wr.heap = w3.heap) := hhp
      clear hhp
      have hk1 : ∀ (wx : World) (k : Nat), Keep (fun _ => False) w3 wx → Keep (fun _ => False) w3 (wx.drewN k) := fun wx k h => ⟨h.os, h.tape, h.output, h.size, h.block⟩
      have hb4 : Below w3.heap.size w3 wr := hkp.below (Nat.le_refl _) fun _ _ h => h
      by_cases hlt : k < mu
      · obtain ⟨bq, oq, e0, _, hcq⟩ := (HV1.out wr hb4).2 (by intro e; have := HMU.out; rw [e] at this; simp at this; omega)
        have hc1 := hcq k (U.getD k 0) (by rw [List.getElem?_eq_getElem (by rw [HMU.out]; exact hlt), ← getD_in (d := 0)])
        have hx1 := HOne.out _ (getD_inm (l := U) (j := k) (d := 0) (by rw [HMU.out]; exact hlt))
        have HQc : Hid (∀ m, Calls Try.prog 8 #[.int .i64 (U.getD k 0), .slice q2 C.length c2] (wr.drewN m) fun e w' => e = .returned (.int .i64 (atZ (U.getD k 0) C)) ∧ w' = wr.drewN m) := fun m => at_quiet (U.getD k 0) C q2 c2 wr (HV2.out wr hb4) (by omega) m
        have HQa : Hid (∀ m, Calls Try.prog 8 #[.int .i64 (U.getD k 0), .slice q3 A.length c3] (wr.drewN m) fun e w' => e = .returned (.int .i64 (atZ (U.getD k 0) A)) ∧ w' = wr.drewN m) := fun m => at_quiet (U.getD k 0) A q3 c3 wr (HV3.out wr hb4) (by omega) m
        have hq : q1 = some ⟨bq, oq, none⟩ := e0
        have hki : (k : Int) < (mu : Int) := by omega
        have ZZ : Hid ((∃ z1 : Int, atZ (U.getD k 0) C = z1 ∧ 0 ≤ z1 ∧ z1 ≤ 1000000 ∧ atZ (U.getD k 0) A = -1) ∨ (∃ z1 : Int, atZ (U.getD k 0) A = z1 ∧ 0 ≤ z1 ∧ z1 ≤ 1000000 ∧ atZ (U.getD k 0) C = -1)) := by
          rcases hx1 with ⟨a, b⟩ | ⟨a, b⟩
          · have := atZ_in a
            exact .inl ⟨_, rfl, this.1, by omega, atZ_out b⟩
          · have := atZ_in b
            exact .inr ⟨_, rfl, this.1, by omega, atZ_out a⟩
        clear hx1
        subst hq
        clear e0
        rcases Nat.eq_zero_or_pos k with hk0 | hk0
        · have dk : decide ((0 : Int) < (k : Int)) = false := by rw [decide_eq_false_iff_not]; omega
          have dkn : decide (0 < k) = false := by rw [decide_eq_false_iff_not]; omega
          clear hcq hk0
          generalize U.getD k 0 = x at *
          rcases ZZ.out with ⟨z, e1, e2, e3, e4⟩ | ⟨z, e1, e2, e3, e4⟩
          · rw [e1] at HQc
            rw [e4] at HQa
            have dz : decide ((0 : Int) ≤ z) = true := decide_eq_true e2
            clear ZZ e1 e4
            go_wp2_with fail
            go_quiet ((first | (go_at_call 8; with_reducible exact (HQc.out _).mono fun _ _ h => ⟨h.1, _, h.2⟩) | (go_at_call 8; with_reducible exact (HQa.out _).mono fun _ _ h => ⟨h.1, _, h.2⟩)))
            go_wp2_with fail
            go_roundw
            case rel => exact ⟨k + 1, by omega, by go_num, HHP.out, by first | exact hk1 _ _ hkp | exact hk1 _ _ (hk1 _ _ hkp)⟩
            case measure => simp [intOf]; omega
          · rw [e1] at HQa
            rw [e4] at HQc
            have dz : decide ((0 : Int) ≤ z) = true := decide_eq_true e2
            clear ZZ e1 e4
            go_wp2_with fail
            go_quiet ((first | (go_at_call 8; with_reducible exact (HQc.out _).mono fun _ _ h => ⟨h.1, _, h.2⟩) | (go_at_call 8; with_reducible exact (HQa.out _).mono fun _ _ h => ⟨h.1, _, h.2⟩)))
            go_wp2_with fail
            go_roundw
            case rel => exact ⟨k + 1, by omega, by go_num, HHP.out, by first | exact hk1 _ _ hkp | exact hk1 _ _ (hk1 _ _ hkp)⟩
            case measure => simp [intOf]; omega
        · obtain ⟨j, rfl⟩ : ∃ j, k = j + 1 := ⟨k - 1, by omega⟩
          have hc2 := hcq j (U.getD j 0) (by rw [List.getElem?_eq_getElem (by rw [HMU.out]; omega), ← getD_in (d := 0)])
          have hxy := rise_at HRise.out (k := j) (by rw [HMU.out]; exact hlt)
          obtain ⟨k, hkk⟩ : ∃ k, j + 1 = k := ⟨_, rfl⟩
          rw [hkk] at hlt hk hk0 hki hc1 hxy HQc HQa ZZ ⊢
          have dk : decide ((0 : Int) < (k : Int)) = true := decide_eq_true (by omega)
          have dkn : decide (0 < k) = true := decide_eq_true (by omega)
          have hkj : (k : Int) - 1 = (j : Int) := by omega
          have hw1 : IntKind.i64.wrap ((k : Int) - 1) = (j : Int) := by rw [IntKind.wrap_i64]; omega
          have hw2 : IntKind.i64.wrap (j : Int) = (j : Int) := by rw [IntKind.wrap_i64]; omega
          have hji : (j : Int) < (mu : Int) := by omega
          clear hcq hkk
          generalize U.getD k 0 = x at *
          generalize U.getD j 0 = y at *
          have dxy : decide (x ≤ y) = false := by rw [decide_eq_false_iff_not]; omega
          rcases ZZ.out with ⟨z, e1, e2, e3, e4⟩ | ⟨z, e1, e2, e3, e4⟩
          · rw [e1] at HQc
            rw [e4] at HQa
            have dz : decide ((0 : Int) ≤ z) = true := decide_eq_true e2
            clear ZZ e1 e4
            go_wp2_with fail
            go_quiet ((first | (go_at_call 8; with_reducible exact (HQc.out _).mono fun _ _ h => ⟨h.1, _, h.2⟩) | (go_at_call 8; with_reducible exact (HQa.out _).mono fun _ _ h => ⟨h.1, _, h.2⟩)))
            go_wp2_with fail
            go_roundw
            case rel => exact ⟨k + 1, by omega, by go_num, HHP.out, by first | exact hk1 _ _ hkp | exact hk1 _ _ (hk1 _ _ hkp)⟩
            case measure => simp [intOf]; omega
          · rw [e1] at HQa
            rw [e4] at HQc
            have dz : decide ((0 : Int) ≤ z) = true := decide_eq_true e2
            clear ZZ e1 e4
            go_wp2_with fail
            go_quiet ((first | (go_at_call 8; with_reducible exact (HQc.out _).mono fun _ _ h => ⟨h.1, _, h.2⟩) | (go_at_call 8; with_reducible exact (HQa.out _).mono fun _ _ h => ⟨h.1, _, h.2⟩)))
            go_wp2_with fail
            go_roundw
            case rel => exact ⟨k + 1, by omega, by go_num, HHP.out, by first | exact hk1 _ _ hkp | exact hk1 _ _ (hk1 _ _ hkp)⟩
            case measure => simp [intOf]; omega
      · obtain rfl : mu = k := by omega
        have hb5 : Below w.heap.size w wr := hb3.trans (hb4.mono hb3.size)
        have HB5 : Hid (Below w.heap.size w wr) := hb5
        have HB4 : Hid (Below w3.heap.size w3 wr) := hb4
        obtain ⟨w4, hw4⟩ : ∃ w4, wr = w4 := ⟨_, rfl⟩
        rw [hw4] at HB5 HB4
        have HW4 : Hid (wr = w4) := hw4
        clear hkp hk1 HHP hw4 hb4 hb5 HOne HRise hlen'
        obtain ⟨B, hB⟩ : ∃ B, w.heap.size = B := ⟨_, rfl⟩
        have HB : Hid (w.heap.size = B) := hB
        rw [hB] at HR
        have hBs : B ≤ w4.heap.size := by rw [← hB]; exact HB5.out.size
        clear hB
        go_wp2
        go_loopw [7, 8] (fun tv iv wx => ∃ (k : Nat) (vs : List (Option Addr × Nat × Nat)), k ≤ n ∧ iv = .int .i64 ((k : Int) - 1) ∧ Hid (Tn w4.heap.size B wx tv vs (P.drop k).reverse) ∧ Below w4.heap.size w4 wx) (fun _ iv _ => (intOf iv + 1).toNat)
        case atStart => exact ⟨n, [], Nat.le_refl _, rfl, by rw [← HN.out, List.drop_length]; exact Tn.nil _ _ _, by rw [HW4.out]; exact Below.refl _ _⟩
        case round =>
          obtain ⟨k, vs, hk, rfl, HTn, hbl⟩ := hrel
          have hbS := hbl.size
          have hbw : Below B w wr := by rw [← HB.out]; exact HB5.out.trans (hbl.mono HB5.out.size)
          have hvl : vs.length ≤ 1000 := by rw [HTn.out.len, List.length_reverse, List.length_drop]; have := HN.out; omega
          have hbr := HTn.out.brow
          rcases Nat.eq_zero_or_pos k with hk0 | hk0
          · subst hk0
            rw [show (((0 : Nat) : Int) - 1) = (-1 : Int) by omega]
            rcases Nat.eq_zero_or_pos n with hn0 | hn0
            · have hP0 : P = [] := List.eq_nil_of_length_eq_zero (by rw [HN.out]; exact hn0)
              obtain ⟨T, hT⟩ : ∃ T, T = (P.drop 0).reverse := ⟨_, rfl⟩
              have HTP : Hid (∀ r, r ∈ T ↔ r ∈ P) := by intro r; rw [hT]; simp
              have HT3 : Hid (∀ x ∈ T, x.length ≤ 1000) := fun x hx => H3.out x ((HTP.out x).1 hx)
              have HTW : Hid (∀ x ∈ T, ∀ y ∈ x, wf64 y) := fun x hx => HW.out x ((HTP.out x).1 hx)
              have hTl0 : T.length ≤ 41 := by rw [hT]; simp; have := HN.out; omega
              obtain ⟨qt, ct, htv, hrt⟩ := HTn.out.read (by omega)
              rw [← hT] at htv hrt
              obtain ⟨m, hTl⟩ : ∃ m, T.length = m := ⟨_, rfl⟩
              rw [hTl] at htv hTl0
              subst htv
              have hbt : Below w3.heap.size w3 wr := HB4.out.trans (hbl.mono HB4.out.size)
              rw [← HB.out] at hbw
              clear hT HTn hbr hP0
              have dn : decide ((0 : Int) < (n : Int)) = false := by rw [decide_eq_false_iff_not]; omega
              have hb0t : Below wr.heap.size wr wr := Below.refl _ _
              have HFa : Hid (∀ wx, Below wr.heap.size wr wx → Calls Try.prog 5 #[.slice qt m ct] wx (WithinP T 1 T.length wx)) := fun wx hx => by
                have := union_any T qt ct wx (hrt wx hx) (by omega) HT3.out HTW.out
                rw [hTl] at this ⊢
                exact this
              have HFb : Hid (∀ wx, Below wr.heap.size wr wx → Calls Try.prog 6 #[.slice qt m ct] wx (WithinP T T.length T.length wx)) := fun wx hx => by
                have := common_any T qt ct wx (hrt wx hx) (by omega) HT3.out HTW.out
                rw [hTl] at this ⊢
                exact this
              have HFc : Hid (∀ wx, Below wr.heap.size wr wx → Calls Try.prog 7 #[.slice qt m ct] wx (WithinP T 1 ((T.length : Int) - 1) wx)) := fun wx hx => by
                have := apart_any T qt ct wx (hrt wx hx) (by omega) HT3.out HTW.out
                rw [hTl] at this ⊢
                exact this
              have HSma : Hid (∀ wx l q c (O : Nat → Prop), Below wr.heap.size wr wx → Rs T 1 T.length l → RdI O wx q c l → l.length ≤ 1000000 → Calls Try.prog 9 #[.slice q l.length c, .slice q1 mu c1] wx fun e w' => e = .returned (.bool true) ∧ Keep (fun _ => False) wx w') := fun wx l q c O hb hr hv hn => by
                obtain rfl := rs_turn HTP.out HRu.out hr
                rw [← HMU.out]
                have := same_any l l q q1 c c1 wx hv (HV1.out wx (hbt.trans (hb.mono hbt.size))) hn hn
                rw [decide_eq_true rfl] at this
                exact this
              have HSmb : Hid (∀ wx l q c (O : Nat → Prop), Below wr.heap.size wr wx → Rs T T.length T.length l → RdI O wx q c l → l.length ≤ 1000000 → Calls Try.prog 9 #[.slice q l.length c, .slice q2 C.length c2] wx fun e w' => e = .returned (.bool true) ∧ Keep (fun _ => False) wx w') := fun wx l q c O hb hr hv hn => by
                obtain rfl := rs_turnC HTP.out HRc.out hr
                have := same_any l l q q2 c c2 wx hv (HV2.out wx (hbt.trans (hb.mono hbt.size))) hn hn
                rw [decide_eq_true rfl] at this
                exact this
              have HSmc : Hid (∀ wx l q c (O : Nat → Prop), Below wr.heap.size wr wx → Rs T 1 ((T.length : Int) - 1) l → RdI O wx q c l → l.length ≤ 1000000 → Calls Try.prog 9 #[.slice q l.length c, .slice q3 A.length c3] wx fun e w' => e = .returned (.bool true) ∧ Keep (fun _ => False) wx w') := fun wx l q c O hb hr hv hn => by
                obtain rfl := rs_turnA HTP.out HRa.out hr
                have := same_any l l q q3 c c3 wx hv (HV3.out wx (hbt.trans (hb.mono hbt.size))) hn hn
                rw [decide_eq_true rfl] at this
                exact this
              clear hrt hbt hTl HTP HT3 HTW
              go_wp2_with (first
                | (go_at_call 5; refine (HFa.out _ hb0t).mono ?_; rintro e wa1 ⟨va1, la1, rfl, hoa1, hra1, hna1, hxa1⟩; have hba1 := hb0t.trans (hxa1.mono hb0t.size); obtain ⟨qa1, ca1, rfl, hva1⟩ := own_view hoa1; have hsma := HSma.out wa1 la1 qa1 ca1 _ hba1 hra1 (hva1 wa1 (Below.refl _ _)) hna1; clear hoa1 hva1 hra1 HFa)
                | (go_at_call 9; refine hsma.mono ?_; rintro e wa3 ⟨rfl, hka⟩; have hba3 := hba1.trans (hka.below hba1.size fun _ _ h => h); clear hsma hka)
                | (go_at_call 6; refine (HFb.out _ hba3).mono ?_; rintro e wb1 ⟨vb1, lb1, rfl, hob1, hrb1, hnb1, hxb1⟩; have hbb1 := hba3.trans (hxb1.mono hba3.size); obtain ⟨qb1, cb1, rfl, hvb1⟩ := own_view hob1; have hsmb := HSmb.out wb1 lb1 qb1 cb1 _ hbb1 hrb1 (hvb1 wb1 (Below.refl _ _)) hnb1; clear hob1 hvb1 hrb1 HFb)
                | (go_at_call 9; refine hsmb.mono ?_; rintro e wb3 ⟨rfl, hkb⟩; have hbb3 := hbb1.trans (hkb.below hbb1.size fun _ _ h => h); clear hsmb hkb)
                | (go_at_call 7; refine (HFc.out _ hbb3).mono ?_; rintro e wc1 ⟨vc1, lc1, rfl, hoc1, hrc1, hnc1, hxc1⟩; have hbc1 := hbb3.trans (hxc1.mono hbb3.size); obtain ⟨qc1, cc1, rfl, hvc1⟩ := own_view hoc1; have hsmc := HSmc.out wc1 lc1 qc1 cc1 _ hbc1 hrc1 (hvc1 wc1 (Below.refl _ _)) hnc1; clear hoc1 hvc1 hrc1 HFc)
                | (go_at_call 9; refine hsmc.mono ?_; rintro e wc3 ⟨rfl, hkc⟩; have hbc3 := hbc1.trans (hkc.below hbc1.size fun _ _ h => h); clear hsmc hkc)
                | (go_at_call 10; refine (awake_from (hbw.trans (hbc3.mono hbw.size))).mono ?_; rintro e w9 ⟨rfl, hb9⟩))
              go_ret
              exact ⟨rfl, hb9⟩
            · have dn : decide ((0 : Int) < (n : Int)) = true := decide_eq_true (by omega)
              have hn0' : (0 : Int) < (n : Int) := by omega
              obtain ⟨ad, p1, cc1, rfl, _, hcell, hr⟩ := (HR.out.below hbw).at 0 (by rw [HN.out]; exact hn0)
              have hcell0 : wr.cell? ad = some (.slice p1 (P.getD 0 []).length cc1) := by
                have e : ad.add 0 = ad := by simp [Addr.add]
                rw [e] at hcell
                exact hcell
              have hrl := H3.out _ (getD_inm (l := P) (j := 0) (d := []) (by rw [HN.out]; exact hn0))
              have HM0 : Hid (P.getD 0 [] ∈ P) := getD_inm (by rw [HN.out]; exact hn0)
              have tok1 : True := trivial
              obtain ⟨row, hrow⟩ : ∃ row, P.getD 0 [] = row := ⟨_, rfl⟩
              rw [hrow] at hcell0 hcell hr hrl HM0
              clear hrow hcell
              go_wp2_with (first
                | (at_builtin; have _t := tok1; refine wpList_push (enc := slV) rfl (.tmp 80) (.tmp 84) 22 24 (.slice none 0 0) 24 rfl Try.underlying22 Try.infoI rfl (by decide) slV_one w4.heap.size _ vs rfl ?a0 _ (p1, row.length, cc1) rfl ?a1 ?a2 ?a3 ?_; clear tok1))
              case a0 => exact hbr.alloc _
              case a1 => first | rfl | exact cell_row (cur := [_]) (heap_alloc_new _ _) 0 _ rfl
              case a2 => omega
              case a3 => first | omega | (simp; omega)
              intro tv' w6 ho6 hg6 _
              have ho6' : w6.ownsRow w4.heap.size 24 1 tv' (vs ++ [(p1, row.length, cc1)]).length ((vs ++ [(p1, row.length, cc1)]).map slV) := by rw [List.length_append, List.map_append]; exact ho6
              have hbs : Below w4.heap.size wr w6 := ((Below.refl w4.heap.size wr).alloc hbS _).grown hg6 (by simp; omega) fun k hk => (hbr.lt k hk).1
              have hbx : Below B wr w6 := hbs.mono hBs
              have hb46 : Below w3.heap.size w3 w6 := HB4.out.trans ((hbl.trans hbs).mono HB4.out.size)
              have HT6 := HTn.out.row hr ho6' hbx
              obtain ⟨T, hT⟩ : ∃ T, T = (P.drop 0).reverse ++ [row] := ⟨_, rfl⟩
              have HTP : Hid (∀ r, r ∈ T ↔ r ∈ P) := by
                intro r
                rw [hT, List.mem_append, List.mem_singleton]
                simp only [List.drop_zero, List.mem_reverse]
                exact ⟨fun h => h.elim id fun e => e ▸ HM0.out, .inl⟩
              have HT3 : Hid (∀ x ∈ T, x.length ≤ 1000) := fun x hx => H3.out x ((HTP.out x).1 hx)
              have HTW : Hid (∀ x ∈ T, ∀ y ∈ x, wf64 y) := fun x hx => HW.out x ((HTP.out x).1 hx)
              have hTl0 : T.length ≤ 41 := by rw [hT]; simp; have := HN.out; omega
              obtain ⟨qt, ct, htv, hrt⟩ := HT6.read (by have := hbx.size; omega)
              rw [← hT] at htv hrt
              obtain ⟨m, hTl⟩ : ∃ m, T.length = m := ⟨_, rfl⟩
              rw [hTl] at htv hTl0
              subst htv
              have hbt : Below w3.heap.size w3 w6 := hb46
              have hbw : Below w.heap.size w w6 := by rw [HB.out]; exact hbw.trans hbx
              clear hT HT6 HTn hbr ho6 ho6' hg6 hr hcell0
              have hb0t : Below w6.heap.size w6 w6 := Below.refl _ _
              have HFa : Hid (∀ wx, Below w6.heap.size w6 wx → Calls Try.prog 5 #[.slice qt m ct] wx (WithinP T 1 T.length wx)) := fun wx hx => by
                have := union_any T qt ct wx (hrt wx hx) (by omega) HT3.out HTW.out
                rw [hTl] at this ⊢
                exact this
              have HFb : Hid (∀ wx, Below w6.heap.size w6 wx → Calls Try.prog 6 #[.slice qt m ct] wx (WithinP T T.length T.length wx)) := fun wx hx => by
                have := common_any T qt ct wx (hrt wx hx) (by omega) HT3.out HTW.out
                rw [hTl] at this ⊢
                exact this
              have HFc : Hid (∀ wx, Below w6.heap.size w6 wx → Calls Try.prog 7 #[.slice qt m ct] wx (WithinP T 1 ((T.length : Int) - 1) wx)) := fun wx hx => by
                have := apart_any T qt ct wx (hrt wx hx) (by omega) HT3.out HTW.out
                rw [hTl] at this ⊢
                exact this
              have HSma : Hid (∀ wx l q c (O : Nat → Prop), Below w6.heap.size w6 wx → Rs T 1 T.length l → RdI O wx q c l → l.length ≤ 1000000 → Calls Try.prog 9 #[.slice q l.length c, .slice q1 mu c1] wx fun e w' => e = .returned (.bool true) ∧ Keep (fun _ => False) wx w') := fun wx l q c O hb hr hv hn => by
                obtain rfl := rs_turn HTP.out HRu.out hr
                rw [← HMU.out]
                have := same_any l l q q1 c c1 wx hv (HV1.out wx (hbt.trans (hb.mono hbt.size))) hn hn
                rw [decide_eq_true rfl] at this
                exact this
              have HSmb : Hid (∀ wx l q c (O : Nat → Prop), Below w6.heap.size w6 wx → Rs T T.length T.length l → RdI O wx q c l → l.length ≤ 1000000 → Calls Try.prog 9 #[.slice q l.length c, .slice q2 C.length c2] wx fun e w' => e = .returned (.bool true) ∧ Keep (fun _ => False) wx w') := fun wx l q c O hb hr hv hn => by
                obtain rfl := rs_turnC HTP.out HRc.out hr
                have := same_any l l q q2 c c2 wx hv (HV2.out wx (hbt.trans (hb.mono hbt.size))) hn hn
                rw [decide_eq_true rfl] at this
                exact this
              have HSmc : Hid (∀ wx l q c (O : Nat → Prop), Below w6.heap.size w6 wx → Rs T 1 ((T.length : Int) - 1) l → RdI O wx q c l → l.length ≤ 1000000 → Calls Try.prog 9 #[.slice q l.length c, .slice q3 A.length c3] wx fun e w' => e = .returned (.bool true) ∧ Keep (fun _ => False) wx w') := fun wx l q c O hb hr hv hn => by
                obtain rfl := rs_turnA HTP.out HRa.out hr
                have := same_any l l q q3 c c3 wx hv (HV3.out wx (hbt.trans (hb.mono hbt.size))) hn hn
                rw [decide_eq_true rfl] at this
                exact this
              clear hrt hbt hTl HTP HT3 HTW
              go_wp2_with (first
                | (go_at_call 5; refine (HFa.out _ hb0t).mono ?_; rintro e wa1 ⟨va1, la1, rfl, hoa1, hra1, hna1, hxa1⟩; have hba1 := hb0t.trans (hxa1.mono hb0t.size); obtain ⟨qa1, ca1, rfl, hva1⟩ := own_view hoa1; have hsma := HSma.out wa1 la1 qa1 ca1 _ hba1 hra1 (hva1 wa1 (Below.refl _ _)) hna1; clear hoa1 hva1 hra1 HFa)
                | (go_at_call 9; refine hsma.mono ?_; rintro e wa3 ⟨rfl, hka⟩; have hba3 := hba1.trans (hka.below hba1.size fun _ _ h => h); clear hsma hka)
                | (go_at_call 6; refine (HFb.out _ hba3).mono ?_; rintro e wb1 ⟨vb1, lb1, rfl, hob1, hrb1, hnb1, hxb1⟩; have hbb1 := hba3.trans (hxb1.mono hba3.size); obtain ⟨qb1, cb1, rfl, hvb1⟩ := own_view hob1; have hsmb := HSmb.out wb1 lb1 qb1 cb1 _ hbb1 hrb1 (hvb1 wb1 (Below.refl _ _)) hnb1; clear hob1 hvb1 hrb1 HFb)
                | (go_at_call 9; refine hsmb.mono ?_; rintro e wb3 ⟨rfl, hkb⟩; have hbb3 := hbb1.trans (hkb.below hbb1.size fun _ _ h => h); clear hsmb hkb)
                | (go_at_call 7; refine (HFc.out _ hbb3).mono ?_; rintro e wc1 ⟨vc1, lc1, rfl, hoc1, hrc1, hnc1, hxc1⟩; have hbc1 := hbb3.trans (hxc1.mono hbb3.size); obtain ⟨qc1, cc1, rfl, hvc1⟩ := own_view hoc1; have hsmc := HSmc.out wc1 lc1 qc1 cc1 _ hbc1 hrc1 (hvc1 wc1 (Below.refl _ _)) hnc1; clear hoc1 hvc1 hrc1 HFc)
                | (go_at_call 9; refine hsmc.mono ?_; rintro e wc3 ⟨rfl, hkc⟩; have hbc3 := hbc1.trans (hkc.below hbc1.size fun _ _ h => h); clear hsmc hkc)
                | (go_at_call 10; refine (awake_from (hbw.trans (hbc3.mono hbw.size))).mono ?_; rintro e w9 ⟨rfl, hb9⟩))
              go_ret
              exact ⟨rfl, hb9⟩
          · obtain ⟨j, rfl⟩ : ∃ j, k = j + 1 := ⟨k - 1, by omega⟩
            rw [show (((j + 1 : Nat) : Int) - 1) = (j : Int) by omega]
            obtain ⟨ad, p1, cc1, rfl, _, hcell, hr⟩ := (HR.out.below hbw).at j (by rw [HN.out]; omega)
            have hrl := H3.out _ (getD_inm (l := P) (j := j) (d := []) (by rw [HN.out]; omega))
            have HRv : Hid _ := rev_step P j (by rw [HN.out]; omega)
            have tok1 : True := trivial
            generalize P.getD j [] = row at *
            go_wp2_with (first
              | (at_builtin; have _t := tok1; refine wpList_push (enc := slV) rfl (.tmp 70) (.tmp 75) 22 24 (.slice none 0 0) 24 rfl Try.underlying22 Try.infoI rfl (by decide) slV_one w4.heap.size _ vs rfl ?a0 _ (p1, row.length, cc1) rfl ?a1 ?a2 ?a3 ?_; clear tok1))
            case a0 => exact hbr.alloc _
            case a1 => first | rfl | exact cell_row (cur := [_]) (heap_alloc_new _ _) 0 _ rfl
            case a2 => omega
            case a3 => first | omega | (simp; omega)
            intro tv' w6 ho6 hg6 _
            have ho6' : w6.ownsRow w4.heap.size 24 1 tv' (vs ++ [(p1, row.length, cc1)]).length ((vs ++ [(p1, row.length, cc1)]).map slV) := by rw [List.length_append, List.map_append]; exact ho6
            have hbs : Below w4.heap.size wr w6 := ((Below.refl w4.heap.size wr).alloc hbS _).grown hg6 (by simp; omega) fun k hk => (hbr.lt k hk).1
            have hbx : Below B wr w6 := hbs.mono hBs
            have hb46 : Below w4.heap.size w4 w6 := hbl.trans hbs
            have HT6 : Hid (Tn w4.heap.size B w6 tv' (vs ++ [(p1, row.length, cc1)]) (P.drop j).reverse) := by
              show Tn _ _ _ _ _ _
              rw [HRv.out]
              exact HTn.out.row hr ho6' hbx
            clear ho6 ho6' hg6 hr hbr
            go_wp2
            go_roundw
            case rel => exact ⟨j, _, by omega, rfl, HT6, hb46⟩
            case measure => simp [intOf]
end Go.Proofs.Ytmkppbcngpgkdab

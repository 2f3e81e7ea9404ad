/-
  What a receiver tells, as lists; what holds of a link, deed by deed.
  A link that is begun, and its steps.
  WindowFifo, walked.
-/
import Derived.Test.YtnhgjgoldcplnaaFG04
set_option maxRecDepth 100000
set_option maxHeartbeats 16000000
namespace Go.Proofs.Ytnhgjgoldcplnaa
open Go.RowKit Go.Maps
theorem runR_gen : ∀ (n : Nat) (t : Int) (K : Kp), K.length ≤ n → Apart K → (∀ p ∈ K, t ≤ p.1) →
    (runR n t K).2.1 = t + (runR n t K).1.length ∧ (∀ (j : Nat) (y : List Int), (runR n t K).1[j]? = some y → (t + (j : Int), y) ∈ K) ∧ Apart (runR n t K).2.2 ∧ (∀ p ∈ (runR n t K).2.2, p ∈ K ∧ (runR n t K).2.1 < p.1) ∧ (∀ p ∈ K, p ∈ (runR n t K).2.2 ∨ p.1 < (runR n t K).2.1) ∧ (runR n t K).2.2.length + (runR n t K).1.length = K.length := by
 intro n
 induction n with
 | zero =>
  intro t K hK hA hp
  obtain rfl : K = [] := List.eq_nil_of_length_eq_zero (by omega)
  exact ⟨by simp [runR], fun j y h => by simp [runR] at h, hA, fun p h => by simp [runR] at h, fun p h => by simp at h, rfl⟩
 | succ n ih =>
  intro t K hK hA hp
  cases hl : look K t with
  | none =>
   rw [runR_none hl]
   refine ⟨by simp, fun j y h => by simp at h, hA, fun p h => ⟨h, ?_⟩, fun p h => .inl h, by simp⟩
   have h1 := hp p h
   have h2 := look_none.1 hl p h
   show t < p.1
   omega
  | some y =>
   have hlen := less_len hl
   have hp2 : ∀ p ∈ less K t, t + 1 ≤ p.1 := fun p h => by
    have h1 := hp p (less_mem h)
    have h2 := look_none.1 (less_same hA) p h
    omega
   obtain ⟨h1, h2, h3, h4, h5, h6⟩ := ih (t + 1) (less K t) (by omega) hA.less hp2
   rw [runR_some hl]
   refine ⟨by rw [h1]; simp; omega, fun j z hj => ?_, h3, fun p h => ⟨less_mem (h4 p h).1, (h4 p h).2⟩, fun p h => ?_, by simp; omega⟩
   · cases j with
     | zero =>
      simp at hj
      subst hj
      simpa using look_some hl
     | succ j =>
      have := less_mem (h2 j z (by simpa using hj))
      rw [show t + 1 + (j : Int) = t + ((j + 1 : Nat) : Int) by omega] at this
      exact this
   · by_cases e : p.1 = t
     · right
       rw [h1]
       omega
     · refine h5 p ?_
       unfold less
       exact (List.mem_eraseP_of_neg (by simpa using e)).2 h
def Val (L : List (List Int)) (B : Int) (K : Kp) : Prop := ∀ p ∈ K, 0 ≤ p.1 ∧ p.1 < B ∧ p.2 = L.getD p.1.toNat []
theorem take_told {L : List (List Int)} {B t : Int} (hB : B ≤ L.length) (h0 : 0 ≤ t) {M : List (List Int)} {K : Kp} (hV : Val L B K) (hM : ∀ (j : Nat) (y : List Int), M[j]? = some y → (t + (j : Int), y) ∈ K) (hend : M = [] ∨ t + M.length ≤ B) : L.take t.toNat ++ M = L.take (t + M.length).toNat := by
 rcases hend with rfl | hend
 · simp
 · have e : (t + (M.length : Int)).toNat = t.toNat + M.length := by omega
   rw [e, List.take_add]
   congr 1
   apply List.ext_getElem
   · rw [List.length_take, List.length_drop]; omega
   · intro j h1 h2
     have h3 := hV _ (hM j _ (List.getElem?_eq_getElem h1))
     have h4 := h3.2.2
     simp only at h4
     rw [h4, List.getElem_take, List.getElem_drop, List.getD_eq_getElem?_getD, show (t + (j : Int)).toNat = t.toNat + j by omega, List.getElem?_eq_getElem (by omega)]
     rfl
structure Inv (W Q : Int) (m : Nat) (L : List (List Int)) (d : Nat) (t : Int) (K : Kp) (P : List (List Int)) (N : List (Int × List Int)) (A : List Int) (T : List (List Int)) : Prop where
 same : P = L
 le : d ≤ L.length
 lo : (d : Int) ≤ t
 hi : t ≤ L.length
 win : t ≤ d + W
 told : T = L.take t.toNat
 sent : ∀ p ∈ N, 0 ≤ p.1 ∧ p.1 < L.length ∧ p.1 < d + W ∧ p.2 = L.getD p.1.toNat []
 kept : ∀ p ∈ K, t < p.1 ∧ p.1 < L.length ∧ p.1 < d + W ∧ p.2 = L.getD p.1.toNat []
 apart : Apart K
 acks : ∀ a ∈ A, a ≤ t
 few : L.length ≤ m ∧ N.length ≤ 64 * m ∧ A.length ≤ m ∧ K.length ≤ m
 small : ∀ x ∈ L, x.length ≤ 500
 room : (L.length : Int) - d ≤ W + Q
section
variable {W Q : Int} {m : Nat} {L : List (List Int)} {d : Nat} {t : Int} {K : Kp} {P : List (List Int)} {N : List (Int × List Int)} {A : List Int} {T : List (List Int)}
theorem Inv.start (W Q : Int) (hW : 1 ≤ W) (hQ : 0 ≤ Q) : Inv W Q 0 [] 0 0 [] [] [] [] [] :=
 ⟨rfl, Nat.le_refl _, Int.le_refl _, Int.le_refl _, by omega, by simp, fun p h => by simp at h, fun p h => by simp at h, by simp [Apart], fun a h => by simp at h, by simp, fun x h => by simp at h, by simp; omega⟩
theorem Inv.later (h : Inv W Q m L d t K P N A T) : Inv W Q (m + 1) L d t K P N A T :=
 ⟨h.same, h.le, h.lo, h.hi, h.win, h.told, h.sent, h.kept, h.apart, h.acks, by have := h.few; omega, h.small, h.room⟩
theorem getD_app (L : List (List Int)) (x : List Int) {k : Nat} (h : k < L.length) : (L ++ [x]).getD k [] = L.getD k [] := by
 rw [List.getD_eq_getElem?_getD, List.getD_eq_getElem?_getD, List.getElem?_append_left h]
theorem Inv.push (h : Inv W Q m L d t K P N A T) {x : List Int} (hx : x.length ≤ 500) (hrm : (L.length : Int) - d < W + Q) : Inv W Q (m + 1) (L ++ [x]) d t K (P ++ [x]) N A T := by
 have hl := h.lo
 have hh := h.hi
 refine ⟨by rw [h.same], by rw [List.length_append]; have := h.le; omega, h.lo, by rw [List.length_append]; omega, h.win, ?_, fun p hp => ?_, fun p hp => ?_, h.apart, h.acks, by rw [List.length_append]; have := h.few; simp; omega, fun y hy => ?_, by rw [List.length_append]; simp; omega⟩
 · rw [List.take_append_of_le_length (by omega)]
   exact h.told
 · obtain ⟨h1, h2, h3, h4⟩ := h.sent p hp
   exact ⟨h1, by rw [List.length_append]; omega, h3, by rw [getD_app L x (by omega)]; exact h4⟩
 · obtain ⟨h1, h2, h3, h4⟩ := h.kept p hp
   exact ⟨h1, by rw [List.length_append]; omega, h3, by rw [getD_app L x (by omega)]; exact h4⟩
 · rcases List.mem_append.1 hy with hy | hy
   · exact h.small y hy
   · rw [List.mem_singleton.1 hy]; exact hx
theorem out_mem {L : List (List Int)} {d n : Nat} {p : Int × List Int} (h : p ∈ outK L d n) : ∃ j, j < n ∧ p = (((d + j : Nat) : Int), L.getD (d + j) []) := by
 unfold outK at h
 obtain ⟨j, hj, rfl⟩ := List.mem_map.1 h
 exact ⟨j, List.mem_range.1 hj, rfl⟩
theorem und_W (hW : 1 ≤ W ∧ W ≤ 64) (L : List (List Int)) (d : Nat) : (undT W L d : Int) ≤ W ∧ undT W L d ≤ 64 := by
 have : undT W L d ≤ W.toNat := Nat.min_le_left _ _
 omega
theorem Inv.out (h : Inv W Q m L d t K P N A T) (hW : 1 ≤ W ∧ W ≤ 64) : Inv W Q (m + 1) L d t K P (N ++ outK L d (undT W L d)) A T := by
 have hu := und_W hW L d
 have hu2 := und_le W L d
 have hle := h.le
 refine ⟨h.same, h.le, h.lo, h.hi, h.win, h.told, fun p hp => ?_, h.kept, h.apart, h.acks, by rw [List.length_append, outK_len]; have := h.few; omega, h.small, h.room⟩
 rcases List.mem_append.1 hp with hp | hp
 · exact h.sent p hp
 · obtain ⟨j, hj, rfl⟩ := out_mem hp
   refine ⟨by simp only; omega, by simp only; omega, by simp only; omega, ?_⟩
   simp only [Int.toNat_natCast]
theorem Inv.ack (h : Inv W Q m L d t K P N A T) (hW : 1 ≤ W ∧ W ≤ 64) {a : Int} (ha : a ≤ t) : Inv W Q (m + 1) L (ackD W L d a) t K P N A T ∧ d ≤ ackD W L d a := by
 unfold ackD
 have hl := h.lo
 cases ho : ackOk W L d a with
 | false => exact ⟨h.later, Nat.le_refl _⟩
 | true =>
  unfold ackOk at ho
  simp only [Bool.and_eq_true, decide_eq_true_eq] at ho
  have hu := und_W hW L d
  have hu2 := und_le W L d
  have hle := h.le
  have hwin := h.win
  rw [if_pos rfl]
  refine ⟨⟨h.same, by omega, by omega, h.hi, by omega, h.told, fun p hp => ?_, fun p hp => ?_, h.apart, h.acks, by have := h.few; omega, h.small, by have := h.room; omega⟩, by omega⟩
  · obtain ⟨h1, h2, h3, h4⟩ := h.sent p hp
    exact ⟨h1, h2, by omega, h4⟩
  · obtain ⟨h1, h2, h3, h4⟩ := h.kept p hp
    exact ⟨h1, h2, by omega, h4⟩
theorem Inv.want (h : Inv W Q m L d t K P N A T) : Inv W Q (m + 1) L d t K P N (A ++ [t]) T :=
 ⟨h.same, h.le, h.lo, h.hi, h.win, h.told, h.sent, h.kept, h.apart, fun a ha => by
  rcases List.mem_append.1 ha with ha | ha
  · exact h.acks a ha
  · rw [List.mem_singleton.1 ha]; exact Int.le_refl _, by rw [List.length_append]; have := h.few; simp; omega, h.small, h.room⟩
theorem getD_mem {L : List (List Int)} {k : Nat} (h : k < L.length) : L.getD k [] ∈ L := by
 rw [List.getD_eq_getElem?_getD, List.getElem?_eq_getElem h]
 exact List.getElem_mem _
theorem Inv.take (h : Inv W Q m L d t K P N A T) {p : Int × List Int} (h0 : 0 ≤ p.1) (h1 : p.1 < L.length) (h2 : p.1 < d + W) (h3 : p.2 = L.getD p.1.toNat []) :
    Inv W Q (m + 1) L d (takeT W t K p.1 p.2).2.1 (takeT W t K p.1 p.2).2.2 P N A (T ++ (takeT W t K p.1 p.2).1) ∧ t ≤ (takeT W t K p.1 p.2).2.1 ∧ (p.1 < (takeT W t K p.1 p.2).2.1 ∨ ∃ q ∈ (takeT W t K p.1 p.2).2.2, q.1 = p.1) ∧ ∀ q ∈ K, q.1 < (takeT W t K p.1 p.2).2.1 ∨ q ∈ (takeT W t K p.1 p.2).2.2 := by
 have hsm : p.2.length ≤ 500 := by rw [h3]; exact h.small _ (getD_mem (by omega))
 have hlo := h.lo
 have hhi := h.hi
 have hwin := h.win
 have ht0 : 0 ≤ t := by omega
 unfold takeT
 cases hn : nearT W t p.1 with
 | false =>
  have hlt : p.1 < t := by
   unfold nearT at hn
   by_cases h' : t ≤ p.1
   · rw [decide_eq_true h', Bool.true_and] at hn
     have := of_decide_eq_false hn
     omega
   · omega
  rw [Bool.false_and]
  refine ⟨?_, Int.le_refl _, .inl hlt, fun q hq => .inr hq⟩
  show Inv W Q (m + 1) L d t K P N A (T ++ [])
  rw [List.append_nil]
  exact h.later
 | true =>
  have hle : t ≤ p.1 := by
   unfold nearT at hn
   rw [Bool.and_eq_true] at hn
   exact of_decide_eq_true hn.1
  rw [Bool.true_and, decide_eq_true (by omega), if_pos rfl]
  have hK' : (keepT K p.1 p.2).length ≤ K.length + 1 := keepT_len K p.1 p.2
  have hA' : Apart (keepT K p.1 p.2) := by
   unfold keepT
   cases hl : look K p.1 with
   | none => exact h.apart.snoc hl
   | some y => exact h.apart
  have hp' : ∀ q ∈ keepT K p.1 p.2, q ∈ K ∨ q = (p.1, p.2) := by
   intro q hq
   unfold keepT at hq
   split at hq
   · exact .inl hq
   · rcases List.mem_append.1 hq with hq | hq
     · exact .inl hq
     · exact .inr (List.mem_singleton.1 hq)
  have hin : ∀ q ∈ K, q ∈ keepT K p.1 p.2 := by
   intro q hq
   unfold keepT
   split
   · exact hq
   · exact List.mem_append_left _ hq
  have hhas : ∃ q ∈ keepT K p.1 p.2, q.1 = p.1 := by
   unfold keepT
   cases hl : look K p.1 with
   | none => exact ⟨(p.1, p.2), by simp, rfl⟩
   | some y => exact ⟨(p.1, y), by simpa using look_some hl, rfl⟩
  have hge : ∀ q ∈ keepT K p.1 p.2, t ≤ q.1 := by
   intro q hq
   rcases hp' q hq with hq | rfl
   · have := (h.kept q hq).1; omega
   · exact hle
  obtain ⟨B, hB⟩ : ∃ B : Int, B = min (L.length : Int) ((d : Int) + W) := ⟨_, rfl⟩
  have hBL : B ≤ L.length := by omega
  have hV : Val L B (keepT K p.1 p.2) := by
   intro q hq
   rcases hp' q hq with hq | rfl
   · obtain ⟨k1, k2, k3, k4⟩ := h.kept q hq
     exact ⟨by omega, by omega, k4⟩
   · exact ⟨h0, by simp only; omega, h3⟩
  obtain ⟨r1, r2, r3, r4, r5, r6⟩ := runR_gen (K.length + 1) t (keepT K p.1 p.2) hK' hA' hge
  generalize runR (K.length + 1) t (keepT K p.1 p.2) = R at *
  have hend : R.1 = [] ∨ t + R.1.length ≤ B := by
   cases hR : R.1 with
   | nil => exact .inl rfl
   | cons y ys =>
    right
    have hl : R.1.length - 1 < R.1.length := by rw [hR]; simp
    have := (hV _ (r2 (R.1.length - 1) _ (List.getElem?_eq_getElem hl))).2.1
    simp only at this
    rw [← hR]
    omega
  have htl := take_told hBL ht0 hV r2 hend
  have hfin : t ≤ R.2.1 := by rw [r1]; omega
  have hfB : R.2.1 ≤ L.length ∧ R.2.1 ≤ d + W := by
   rw [r1]
   rcases hend with e | e
   · rw [e]; simp; omega
   · omega
  refine ⟨⟨h.same, h.le, by omega, hfB.1, hfB.2, by rw [h.told, htl, ← r1], h.sent, fun q hq => ?_, r3, fun a ha => by have := h.acks a ha; omega, by have := h.few; omega, h.small, h.room⟩, hfin, ?_, fun q hq => ?_⟩
  · obtain ⟨k1, k2⟩ := r4 q hq
    obtain ⟨v1, v2, v3⟩ := hV q k1
    exact ⟨k2, by omega, by omega, v3⟩
  · obtain ⟨q, hq, e⟩ := hhas
    rcases r5 q hq with k | k
    · exact .inr ⟨q, k, e⟩
    · exact .inl (by omega)
  · rcases r5 q (hin q hq) with k | k
    · exact .inr k
    · exact .inl k
end
def LI (W Q : Int) (m : Nat) (col : Nat → Nat) (w : World) (kb : Nat) : Prop :=
 ∃ sb rb vp vn va vt L d t K P N A T, LK W Q col w kb sb rb vp vn va vt L d t K P N A T ∧ Inv W Q m L d t K P N A T
section
variable {S : Nat → Prop} {W Q : Int} {m : Nat} {col col' : Nat → Nat} {w w' : World} {kb : Nat}
theorem LI.ev (h : LI W Q m col w kb) (he : Ev S col w col' w') (h0 : ∀ c, S c → False) : LI W Q m col' w' kb := by
 obtain ⟨sb, rb, vp, vn, va, vt, L, d, t, K, P, N, A, T, h1, h2⟩ := h
 exact ⟨sb, rb, vp, vn, va, vt, L, d, t, K, P, N, A, T, h1.ev he h0, h2⟩
theorem step_li (h : LI W Q m col w kb) (hm : m ≤ 200) (x : Dd) (hx : x.data.size ≤ 500) : Calls Try.prog 29 #[.pointer (some ⟨kb, 0, none⟩), .agg #[.int .i64 x.kind, .int .i64 x.n, .string x.data]] w fun e w' => e = .returned (.tuple #[]) ∧ ∃ col', LI W Q (m + 1) col' w' kb ∧ Ev S7 col w col' w' := by
 obtain ⟨sb, rb, vp, vn, va, vt, L, d, t, K, P, N, A, T, h1, I⟩ := h
 have hW := h1.s.wide
 obtain ⟨f1, f2, f3, f4⟩ := I.few
 obtain ⟨kd, nn, s⟩ := x
 simp only at hx ⊢
 have hPL : P.length = L.length := by rw [I.same]
 have hTl : T.length ≤ m := by rw [I.told, List.length_take]; omega
 by_cases k0 : kd = 0
 · subst k0
   by_cases hp : pushE W Q L d (ints s) = 0
   · refine (step0_yes h1 nn (by omega) (by omega) (by omega) hp).mono ?_
     rintro e w' ⟨rfl, col', vp', vn', va', vt', k1, k2⟩
     have hpl : pushL W Q L d (ints s) = L ++ [ints s] := by unfold pushL; rw [if_pos hp]
     rw [hpl] at k1
     exact ⟨rfl, col', ⟨_, _, _, _, _, _, _, _, _, _, _, _, _, _, k1, I.push (by rw [ints_length]; exact hx) (by
      unfold pushE at hp
      rw [if_neg (by rw [ints_length]; omega)] at hp
      by_cases hq : W + Q ≤ ((L.length - d : Nat) : Int)
      · rw [if_pos hq] at hp; cases hp
      · have := I.le; omega)⟩, k2⟩
   · refine (step0_no h1 nn (by omega) (by omega) hp rfl).mono ?_
     rintro e w' ⟨rfl, col', vp', vn', va', vt', k1, k2⟩
     have hpl : pushL W Q L d (ints s) = L := by unfold pushL; rw [if_neg hp]
     rw [hpl] at k1
     exact ⟨rfl, col', ⟨_, _, _, _, _, _, _, _, _, _, _, _, _, _, k1, I.later⟩, k2⟩
 by_cases k1 : kd = 1
 · subst k1
   have hu := und_W ⟨hW.1, hW.2.1⟩ L d
   refine (step1_any h1 nn (s := s) (by omega) (fun x hx => by have := I.small x hx; omega)).mono ?_
   rintro e w' ⟨rfl, col', vp', vn', va', vt', k1, k2⟩
   exact ⟨rfl, col', ⟨_, _, _, _, _, _, _, _, _, _, _, _, _, _, k1, I.out ⟨hW.1, hW.2.1⟩⟩, k2⟩
 by_cases k2 : kd = 2
 · subst k2
   by_cases hN : N = []
   · subst hN
     refine (step2_none h1 nn (s := s)).mono ?_
     rintro e w' ⟨rfl, col', vp', vn', va', vt', k1, k2⟩
     exact ⟨rfl, col', ⟨_, _, _, _, _, _, _, _, _, _, _, _, _, _, k1, I.later⟩, k2⟩
   · have hN0 : 0 < N.length := List.length_pos_iff.2 hN
     have hj := (idx_mod nn hN0).2.1
     have hmem : N.getD (idxT N.length nn) (0, []) ∈ N := by
      rw [List.getD_eq_getElem?_getD, List.getElem?_eq_getElem hj]
      exact List.getElem_mem _
     obtain ⟨s1, s2, s3, s4⟩ := I.sent _ hmem
     have hT := I.take s1 s2 s3 s4
     have hhi := I.hi
     have hto := hT.1.told
     have hthi := hT.1.hi
     refine (step2_any h1 nn (s := s) hN0 (by omega) (by omega) (by omega) (fun p hp => ?_) ?_).mono ?_
     · obtain ⟨g1, g2, g3, g4⟩ := I.sent p hp
       refine ⟨by unfold wf64; omega, ?_⟩
       rw [g4]
       have := I.small _ (getD_mem (L := L) (k := p.1.toNat) (by omega))
       omega
     · have := congrArg List.length hto
       rw [List.length_append, List.length_take] at this
       omega
     · rintro e w' ⟨rfl, col', vp', vn', va', vt', k1, k2⟩
       exact ⟨rfl, col', ⟨_, _, _, _, _, _, _, _, _, _, _, _, _, _, k1, hT.1⟩, k2⟩
 by_cases k3 : kd = 3
 · subst k3
   by_cases hA : A = []
   · subst hA
     refine (step3_none h1 nn (s := s)).mono ?_
     rintro e w' ⟨rfl, col', vp', vn', va', vt', k1, k2⟩
     exact ⟨rfl, col', ⟨_, _, _, _, _, _, _, _, _, _, _, _, _, _, k1, I.later⟩, k2⟩
   · have hA0 : 0 < A.length := List.length_pos_iff.2 hA
     have hj := (idx_mod nn hA0).2.1
     have hmem : A.getD (idxT A.length nn) 0 ∈ A := by
      rw [List.getD_eq_getElem?_getD, List.getElem?_eq_getElem hj]
      exact List.getElem_mem _
     refine (step3_any h1 nn (s := s) hA0 (by omega)).mono ?_
     rintro e w' ⟨rfl, col', vp', vn', va', vt', k1, k2⟩
     exact ⟨rfl, col', ⟨_, _, _, _, _, _, _, _, _, _, _, _, _, _, k1, (I.ack ⟨hW.1, hW.2.1⟩ (I.acks _ hmem)).1⟩, k2⟩
 by_cases k4 : kd = 4
 · subst k4
   refine (step4_any h1 nn (s := s) (by omega)).mono ?_
   rintro e w' ⟨rfl, col', vp', vn', va', vt', k1, k2⟩
   exact ⟨rfl, col', ⟨_, _, _, _, _, _, _, _, _, _, _, _, _, _, k1, I.want⟩, k2⟩
 · refine (stepX_any h1 kd nn (s := s) ⟨k0, k1, k2, k3, k4⟩).mono ?_
   rintro e w' ⟨rfl, col', vp', vn', va', vt', k1, k2⟩
   exact ⟨rfl, col', ⟨_, _, _, _, _, _, _, _, _, _, _, _, _, _, k1, I.later⟩, k2⟩
def BegunP (W Q : Int) (w : World) (e : Ending) (w' : World) : Prop := ∃ kb, e = .returned (.tuple #[.pointer (some ⟨kb, 0, none⟩), .bool (okS W Q)]) ∧ Below w.heap.size w w' ∧ (okS W Q = true → ∃ col', LI W Q 0 col' w' kb ∧ Ev (fun _ => False) (fun _ => 99) w col' w')
theorem begun_yes (hk : okS W Q = true) (w : World) : Calls Try.prog 28 #[.int .i64 W, .int .i64 Q] w (BegunP W Q w) := by
 have hwd : wideT W = true := by unfold okS at hk; simp only [Bool.and_eq_true] at hk; exact hk.1
 have hw1 : 1 ≤ W := by unfold wideT at hwd; simp only [Bool.and_eq_true, decide_eq_true_eq] at hwd; exact hwd.1
 have hq0 : 0 ≤ Q := by unfold okS at hk; simp only [Bool.and_eq_true, decide_eq_true_eq] at hk; exact hk.2.1
 have hns := newS_yes hk w
 have hnr := fun X => newR_yes hwd X
 have HF : Hid (∀ (w1 w2 w3 : World) (n1 n2 : Nat), n1 = w.heap.size + 1 → n2 = w.heap.size + 1 + 1 + 1 → w1 = w.alloc (.cells #[.int .i64 W, .int .i64 Q, .int .i64 0, .slice none 0 0] 64) → w2 = (w1.alloc (.map #[] 0)).alloc (.cells #[.int .i64 W, .int .i64 0, .map (some n1)] 69) → w3 = w2.alloc (.cells #[.pointer (some ⟨w.heap.size, 0, none⟩), .pointer (some ⟨n1 + 1, 0, none⟩), .slice none 0 0, .slice none 0 0, .slice none 0 0, .slice none 0 0] 62) →
     BegunP W Q w (.returned (.tuple #[.pointer (some ⟨n2, 0, none⟩), .bool true])) w3) := by
  intro w1 w2 w3 n1 n2 g1 g2 e1 e2 e3
  obtain rfl : n1 = w1.heap.size := by rw [g1, e1]; simp
  obtain rfl : n2 = w2.heap.size := by rw [g2, e2, e1]; simp
  clear g1 g2
  have b1 : Below w.heap.size w w1 := by rw [e1]; exact (Below.refl _ _).alloc (Nat.le_refl _) _
  have b2 : Below w1.heap.size w1 w2 := by rw [e2]; exact ((Below.refl _ _).alloc (Nat.le_refl _) _).alloc (by simp) _
  have b3 : Below w2.heap.size w2 w3 := by rw [e3]; exact (Below.refl _ _).alloc (Nat.le_refl _) _
  have v1 : Ev (fun _ => False) (fun _ => 99) w (paint (fun _ => 99) w (some w.heap.size) 1) w1 := Ev.paint (Keep.of_below b1) _ _
  have p1 : PS 1 (paint (fun _ => 99) w (some w.heap.size) 1) w1 w.heap.size W Q [] 0 := by rw [e1]; exact PS.new hk
  generalize paint (fun _ => 99) w (some w.heap.size) 1 = c1 at *
  have v2 : Ev (fun _ => False) c1 w1 (paintAll c1 w1 2) w2 := Ev.paintAll (Keep.of_below b2) 2
  have p2 : PR 2 (paintAll c1 w1 2) w2 (w1.heap.size + 1) W 0 [] := by rw [e2]; exact PR.new hwd
  have p12 := p1.ev v2 (fun h => h) fun h => h
  generalize paintAll c1 w1 2 = c2 at *
  have v3 : Ev (fun _ => False) c2 w2 (paint c2 w2 (some w2.heap.size) 7) w3 := Ev.paint (Keep.of_below b3) _ _
  have hz : w3.heap.size = w2.heap.size + 1 := by rw [e3]; simp
  refine ⟨_, by rw [hk], belowP b1 (belowP b2 b3), fun _ => ⟨_, ⟨w.heap.size, w1.heap.size + 1, .slice none 0 0, .slice none 0 0, .slice none 0 0, .slice none 0 0, [], 0, 0, [], [], [], [], [], ⟨⟨paint_it (Nat.le_refl _), by omega⟩, ?_, p12.ev v3 (fun h => h) fun h => h, p2.ev v3 (fun h => h) fun h => h, Rw.nil _ _ _ _, Rw.nil _ _ _ _, Rw.nil _ _ _ _, Rw.nil _ _ _ _⟩, Inv.start W Q hw1 hq0⟩, (v1.trans v2 fun _ h => h).trans v3 fun _ h => h⟩⟩
  rw [e3]
  exact heap_alloc_new _ _
 go_enter Try.func28, Try.ntmps28
 go_upto_region 2 with (go_at_call 10; refine hns.mono ?_; rintro e w' ⟨rfl, rfl⟩)
 go_upto_region 3 with (go_at_call 22; refine (hnr _).mono ?_; rintro e w'' ⟨rfl, rfl⟩)
 go_wp2
 go_ret2
 exact HF.out _ _ _ _ _ rfl rfl rfl rfl rfl
theorem begun_no (hk : okS W Q = false) (w : World) : Calls Try.prog 28 #[.int .i64 W, .int .i64 Q] w (BegunP W Q w) := by
 have hns := newS_no hk w
 have HF : Hid (∀ (kb : Nat) (w' : World), Below w.heap.size w w' → BegunP W Q w (.returned (.tuple #[.pointer (some ⟨kb, 0, none⟩), .bool false])) w') := fun kb w' hb => ⟨kb, by rw [hk], hb, fun h => by rw [hk] at h; cases h⟩
 cases hwd : wideT W with
 | true =>
  have hnr := newR_yes hwd w
  clear hwd
  go_enter Try.func28, Try.ntmps28
  go_upto_region 2 with (go_at_call 10; refine hns.mono ?_; rintro e w' ⟨rfl, rfl⟩)
  go_upto_region 3 with (go_at_call 22; refine hnr.mono ?_; rintro e w'' ⟨rfl, rfl⟩)
  go_wp2
  go_ret2
  exact HF.out _ _ ((((Below.refl _ _).alloc (Nat.le_refl _) _).alloc (by simp) _).alloc (by simp; omega) _)
 | false =>
  have hnr := newR_no hwd w
  clear hwd
  go_enter Try.func28, Try.ntmps28
  go_upto_region 2 with (go_at_call 10; refine hns.mono ?_; rintro e w' ⟨rfl, rfl⟩)
  go_upto_region 3 with (go_at_call 22; refine hnr.mono ?_; rintro e w'' ⟨rfl, rfl⟩)
  go_wp2
  go_ret2
  exact HF.out _ _ ((Below.refl _ _).alloc (Nat.le_refl _) _)
theorem begun_any (W Q : Int) (w : World) : Calls Try.prog 28 #[.int .i64 W, .int .i64 Q] w (BegunP W Q w) := by
 cases h : okS W Q with
 | true => exact begun_yes h w
 | false => exact begun_no h w
end
theorem slice_to {t e : TypeId} (hu : Try.prog.underlying t = some (.slice e)) (p : Option Addr) (len cap k : Nat) (hk : k ≤ cap) {z : Nat} (hz : ∀ X, (sizeOf e).run Try.prog X = .ok z X) (X : World) : (Instr.slice t (.slice p len cap) none (some (.int .i64 (k : Int))) none).run Try.prog X = .ok (.slice p k cap) X := by
 cases p <;> simp [Instr.slice, Instr.sliceBounds, Instr.sliceBound, run_underlying hu, go_sem, asIntOf, hk, hz X]
theorem Sl.take {τ : Type} {E : El τ} {O D : Nat → Prop} {w : World} {p : Option Addr} {len c : Nat} {L : List τ} (h : Sl E O D w (.slice p len c) L) {k : Nat} (hk : k ≤ L.length) : Sl E O D w (.slice p k c) (L.take k) := by
 obtain ⟨p', c', cs, e, h1, h2, h3, h4⟩ := h
 cases e
 have e : (L.take k).length = k := by rw [List.length_take]; omega
 refine ⟨p, c, cs.take k, by rw [e], by rw [e]; omega, h2, h3.take k, fun hn => ?_⟩
 obtain ⟨b, o, hp, hb, hc⟩ := h4 (by rintro rfl; simp at hn)
 refine ⟨b, o, hp, hb, fun j u hj => hc j u ?_⟩
 rw [flat_take cs (El.lens h3), List.getElem?_take] at hj
 split at hj
 · exact hj
 · cases hj
theorem ev_below {S : Nat → Prop} {w w' : World} {col' : Nat → Nat} (h : Ev S (fun _ => 99) w col' w') (h9 : ¬ S 99) : Below w.heap.size w w' := h.keep.below (Nat.le_refl _) fun _ _ h => h9 h
theorem fifo_any {D : Nat → Prop} {w : World} {v : Value} {l : List Dd} (W Q : Int) (h : Sl ED (· < w.heap.size) D w v l) (hl : l.length ≤ 9223372036854775807) (hs : ∀ x ∈ l, x.data.size ≤ 9223372036854775807) :
    Calls Try.prog 5 #[.int .i64 W, .int .i64 Q, v] w fun e w' => e = .returned (.bool true) ∧ Below w.heap.size w w' := by
 have hfw := few_any h hl hs
 obtain ⟨p, c, rfl, hlc, hk⟩ := h.deeds
 cases hf : fewT l with
 | false =>
  rw [hf] at hfw
  clear hk h hf hlc
  generalize l.length = n at *
  go_enter Try.func5, Try.ntmps5
  go_wp2_with (go_at_call 9; refine hfw.mono ?_; rintro e w' ⟨rfl, rfl⟩)
  go_ret
  exact ⟨rfl, Below.refl _ _⟩
 | true =>
  have hf2 := hf
  unfold fewT at hf2
  rw [Bool.and_eq_true] at hf2
  have hn2 := of_decide_eq_true hf2.1
  have HK : Hid (∀ j, j < l.length → ∃ (b o : Nat) (x : Dd), p = some ⟨b, o, none⟩ ∧ b < w.heap.size ∧ w.cell? ⟨b, o + j * 3, none⟩ = some (.int .i64 x.kind) ∧ w.cell? ⟨b, o + j * 3 + 1, none⟩ = some (.int .i64 x.n) ∧ w.cell? ⟨b, o + j * 3 + 2, none⟩ = some (.string x.data) ∧ x.data.size ≤ 500) := fun j hj => by
   obtain ⟨b, o, h1, h2, h3, h4, h5⟩ := hk j hj
   refine ⟨b, o, l.getD j noDd, h1, h2, h3, h4, h5, of_decide_eq_true (List.all_eq_true.1 hf2.2 _ ?_)⟩
   rw [List.getD_eq_getElem?_getD, List.getElem?_eq_getElem hj]
   exact List.getElem_mem _
  have hbg := begun_any W Q
  rw [hf] at hfw
  clear hk h hf hf2 hs hl
  generalize l.length = n at *
  go_enter Try.func5, Try.ntmps5
  go_upto_region 3 with (go_at_call 9; refine hfw.mono ?_; rintro e w' ⟨rfl, rfl⟩)
  go_upto_region 4 with (go_at_call 28; refine (hbg _).mono ?_; rintro e w1 ⟨kb, rfl, hb1, hst⟩)
  clear hfw hbg
  cases hok : okS W Q with
  | false =>
   have HB1 : Hid (Below w'.heap.size w' w1) := hb1
   clear hst hok hb1
   have haw := awake_any w1
   go_upto_region 5 with fail
   go_loopw [9] (fun iv wr => iv = .int .i64 0 ∧ wr = w1) (fun _ _ => 0)
   case atStart => exact ⟨rfl, rfl⟩
   case round =>
    obtain ⟨rfl, rfl⟩ := hrel
    rcases Nat.eq_zero_or_pos n with rfl | hn0
    · go_wp2_with (go_at_call 12; refine haw.mono ?_; rintro e w3 ⟨rfl, hb3⟩)
      go_ret
      exact ⟨rfl, belowP HB1.out hb3⟩
    · go_wp2_with (go_at_call 12; refine haw.mono ?_; rintro e w3 ⟨rfl, hb3⟩)
      go_ret
      exact ⟨rfl, belowP HB1.out hb3⟩
  | true =>
   obtain ⟨c1, hL1, hE1⟩ := hst hok
   have HL1 : Hid (LI W Q 0 c1 w1 kb) := hL1
   have HE1 : Hid (Ev S7 (fun _ => 99) w' c1 w1) := hE1.mono fun _ h => h.elim
   clear hst hL1 hE1 hb1
   go_upto_region 5 with fail
   go_loopw [9] (fun iv wr => ∃ (k : Nat) (cr : Nat → Nat), k ≤ n ∧ iv = .int .i64 (k : Int) ∧ Hid (LI W Q k cr wr kb) ∧ Hid (Ev S7 (fun _ => 99) w' cr wr)) (fun iv _ => n - (intOf iv).toNat)
   case atStart => exact ⟨0, c1, Nat.zero_le _, rfl, HL1.out, HE1.out⟩
   case round =>
    obtain ⟨k, cr, hk, rfl, HLI, HE⟩ := hrel
    have hbw := ev_below HE.out (by unfold S7; omega)
    by_cases hkn : k < n
    · obtain ⟨db, do_, x, rfl, hdb, hd0, hd1, hd2, hdx⟩ := HK.out k hkn
      have y0 : wr.cell? ⟨db, do_ + k * 3, none⟩ = _ := (World.cell?_of_block (a := ⟨db, do_ + k * 3, none⟩) (hbw.block db hdb)).trans hd0
      have y1 : wr.cell? ⟨db, do_ + k * 3 + 1, none⟩ = _ := (World.cell?_of_block (a := ⟨db, do_ + k * 3 + 1, none⟩) (hbw.block db hdb)).trans hd1
      have y2 : wr.cell? ⟨db, do_ + k * 3 + 2, none⟩ = _ := (World.cell?_of_block (a := ⟨db, do_ + k * 3 + 2, none⟩) (hbw.block db hdb)).trans hd2
      have hsp := step_li HLI.out (by omega) x hdx
      obtain ⟨kd, nn, sx⟩ := x
      simp only at y0 y1 y2 hsp
      clear hd0 hd1 hd2 hdx hdb hbw
      go_upto_region 8 with (go_at_call 29; refine hsp.mono ?_; rintro e w2 ⟨rfl, c2, hL2, hE2⟩)
      have HL2 : Hid (LI W Q (k + 1) c2 w2 kb) := hL2
      have HE2 : Hid (Ev S7 (fun _ => 99) w' c2 w2) := HE.out.trans hE2 fun _ h => h
      obtain ⟨sb, rb, vp, vn, va, vt, L, d, t, K', P, N, A, T, hKK, hI⟩ := hL2
      clear hsp hE2 y0 y1 y2 HLI
      obtain ⟨qp, kp, hvp⟩ := hKK.p.slice
      obtain ⟨qt, kt, hvt⟩ := hKK.o.slice
      obtain ⟨qn, kn, hvn⟩ := hKK.n.slice
      subst hvp hvt hvn
      have hcp : P.length ≤ kp := by obtain ⟨_, _, _, e, h1, _⟩ := hKK.p.sl; cases e; exact h1
      have hlo := hI.lo
      have hhi := hI.hi
      have hfw := hI.few
      have hPL : P.length = L.length := by rw [hI.same]
      have hTl : T.length = t.toNat := by rw [hI.told, List.length_take]; omega
      have htk : T = P.take T.length := by rw [hTl, hI.same]; exact hI.told
      obtain ⟨tl, htl⟩ : ∃ tl, T.length = tl := ⟨_, rfl⟩
      have ht : t = (tl : Int) := by omega
      subst ht
      have HSL : Hid (∀ X, (Instr.slice 31 (.slice qp P.length kp) none (some (.int .i64 (tl : Int))) none).run Try.prog X = .ok (.slice qp tl kp) X) := slice_to Try.underlying31 qp P.length kp tl (by omega) Try.sizeOf37
      have HTX : Hid (∀ j, Calls Try.prog 23 #[.slice qt tl kt, .slice qp tl kp] (w2.drewN j) fun e w' => e = .returned (.bool true) ∧ ∃ m, w' = (w2.drewN j).drewN m) := fun j => by
       have h1 := hKK.o.sl
       rw [htl] at h1
       have h2 := hKK.p.sl.take (k := tl) (by omega)
       have := texts_any (w := w2.drewN j) (h1.carry (fun _ _ => rfl) (fun _ _ => rfl) (fun _ h => h) fun _ h => h) (h2.carry (fun _ _ => rfl) (fun _ _ => rfl) (fun _ h => h) fun _ h => h) ⟨by omega, by rw [List.length_take]; omega⟩
       rw [decide_eq_true (by rw [← htl]; exact htk)] at this
       exact this
      have HWA : Hid (∀ j, Calls Try.prog 26 #[.pointer (some ⟨rb, 0, none⟩)] (w2.drewN j) fun e w' => e = .returned (.int .i64 (tl : Int)) ∧ w' = w2.drewN j) := fun j => want_any (hKK.r.ev (Ev.drewN (fun _ => False) c2 w2 j) (fun h => h) fun h => h)
      have HBA : Hid (∀ j, Calls Try.prog 20 #[.pointer (some ⟨sb, 0, none⟩)] (w2.drewN j) fun e w' => e = .returned (.int .i64 (d : Int)) ∧ w' = w2.drewN j) := fun j => base_any (hKK.s.ev (Ev.drewN (fun _ => False) c2 w2 j) (fun h => h) fun h => h)
      have x0 := cell_row (cur := [_, _, _, _, _, _]) hKK.obj 0 _ rfl
      have x1 := cell_row (cur := [_, _, _, _, _, _]) hKK.obj 1 _ rfl
      have x2 := cell_row (cur := [_, _, _, _, _, _]) hKK.obj 2 _ rfl
      have x3 := cell_row (cur := [_, _, _, _, _, _]) hKK.obj 3 _ rfl
      have x5 := cell_row (cur := [_, _, _, _, _, _]) hKK.obj 5 _ rfl
      rw [htl] at x5
      have hN64 : N.length ≤ 64 * 201 := by omega
      have hdt : (d : Int) ≤ tl := hlo
      have htP : tl ≤ P.length := by omega
      have hsl := HSL.out
      clear hKK hI hlo hhi hfw hPL hTl htk htl HL1 HE1
      generalize P.length = pl at *
      generalize N.length = nl at *
      have q1 : decide (pl < tl) = false := decide_eq_false (by omega)
      have q2 : decide (tl < d) = false := decide_eq_false (by omega)
      have q3 : decide (20000 < nl) = false := decide_eq_false (by omega)
      have r1 : decide ((pl : Int) < (tl : Int)) = false := decide_eq_false (by omega)
      have r2 : decide ((tl : Int) < (d : Int)) = false := decide_eq_false (by omega)
      have r3 : decide ((20000 : Int) < (nl : Int)) = false := decide_eq_false (by omega)
      go_quiet ((first
       | (go_at_call 23; exact Calls.quiet_of (HTX.out _))
       | (go_at_call 26; exact Calls.quiet_of_same (HWA.out _))
       | (go_at_call 20; exact Calls.quiet_of_same (HBA.out _))))
      go_wp2
      go_roundw
      case rel => exact ⟨k + 1, c2, by omega, by go_num, HL2.out.ev (Ev.drewN (fun _ => False) _ _ _) (fun _ h => h), HE2.out.trans (Ev.drewN (fun _ => False) _ _ _) fun _ h => h.elim⟩
      case measure => simp [intOf]; omega
    · obtain rfl : k = n := by omega
      have HBW : Hid (Below w'.heap.size w' wr) := hbw
      have haw := awake_any wr
      clear hbw
      go_wp2_with (go_at_call 12; refine haw.mono ?_; rintro e w3 ⟨rfl, hb3⟩)
      go_ret
      exact ⟨rfl, belowP HBW.out hb3⟩
end Go.Proofs.Ytnhgjgoldcplnaa

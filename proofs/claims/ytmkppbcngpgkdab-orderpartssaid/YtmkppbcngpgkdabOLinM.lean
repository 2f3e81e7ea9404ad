/-
  What holds while things are told: how many parents each waits for, and who is ready.
-/
import Derived.Test.YtmkppbcngpgkdabOKids
namespace Go.Proofs.Ytmkppbcngpgkdab

/-- How many parents of j were not told. -/
def miss (Q : List (List Nat)) (T : List Nat) (j : Nat) : Nat := (par Q j).countP fun p => decide (p ∉ T)
theorem miss_zero {Q : List (List Nat)} {T : List Nat} {j : Nat} : miss Q T j = 0 ↔ ∀ p ∈ par Q j, p ∈ T := by
  unfold miss
  rw [List.countP_eq_zero]
  simp
theorem miss_nil (Q : List (List Nat)) (j : Nat) : miss Q [] j = (par Q j).length := by
  unfold miss
  rw [List.countP_eq_length]
  simp
theorem miss_snoc {T : List Nat} {i : Nat} (hi : i ∉ T) : ∀ l : List Nat, (l.countP fun p => decide (p ∉ T)) = (l.countP fun p => decide (p ∉ T ++ [i])) + l.count i
  | [] => rfl
  | a :: r => by
    have ih := miss_snoc hi r
    rw [List.countP_cons, List.countP_cons, List.count_cons, ih]
    by_cases e : a = i
    · subst e
      have h1 : decide (a ∉ T) = true := decide_eq_true hi
      have h2 : decide (a ∉ T ++ [a]) = false := decide_eq_false (by simp)
      rw [h1, h2]
      simp
      omega
    · have h1 : decide (a ∉ T ++ [i]) = decide (a ∉ T) := by simp [e]
      rw [h1]
      have h2 : (a == i) = false := by simpa using e
      rw [h2]
      simp
      omega
theorem miss_next {Q : List (List Nat)} {T : List Nat} {i : Nat} (hi : i ∉ T) (j : Nat) : miss Q T j = miss Q (T ++ [i]) j + (par Q j).count i := miss_snoc hi _
/-- The state ahead of a taking. -/
structure Lin (Q : List (List Nat)) (R : List Int) (T : List Nat) (W : List Int) (h : List Nat) : Prop where
  nodup : T.Nodup
  lt : ∀ x ∈ T, x < Q.length
  told : ∀ x ∈ T, ∀ p ∈ par Q x, p ∈ T
  wlen : W.length = Q.length
  wait : ∀ j, j < Q.length → W.getD j 0 = (miss Q T j : Int)
  hn : h.Nodup
  mem : ∀ j, j ∈ h ↔ j < Q.length ∧ Rdy Q T j
  heap : Hp R h
  eq : lin Q R = linTo Q R (Q.length - T.length) T
/-- The state while those behind i are gone through. -/
structure Lon (Q : List (List Nat)) (R : List Int) (T : List Nat) (i k : Nat) (W : List Int) (h : List Nat) : Prop where
  nodup : T.Nodup
  lt : ∀ x ∈ T, x < Q.length
  told : ∀ x ∈ T, ∀ p ∈ par Q x, p ∈ T
  rdy : Rdy Q T i
  il : i < Q.length
  wlen : W.length = Q.length
  wait : ∀ j, j < Q.length → W.getD j 0 = (miss Q T j : Int) - (((kidR Q Q.length i).take k).count j : Int)
  hn : h.Nodup
  mem : ∀ j, j ∈ h ↔ j < Q.length ∧ j ∉ T ++ [i] ∧ W.getD j 0 = 0
  heap : Hp R h
  eq : lin Q R = linTo Q R (Q.length - (T.length + 1)) (T ++ [i])
theorem Lin.hlen {Q : List (List Nat)} {R : List Int} {T : List Nat} {W : List Int} {h : List Nat} (L : Lin Q R T W h) : h.length ≤ Q.length := nodup_len _ L.hn fun x hx => ((L.mem x).1 hx).1
theorem Lon.hlen {Q : List (List Nat)} {R : List Int} {T : List Nat} {i k : Nat} {W : List Int} {h : List Nat} (L : Lon Q R T i k W h) : h.length ≤ Q.length - 1 := by
  have h1 : (h ++ [i]).Nodup := nodup_snoc L.hn fun hm => ((L.mem i).1 hm).2.1 (by simp)
  have := nodup_len Q.length h1 fun x hx => by
    rcases List.mem_append.1 hx with h' | h'
    · exact ((L.mem x).1 h').1
    · rw [List.mem_singleton.1 h']; exact L.il
  simp at this
  omega
theorem Lin.tlen {Q : List (List Nat)} {R : List Int} {T : List Nat} {W : List Int} {h : List Nat} (L : Lin Q R T W h) : T.length ≤ Q.length := nodup_len _ L.nodup L.lt
theorem Lin.take {Q : List (List Nat)} {R : List Int} {T : List Nat} {W : List Int} {h h' : List Nat} (L : Lin Q R T W h) (hp : 0 < h.length) (hh : Hp R h') (hpm : (h.getD 0 0 :: h').Perm h) : Lon Q R T (h.getD 0 0) 0 W h' ∧ T.length < Q.length := by
  have hi : h.getD 0 0 ∈ h := getD_inm hp
  have hl := fun x hx => L.heap.least (x := x) hx
  generalize h.getD 0 0 = i at *
  obtain ⟨hiq, hir⟩ := (L.mem i).1 hi
  have hlt : T.length < Q.length := by
    have := nodup_len Q.length (nodup_snoc L.nodup hir.1) fun x hx => by
      rcases List.mem_append.1 hx with h1 | h1
      · exact L.lt x h1
      · rw [List.mem_singleton.1 h1]; exact hiq
    simp at this
    omega
  have hnd : (i :: h').Nodup := hpm.nodup_iff.2 L.hn
  rw [List.nodup_cons] at hnd
  have hbest : bestTo Q R T Q.length = some i := bestTo_eq hiq hir fun j hj hr => hl j ((L.mem j).2 ⟨hj, hr⟩)
  refine ⟨⟨L.nodup, L.lt, L.told, hir, hiq, L.wlen, fun j hj => by rw [L.wait j hj]; simp, hnd.2, fun j => ?_, hh, ?_⟩, hlt⟩
  · have hj : j ∈ h' ↔ j ∈ h ∧ j ≠ i := by
      rw [← hpm.mem_iff, List.mem_cons]
      constructor
      · intro hj
        exact ⟨.inr hj, fun e => hnd.1 (e ▸ hj)⟩
      · rintro ⟨hj | hj, hne⟩
        · exact absurd hj hne
        · exact hj
    rw [hj, L.mem j]
    constructor
    · rintro ⟨⟨h1, h2⟩, h3⟩
      refine ⟨h1, by simp [h2.1, h3], ?_⟩
      rw [L.wait j h1, miss_zero.2 h2.2]
      rfl
    · rintro ⟨h1, h2, h3⟩
      rw [L.wait j h1] at h3
      have h4 : miss Q T j = 0 := by omega
      simp at h2
      exact ⟨⟨h1, h2.1, miss_zero.1 h4⟩, h2.2⟩
  · rw [L.eq, show Q.length - T.length = Q.length - (T.length + 1) + 1 by omega, linTo_step hbest]
theorem getD_setI (l : List Int) (i k : Nat) (x : Int) (hi : i < l.length) : (l.set i x).getD k 0 = if k = i then x else l.getD k 0 := by
  simp only [List.getD_eq_getElem?_getD, List.getElem?_set]
  by_cases e : i = k
  · subst e
    simp [hi]
  · rw [if_neg e, if_neg (fun h => e h.symm)]
theorem Lon.kid {Q : List (List Nat)} {R : List Int} {T : List Nat} {i k : Nat} {W : List Int} {h : List Nat} (L : Lon Q R T i k W h) (hk : k < (kidR Q Q.length i).length) :
    (kidR Q Q.length i).getD k 0 < Q.length ∧ 1 ≤ W.getD ((kidR Q Q.length i).getD k 0) 0 ∧ (kidR Q Q.length i).getD k 0 ∉ T ++ [i] := by
  have hc := kidR_mem (getD_inm (d := 0) hk)
  have ht := take_snoc (kidR Q Q.length i) k 0 hk
  generalize hcc : (kidR Q Q.length i).getD k 0 = c at *
  have h1 : ((kidR Q Q.length i).take (k + 1)).count c ≤ (kidR Q Q.length i).count c := (List.take_sublist _ _).count_le c
  rw [kidR_count hc.1, ht, List.count_append] at h1
  have h2 : List.count c [c] = 1 := by simp
  have h3 := miss_next (Q := Q) L.rdy.1 c
  refine ⟨hc.1, ?_, fun hm => ?_⟩
  · rw [L.wait c hc.1]
    omega
  · rcases List.mem_append.1 hm with h4 | h4
    · exact L.rdy.1 (L.told c h4 i hc.2)
    · rw [List.mem_singleton.1 h4] at hc
      exact L.rdy.1 (L.rdy.2 i hc.2)
theorem Lon.wait_next {Q : List (List Nat)} {R : List Int} {T : List Nat} {i k : Nat} {W : List Int} {h : List Nat} (L : Lon Q R T i k W h) (hk : k < (kidR Q Q.length i).length) : ∀ j, j < Q.length → (W.set ((kidR Q Q.length i).getD k 0) (W.getD ((kidR Q Q.length i).getD k 0) 0 - 1)).getD j 0 = (miss Q T j : Int) - (((kidR Q Q.length i).take (k + 1)).count j : Int) := by
  have hc := (L.kid hk).1
  intro j hj
  rw [take_snoc (kidR Q Q.length i) k 0 hk, List.count_append]
  generalize (kidR Q Q.length i).getD k 0 = c at *
  rw [getD_setI W c j _ (by rw [L.wlen]; exact hc)]
  by_cases e : j = c
  · subst e
    rw [if_pos rfl, L.wait j hj]
    have h2 : List.count j [j] = 1 := by simp
    omega
  · rw [if_neg e, L.wait j hj]
    have h2 : List.count j [c] = 0 := by rw [List.count_eq_zero]; simpa using e
    omega
theorem Lon.no {Q : List (List Nat)} {R : List Int} {T : List Nat} {i k : Nat} {W : List Int} {h : List Nat} (L : Lon Q R T i k W h) (hk : k < (kidR Q Q.length i).length) (hw : W.getD ((kidR Q Q.length i).getD k 0) 0 - 1 ≠ 0) :
    Lon Q R T i (k + 1) (W.set ((kidR Q Q.length i).getD k 0) (W.getD ((kidR Q Q.length i).getD k 0) 0 - 1)) h := by
  refine ⟨L.nodup, L.lt, L.told, L.rdy, L.il, by rw [List.length_set]; exact L.wlen, L.wait_next hk, L.hn, fun j => ?_, L.heap, L.eq⟩
  have hc := L.kid hk
  generalize (kidR Q Q.length i).getD k 0 = c at *
  rw [L.mem j]
  refine and_congr_right fun hj => and_congr_right fun _ => ?_
  rw [getD_setI W c j _ (by rw [L.wlen]; exact hc.1)]
  by_cases e : j = c
  · subst e
    rw [if_pos rfl]
    omega
  · rw [if_neg e]
theorem Lon.yes {Q : List (List Nat)} {R : List Int} {T : List Nat} {i k : Nat} {W : List Int} {h h' : List Nat} (L : Lon Q R T i k W h) (hk : k < (kidR Q Q.length i).length) (hw : W.getD ((kidR Q Q.length i).getD k 0) 0 - 1 = 0) (hh : Hp R h') (hpm : h'.Perm (h ++ [(kidR Q Q.length i).getD k 0])) :
    Lon Q R T i (k + 1) (W.set ((kidR Q Q.length i).getD k 0) (W.getD ((kidR Q Q.length i).getD k 0) 0 - 1)) h' := by
  have hc := L.kid hk
  have hwn := L.wait_next hk
  generalize (kidR Q Q.length i).getD k 0 = c at *
  have hnc : c ∉ h := fun hm => by have := ((L.mem c).1 hm).2.2; omega
  refine ⟨L.nodup, L.lt, L.told, L.rdy, L.il, by rw [List.length_set]; exact L.wlen, hwn, hpm.nodup_iff.2 (nodup_snoc L.hn hnc), fun j => ?_, hh, L.eq⟩
  rw [hpm.mem_iff, List.mem_append, List.mem_singleton, L.mem j, getD_setI W c j _ (by rw [L.wlen]; exact hc.1)]
  by_cases e : j = c
  · subst e
    rw [if_pos rfl]
    exact ⟨fun _ => ⟨hc.1, hc.2.2, hw⟩, fun _ => .inr rfl⟩
  · rw [if_neg e]
    exact ⟨fun h => h.resolve_right e, .inl⟩
theorem Lon.done {Q : List (List Nat)} {R : List Int} {T : List Nat} {i : Nat} {W : List Int} {h : List Nat} (L : Lon Q R T i (kidR Q Q.length i).length W h) : Lin Q R (T ++ [i]) W h := by
  have hw : ∀ j, j < Q.length → W.getD j 0 = (miss Q (T ++ [i]) j : Int) := by
    intro j hj
    rw [L.wait j hj, List.take_length, kidR_count hj, miss_next L.rdy.1 j]
    omega
  refine ⟨nodup_snoc L.nodup L.rdy.1, fun x hx => ?_, fun x hx p hp => ?_, L.wlen, hw, L.hn, fun j => ?_, L.heap, ?_⟩
  · rcases List.mem_append.1 hx with h' | h'
    · exact L.lt x h'
    · rw [List.mem_singleton.1 h']; exact L.il
  · rcases List.mem_append.1 hx with h' | h'
    · exact List.mem_append_left _ (L.told x h' p hp)
    · rw [List.mem_singleton.1 h'] at hp
      exact List.mem_append_left _ (L.rdy.2 p hp)
  · rw [L.mem j]
    refine and_congr_right fun hj => and_congr_right fun _ => ?_
    rw [hw j hj]
    have := miss_zero (Q := Q) (T := T ++ [i]) (j := j)
    rw [← this]
    omega
  · rw [L.eq, List.length_append]
    rfl
/-- The state while the ready ones are gathered: of the first k things. -/
structure Loa (Q : List (List Nat)) (R : List Int) (k : Nat) (h : List Nat) : Prop where
  hn : h.Nodup
  mem : ∀ j, j ∈ h ↔ j < k ∧ par Q j = []
  heap : Hp R h
theorem Loa.nil (Q : List (List Nat)) (R : List Int) : Loa Q R 0 [] := ⟨List.nodup_nil, by simp, fun k hk hl => by simp at hl⟩
theorem Loa.hlen {Q : List (List Nat)} {R : List Int} {k : Nat} {h : List Nat} (L : Loa Q R k h) : h.length ≤ k := nodup_len _ L.hn fun x hx => ((L.mem x).1 hx).1
theorem Loa.no {Q : List (List Nat)} {R : List Int} {k : Nat} {h : List Nat} (L : Loa Q R k h) (hk : (par Q k).length ≠ 0) : Loa Q R (k + 1) h := by
  refine ⟨L.hn, fun j => ?_, L.heap⟩
  rw [L.mem j]
  constructor
  · rintro ⟨h1, h2⟩; exact ⟨by omega, h2⟩
  · rintro ⟨h1, h2⟩
    refine ⟨?_, h2⟩
    rcases Nat.lt_or_ge j k with h' | h'
    · exact h'
    · rw [show k = j by omega, h2] at hk
      simp at hk
theorem Loa.yes {Q : List (List Nat)} {R : List Int} {k : Nat} {h h' : List Nat} (L : Loa Q R k h) (hk : (par Q k).length = 0) (hh : Hp R h') (hpm : h'.Perm (h ++ [k])) : Loa Q R (k + 1) h' := by
  have hnc : k ∉ h := fun hm => by have := ((L.mem k).1 hm).1; omega
  refine ⟨hpm.nodup_iff.2 (nodup_snoc L.hn hnc), fun j => ?_, hh⟩
  rw [hpm.mem_iff, List.mem_append, List.mem_singleton, L.mem j]
  constructor
  · rintro (⟨h1, h2⟩ | rfl)
    · exact ⟨by omega, h2⟩
    · exact ⟨by omega, List.eq_nil_of_length_eq_zero hk⟩
  · rintro ⟨h1, h2⟩
    rcases Nat.lt_or_ge j k with h' | h'
    · exact .inl ⟨h', h2⟩
    · right; omega
theorem Loa.go {Q : List (List Nat)} {R : List Int} {h : List Nat} (L : Loa Q R Q.length h) : Lin Q R [] (wl Q Q.length Q.length) h := by
  refine ⟨List.nodup_nil, by simp, by simp, wl_len _ _ _, fun j hj => by rw [wl_at Q _ j hj, miss_nil], L.hn, fun j => ?_, L.heap, rfl⟩
  rw [L.mem j]
  refine and_congr_right fun _ => ?_
  unfold Rdy
  constructor
  · intro h; rw [h]; simp
  · rintro ⟨_, h⟩
    exact List.eq_nil_iff_forall_not_mem.2 fun p hp => by have := h p hp; simp at this
/-- Nobody is ready: either all were told, or no order is. -/
theorem Lin.stop {Q : List (List Nat)} {R : List Int} {T : List Nat} {W : List Int} (L : Lin Q R T W []) : lin Q R = if T.length < Q.length then none else some T := by
  rw [L.eq]
  split
  · rename_i h
    have hb : bestTo Q R T Q.length = none := by
      cases hb : bestTo Q R T Q.length with
      | none => rfl
      | some b =>
        obtain ⟨h1, h2, _⟩ := bestTo_some hb
        exact absurd ((L.mem b).2 ⟨h1, h2⟩) (by simp)
    rw [show Q.length - T.length = Q.length - (T.length + 1) + 1 by omega, linTo_stuck hb]
  · rename_i h
    rw [show Q.length - T.length = 0 by omega]
    rfl
end Go.Proofs.Ytmkppbcngpgkdab

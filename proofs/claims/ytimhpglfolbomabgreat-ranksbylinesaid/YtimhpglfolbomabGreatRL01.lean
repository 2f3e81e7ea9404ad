/-
  Things behind their parents, told one after another, as plain lists; rows, and in how many of them a number stands.
-/
set_option maxRecDepth 100000
set_option maxHeartbeats 16000000
namespace Go.Proofs.YtimhpglfolbomabGreat.Od
theorem getD_in {α : Type} {l : List α} {j : Nat} {d : α} (h : j < l.length) : l.getD j d = l[j] := by simp [List.getD_eq_getElem?_getD, List.getElem?_eq_getElem h]
theorem getD_inm {α : Type} {l : List α} {j : Nat} {d : α} (h : j < l.length) : l.getD j d ∈ l := by rw [getD_in h]; exact List.getElem_mem h
theorem take_snoc {α : Type} (l : List α) (k : Nat) (d : α) (h : k < l.length) : l.take (k + 1) = l.take k ++ [l.getD k d] := by rw [getD_in h, List.take_succ_eq_append_getElem h]
def par (Q : List (List Nat)) (i : Nat) : List Nat := Q.getD i []
def rk (R : List Int) (i : Nat) : Int := R.getD i 0
def Lt (R : List Int) (a b : Nat) : Prop := rk R a < rk R b ∨ rk R a = rk R b ∧ a < b
theorem Lt.trans {R : List Int} {a b c : Nat} (h : Lt R a b) (k : Lt R b c) : Lt R a c := by unfold Lt at *; omega
theorem lt_or (R : List Int) (a b : Nat) : Lt R a b ∨ a = b ∨ Lt R b a := by unfold Lt; omega
theorem Lt.asymm {R : List Int} {a b : Nat} (h : Lt R a b) (k : Lt R b a) : False := by unfold Lt at *; omega
instance (R : List Int) (a b : Nat) : Decidable (Lt R a b) := by unfold Lt; exact inferInstance
def Rdy (Q : List (List Nat)) (T : List Nat) (i : Nat) : Prop := i ∉ T ∧ ∀ p ∈ par Q i, p ∈ T
instance (Q : List (List Nat)) (T : List Nat) (i : Nat) : Decidable (Rdy Q T i) := by unfold Rdy; exact inferInstance
def bestTo (Q : List (List Nat)) (R : List Int) (T : List Nat) : Nat → Option Nat
 | 0 => none
 | m + 1 => match bestTo Q R T m with
  | none => if Rdy Q T m then some m else none
  | some b => if Rdy Q T m ∧ rk R m < rk R b then some m else some b
theorem bestTo_none {Q : List (List Nat)} {R : List Int} {T : List Nat} : ∀ {m : Nat}, bestTo Q R T m = none → ∀ i, i < m → ¬ Rdy Q T i
 | 0, _, i, hi => absurd hi (by omega)
 | m + 1, h, i, hi => by
  unfold bestTo at h
  cases hb : bestTo Q R T m with
  | none =>
   rw [hb] at h
   simp only at h
   split at h
   · cases h
   · rename_i hn
     rcases Nat.lt_or_ge i m with h' | h'
     · exact bestTo_none hb i h'
     · rw [show i = m by omega]; exact hn
  | some b =>
   rw [hb] at h
   simp only at h
   split at h <;> cases h
theorem bestTo_some {Q : List (List Nat)} {R : List Int} {T : List Nat} : ∀ {m b : Nat}, bestTo Q R T m = some b → b < m ∧ Rdy Q T b ∧ ∀ i, i < m → Rdy Q T i → i = b ∨ Lt R b i
 | 0, b, h => by cases h
 | m + 1, b, h => by
  unfold bestTo at h
  cases hb : bestTo Q R T m with
  | none =>
   rw [hb] at h
   simp only at h
   split at h
   · rename_i hr
     cases h
     refine ⟨by omega, hr, fun i hi hri => ?_⟩
     rcases Nat.lt_or_ge i m with h' | h'
     · exact absurd hri (bestTo_none hb i h')
     · left; omega
   · cases h
  | some c =>
   rw [hb] at h
   simp only at h
   obtain ⟨h1, h2, h3⟩ := bestTo_some hb
   split at h
   · rename_i hr
     cases h
     refine ⟨by omega, hr.1, fun i hi hri => ?_⟩
     rcases Nat.lt_or_ge i m with h' | h'
     · right
       rcases h3 i h' hri with e | e
       · rw [e]; exact .inl hr.2
       · exact Lt.trans (.inl hr.2) e
     · left; omega
   · rename_i hr
     cases h
     refine ⟨by omega, h2, fun i hi hri => ?_⟩
     rcases Nat.lt_or_ge i m with h' | h'
     · exact h3 i h' hri
     · right
       have e : i = m := by omega
       subst e
       have : ¬ rk R i < rk R b := fun h => hr ⟨hri, h⟩
       unfold Lt
       omega
theorem bestTo_eq {Q : List (List Nat)} {R : List Int} {T : List Nat} {m b : Nat} (hb : b < m) (hr : Rdy Q T b) (hl : ∀ i, i < m → Rdy Q T i → i = b ∨ Lt R b i) : bestTo Q R T m = some b := by
 cases h : bestTo Q R T m with
 | none => exact absurd hr (bestTo_none h b hb)
 | some c =>
  obtain ⟨h1, h2, h3⟩ := bestTo_some h
  rcases hl c h1 h2 with e | e
  · rw [e]
  · rcases h3 b hb hr with e' | e'
    · rw [e']
    · exact absurd e' fun h => e.asymm h
def linTo (Q : List (List Nat)) (R : List Int) : Nat → List Nat → Option (List Nat)
 | 0, T => some T
 | f + 1, T => match bestTo Q R T Q.length with
  | none => none
  | some b => linTo Q R f (T ++ [b])
def lin (Q : List (List Nat)) (R : List Int) : Option (List Nat) := linTo Q R Q.length []
structure Told (Q : List (List Nat)) (R : List Int) (T : List Nat) : Prop where
 nodup : T.Nodup
 lt : ∀ x ∈ T, x < Q.length
 pars : ∀ k x, T[k]? = some x → ∀ p ∈ par Q x, p ∈ T.take k
 next : ∀ k a b, T[k]? = some a → T[k + 1]? = some b → a ∈ par Q b ∨ Lt R a b
theorem Told.nil (Q : List (List Nat)) (R : List Int) : Told Q R [] := ⟨List.nodup_nil, by simp, by simp, by simp⟩
theorem nodup_snoc {T : List Nat} {b : Nat} (h : T.Nodup) (hb : b ∉ T) : (T ++ [b]).Nodup := by
 rw [List.nodup_append]
 refine ⟨h, by simp, fun a ha c hc => ?_⟩
 rw [List.mem_singleton.1 hc]
 rintro rfl
 exact hb ha
theorem nodup_len : ∀ (n : Nat) {T : List Nat}, T.Nodup → (∀ x ∈ T, x < n) → T.length ≤ n
 | 0, T, _, h => by
  cases T with
  | nil => simp
  | cons x r => exact absurd (h x (by simp)) (by omega)
 | n + 1, T, hn, h => by
  have h1 : (T.erase n).Nodup := hn.erase n
  have h2 := nodup_len n h1 fun x hx => by
   have hx' := (List.Nodup.mem_erase_iff hn).1 hx
   have := h x hx'.2
   have := hx'.1
   omega
  have h3 : T.length - 1 ≤ (T.erase n).length := by
   rw [List.length_erase]
   split <;> omega
  omega
theorem sub_len : ∀ {l T : List Nat}, l.Nodup → (∀ x ∈ l, x ∈ T) → l.length ≤ T.length
 | [], _, _, _ => by simp
 | a :: r, T, hn, h => by
  rw [List.nodup_cons] at hn
  have h1 := sub_len (T := T.erase a) hn.2 fun x hx => (List.mem_erase_of_ne (by rintro rfl; exact hn.1 hx)).2 (h x (by simp [hx]))
  have h2 := h a (by simp)
  rw [List.length_erase_of_mem h2] at h1
  have := List.length_pos_of_mem h2
  simp
  omega
def Prior (Q : List (List Nat)) (R : List Int) (T : List Nat) : Prop := ∀ a, T.getLast? = some a → ∀ i, i < Q.length → Rdy Q T.dropLast i → i = a ∨ Lt R a i
theorem Told.snoc {Q : List (List Nat)} {R : List Int} {T : List Nat} {b : Nat} (h : Told Q R T) (hp : Prior Q R T) (hb : b < Q.length) (hr : Rdy Q T b) : Told Q R (T ++ [b]) := by
 refine ⟨nodup_snoc h.nodup hr.1, ?_, ?_, ?_⟩
 · intro x hx
   rcases List.mem_append.1 hx with h' | h'
   · exact h.lt x h'
   · rw [List.mem_singleton.1 h']; exact hb
 · intro k x hk p hpx
   rcases Nat.lt_or_ge k T.length with h' | h'
   · rw [List.getElem?_append_left h'] at hk
     rw [List.take_append_of_le_length (by omega)]
     exact h.pars k x hk p hpx
   · have hk1 := (List.getElem?_eq_some_iff.1 hk).1
     simp at hk1
     have e : k = T.length := by omega
     subst e
     simp at hk
     subst hk
     rw [List.take_append_of_le_length (Nat.le_refl _), List.take_length]
     exact hr.2 p hpx
 · intro k a c hk hk'
   have hk1 := (List.getElem?_eq_some_iff.1 hk').1
   simp at hk1
   rcases Nat.lt_or_ge (k + 1) T.length with h' | h'
   · rw [List.getElem?_append_left h'] at hk'
     rw [List.getElem?_append_left (by omega)] at hk
     exact h.next k a c hk hk'
   · have e : T.length = k + 1 := by omega
     rw [List.getElem?_append_right h', e] at hk'
     simp at hk'
     subst hk'
     rw [List.getElem?_append_left (by omega)] at hk
     have hla : T.getLast? = some a := by rw [List.getLast?_eq_getElem?, e]; simpa using hk
     by_cases ha : a ∈ par Q b
     · exact .inl ha
     · right
       have hT : T = T.dropLast ++ [a] := by
        obtain ⟨ys, rfl⟩ := List.getLast?_eq_some_iff.1 hla
        simp
       have hd : Rdy Q T.dropLast b := by
        refine ⟨fun hm => hr.1 ((List.dropLast_sublist T).subset hm), fun p hp' => ?_⟩
        have hm := hr.2 p hp'
        rw [hT] at hm
        rcases List.mem_append.1 hm with h1 | h1
        · exact h1
        · rw [List.mem_singleton.1 h1] at hp'
          exact absurd hp' ha
       rcases hp a hla b hb hd with e' | e'
       · subst e'
         exact absurd (List.mem_of_getLast? hla) hr.1
       · exact e'
theorem linTo_fit {Q : List (List Nat)} {R : List Int} : ∀ (f : Nat) {T L : List Nat}, Told Q R T → Prior Q R T → linTo Q R f T = some L → Told Q R L ∧ L.length = T.length + f
 | 0, T, L, h, _, e => by
  unfold linTo at e
  cases e
  exact ⟨h, rfl⟩
 | f + 1, T, L, h, hp, e => by
  unfold linTo at e
  cases hb : bestTo Q R T Q.length with
  | none => rw [hb] at e; cases e
  | some b =>
   rw [hb] at e
   obtain ⟨h1, h2, h3⟩ := bestTo_some hb
   obtain ⟨h4, h5⟩ := linTo_fit f (h.snoc hp h1 h2) (fun a ha i hi hr => by
    simp at ha hr
    subst ha
    exact h3 i hi hr) e
   exact ⟨h4, by simp at h5; omega⟩
theorem prior_nil (Q : List (List Nat)) (R : List Int) : Prior Q R [] := fun a ha => by simp at ha
theorem lin_fit {Q : List (List Nat)} {R : List Int} {L : List Nat} (h : lin Q R = some L) : Told Q R L ∧ L.length = Q.length := by
 obtain ⟨h1, h2⟩ := linTo_fit Q.length (Told.nil Q R) (prior_nil Q R) h
 exact ⟨h1, by simpa using h2⟩
theorem linTo_back {Q : List (List Nat)} {R : List Int} (hQ : ∀ i, ∀ p ∈ par Q i, p < i) : ∀ (f : Nat) {T : List Nat}, T.Nodup → (∀ x ∈ T, x < Q.length) → T.length + f = Q.length → ∃ L, linTo Q R f T = some L
 | 0, T, _, _, _ => ⟨T, rfl⟩
 | f + 1, T, hn, hl, hf => by
  unfold linTo
  cases hb : bestTo Q R T Q.length with
  | none =>
   exfalso
   have hno := bestTo_none hb
   have hall : ∀ m, ∀ i, i < m → i < Q.length → i ∈ T := by
    intro m
    induction m with
    | zero => intro i hi; omega
    | succ m ih =>
     intro i hi hiq
     rcases Nat.lt_or_ge i m with h' | h'
     · exact ih i h' hiq
     · refine Classical.byContradiction fun hx => hno i hiq ⟨hx, fun p hp => ?_⟩
       have := hQ i p hp
       exact ih p (by omega) (by omega)
   have := sub_len List.nodup_range (l := List.range Q.length) (T := T) fun x hx => hall _ x (Nat.lt_succ_self x) (List.mem_range.1 hx)
   simp at this
   omega
  | some b =>
   obtain ⟨h1, h2, _⟩ := bestTo_some hb
   exact linTo_back hQ f (nodup_snoc hn h2.1) (fun x hx => by
    rcases List.mem_append.1 hx with h' | h'
    · exact hl x h'
    · rw [List.mem_singleton.1 h']; exact h1) (by simp; omega)
theorem lin_back {Q : List (List Nat)} {R : List Int} (hQ : ∀ i, ∀ p ∈ par Q i, p < i) : ∃ L, lin Q R = some L := linTo_back hQ Q.length List.nodup_nil (by simp) (by simp)
theorem linTo_step {Q : List (List Nat)} {R : List Int} {f : Nat} {T : List Nat} {b : Nat} (h : bestTo Q R T Q.length = some b) : linTo Q R (f + 1) T = linTo Q R f (T ++ [b]) := by
 rw [linTo, h]
theorem linTo_stuck {Q : List (List Nat)} {R : List Int} {f : Nat} {T : List Nat} (h : bestTo Q R T Q.length = none) : linTo Q R (f + 1) T = none := by
 rw [linTo, h]
def Hp (R : List Int) (h : List Nat) : Prop := ∀ k, 0 < k → k < h.length → ¬ Lt R (h.getD k 0) (h.getD ((k - 1) / 2) 0)
theorem Hp.root {R : List Int} {h : List Nat} (H : Hp R h) : ∀ m k, k < m → k < h.length → ¬ Lt R (h.getD k 0) (h.getD 0 0)
 | 0, k, hk, _ => absurd hk (by omega)
 | m + 1, k, hk, hl => by
  rcases Nat.eq_zero_or_pos k with rfl | hp
  · exact fun h' => h'.asymm h'
  · have h1 := H k hp hl
    have h2 := Hp.root H m ((k - 1) / 2) (by omega) (by omega)
    intro h3
    generalize h.getD k 0 = a at *
    generalize h.getD ((k - 1) / 2) 0 = b at *
    generalize h.getD 0 0 = c at *
    unfold Lt at *
    omega
theorem Hp.least {R : List Int} {h : List Nat} (H : Hp R h) {x : Nat} (hx : x ∈ h) : x = h.getD 0 0 ∨ Lt R (h.getD 0 0) x := by
 obtain ⟨k, hk, rfl⟩ := List.getElem_of_mem hx
 have h1 := H.root (k + 1) k (by omega) hk
 rw [getD_in hk] at h1
 have := lt_or R (h.getD 0 0) h[k]
 rcases this with h' | h' | h'
 · exact .inr h'
 · exact .inl h'.symm
 · exact absurd h' h1
def swp (h : List Nat) (i j : Nat) : List Nat := (h.set i (h.getD j 0)).set j (h.getD i 0)
theorem swp_len (h : List Nat) (i j : Nat) : (swp h i j).length = h.length := by simp [swp]
theorem getD_set (h : List Nat) (i k x : Nat) : (h.set i x).getD k 0 = if k = i ∧ i < h.length then x else h.getD k 0 := by
 simp only [List.getD_eq_getElem?_getD, List.getElem?_set]
 by_cases e : i = k
 · subst e
   by_cases hl : i < h.length
   · simp [hl]
   · simp [hl]
 · rw [if_neg e, if_neg (fun h => e h.1.symm)]
theorem swp_at (h : List Nat) (i j k : Nat) (hi : i < h.length) (hj : j < h.length) : (swp h i j).getD k 0 = if k = j then h.getD i 0 else if k = i then h.getD j 0 else h.getD k 0 := by
 unfold swp
 rw [getD_set, getD_set]
 simp only [List.length_set, hi, hj, and_true]
theorem set_perm : ∀ (h : List Nat) (i x : Nat), i < h.length → (h.getD i 0 :: h.set i x).Perm (x :: h)
 | [], i, x, hi => absurd hi (by simp)
 | a :: r, 0, x, _ => List.Perm.swap _ _ _
 | a :: r, i + 1, x, hi => by
  have ih := set_perm r i x (by simpa using hi)
  have e : (a :: r).getD (i + 1) 0 = r.getD i 0 := by simp [List.getD_eq_getElem?_getD]
  rw [e, List.set_cons_succ]
  exact ((List.Perm.swap _ _ _).trans (ih.cons a)).trans (List.Perm.swap _ _ _)
theorem swp_perm (h : List Nat) (i j : Nat) (hi : i < h.length) (hj : j < h.length) : (swp h i j).Perm h := by
 unfold swp
 have h1 := set_perm h i (h.getD j 0) hi
 have h2 := set_perm (h.set i (h.getD j 0)) j (h.getD i 0) (by simpa using hj)
 have e : (h.set i (h.getD j 0)).getD j 0 = h.getD j 0 := by
  rw [getD_set]
  split <;> rfl
 rw [e] at h2
 exact List.Perm.cons_inv (h2.trans h1)
structure UpH (R : List Int) (h : List Nat) (j : Nat) : Prop where
 rest : ∀ k, 0 < k → k < h.length → k ≠ j → ¬ Lt R (h.getD k 0) (h.getD ((k - 1) / 2) 0)
 sons : ∀ k, 0 < k → k < h.length → 0 < j → (k - 1) / 2 = j → ¬ Lt R (h.getD k 0) (h.getD ((j - 1) / 2) 0)
theorem nlt_trans {R : List Int} {a b c : Nat} (h : ¬ Lt R a b) (k : ¬ Lt R b c) : ¬ Lt R a c := by unfold Lt at *; omega
theorem UpH.stop {R : List Int} {h : List Nat} {j : Nat} (H : UpH R h j) (hj : j = 0 ∨ ¬ Lt R (h.getD j 0) (h.getD ((j - 1) / 2) 0)) : Hp R h := by
 intro k hk hl
 by_cases e : k = j
 · subst e
   rcases hj with h' | h'
   · omega
   · exact h'
 · exact H.rest k hk hl e
theorem UpH.step {R : List Int} {h : List Nat} {j : Nat} (H : UpH R h j) (h0 : 0 < j) (hj : j < h.length) (hlt : Lt R (h.getD j 0) (h.getD ((j - 1) / 2) 0)) : UpH R (swp h ((j - 1) / 2) j) ((j - 1) / 2) := by
 have hi : (j - 1) / 2 < h.length := by omega
 have hne : (j - 1) / 2 ≠ j := by omega
 generalize he : (j - 1) / 2 = i at *
 refine ⟨fun k hk hl hki => ?_, fun k hk hl hi0 hki => ?_⟩
 · rw [swp_len] at hl
   rw [swp_at h i j k hi hj, swp_at h i j _ hi hj]
   by_cases e1 : k = j
   · subst e1
     rw [if_pos rfl, he, if_neg (fun h => hne h), if_pos rfl]
     exact fun h' => h'.asymm hlt
   · rw [if_neg e1, if_neg hki]
     by_cases e2 : (k - 1) / 2 = j
     · rw [if_pos e2]
       have := H.sons k hk hl h0 e2
       rw [he] at this
       exact this
     · rw [if_neg e2]
       by_cases e3 : (k - 1) / 2 = i
       · rw [if_pos e3]
         have := H.rest k hk hl e1
         rw [e3] at this
         exact nlt_trans this fun h' => h'.asymm hlt
       · rw [if_neg e3]
         exact H.rest k hk hl e1
 · rw [swp_len] at hl
   have e4 : (i - 1) / 2 ≠ j := by omega
   have e5 : (i - 1) / 2 ≠ i := by omega
   have hii := H.rest i hi0 hi hne
   rw [swp_at h i j k hi hj, swp_at h i j _ hi hj, if_neg e4, if_neg e5]
   by_cases e1 : k = j
   · rw [if_pos e1]
     exact hii
   · have e6 : k ≠ i := by omega
     rw [if_neg e1, if_neg e6]
     have := H.rest k hk hl e1
     rw [hki] at this
     exact nlt_trans this hii
def upF (R : List Int) : Nat → List Nat → Nat → List Nat
 | 0, h, _ => h
 | f + 1, h, j => if 0 < j ∧ Lt R (h.getD j 0) (h.getD ((j - 1) / 2) 0) then upF R f (swp h ((j - 1) / 2) j) ((j - 1) / 2) else h
theorem upF_len (R : List Int) : ∀ (f : Nat) (h : List Nat) (j : Nat), (upF R f h j).length = h.length
 | 0, _, _ => rfl
 | f + 1, h, j => by
  unfold upF
  split
  · rw [upF_len, swp_len]
  · rfl
theorem upF_good (R : List Int) : ∀ (f : Nat) (h : List Nat) (j : Nat), j < f → j < h.length → UpH R h j → Hp R (upF R f h j) ∧ (upF R f h j).Perm h
 | 0, _, _, hf, _, _ => absurd hf (by omega)
 | f + 1, h, j, hf, hj, H => by
  unfold upF
  split
  · rename_i hc
    obtain ⟨h1, h2⟩ := upF_good R f (swp h ((j - 1) / 2) j) ((j - 1) / 2) (by omega) (by rw [swp_len]; omega) (H.step hc.1 hj hc.2)
    exact ⟨h1, h2.trans (swp_perm h _ _ (by omega) hj)⟩
  · rename_i hc
    refine ⟨H.stop ?_, List.Perm.refl _⟩
    rcases Nat.eq_zero_or_pos j with h' | h'
    · exact .inl h'
    · exact .inr fun h'' => hc ⟨h', h''⟩
theorem getD_snoc_lt (h : List Nat) (x k : Nat) (hk : k < h.length) : (h ++ [x]).getD k 0 = h.getD k 0 := by
 rw [getD_in (by simp; omega), getD_in hk, List.getElem_append_left hk]
theorem up_push (R : List Int) (h : List Nat) (x : Nat) (H : Hp R h) : UpH R (h ++ [x]) h.length := by
 refine ⟨fun k hk hl hne => ?_, fun k hk hl h0 he => ?_⟩
 · simp at hl
   rw [getD_snoc_lt h x k (by omega), getD_snoc_lt h x _ (by omega)]
   exact H k hk (by omega)
 · simp at hl
   omega
structure DnH (R : List Int) (h : List Nat) (n i : Nat) : Prop where
 rest : ∀ k, 0 < k → k < n → (k - 1) / 2 ≠ i → ¬ Lt R (h.getD k 0) (h.getD ((k - 1) / 2) 0)
 sons : ∀ k, 0 < k → k < n → 0 < i → (k - 1) / 2 = i → ¬ Lt R (h.getD k 0) (h.getD ((i - 1) / 2) 0)
def HpN (R : List Int) (h : List Nat) (n : Nat) : Prop := ∀ k, 0 < k → k < n → ¬ Lt R (h.getD k 0) (h.getD ((k - 1) / 2) 0)
def son (R : List Int) (h : List Nat) (n i : Nat) : Nat := if 2 * i + 2 < n ∧ Lt R (h.getD (2 * i + 2) 0) (h.getD (2 * i + 1) 0) then 2 * i + 2 else 2 * i + 1
theorem son_or (R : List Int) (h : List Nat) (n i : Nat) : son R h n i = 2 * i + 1 ∨ son R h n i = 2 * i + 2 ∧ 2 * i + 2 < n := by
 unfold son
 split
 · rename_i hc; exact .inr ⟨rfl, hc.1⟩
 · exact .inl rfl
theorem son_least {R : List Int} {h : List Nat} {n i k : Nat} (hk : k < n) (hk0 : 0 < k) (he : (k - 1) / 2 = i) : ¬ Lt R (h.getD k 0) (h.getD (son R h n i) 0) := by
 have h12 : k = 2 * i + 1 ∨ k = 2 * i + 2 := by omega
 unfold son
 split
 · rename_i hc
   rcases h12 with rfl | rfl
   · exact fun h' => h'.asymm hc.2
   · exact fun h' => h'.asymm h'
 · rename_i hc
   rcases h12 with rfl | rfl
   · exact fun h' => h'.asymm h'
   · exact fun h' => hc ⟨hk, h'⟩
theorem DnH.stop {R : List Int} {h : List Nat} {n i : Nat} (H : DnH R h n i) (hs : n ≤ 2 * i + 1 ∨ ¬ Lt R (h.getD (son R h n i) 0) (h.getD i 0)) : HpN R h n := by
 intro k hk hl
 by_cases e : (k - 1) / 2 = i
 · rw [e]
   rcases hs with h' | h'
   · omega
   · exact nlt_trans (son_least hl hk e) h'
 · exact H.rest k hk hl e
theorem DnH.step {R : List Int} {h : List Nat} {n i : Nat} (H : DnH R h n i) (hn : n ≤ h.length) (hi : 2 * i + 1 < n) (hlt : Lt R (h.getD (son R h n i) 0) (h.getD i 0)) : DnH R (swp h i (son R h n i)) n (son R h n i) := by
 have hso := son_or R h n i
 have hle := fun k hk hk0 he => son_least (R := R) (h := h) (n := n) (i := i) (k := k) hk hk0 he
 generalize son R h n i = j at *
 have hj : j < n := by omega
 have hji : (j - 1) / 2 = i := by omega
 have hjl : j < h.length := by omega
 have hil : i < h.length := by omega
 have hne : i ≠ j := by omega
 refine ⟨fun k hk hl hkj => ?_, fun k hk hl h0 hkj => ?_⟩
 · rw [swp_at h i j k hil hjl, swp_at h i j _ hil hjl, if_neg hkj]
   by_cases e1 : k = j
   · subst e1
     rw [if_pos rfl, hji, if_pos rfl]
     exact fun h' => h'.asymm hlt
   · rw [if_neg e1]
     by_cases e2 : k = i
     · subst e2
       have e3 : (k - 1) / 2 ≠ k := by omega
       rw [if_pos rfl, if_neg e3]
       exact H.sons j (by omega) hj hk hji
     · rw [if_neg e2]
       by_cases e3 : (k - 1) / 2 = i
       · rw [if_pos e3]
         exact hle k hl hk e3
       · rw [if_neg e3]
         exact H.rest k hk hl e3
 · have e1 : k ≠ j := by omega
   have e2 : k ≠ i := by omega
   rw [swp_at h i j k hil hjl, swp_at h i j _ hil hjl, if_neg e1, if_neg e2, hji, if_neg hne, if_pos rfl]
   have := H.rest k hk hl (by omega)
   rw [hkj] at this
   exact this
def downF (R : List Int) (n : Nat) : Nat → List Nat → Nat → List Nat
 | 0, h, _ => h
 | f + 1, h, i => if 2 * i + 1 < n ∧ Lt R (h.getD (son R h n i) 0) (h.getD i 0) then downF R n f (swp h i (son R h n i)) (son R h n i) else h
theorem downF_len (R : List Int) (n : Nat) : ∀ (f : Nat) (h : List Nat) (i : Nat), (downF R n f h i).length = h.length
 | 0, _, _ => rfl
 | f + 1, h, i => by
  unfold downF
  split
  · rw [downF_len, swp_len]
  · rfl
theorem downF_good (R : List Int) (n : Nat) : ∀ (f : Nat) (h : List Nat) (i : Nat), n ≤ i + f → n ≤ h.length → DnH R h n i → HpN R (downF R n f h i) n ∧ (downF R n f h i).Perm h ∧ ∀ k, n ≤ k → (downF R n f h i).getD k 0 = h.getD k 0
 | 0, h, i, hf, hn, H => by
  refine ⟨?_, List.Perm.refl _, fun _ _ => rfl⟩
  exact H.stop (.inl (by omega))
 | f + 1, h, i, hf, hn, H => by
  unfold downF
  split
  · rename_i hc
    have hso := son_or R h n i
    obtain ⟨h1, h2, h3⟩ := downF_good R n f (swp h i (son R h n i)) (son R h n i) (by omega) (by rw [swp_len]; omega) (H.step hn hc.1 hc.2)
    refine ⟨h1, h2.trans (swp_perm h _ _ (by omega) (by omega)), fun k hk => ?_⟩
    rw [h3 k hk, swp_at h _ _ k (by omega) (by omega), if_neg (by omega), if_neg (by omega)]
  · rename_i hc
    refine ⟨H.stop ?_, List.Perm.refl _, fun _ _ => rfl⟩
    rcases Nat.lt_or_ge (2 * i + 1) n with h' | h'
    · exact .inr fun h'' => hc ⟨h', h''⟩
    · exact .inl h'
theorem dn_pop (R : List Int) (h : List Nat) (hl : 0 < h.length) (H : Hp R h) : DnH R (swp h 0 (h.length - 1)) (h.length - 1) 0 := by
 refine ⟨fun k hk hlk hne => ?_, fun k hk hlk h0 he => by omega⟩
 rw [swp_at h 0 _ k hl (by omega), swp_at h 0 _ _ hl (by omega), if_neg (by omega), if_neg (by omega), if_neg (by omega), if_neg hne]
 exact H k hk (by omega)
def popF (R : List Int) (h : List Nat) : List Nat := (downF R (h.length - 1) h.length (swp h 0 (h.length - 1)) 0).take (h.length - 1)
theorem popF_good (R : List Int) (h : List Nat) (hl : 0 < h.length) (H : Hp R h) : Hp R (popF R h) ∧ (h.getD 0 0 :: popF R h).Perm h ∧ (downF R (h.length - 1) h.length (swp h 0 (h.length - 1)) 0).getD (h.length - 1) 0 = h.getD 0 0 ∧ (popF R h).length = h.length - 1 := by
 obtain ⟨h1, h2, h3⟩ := downF_good R (h.length - 1) h.length (swp h 0 (h.length - 1)) 0 (by omega) (by rw [swp_len]; omega) (dn_pop R h hl H)
 have hlen : (downF R (h.length - 1) h.length (swp h 0 (h.length - 1)) 0).length = h.length := by rw [downF_len, swp_len]
 have h4 := h3 (h.length - 1) (Nat.le_refl _)
 rw [swp_at h 0 _ _ hl (by omega), if_pos rfl] at h4
 have h5 := h2.trans (swp_perm h 0 (h.length - 1) hl (by omega))
 unfold popF
 generalize downF R (h.length - 1) h.length (swp h 0 (h.length - 1)) 0 = d at *
 refine ⟨fun k hk hl' => ?_, ?_, h4, by simp; omega⟩
 · simp at hl'
   have := h1 k hk (by omega)
   rw [getD_in (by simp; omega), getD_in (by simp; omega), List.getElem_take, List.getElem_take]
   rw [getD_in (by omega), getD_in (by omega)] at this
   exact this
 · have hd : d = d.take (h.length - 1) ++ [h.getD 0 0] := by
     have := take_snoc d (h.length - 1) 0 (by omega)
     rw [h4, show h.length - 1 + 1 = d.length by omega, List.take_length] at this
     exact this
   have h6 : (h.getD 0 0 :: d.take (h.length - 1)).Perm (d.take (h.length - 1) ++ [h.getD 0 0]) := (List.perm_append_singleton _ _).symm
   rw [← hd] at h6
   exact h6.trans h5
end Go.Proofs.YtimhpglfolbomabGreat.Od

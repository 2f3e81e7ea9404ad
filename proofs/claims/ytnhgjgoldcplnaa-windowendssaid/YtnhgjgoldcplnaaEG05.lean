/-
  A link that is begun, and its steps.
  WindowFifo, walked.
  Rounds: all that is under way arrives, and what is wanted is acknowledged; as lists.
  WindowEnds, walked.
-/
import Derived.Test.YtnhgjgoldcplnaaEG04
set_option maxRecDepth 100000
set_option maxHeartbeats 16000000
namespace Go.Proofs.Ytnhgjgoldcplnaa
open Go.RowKit Go.Maps
def LI (W Q : Int) (m : Nat) (col : Nat → Nat) (w : World) (kb : Nat) : Prop :=
 ∃ sb rb vp vn va vt L d t K P N A T, LK W Q col w kb sb rb vp vn va vt L d t K P N A T ∧ Inv W Q m L d t K P N A T
section
variable {S : Nat → Prop} {W Q : Int} {m : Nat} {col col' : Nat → Nat} {w w' : World} {kb : Nat}
theorem step_li (h : LI W Q m col w kb) (hm : m ≤ 200) (x : Dd) (hx : x.data.size ≤ 500) : Calls Try.prog 29 #[.pointer (some ⟨kb, 0, none⟩), .agg #[.int .i64 x.kind, .int .i64 x.n, .string x.data]] w fun e w' => e = .returned (.tuple #[]) ∧ ∃ col', LI W Q (m + 1) col' w' kb ∧ Ev S7 col w col' w' := by
 obtain ⟨sb, rb, vp, vn, va, vt, L, d, t, K, P, N, A, T, h1, I⟩ := h
 have hW := h1.s.wide
 obtain ⟨f1, f2, f3, f4⟩ := I.few
 obtain ⟨kd, nn, s⟩ := x
 simp only at hx ⊢
 have hPL : P.length = L.length := by rw [I.same]
 have hTl : T.length ≤ m := by rw [I.told, List.length_take]; omega
 by_cases k0 : kd = 0
 · subst k0
   by_cases hp : pushE W Q L d (ints s) = 0
   · refine (step0_yes h1 nn (by omega) (by omega) (by omega) hp).mono ?_
     rintro e w' ⟨rfl, col', vp', vn', va', vt', k1, k2⟩
     have hpl : pushL W Q L d (ints s) = L ++ [ints s] := by unfold pushL; rw [if_pos hp]
     rw [hpl] at k1
     exact ⟨rfl, col', ⟨_, _, _, _, _, _, _, _, _, _, _, _, _, _, k1, I.push (by rw [ints_length]; exact hx) (by
      unfold pushE at hp
      rw [if_neg (by rw [ints_length]; omega)] at hp
      by_cases hq : W + Q ≤ ((L.length - d : Nat) : Int)
      · rw [if_pos hq] at hp; cases hp
      · have := I.le; omega)⟩, k2⟩
   · refine (step0_no h1 nn (by omega) (by omega) hp rfl).mono ?_
     rintro e w' ⟨rfl, col', vp', vn', va', vt', k1, k2⟩
     have hpl : pushL W Q L d (ints s) = L := by unfold pushL; rw [if_neg hp]
     rw [hpl] at k1
     exact ⟨rfl, col', ⟨_, _, _, _, _, _, _, _, _, _, _, _, _, _, k1, I.later⟩, k2⟩
 by_cases k1 : kd = 1
 · subst k1
   have hu := und_W ⟨hW.1, hW.2.1⟩ L d
   refine (step1_any h1 nn (s := s) (by omega) (fun x hx => by have := I.small x hx; omega)).mono ?_
   rintro e w' ⟨rfl, col', vp', vn', va', vt', k1, k2⟩
   exact ⟨rfl, col', ⟨_, _, _, _, _, _, _, _, _, _, _, _, _, _, k1, I.out ⟨hW.1, hW.2.1⟩⟩, k2⟩
 by_cases k2 : kd = 2
 · subst k2
   by_cases hN : N = []
   · subst hN
     refine (step2_none h1 nn (s := s)).mono ?_
     rintro e w' ⟨rfl, col', vp', vn', va', vt', k1, k2⟩
     exact ⟨rfl, col', ⟨_, _, _, _, _, _, _, _, _, _, _, _, _, _, k1, I.later⟩, k2⟩
   · have hN0 : 0 < N.length := List.length_pos_iff.2 hN
     have hj := (idx_mod nn hN0).2.1
     have hmem : N.getD (idxT N.length nn) (0, []) ∈ N := by
      rw [List.getD_eq_getElem?_getD, List.getElem?_eq_getElem hj]
      exact List.getElem_mem _
     obtain ⟨s1, s2, s3, s4⟩ := I.sent _ hmem
     have hT := I.take s1 s2 s3 s4
     have hhi := I.hi
     have hto := hT.1.told
     have hthi := hT.1.hi
     refine (step2_any h1 nn (s := s) hN0 (by omega) (by omega) (by omega) (fun p hp => ?_) ?_).mono ?_
     · obtain ⟨g1, g2, g3, g4⟩ := I.sent p hp
       refine ⟨by unfold wf64; omega, ?_⟩
       rw [g4]
       have := I.small _ (getD_mem (L := L) (k := p.1.toNat) (by omega))
       omega
     · have := congrArg List.length hto
       rw [List.length_append, List.length_take] at this
       omega
     · rintro e w' ⟨rfl, col', vp', vn', va', vt', k1, k2⟩
       exact ⟨rfl, col', ⟨_, _, _, _, _, _, _, _, _, _, _, _, _, _, k1, hT.1⟩, k2⟩
 by_cases k3 : kd = 3
 · subst k3
   by_cases hA : A = []
   · subst hA
     refine (step3_none h1 nn (s := s)).mono ?_
     rintro e w' ⟨rfl, col', vp', vn', va', vt', k1, k2⟩
     exact ⟨rfl, col', ⟨_, _, _, _, _, _, _, _, _, _, _, _, _, _, k1, I.later⟩, k2⟩
   · have hA0 : 0 < A.length := List.length_pos_iff.2 hA
     have hj := (idx_mod nn hA0).2.1
     have hmem : A.getD (idxT A.length nn) 0 ∈ A := by
      rw [List.getD_eq_getElem?_getD, List.getElem?_eq_getElem hj]
      exact List.getElem_mem _
     refine (step3_any h1 nn (s := s) hA0 (by omega)).mono ?_
     rintro e w' ⟨rfl, col', vp', vn', va', vt', k1, k2⟩
     exact ⟨rfl, col', ⟨_, _, _, _, _, _, _, _, _, _, _, _, _, _, k1, (I.ack ⟨hW.1, hW.2.1⟩ (I.acks _ hmem)).1⟩, k2⟩
 by_cases k4 : kd = 4
 · subst k4
   refine (step4_any h1 nn (s := s) (by omega)).mono ?_
   rintro e w' ⟨rfl, col', vp', vn', va', vt', k1, k2⟩
   exact ⟨rfl, col', ⟨_, _, _, _, _, _, _, _, _, _, _, _, _, _, k1, I.want⟩, k2⟩
 · refine (stepX_any h1 kd nn (s := s) ⟨k0, k1, k2, k3, k4⟩).mono ?_
   rintro e w' ⟨rfl, col', vp', vn', va', vt', k1, k2⟩
   exact ⟨rfl, col', ⟨_, _, _, _, _, _, _, _, _, _, _, _, _, _, k1, I.later⟩, k2⟩
def BegunP (W Q : Int) (w : World) (e : Ending) (w' : World) : Prop := ∃ kb, e = .returned (.tuple #[.pointer (some ⟨kb, 0, none⟩), .bool (okS W Q)]) ∧ Below w.heap.size w w' ∧ (okS W Q = true → ∃ col', LI W Q 0 col' w' kb ∧ Ev (fun _ => False) (fun _ => 99) w col' w')
theorem begun_yes (hk : okS W Q = true) (w : World) : Calls Try.prog 28 #[.int .i64 W, .int .i64 Q] w (BegunP W Q w) := by
 have hwd : wideT W = true := by unfold okS at hk; simp only [Bool.and_eq_true] at hk; exact hk.1
 have hw1 : 1 ≤ W := by unfold wideT at hwd; simp only [Bool.and_eq_true, decide_eq_true_eq] at hwd; exact hwd.1
 have hq0 : 0 ≤ Q := by unfold okS at hk; simp only [Bool.and_eq_true, decide_eq_true_eq] at hk; exact hk.2.1
 have hns := newS_yes hk w
 have hnr := fun X => newR_yes hwd X
 have HF : Hid (∀ (w1 w2 w3 : World) (n1 n2 : Nat), n1 = w.heap.size + 1 → n2 = w.heap.size + 1 + 1 + 1 → w1 = w.alloc (.cells #[.int .i64 W, .int .i64 Q, .int .i64 0, .slice none 0 0] 64) → w2 = (w1.alloc (.map #[] 0)).alloc (.cells #[.int .i64 W, .int .i64 0, .map (some n1)] 69) → w3 = w2.alloc (.cells #[.pointer (some ⟨w.heap.size, 0, none⟩), .pointer (some ⟨n1 + 1, 0, none⟩), .slice none 0 0, .slice none 0 0, .slice none 0 0, .slice none 0 0] 62) →
     BegunP W Q w (.returned (.tuple #[.pointer (some ⟨n2, 0, none⟩), .bool true])) w3) := by
  intro w1 w2 w3 n1 n2 g1 g2 e1 e2 e3
  obtain rfl : n1 = w1.heap.size := by rw [g1, e1]; simp
  obtain rfl : n2 = w2.heap.size := by rw [g2, e2, e1]; simp
  clear g1 g2
  have b1 : Below w.heap.size w w1 := by rw [e1]; exact (Below.refl _ _).alloc (Nat.le_refl _) _
  have b2 : Below w1.heap.size w1 w2 := by rw [e2]; exact ((Below.refl _ _).alloc (Nat.le_refl _) _).alloc (by simp) _
  have b3 : Below w2.heap.size w2 w3 := by rw [e3]; exact (Below.refl _ _).alloc (Nat.le_refl _) _
  have v1 : Ev (fun _ => False) (fun _ => 99) w (paint (fun _ => 99) w (some w.heap.size) 1) w1 := Ev.paint (Keep.of_below b1) _ _
  have p1 : PS 1 (paint (fun _ => 99) w (some w.heap.size) 1) w1 w.heap.size W Q [] 0 := by rw [e1]; exact PS.new hk
  generalize paint (fun _ => 99) w (some w.heap.size) 1 = c1 at *
  have v2 : Ev (fun _ => False) c1 w1 (paintAll c1 w1 2) w2 := Ev.paintAll (Keep.of_below b2) 2
  have p2 : PR 2 (paintAll c1 w1 2) w2 (w1.heap.size + 1) W 0 [] := by rw [e2]; exact PR.new hwd
  have p12 := p1.ev v2 (fun h => h) fun h => h
  generalize paintAll c1 w1 2 = c2 at *
  have v3 : Ev (fun _ => False) c2 w2 (paint c2 w2 (some w2.heap.size) 7) w3 := Ev.paint (Keep.of_below b3) _ _
  have hz : w3.heap.size = w2.heap.size + 1 := by rw [e3]; simp
  refine ⟨_, by rw [hk], belowP b1 (belowP b2 b3), fun _ => ⟨_, ⟨w.heap.size, w1.heap.size + 1, .slice none 0 0, .slice none 0 0, .slice none 0 0, .slice none 0 0, [], 0, 0, [], [], [], [], [], ⟨⟨paint_it (Nat.le_refl _), by omega⟩, ?_, p12.ev v3 (fun h => h) fun h => h, p2.ev v3 (fun h => h) fun h => h, Rw.nil _ _ _ _, Rw.nil _ _ _ _, Rw.nil _ _ _ _, Rw.nil _ _ _ _⟩, Inv.start W Q hw1 hq0⟩, (v1.trans v2 fun _ h => h).trans v3 fun _ h => h⟩⟩
  rw [e3]
  exact heap_alloc_new _ _
 go_enter Try.func28, Try.ntmps28
 go_upto_region 2 with (go_at_call 10; refine hns.mono ?_; rintro e w' ⟨rfl, rfl⟩)
 go_upto_region 3 with (go_at_call 22; refine (hnr _).mono ?_; rintro e w'' ⟨rfl, rfl⟩)
 go_wp2
 go_ret2
 exact HF.out _ _ _ _ _ rfl rfl rfl rfl rfl
theorem begun_no (hk : okS W Q = false) (w : World) : Calls Try.prog 28 #[.int .i64 W, .int .i64 Q] w (BegunP W Q w) := by
 have hns := newS_no hk w
 have HF : Hid (∀ (kb : Nat) (w' : World), Below w.heap.size w w' → BegunP W Q w (.returned (.tuple #[.pointer (some ⟨kb, 0, none⟩), .bool false])) w') := fun kb w' hb => ⟨kb, by rw [hk], hb, fun h => by rw [hk] at h; cases h⟩
 cases hwd : wideT W with
 | true =>
  have hnr := newR_yes hwd w
  clear hwd
  go_enter Try.func28, Try.ntmps28
  go_upto_region 2 with (go_at_call 10; refine hns.mono ?_; rintro e w' ⟨rfl, rfl⟩)
  go_upto_region 3 with (go_at_call 22; refine hnr.mono ?_; rintro e w'' ⟨rfl, rfl⟩)
  go_wp2
  go_ret2
  exact HF.out _ _ ((((Below.refl _ _).alloc (Nat.le_refl _) _).alloc (by simp) _).alloc (by simp; omega) _)
 | false =>
  have hnr := newR_no hwd w
  clear hwd
  go_enter Try.func28, Try.ntmps28
  go_upto_region 2 with (go_at_call 10; refine hns.mono ?_; rintro e w' ⟨rfl, rfl⟩)
  go_upto_region 3 with (go_at_call 22; refine hnr.mono ?_; rintro e w'' ⟨rfl, rfl⟩)
  go_wp2
  go_ret2
  exact HF.out _ _ ((Below.refl _ _).alloc (Nat.le_refl _) _)
theorem begun_any (W Q : Int) (w : World) : Calls Try.prog 28 #[.int .i64 W, .int .i64 Q] w (BegunP W Q w) := by
 cases h : okS W Q with
 | true => exact begun_yes h w
 | false => exact begun_no h w
end
theorem ev_below {S : Nat → Prop} {w w' : World} {col' : Nat → Nat} (h : Ev S (fun _ => 99) w col' w') (h9 : ¬ S 99) : Below w.heap.size w w' := h.keep.below (Nat.le_refl _) fun _ _ h => h9 h
theorem nodup_range : ∀ (n : Nat) (a : Int) (l : List Int), l.Nodup → (∀ x ∈ l, a ≤ x ∧ x < a + n) → l.length ≤ n
 | 0, a, l, _, h => by
  cases l with
  | nil => simp
  | cons x r => have := h x (by simp); omega
 | n + 1, a, l, hn, h => by
  by_cases hm : a + n ∈ l
  · have h1 := nodup_range n a (l.erase (a + n)) (hn.erase _) fun x hx => by
      have h2 := (List.Nodup.mem_erase_iff hn).1 hx
      have := h x h2.2
      have := h2.1
      omega
    rw [List.length_erase_of_mem hm] at h1
    omega
  · have h1 := nodup_range n a l hn fun x hx => by
      have h2 := h x hx
      have : x ≠ a + n := fun e => hm (e ▸ hx)
      omega
    omega
section
variable {W Q : Int} {m m' : Nat} {L : List (List Int)} {d : Nat} {t : Int} {K : Kp} {P : List (List Int)} {N : List (Int × List Int)} {A : List Int} {T : List (List Int)}
theorem Inv.kept_len (h : Inv W Q m L d t K P N A T) (hW : 1 ≤ W) : (K.length : Int) ≤ W := by
 have hlo := h.lo
 have h1 := nodup_range W.toNat t (K.map fun p : Int × List Int => p.1) h.apart fun x hx => by
  obtain ⟨p, hp, rfl⟩ := List.mem_map.1 hx
  obtain ⟨k1, k2, k3, k4⟩ := h.kept p hp
  omega
 rw [List.length_map] at h1
 omega
theorem Inv.tight (h : Inv W Q m L d t K P N A T) (hW : 1 ≤ W ∧ W ≤ 64) (h1 : L.length ≤ m') (h2 : N.length ≤ 64 * m') (h3 : A.length ≤ m') (h4 : 64 ≤ m') : Inv W Q m' L d t K P N A T :=
 ⟨h.same, h.le, h.lo, h.hi, h.win, h.told, h.sent, h.kept, h.apart, h.acks, ⟨h1, h2, h3, by have := h.kept_len hW.1; omega⟩, h.small, h.room⟩
def Came (_L : List (List Int)) (d ud i : Nat) (t : Int) (K : Kp) : Prop := ∀ j, i ≤ j → j < ud → ((d + j : Nat) : Int) < t ∨ ∃ q ∈ K, q.1 = ((d + j : Nat) : Int)
theorem came_all (h : Inv W Q m L d t K P N A T) (hW : 1 ≤ W ∧ W ≤ 64) (hc : Came L d (undT W L d) 0 t K) : t = ((d + undT W L d : Nat) : Int) := by
 have hlo := h.lo
 have hhi := h.hi
 have hwin := h.win
 have hle := h.le
 have hu : undT W L d = min W.toNat (L.length - d) := rfl
 by_cases hlt : t < ((d + undT W L d : Nat) : Int)
 · have hj : (t - d).toNat < undT W L d := by omega
   rcases hc _ (Nat.zero_le _) hj with k | ⟨q, hq, k⟩
   · omega
   · have := (h.kept q hq).1
     omega
 · omega
theorem Inv.arrive (h : Inv W Q m L d t K P N A T) (hW : 1 ≤ W ∧ W ≤ 64) (hm : 64 ≤ m) {i : Nat} (hi : i < undT W L d) (hc : Came L d (undT W L d) (i + 1) t K) :
    Inv W Q m L d (takeT W t K ((d + i : Nat) : Int) (L.getD (d + i) [])).2.1 (takeT W t K ((d + i : Nat) : Int) (L.getD (d + i) [])).2.2 P N A (T ++ (takeT W t K ((d + i : Nat) : Int) (L.getD (d + i) [])).1) ∧ Came L d (undT W L d) i (takeT W t K ((d + i : Nat) : Int) (L.getD (d + i) [])).2.1 (takeT W t K ((d + i : Nat) : Int) (L.getD (d + i) [])).2.2 := by
 have hul := und_le W L d
 have huW := und_W hW L d
 have hle := h.le
 obtain ⟨k1, k2, k3, k4⟩ := h.take (p := (((d + i : Nat) : Int), L.getD (d + i) [])) (by simp only; omega) (by simp only; omega) (by simp only; omega) (by simp only [Int.toNat_natCast])
 simp only at k1 k2 k3 k4
 refine ⟨k1.tight hW h.few.1 h.few.2.1 h.few.2.2.1 hm, fun j h1 h2 => ?_⟩
 rcases Nat.lt_or_ge i j with hlt | hge
 · rcases hc j hlt h2 with e | ⟨q, hq, e⟩
   · exact .inl (by omega)
   · rcases k4 q hq with g | g
     · exact .inl (by omega)
     · exact .inr ⟨q, g, e⟩
 · obtain rfl : j = i := by omega
   exact k3
def Rnd (W : Int) (L : List (List Int)) (d r : Nat) : Prop := (r : Int) * W ≤ d + (if d = L.length then W - 1 else 0)
theorem rnd_next (hW : 1 ≤ W) {r : Nat} (h : Rnd W L d r) (hd : d < L.length) : Rnd W L (d + undT W L d) (r + 1) := by
 unfold Rnd at h ⊢
 rw [if_neg (by omega)] at h
 have hu : undT W L d = min W.toNat (L.length - d) := rfl
 have e : ((r + 1 : Nat) : Int) * W = (r : Int) * W + W := by rw [Int.natCast_add, Int.add_mul]; simp
 rw [e]
 split <;> omega
theorem rnd_few (hW : 1 ≤ W) {r : Nat} (h : Rnd W L d r) (hd : d ≤ L.length) : (r : Int) ≤ L.length + W - 1 ∧ (d < L.length → r ≤ d) := by
 unfold Rnd at h
 have hr : (r : Int) ≤ (r : Int) * W := by
  have := Int.mul_le_mul_of_nonneg_left hW (Int.natCast_nonneg r)
  simpa using this
 split at h <;> refine ⟨by omega, fun _ => by omega⟩
theorem rnd_all (hW : 1 ≤ W) {r : Nat} (h : Rnd W L d r) (hd : d ≤ L.length) : (r : Int) ≤ ((L.length : Int) + W - 1).tdiv W := by
 have h1 : (r : Int) * W ≤ (L.length : Int) + W - 1 := by
  unfold Rnd at h
  split at h <;> omega
 rw [Int.tdiv_eq_ediv_of_nonneg (by omega)]
 exact (Int.le_ediv_iff_mul_le (by omega)).2 h1
end
theorem ends_any {D : Nat → Prop} {w : World} {v : Value} {l : List Dd} (W Q : Int) (h : Sl ED (· < w.heap.size) D w v l) (hl : l.length ≤ 9223372036854775807) (hs : ∀ x ∈ l, x.data.size ≤ 9223372036854775807) :
    Calls Try.prog 6 #[.int .i64 W, .int .i64 Q, v] w fun e w' => e = .returned (.bool true) ∧ Below w.heap.size w w' := by
 have hfw := few_any h hl hs
 obtain ⟨p, c, rfl, hlc, hk⟩ := h.deeds
 cases hf : fewT l with
 | false =>
  rw [hf] at hfw
  clear hk h hf hlc
  generalize l.length = n at *
  go_enter Try.func6, Try.ntmps6
  go_wp2_with (go_at_call 9; refine hfw.mono ?_; rintro e w' ⟨rfl, rfl⟩)
  go_ret
  exact ⟨rfl, Below.refl _ _⟩
 | true =>
  have hf2 := hf
  unfold fewT at hf2
  rw [Bool.and_eq_true] at hf2
  have hn2 := of_decide_eq_true hf2.1
  have HK : Hid (∀ j, j < l.length → ∃ (b o : Nat) (x : Dd), p = some ⟨b, o, none⟩ ∧ b < w.heap.size ∧ w.cell? ⟨b, o + j * 3, none⟩ = some (.int .i64 x.kind) ∧ w.cell? ⟨b, o + j * 3 + 1, none⟩ = some (.int .i64 x.n) ∧ w.cell? ⟨b, o + j * 3 + 2, none⟩ = some (.string x.data) ∧ x.data.size ≤ 500) := fun j hj => by
   obtain ⟨b, o, h1, h2, h3, h4, h5⟩ := hk j hj
   refine ⟨b, o, l.getD j noDd, h1, h2, h3, h4, h5, of_decide_eq_true (List.all_eq_true.1 hf2.2 _ ?_)⟩
   rw [List.getD_eq_getElem?_getD, List.getElem?_eq_getElem hj]
   exact List.getElem_mem _
  have hbg := begun_any W Q
  rw [hf] at hfw
  clear hk h hf hf2 hs hl
  generalize l.length = n at *
  go_enter Try.func6, Try.ntmps6
  go_upto_region 3 with (go_at_call 9; refine hfw.mono ?_; rintro e w' ⟨rfl, rfl⟩)
  go_upto_region 4 with (go_at_call 28; refine (hbg _).mono ?_; rintro e w1 ⟨kb, rfl, hb1, hst⟩)
  clear hfw hbg
  cases hok : okS W Q with
  | false =>
   have HB1 : Hid (Below w'.heap.size w' w1) := hb1
   clear hst hok hb1
   have haw := awake_any w1
   go_wp2_with (go_at_call 12; refine haw.mono ?_; rintro e w3 ⟨rfl, hb3⟩)
   go_ret
   exact ⟨rfl, belowP HB1.out hb3⟩
  | true =>
   obtain ⟨c1, hL1, hE1⟩ := hst hok
   have HL1 : Hid (LI W Q 0 c1 w1 kb) := hL1
   have HE1 : Hid (Ev S7 (fun _ => 99) w' c1 w1) := hE1.mono fun _ h => h.elim
   clear hst hL1 hE1 hb1
   go_upto_region 7 with fail
   go_loopw [9] (fun iv wr => ∃ (k : Nat) (cr : Nat → Nat), k ≤ n ∧ iv = .int .i64 (k : Int) ∧ Hid (LI W Q k cr wr kb) ∧ Hid (Ev S7 (fun _ => 99) w' cr wr)) (fun iv _ => n - (intOf iv).toNat)
   case atStart => exact ⟨0, c1, Nat.zero_le _, rfl, HL1.out, HE1.out⟩
   case round =>
    obtain ⟨k, cr, hk, rfl, HLI, HE⟩ := hrel
    have hbw := ev_below HE.out (by unfold S7; omega)
    by_cases hkn : k < n
    · obtain ⟨db, do_, x, rfl, hdb, hd0, hd1, hd2, hdx⟩ := HK.out k hkn
      have y0 : wr.cell? ⟨db, do_ + k * 3, none⟩ = _ := (World.cell?_of_block (a := ⟨db, do_ + k * 3, none⟩) (hbw.block db hdb)).trans hd0
      have y1 : wr.cell? ⟨db, do_ + k * 3 + 1, none⟩ = _ := (World.cell?_of_block (a := ⟨db, do_ + k * 3 + 1, none⟩) (hbw.block db hdb)).trans hd1
      have y2 : wr.cell? ⟨db, do_ + k * 3 + 2, none⟩ = _ := (World.cell?_of_block (a := ⟨db, do_ + k * 3 + 2, none⟩) (hbw.block db hdb)).trans hd2
      have hsp := step_li HLI.out (by omega) x hdx
      obtain ⟨kd, nn, sx⟩ := x
      simp only at y0 y1 y2 hsp
      clear hd0 hd1 hd2 hdx hdb hbw
      go_wp2_with (go_at_call 29; refine hsp.mono ?_; rintro e w2 ⟨rfl, c2, hL2, hE2⟩; have HL2 : Hid (LI W Q (k + 1) c2 w2 kb) := hL2; have HE2 : Hid (Ev S7 (fun _ => 99) w' c2 w2) := HE.out.trans hE2 fun _ h => h; clear hL2 hE2)
      go_roundw
      case rel => exact ⟨k + 1, c2, by omega, by go_num, HL2.out, HE2.out⟩
      case measure => simp [intOf]; omega
    · obtain rfl : k = n := by omega
      obtain ⟨sb, rb, vp, vn, va, vt, L, d0, t, K, P, N, A, T, hK0, hI0⟩ := HLI.out
      have hWW := hK0.s.wide
      have hW2 : 1 ≤ W ∧ W ≤ 64 := ⟨hWW.1, hWW.2.1⟩
      have hI1 : Inv W Q 300 L d0 t K P N A T := hI0.tight hW2 (by have := hI0.few; omega) (by have := hI0.few; omega) (by have := hI0.few; omega) (by omega)
      have hL3 : L.length ≤ 200 := by have := hI0.few; omega
      have HPL : Hid (P = L) := hI0.same
      have HK0 : Hid (LK W Q cr wr kb sb rb vp vn va vt L d0 t K P N A T) := hK0
      have HI1 : Hid (Inv W Q 300 L d0 t K P N A T) := hI1
      have HR0 : Hid (Rnd W L d0 0) := by show Rnd W L d0 0; unfold Rnd; split <;> simp <;> omega
      obtain ⟨L9, hL9⟩ : ∃ n9, L.length = n9 := ⟨_, rfl⟩
      have HLL : Hid (L.length = L9) := hL9
      rw [hL9] at hL3
      clear hK0 hI0 hI1 hL9 HLI hWW hbw HL1 HE1
      go_upto_region 11 with fail
      go_loopw [10] (fun rv wr => ∃ (r d : Nat) (c3 : Nat → Nat) (vt : Value) (t : Int) (K : Kp) (T : List (List Int)), rv = .int .i64 (r : Int) ∧ r ≤ 201 ∧ Hid (LK W Q c3 wr kb sb rb vp vn va vt L d t K P N A T) ∧ Hid (Inv W Q 300 L d t K P N A T) ∧ Hid (Rnd W L d r) ∧ Hid (Ev S7 (fun _ => 99) w' c3 wr)) (fun rv _ => 300 - (intOf rv).toNat)
      case atStart => exact ⟨0, d0, cr, vt, t, K, T, rfl, by omega, HK0.out, HI1.out, HR0.out, HE.out⟩
      case round =>
       obtain ⟨r, d, c3, vt, t, K, T, rfl, hr, H3, HI3, HR3, HE3⟩ := hrel
       obtain ⟨wy, rfl⟩ : ∃ z : World, z = wr := ⟨_, rfl⟩
       have x0 := cell_row (cur := [_, _, _, _, _, _]) H3.out.obj 0 _ rfl
       have hll := left_any H3.out.s
       have hdl := HI3.out.le
       rw [HLL.out] at hll hdl
       by_cases hd : d < L9
       · have hrd := (rnd_few hW2.1 HR3.out (by rw [HLL.out]; exact hdl)).2 (by rw [HLL.out]; exact hd)
         obtain ⟨lf, hlf⟩ : ∃ lf, L9 - d = lf := ⟨_, rfl⟩
         rw [hlf] at hll
         have hlf0 : 0 < lf := by omega
         have hou := out_any H3.out.s (fun x hx => by have := HI3.out.small x hx; omega)
         have HUP : Hid (0 < undT W L d ∧ undT W L d ≤ 64) := by
          have hu : undT W L d = min W.toNat (L.length - d) := rfl
          have h5 := HLL.out
          show _ ∧ _
          omega
         obtain ⟨ud, hud⟩ : ∃ ud, undT W L d = ud := ⟨_, rfl⟩
         have HUD : Hid (undT W L d = ud) := hud
         rw [hud] at hou HUP
         have hu0 := HUP.out
         clear hud hlf
         go_upto_region 15 with (go_at_call 21; refine hll.mono ?_; rintro e w4 ⟨rfl, rfl⟩)
         clear hll
         go_upto_region 16 with (go_at_call 18; refine hou.mono ?_; rintro e w5 ⟨hb5, vo, rfl, hvo⟩)
         have he5 : Ev (fun _ => False) c3 w4 (paint c3 w4 none 0) w5 := Ev.paint (Keep.of_below hb5) _ _
         have H5 : Hid (LK W Q (paint c3 w4 none 0) w5 kb sb rb vp vn va vt L d t K P N A T) := H3.out.ev he5 (fun _ h => h)
         have HE5 : Hid (Ev S7 (fun _ => 99) w' (paint c3 w4 none 0) w5) := HE3.out.trans he5 fun _ h => h.elim
         have HVO5 : Hid (Vw EP (paint c3 w4 none 0) w5 vo (outK L d ud)) := hvo
         generalize paint c3 w4 none 0 = c5 at *
         obtain ⟨po, co, hpo, hco, -, hneO, -⟩ := hvo.pieces
         rw [outK_len] at hpo hco
         subst hpo
         obtain ⟨ob, oo, rfl, -⟩ := hneO (by intro e; have := congrArg List.length e; rw [outK_len] at this; simp at this; omega)
         have HOB6 : Hid (∀ (c : Nat → Nat) (X : World), Vw EP c X (.slice (some ⟨ob, oo, none⟩) ud co) (outK L d ud) → Cl c 0 X ob) := fun c X h => by
          obtain ⟨_, _, e, _, _, h1, _⟩ := h.pieces
          rw [outK_len] at e
          cases e
          obtain ⟨_, _, e2, h2⟩ := h1 (by intro e; have := congrArg List.length e; rw [outK_len] at this; simp at this; omega)
          cases e2
          exact h2
         have HWX : Hid (∀ j, j < ud → (L.getD (d + j) []).length ≤ 500) := fun j hj => HI3.out.small _ (getD_mem (by have h1 := und_le W L d; have h2 := HUD.out; have h3 := HLL.out; omega))
         have HD2 : Hid (d ≤ 200) := by show _ ≤ _; omega
         clear hneO hvo hb5 he5 hou x0 HK0 HI1 HR0
         go_upto_region 17 with fail
         go_loopw [12] (fun iv wr => ∃ (i : Nat) (c4 : Nat → Nat) (vt' : Value) (t' : Int) (K' : Kp) (T' : List (List Int)), i ≤ ud ∧ iv = .int .i64 ((i : Int) - 1) ∧ Hid (LK W Q c4 wr kb sb rb vp vn va vt' L d t' K' P N A T') ∧ Hid (Inv W Q 300 L d t' K' P N A T') ∧ Hid (Came L d ud i t' K') ∧ Hid (Ev S7 (fun _ => 99) w' c4 wr) ∧ Hid (Vw EP c4 wr (.slice (some ⟨ob, oo, none⟩) ud co) (outK L d ud))) (fun iv _ => (intOf iv + 1).toNat)
         case atStart => exact ⟨ud, c5, vt, t, K, T, Nat.le_refl _, rfl, H5.out, HI3.out, fun j h1 h2 => by omega, HE5.out, HVO5.out⟩
         case round =>
          obtain ⟨i, c4, vt', t', K', T', hi, rfl, H4, HI4, HC4, HE4, HVO⟩ := hrel
          obtain ⟨wy, rfl⟩ : ∃ z : World, z = wr := ⟨_, rfl⟩
          cases i with
          | succ j =>
           have ej : (((j + 1 : Nat) : Int) - 1) = (j : Int) := by omega
           rw [ej]
           obtain ⟨s1, hs1⟩ : ∃ s1 : Int, ((d + j : Nat) : Int) = s1 := ⟨_, rfl⟩
           obtain ⟨x1, hx1⟩ : ∃ x1, L.getD (d + j) [] = x1 := ⟨_, rfl⟩
           have hAR := HI4.out.arrive hW2 (by omega) (i := j) (by rw [HUD.out]; omega) (by rw [HUD.out]; exact HC4.out)
           rw [HUD.out, hs1, hx1] at hAR
           have HAR := (show Hid _ from hAR)
           have hju : j < ud := by omega
           have hs1w : wf64 s1 := by unfold wf64; have := HD2.out; omega
           have hxl := HWX.out j (by omega)
           rw [hx1] at hxl
           obtain ⟨_, _, e, _, _, _, hcel⟩ := HVO.out.pieces
           rw [outK_len] at e
           cases e
           obtain ⟨u, e0, e1, hu⟩ := hcel ob oo rfl j (((d + j : Nat) : Int), L.getD (d + j) []) (by unfold outK; rw [List.getElem?_map, List.getElem?_range (by omega)]; rfl)
           simp only at e0 hu
           rw [hs1] at e0
           rw [hx1] at hu
           obtain ⟨pu, cu, rfl⟩ := hu.lenv
           obtain ⟨ml, hml⟩ : ∃ ml, x1.length = ml := ⟨_, rfl⟩
           have HML : Hid (x1.length = ml) := hml
           rw [hml] at e1 hxl
           have HVU : Hid (Vw EU c4 wy (.slice pu ml cu) x1) := by rw [hml] at hu; exact hu
           have HOB5 : Hid (∀ X, Vw EP c4 X (.slice (some ⟨ob, oo, none⟩) ud co) (outK L d ud) → Cl c4 0 X ob) := fun X h => HOB6.out c4 X h
           have hkl := HI4.out.few.2.2.2
           have hthi := HI4.out.hi
           have hthi2 := hAR.1.hi
           have htold := hAR.1.told
           have HTL : Hid (T'.length + (takeT W t' K' s1 x1).1.length ≤ 1000000) := by
            have := congrArg List.length htold
            rw [List.length_append, List.length_take] at this
            have h3 := HLL.out
            show _ ≤ _
            omega
           rw [HLL.out] at hthi
           clear hAR hcel hu hml hs1 hx1 ej hthi2 htold
           go_upto_region 19 with fail
           have HE5 : Hid (Ev (fun _ => False) c4 wy c4 wy.drew) := Ev.drewN _ _ _ 1
           have H5 : Hid (LK W Q c4 wy.drew kb sb rb vp vn va vt' L d t' K' P N A T') := H4.out.ev HE5.out (fun _ h => h)
           have HVU5 : Hid (Vw EU c4 wy.drew (.slice pu ml cu) x1) := Vw.ev HVU.out HE5.out (fun h => h)
           have HVO5 : Hid (Vw EP c4 wy.drew (.slice (some ⟨ob, oo, none⟩) ud co) (outK L d ud)) := Vw.ev HVO.out HE5.out (fun h => h)
           have hC5 : wy.drew.heap[kb]? = some (.cells #[.pointer (some ⟨sb, 0, none⟩), .pointer (some ⟨rb, 0, none⟩), vp, vn, va, vt'] 62) ∧ wy.drew.cell? ⟨ob, oo + j * 2, none⟩ = some (.int .i64 s1) ∧ wy.drew.cell? ⟨ob, oo + j * 2 + 1, none⟩ = some (.slice pu ml cu) := ⟨H5.out.obj, e0, e1⟩
           refine wp_region_J 17 (fun X => X.heap[kb]? = some (.cells #[.pointer (some ⟨sb, 0, none⟩), .pointer (some ⟨rb, 0, none⟩), vp, vn, va, vt'] 62) ∧ X.cell? ⟨ob, oo + j * 2, none⟩ = some (.int .i64 s1) ∧ X.cell? ⟨ob, oo + j * 2 + 1, none⟩ = some (.slice pu ml cu)) ?_
           change wpJ _ _ _ _ _ _ _ _ _ (World.drew _)
           generalize hw5 : wy.drew = w5 at *
           clear hw5
           refine wpJ_q (i := 0) (d := some 59) (v := .pointer (some ⟨kb, 0, none⟩)) rfl ?_
           refine wpJ_q (i := 1) (d := some 60) (v := .pointer (some ⟨kb, 0, none⟩)) rfl ?_
           refine wpJ_q (i := 2) (d := some 61) (v := .pointer (some ⟨kb, 0, none⟩)) rfl ?_
           refine wpJ_q (i := 3) (d := some 62) (v := .pointer (some ⟨kb, 5, none⟩)) rfl ?_
           refine wpJ_r (i := 4) (d := some 63) (v := vt') rfl (by intro wq hq; have g := cell_row (cur := [_, _, _, _, _, _]) hq.1 5 _ rfl; go_simp; first | done | with_reducible rfl) ?_
           refine wpJ_q (i := 5) (d := some 64) (v := .pointer (some ⟨kb, 0, none⟩)) rfl ?_
           refine wpJ_q (i := 6) (d := some 65) (v := .pointer (some ⟨kb, 0, none⟩)) rfl ?_
           refine wpJ_q (i := 7) (d := some 66) (v := .pointer (some ⟨kb, 1, none⟩)) rfl ?_
           refine wpJ_r (i := 8) (d := some 67) (v := .pointer (some ⟨rb, 0, none⟩)) rfl (by intro wq hq; have g := cell_row (cur := [_, _, _, _, _, _]) hq.1 1 _ rfl; go_simp; first | done | with_reducible rfl) ?_
           refine wpJ_q (i := 9) (d := some 68) (v := .slice (some ⟨ob, oo, none⟩) ud co) rfl ?_
           refine wpJ_q (i := 10) (d := some 69) (v := .int .i64 (j : Int)) rfl ?_
           refine wpJ_q (i := 11) (d := some 70) (v := .pointer (some ⟨ob, oo + j * 2, none⟩)) rfl ?_
           refine wpJ_r (i := 12) (d := some 71) (v := .agg #[.int .i64 s1, .slice pu ml cu]) rfl (by intro wq hq; have g := hq.2.1; have g2 := hq.2.2; go_simp; first | done | with_reducible rfl) ?_
           have hta := take_any H5.out.r (by decide) (by omega) (by omega) HVU5.out hs1w (by have := HML.out; omega)
           refine wpJ_do (i := 13) (fun _ => hC5) (by kernel_rfl) rfl (by rfl) ?_
           intro K13 hK13
           go_simp
           go_wp2_with (go_at_call 24; refine hta.mono ?_; rintro e w6 ⟨v6, rfl, c6, hE6, hS6, hV6⟩)
           have H6 := (show Hid _ from H5.out.upR hE6 hS6)
           have HE6 : Hid (Ev (· = 2) c4 w5 c6 w6) := hE6
           have HVO6 : Hid (Vw EP c6 w6 (.slice (some ⟨ob, oo, none⟩) ud co) (outK L d ud)) := Vw.ev HVO5.out hE6 (by decide)
           have hcc : ∀ o v, w5.cell? ⟨ob, o, none⟩ = some v → w6.cell? ⟨ob, o, none⟩ = some v := fun o v h => (World.cell?_of_block (hE6.same (i := 0) (by decide) ob (HOB5.out w5 HVO5.out))).trans h
           have hC6 : w6.heap[kb]? = some (.cells #[.pointer (some ⟨sb, 0, none⟩), .pointer (some ⟨rb, 0, none⟩), vp, vn, va, vt'] 62) ∧ w6.cell? ⟨ob, oo + j * 2, none⟩ = some (.int .i64 s1) ∧ w6.cell? ⟨ob, oo + j * 2 + 1, none⟩ = some (.slice pu ml cu) := ⟨H6.out.obj, hcc _ _ hC5.2.1, hcc _ _ hC5.2.2⟩
           have hR6 : Rc EB 6 c6 w6 vt' T' := H6.out.o
           obtain ⟨p6, k6, hp6⟩ := hV6.lenv
           obtain ⟨tl, htl⟩ : ∃ tl, (takeT W t' K' s1 x1).1.length = tl := ⟨_, rfl⟩
           rw [htl] at hp6
           subst hp6
           have HV6 : Hid (Vw EB c6 w6 (.slice p6 tl k6) (takeT W t' K' s1 x1).1) := hV6
           clear hta hE6 hS6 hV6 hcc htl
           refine wpJ_do (i := 14) (fun _ => hC6) (by kernel_rfl) rfl (by rfl) ?_
           intro K14 hK14
           refine wp_app (.tmp 63) (.tmp 72) 31 (some 73) rfl rfl Try.underlying31 rfl hR6 rfl HV6.out HTL.out ?_
           rintro v' w7 hg hat ⟨q', k', hv'⟩ HD
           obtain ⟨nl, hnl⟩ : ∃ nl, (T' ++ (takeT W t' K' s1 x1).1).length = nl := ⟨_, rfl⟩
           rw [hnl] at hv'
           subst hv'
           clear hnl
           obtain ⟨f1, f2, f3⟩ := row_end H6.out.o (by decide) (Below.refl _ _) hg hat HD.out (fun k hk => .inl hk)
           obtain ⟨g1, g2, g3⟩ := H6.out.upT f1 f2
           have H8 := (show Hid _ from g1)
           have HE8 := (show Hid _ from g2)
           have HVO7 := Vw.ev HVO6.out g2 (by unfold S7; omega)
           have HVO8 := (show Hid _ from HVO7)
           have hcc : ∀ o v, w6.cell? ⟨ob, o, none⟩ = some v → w7.cell? ⟨ob, o, none⟩ = some v := fun o v h => (World.cell?_of_block (f1.same (i := 0) (by decide) ob (HOB6.out c6 w6 HVO6.out))).trans h
           have hC7 : w7.heap[kb]? = some (.cells #[.pointer (some ⟨sb, 0, none⟩), .pointer (some ⟨rb, 0, none⟩), vp, vn, va, vt'] 62) ∧ w7.cell? ⟨ob, oo + j * 2, none⟩ = some (.int .i64 s1) ∧ w7.cell? ⟨ob, oo + j * 2 + 1, none⟩ = some (.slice pu ml cu) := ⟨g3, hcc _ _ hC6.2.1, hcc _ _ hC6.2.2⟩
           have hx7 := cell_row (cur := [_, _, _, _, _, _]) g3 5 _ rfl
           have hz7 := frozen_of_row w7 kb 5 _ _ g3
           clear g1 g2 f1 f2 f3 hg hat HD hR6 hcc HVO7 g3
           refine hK14 _ _ ?_
           refine wpJ_fr ?_
           refine wpJ_do (i := 15) (fun _ => hC7) (by kernel_rfl) rfl (by rfl) ?_
           intro K15 hK15
           go_simp
           refine hK15 _ _ ?_
           refine wpJ_q (i := 16) (d := some 75) (v := .pointer (some ⟨kb, 5, none⟩)) rfl ?_
           refine wpJ_do (i := 17) (fun _ => hC7) (by kernel_rfl) rfl (by rfl) ?_
           intro K17 hK17
           go_simp
           refine hK17 _ _ ?_
           refine wpJ_end ?_
           go_wp2
           go_roundw
           case rel => exact ⟨j, _, _, _, _, _, by omega, by go_num, H8.out, HAR.out.1, HAR.out.2, ((HE4.out.trans HE5.out fun _ h => h.elim).trans HE6.out fun i hi => by rw [hi]; exact ⟨by decide, by decide⟩).trans HE8.out fun _ h => h, HVO8.out⟩
           case measure => simp [intOf] <;> omega
          | zero =>
           have HT0 : Hid (t' = ((d + ud : Nat) : Int)) := by
            have := came_all HI4.out hW2 (by rw [HUD.out]; exact HC4.out)
            rw [HUD.out] at this
            exact this
           have HAK := (HI4.out.ack hW2 (a := t') (Int.le_refl _)).1
           have had : ackD W L d t' = d + ud := by
            have h1 := HT0.out
            unfold ackD ackOk
            rw [HUD.out, h1, decide_eq_true (by omega), decide_eq_true (by omega)]
            simp
            omega
           rw [had] at HAK
           have HI9 : Hid (Inv W Q 300 L (d + ud) t' K' P N A T') := HAK.tight hW2 HI4.out.few.1 HI4.out.few.2.1 HI4.out.few.2.2.1 (by omega)
           have HAD : Hid (ackD W L d t' = d + ud) := had
           have HRN : Hid (Rnd W L (d + ud) (r + 1)) := by have := rnd_next hW2.1 HR3.out (by rw [HLL.out]; exact hd); rw [HUD.out] at this; exact this
           clear HAK had
           go_upto_region 20 with fail
           have HE5 : Hid (Ev (fun _ => False) c4 wy c4 wy.drew) := Ev.drewN _ _ _ 1
           have H5 : Hid (LK W Q c4 wy.drew kb sb rb vp vn va vt' L d t' K' P N A T') := H4.out.ev HE5.out (fun _ h => h)
           have hC5 : wy.drew.heap[kb]? = some (.cells #[.pointer (some ⟨sb, 0, none⟩), .pointer (some ⟨rb, 0, none⟩), vp, vn, va, vt'] 62) := H5.out.obj
           refine wp_region_J 99 (fun X => X.heap[kb]? = some (.cells #[.pointer (some ⟨sb, 0, none⟩), .pointer (some ⟨rb, 0, none⟩), vp, vn, va, vt'] 62)) ?_
           change wpJ _ _ _ _ _ _ _ _ _ (World.drew _)
           generalize hw5 : wy.drew = w5 at *
           clear hw5
           refine wpJ_q (i := 0) (d := some 76) (v := .pointer (some ⟨kb, 0, none⟩)) rfl ?_
           refine wpJ_q (i := 1) (d := some 77) (v := .pointer (some ⟨kb, 0, none⟩)) rfl ?_
           refine wpJ_q (i := 2) (d := some 78) (v := .pointer (some ⟨kb, 0, none⟩)) rfl ?_
           refine wpJ_r (i := 3) (d := some 79) (v := .pointer (some ⟨sb, 0, none⟩)) rfl (by intro wq hq; have g := cell_row (cur := [_, _, _, _, _, _]) hq 0 _ rfl; go_simp; first | done | with_reducible rfl) ?_
           refine wpJ_q (i := 4) (d := some 80) (v := .pointer (some ⟨kb, 0, none⟩)) rfl ?_
           refine wpJ_q (i := 5) (d := some 81) (v := .pointer (some ⟨kb, 0, none⟩)) rfl ?_
           refine wpJ_q (i := 6) (d := some 82) (v := .pointer (some ⟨kb, 1, none⟩)) rfl ?_
           refine wpJ_r (i := 7) (d := some 83) (v := .pointer (some ⟨rb, 0, none⟩)) rfl (by intro wq hq; have g := cell_row (cur := [_, _, _, _, _, _]) hq 1 _ rfl; go_simp; first | done | with_reducible rfl) ?_
           have hwa := want_any H5.out.r
           have hac := ack_any H5.out.s (by decide) t'
           refine wpJ_do (i := 8) (fun _ => hC5) (by kernel_rfl) rfl (by rfl) ?_
           intro K8 hK8
           go_simp
           go_wp2_with (go_at_call 26; refine hwa.mono ?_; rintro e w6 ⟨rfl, rfl⟩)
           clear hwa
           refine wpJ_do (i := 9) (fun _ => hC5) (by kernel_rfl) rfl (by rfl) ?_
           intro K9 hK9
           go_simp
           go_wp2_with (go_at_call 15; refine hac.mono ?_; rintro e w7 ⟨rfl, hE7, hS7⟩)
           have H7 := (show Hid _ from H5.out.upS hE7 hS7)
           have HE7 : Hid (Ev (· = 1) c4 w6 c4 w7) := hE7
           have hC7 := H7.out.obj
           clear hac hE7 hS7
           refine wpJ_done (fun _ => hC7) (by kernel_rfl) ?_ _
           have H9 : Hid (LK W Q c4 w7 kb sb rb vp vn va vt' L (d + ud) t' K' P N A T') := by have := H7.out; rw [HAD.out] at this; exact this
           clear H7
           go_wp2
           go_roundw
           case rel => exact ⟨r + 1, d + ud, c4, vt', t', K', T', by go_num, by omega, H9.out, HI9.out, HRN.out, (HE4.out.trans HE5.out fun _ h => h.elim).trans HE7.out fun i hi => by rw [hi]; exact ⟨by decide, by decide⟩⟩
           case measure => simp [intOf]; omega
       · obtain rfl : d = L9 := by omega
         have HTT : Hid (t = (d : Int)) := by
          have h1 := HI3.out.lo
          have h2 := HI3.out.hi
          rw [HLL.out] at h2
          show _ = _
          omega
         have HTP : Hid (decide (T = P) = true) := decide_eq_true (by
          have h1 := HI3.out.told
          have h2 := HTT.out
          rw [h1, h2, HI3.out.same, Int.toNat_natCast]; exact List.take_of_length_le (Nat.le_of_eq HLL.out))
         have hpl : P.length = d := by rw [HI3.out.same]; exact HLL.out
         have htl : T.length = d := by have h1 := of_decide_eq_true HTP.out; rw [h1]; exact hpl
         have HTL : Hid (T.length ≤ 1000000 ∧ P.length ≤ 1000000) := ⟨by omega, by omega⟩
         have hra0 := rnd_all hW2.1 HR3.out (Nat.le_of_eq HLL.out.symm)
         rw [HLL.out] at hra0
         have hra := decide_eq_true hra0
         have hw17 := IntWalk.i64_in ((d : Int) + W) (by omega)
         have hw18 := IntWalk.i64_in ((d : Int) + W - 1) (by omega)
         have hw20 := IntWalk.i64_quo' ((d : Int) + W - 1) W (by omega)
         have hw0 : ¬ (W = 0) := by omega
         obtain ⟨qp, kp, hvp⟩ := H3.out.p.slice
         obtain ⟨qt, kt, hvt⟩ := H3.out.o.slice
         rw [hpl] at hvp
         rw [htl] at hvt
         subst hvp hvt
         clear hra0 htl hpl hdl
         go_upto_region 14 with (go_at_call 21; refine hll.mono ?_; rintro e w4 ⟨rfl, rfl⟩)
         have H5 : Hid (LK W Q c3 w4.drew kb sb rb (.slice qp d kp) vn va (.slice qt d kt) L d t K P N A T) := H3.out.ev (Ev.drewN (fun _ => False) c3 w4 1) (fun _ h => h)
         have HB5 : Hid (Ev S7 (fun _ => 99) w' c3 w4.drew) := HE3.out.trans (Ev.drewN (fun _ => False) c3 w4 1) fun _ h => h.elim
         have hC5 : w4.drew.heap[kb]? = some (.cells #[.pointer (some ⟨sb, 0, none⟩), .pointer (some ⟨rb, 0, none⟩), .slice qp d kp, vn, va, .slice qt d kt] 62) := H5.out.obj
         refine wp_region_J 99 (fun X => X.heap[kb]? = some (.cells #[.pointer (some ⟨sb, 0, none⟩), .pointer (some ⟨rb, 0, none⟩), .slice qp d kp, vn, va, .slice qt d kt] 62)) ?_
         change wpJ _ _ _ _ _ _ _ _ _ (World.drew _)
         generalize hw5 : w4.drew = w5 at *
         clear hw5
         refine wpJ_q (i := 0) (d := some 86) (v := .pointer (some ⟨kb, 0, none⟩)) rfl ?_
         refine wpJ_q (i := 1) (d := some 87) (v := .pointer (some ⟨kb, 0, none⟩)) rfl ?_
         refine wpJ_q (i := 2) (d := some 88) (v := .pointer (some ⟨kb, 5, none⟩)) rfl ?_
         refine wpJ_r (i := 3) (d := some 89) (v := .slice qt d kt) rfl (by intro wq hq; have g := cell_row (cur := [_, _, _, _, _, _]) hq 5 _ rfl; go_simp; first | done | with_reducible rfl) ?_
         refine wpJ_q (i := 4) (d := some 90) (v := .pointer (some ⟨kb, 0, none⟩)) rfl ?_
         refine wpJ_q (i := 5) (d := some 91) (v := .pointer (some ⟨kb, 0, none⟩)) rfl ?_
         refine wpJ_q (i := 6) (d := some 92) (v := .pointer (some ⟨kb, 2, none⟩)) rfl ?_
         refine wpJ_r (i := 7) (d := some 93) (v := .slice qp d kp) rfl (by intro wq hq; have g := cell_row (cur := [_, _, _, _, _, _]) hq 2 _ rfl; go_simp; first | done | with_reducible rfl) ?_
         have htx := texts_any H5.out.o.sl H5.out.p.sl HTL.out
         rw [HTP.out] at htx
         refine wpJ_do (i := 8) (fun _ => hC5) (by kernel_rfl) rfl (by rfl) ?_
         intro K8 hK8
         go_simp
         go_wp2_with (go_at_call 23; refine htx.mono ?_; rintro e w6 ⟨rfl, m6, rfl⟩)
         have hC6 : (w5.drewN m6).heap[kb]? = some (.cells #[.pointer (some ⟨sb, 0, none⟩), .pointer (some ⟨rb, 0, none⟩), .slice qp d kp, vn, va, .slice qt d kt] 62) := hC5
         have HB6 : Hid (Below w'.heap.size w' (w5.drewN m6)) := ev_below (HB5.out.trans (Ev.drewN (fun _ => False) c3 w5 m6) fun _ h => h.elim) (by unfold S7; omega)
         clear htx H5 HB5 hC5
         generalize w5.drewN m6 = w6 at *
         refine wpJ_q (i := 9) (d := some 95) (v := .bool true) rfl ?_
         refine wpJ_q (i := 10) (d := some 96) (v := .int .i64 (r : Int)) rfl ?_
         refine wpJ_q (i := 11) (d := some 97) (v := .pointer (some ⟨kb, 0, none⟩)) rfl ?_
         refine wpJ_q (i := 12) (d := some 98) (v := .pointer (some ⟨kb, 0, none⟩)) rfl ?_
         refine wpJ_q (i := 13) (d := some 99) (v := .pointer (some ⟨kb, 2, none⟩)) rfl ?_
         refine wpJ_r (i := 14) (d := some 100) (v := .slice qp d kp) rfl (by intro wq hq; have g := cell_row (cur := [_, _, _, _, _, _]) hq 2 _ rfl; go_simp; first | done | with_reducible rfl) ?_
         refine wpJ_q (i := 15) (d := some 101) (v := .int .i64 (d : Int)) rfl ?_
         refine wpJ_q (i := 16) (d := some 102) (v := .int .i64 W) rfl ?_
         refine wpJ_r (i := 17) (d := some 103) (v := .int .i64 ((d : Int) + W)) rfl (by intro wq hq; have g := hw17; go_simp; first | done | with_reducible rfl) ?_
         refine wpJ_r (i := 18) (d := some 104) (v := .int .i64 ((d : Int) + W - 1)) rfl (by intro wq hq; have g := hw18; go_simp; first | done | with_reducible rfl) ?_
         refine wpJ_q (i := 19) (d := some 105) (v := .int .i64 W) rfl ?_
         refine wpJ_r (i := 20) (d := some 106) (v := .int .i64 (((d : Int) + W - 1).tdiv W)) rfl (by intro wq hq; have g := hw20; have g2 := hw0; go_simp; first | done | with_reducible rfl) ?_
         refine wpJ_r (i := 21) (d := some 107) (v := .bool true) rfl (by intro wq hq; have g := hra; go_simp; first | done | with_reducible rfl) ?_
         refine wpJ_q (i := 22) (d := some 108) (v := .bool true) rfl ?_
         refine wpJ_q (i := 23) (d := some 109) (v := .bool true) rfl ?_
         have haw := awake_any w6
         refine wpJ_do (i := 24) (fun _ => hC6) (by kernel_rfl) rfl (by rfl) ?_
         intro K24 hK24
         go_simp
         go_wp2_with (go_at_call 12; refine haw.mono ?_; rintro e w7 ⟨rfl, hb7⟩)
         have hC7 := (hb7.block kb (Array.getElem?_eq_some_iff.1 hC6).1).trans hC6
         clear hC6
         refine wpJ_q (i := 25) (d := some 111) (v := .bool true) rfl ?_
         refine wpJ_q (i := 26) (d := some 6) (v := .bool true) rfl ?_
         refine wpJ_done (fun _ => hC7) (by kernel_rfl) ?_ _
         go_wp2
         go_ret
         exact ⟨rfl, belowP HB6.out hb7⟩
end Go.Proofs.Ytnhgjgoldcplnaa

/-
  DagReaches and DagHeads, walked.
-/
import Derived.Test.YtbjeaogblpjpeaaGAwake
import Derived.Test.YtbjeaogblpjpeaaGReachL
import Derived.Test.YtbjeaogblpjpeaaGRReachF
import Derived.Test.YtbjeaogblpjpeaaGRReachL
import Derived.Test.YtbjeaogblpjpeaaGRHeads
namespace Go.Proofs.Ytbjeaogblpjpeaa
open Go.RowKit Go.Maps

def i64 (l : List Int) : Prop := ∀ x ∈ l, -9223372036854775808 ≤ x ∧ x ≤ 9223372036854775807
theorem reach_rd {n : Nat} {E : Nat → List Nat} {F : Nat → Prop} {w w' : World} {e : Ending} (h : ReachP n E F w e w') :
    ∃ q c, e = .returned (.slice q (zs (reach n E F)).length c) ∧ RdI (fun k => w.heap.size ≤ k ∧ k < w'.heap.size) w' q c (zs (reach n E F)) ∧ Below w.heap.size w w' := by
  obtain ⟨v, rfl, ho, hb⟩ := h
  obtain ⟨q, c, rfl, r⟩ := own_rd ho
  exact ⟨q, c, rfl, r.carry (fun _ _ => rfl) fun k hk => ho.lt k hk, hb⟩
theorem heads_rd {m : Nat} {K : List Bool} {E : Nat → List Nat} {w w' : World} {e : Ending} (h : HeadsP m K E w e w') :
    ∃ q c, e = .returned (.slice q (zs (heads m K E)).length c) ∧ RdI (fun k => w.heap.size ≤ k ∧ k < w'.heap.size) w' q c (zs (heads m K E)) ∧ Below w.heap.size w w' := by
  obtain ⟨v, rfl, ho, hb⟩ := h
  obtain ⟨q, c, rfl, r⟩ := own_rd ho
  exact ⟨q, c, rfl, r.carry (fun _ _ => rfl) fun k hk => ho.lt k hk, hb⟩
theorem Rd.lift {α : Type} {enc : α → Value} {B : Nat} {w : World} {p : Option Addr} {c : Nat} {xs : List α} (h : Rd enc (· < B) w p c xs) (hB : B ≤ w.heap.size) : Rd enc (· < w.heap.size) w p c xs := h.carry (fun _ _ => rfl) fun k hk => by omega
theorem Rd.on {α : Type} {enc : α → Value} {O : Nat → Prop} {w w' : World} {p : Option Addr} {c : Nat} {xs : List α} (h : Rd enc (fun k => O k ∧ k < w.heap.size) w p c xs) (hb : Below w.heap.size w w') : Rd enc (· < w'.heap.size) w' p c xs := h.carry (Same.of_below hb fun k hk => hk.2) fun k hk => by have := hb.size; omega
theorem play_few {l : List Dd} (hf : fewB l = true) : (playT l).length ≤ 100 := by have := playT_len l; have := (few_iff.1 hf).1; omega
theorem play_good {l : List Dd} (hf : fewB l = true) : Good (playT l) := good_play l fun d hd => ((few_iff.1 hf).2 d hd).1
theorem ints_same {O O' : Nat → Prop} (a : List Int) (p q : Option Addr) (c c' : Nat) (w : World) (r : RdI O w p c a) (s : RdI O' w q c' a) (ha : a.length ≤ 1000) :
    Calls Try.prog 16 #[.slice p a.length c, .slice q a.length c'] w fun e w' => e = .returned (.bool true) ∧ Below w.heap.size w w' := by
  refine (ints_any a a p q c c' w r s ha ha).mono ?_
  rintro e w' ⟨rfl, n, rfl⟩
  exact ⟨by rw [decide_eq_true rfl], below_drewN _ _⟩

set_option maxRecDepth 100000 in
set_option maxHeartbeats 4000000 in
theorem dagReaches_any (l : List Dd) (p : Option Addr) (c : Nat) (f : List Int) (p' : Option Addr) (c' : Nat) (w : World) (r : RdD (· < w.heap.size) w p c l) (hl : l.length ≤ 9223372036854775807) (hw : ∀ d ∈ l, wideD d) (r' : RdI (· < w.heap.size) w p' c' f) (hfl : f.length ≤ 9223372036854775807) (hi : i64 f) :
    Calls Try.prog 4 #[.slice p l.length c, .slice p' f.length c'] w fun e w' => e = .returned (.bool true) ∧ Below w.heap.size w w' := by
  have hfew := few_any l p c w r hl hw
  cases hf : fewB l with
  | false =>
    rw [hf] at hfew
    clear r r' hw hi
    go_enter Try.func4, Try.ntmps4
    go_wp2_with (first
      | (go_at_call 9; refine hfew.mono ?_; rintro e w' ⟨rfl, rfl⟩))
    go_ret
    exact ⟨rfl, Below.refl _ _⟩
  | true =>
    rw [hf] at hfew
    by_cases h100 : f.length ≤ 100
    · have hbo := both_any l p c w r hf
      have hTl := play_few hf
      have HG : Hid (Good (playT l)) := play_good hf
      have HR : Hid (RdI (· < w.heap.size) w p' c' f) := r'
      have HI : Hid (i64 f) := hi
      have hl1 := reach_len (playT l).length (prevs (playT l)) (frm (playT l).length f)
      have hl2 := reach_len (playT l).length (auths (playT l)) (frm (playT l).length f)
      unfold BothP at hbo
      generalize playT l = T at *
      clear r r' hw hi hf
      go_enter Try.func4, Try.ntmps4
      go_wp2_with (first
        | (go_at_call 9; refine hfew.mono ?_; rintro e w' ⟨rfl, rfl⟩)
        | (go_at_call 11; refine hbo.mono ?_; rintro e w1 ⟨gb, hb, rfl, bo1, hb1⟩
           have hz1 := hb1.size
           obtain ⟨O, q1⟩ := bo1.q
           have hpa := Past_any f p' c' w1 q1 HG.out ((HR.out.below hb1).lift hz1) hTl (by omega) HI.out)
        | (go_at_call 22; refine hpa.mono ?_; intro e w2 hP; obtain ⟨q2, c2, rfl, r2, hb2⟩ := reach_rd hP
           have bo2 := bo1.below hb2
           have hw2 := hb1.trans (hb2.mono hz1)
           have hz2 := hw2.size
           obtain ⟨R2, qr2⟩ := bo2.r
           have hrf := rreachF_any f p' c' w2 qr2 HG.out ((HR.out.below hw2).lift hz2) hTl (by omega)
           clear hP)
        | (go_at_call 23; have _h := hdone; refine hrl.mono ?_; intro e w6 hP; obtain ⟨q6, c6, rfl, r6, hb6⟩ := reach_rd hP
           have hw6 := hw5.trans (hb6.mono hz5)
           have hz6 := hw6.size
           have hin2 := ints_same _ q5 q6 c5 c6 w6 (Rd.on r5 hb6) r6 (by rw [zs_len]; omega)
           clear hP)
        | (go_at_call 23; refine hrf.mono ?_; intro e w3 hP; obtain ⟨q3, c3, rfl, r3, hb3⟩ := reach_rd hP
           have bo3 := bo2.below hb3
           have hw3 := hw2.trans (hb3.mono hz2)
           have hz3 := hw3.size
           have hin := ints_same _ q2 q3 c2 c3 w3 (Rd.on r2 hb3) r3 (by rw [zs_len]; omega)
           clear hP)
        | (go_at_call 16; have _h := hz6; refine hin2.mono ?_; rintro e w7 ⟨rfl, hb7⟩
           have hw7 := hw6.trans (hb7.mono hz6)
           have haw := awake_any w7)
        | (go_at_call 16; refine hin.mono ?_; rintro e w4 ⟨rfl, hb4⟩
           have bo4 := bo3.below hb4
           have hw4 := hw3.trans (hb4.mono hz3)
           have hz4 := hw4.size
           obtain ⟨O4, q4⟩ := bo4.q
           have hch := Chain_any f p' c' w4 q4 HG.out ((HR.out.below hw4).lift hz4) hTl (by omega) HI.out)
        | (go_at_call 24; refine hch.mono ?_; intro e w5 hP; obtain ⟨q5, c5, rfl, r5, hb5⟩ := reach_rd hP
           have bo5 := bo4.below hb5
           have hw5 := hw4.trans (hb5.mono hz4)
           have hz5 := hw5.size
           obtain ⟨R5, qr5⟩ := bo5.r
           have hrl := rreachL_any f p' c' w5 qr5 HG.out ((HR.out.below hw5).lift hz5) hTl (by omega)
           have hdone := HR
           clear hP)
        | (go_at_call 21; refine haw.mono ?_; rintro e w8 ⟨rfl, hb8⟩))
      go_ret
      exact ⟨rfl, hw7.trans (hb8.mono hw7.size)⟩
    · clear r r' hw hi
      go_enter Try.func4, Try.ntmps4
      go_wp2_with (first
        | (go_at_call 9; refine hfew.mono ?_; rintro e w' ⟨rfl, rfl⟩))
      go_ret
      exact ⟨rfl, Below.refl _ _⟩

set_option maxRecDepth 100000 in
set_option maxHeartbeats 4000000 in
theorem dagHeads_any (l : List Dd) (p : Option Addr) (c : Nat) (f : List Bool) (p' : Option Addr) (c' : Nat) (w : World) (r : RdD (· < w.heap.size) w p c l) (hl : l.length ≤ 9223372036854775807) (hw : ∀ d ∈ l, wideD d) (r' : RdB (· < w.heap.size) w p' c' f) (hfl : f.length ≤ 9223372036854775807) :
    Calls Try.prog 5 #[.slice p l.length c, .slice p' f.length c'] w fun e w' => e = .returned (.bool true) ∧ Below w.heap.size w w' := by
  have hfew := few_any l p c w r hl hw
  cases hf : fewB l with
  | false =>
    rw [hf] at hfew
    clear r r' hw
    go_enter Try.func5, Try.ntmps5
    go_wp2_with (first
      | (go_at_call 9; refine hfew.mono ?_; rintro e w' ⟨rfl, rfl⟩))
    go_ret
    exact ⟨rfl, Below.refl _ _⟩
  | true =>
    rw [hf] at hfew
    by_cases h100 : f.length ≤ 100
    · have hbo := both_any l p c w r hf
      have hTl := play_few hf
      have HG : Hid (Good (playT l)) := play_good hf
      have HR : Hid (RdB (· < w.heap.size) w p' c' f) := r'
      have hl1 := heads_len (min f.length (playT l).length) f (prevs (playT l))
      unfold BothP at hbo
      generalize playT l = T at *
      clear r r' hw hf
      go_enter Try.func5, Try.ntmps5
      go_wp2_with (first
        | (go_at_call 9; refine hfew.mono ?_; rintro e w' ⟨rfl, rfl⟩)
        | (go_at_call 11; refine hbo.mono ?_; rintro e w1 ⟨gb, hb, rfl, bo1, hb1⟩
           have hz1 := hb1.size
           obtain ⟨O, q1⟩ := bo1.q
           have hpa := heads_any f p' c' w1 q1 HG.out ((HR.out.below hb1).lift hz1) hTl (by omega))
        | (go_at_call 25; refine hpa.mono ?_; intro e w2 hP; obtain ⟨q2, c2, rfl, r2, hb2⟩ := heads_rd hP
           have bo2 := bo1.below hb2
           have hw2 := hb1.trans (hb2.mono hz1)
           have hz2 := hw2.size
           obtain ⟨R2, qr2⟩ := bo2.r
           have hrf := rheads_any f p' c' w2 qr2 HG.out ((HR.out.below hw2).lift hz2) hTl (by omega)
           clear hP)
        | (go_at_call 26; refine hrf.mono ?_; intro e w3 hP; obtain ⟨q3, c3, rfl, r3, hb3⟩ := heads_rd hP
           have hw3 := hw2.trans (hb3.mono hz2)
           have hz3 := hw3.size
           have hin := ints_same _ q2 q3 c2 c3 w3 (Rd.on r2 hb3) r3 (by rw [zs_len]; omega)
           clear hP)
        | (go_at_call 16; refine hin.mono ?_; rintro e w4 ⟨rfl, hb4⟩
           have hw4 := hw3.trans (hb4.mono hz3)
           have haw := awake_any w4)
        | (go_at_call 21; refine haw.mono ?_; rintro e w8 ⟨rfl, hb8⟩))
      go_ret
      exact ⟨rfl, hw4.trans (hb8.mono hw4.size)⟩
    · clear r r' hw
      go_enter Try.func5, Try.ntmps5
      go_wp2_with (first
        | (go_at_call 9; refine hfew.mono ?_; rintro e w' ⟨rfl, rfl⟩))
      go_ret
      exact ⟨rfl, Below.refl _ _⟩
end Go.Proofs.Ytbjeaogblpjpeaa

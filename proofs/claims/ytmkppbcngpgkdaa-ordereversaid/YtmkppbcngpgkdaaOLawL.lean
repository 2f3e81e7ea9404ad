/-
  OrderLinear, walked.
-/
import Derived.Test.YtmkppbcngpgkdaaOAwake
import Derived.Test.YtmkppbcngpgkdaaORLin
namespace Go.Proofs.Ytmkppbcngpgkdaa
open Go.RowKit Go.Maps

/-- What each statement tells. -/
def TrueP (w : World) (e : Ending) (w' : World) : Prop := e = .returned (.bool true) ∧ Below w.heap.size w w'
theorem awake_from {w w1 : World} (hb : Below w.heap.size w w1) : Calls Try.prog 13 #[] w1 fun e w' => e = .returned (.bool true) ∧ Below w.heap.size w w' :=
  (awake_any w1).mono fun _ _ h => ⟨h.1, hb.trans (h.2.mono hb.size)⟩
/-- Linear, called in a later world. -/
theorem linear_later {P : List (List Int)} {R : List Int} {p rp : Option Addr} {c rc : Nat} {w w1 : World} (r : RdR (· < w.heap.size) w p c P) (rr : RdI (· < w.heap.size) w rp rc R) (hb : Below w.heap.size w w1) (hP : P.length ≤ 900) (hl : ∀ x ∈ P, x.length ≤ 1000) (hR : R.length ≤ 1000) :
    Calls Try.prog 11 #[.slice p P.length c, .slice rp R.length rc] w1 (LinP (linP P R) w1) :=
  rlinear_any P R p rp c rc w1 ((r.below hb).carry (fun _ _ => rfl) fun _ h => Nat.lt_of_lt_of_le h hb.size) ((rr.below hb).carry (fun _ _ => rfl) fun _ h => Nat.lt_of_lt_of_le h hb.size) hP hl hR
theorem lin_short {P : List (List Int)} {R : List Int} : (zs ((linP P R).getD [])).length ≤ P.length := by
  rw [zs_len]
  cases h : linP P R with
  | none => simp
  | some L =>
    unfold linP at h
    split at h
    · have := (lin_fit h).2
      rw [toQ_len] at this
      simp only [Option.getD_some]
      omega
    · cases h
theorem own_view {B : Nat} {w : World} {v : Value} {l : List Int} (h : w.ownsRow B 3 1 v l.length (l.map (Value.int .i64))) : ∃ q cq, v = .slice q l.length cq ∧ ∀ wx, Below w.heap.size w wx → RdI (fun k => B ≤ k ∧ k < w.heap.size) wx q cq l := by
  obtain ⟨q, cq, hv, hr⟩ := own_rd h
  exact ⟨q, cq, hv, fun wx hx => hr.carry (Same.of_below hx fun k hk => (h.lt k hk).2) fun k hk => h.lt k hk⟩

set_option maxHeartbeats 4000000 in
theorem orderLinear_any (P : List (List Int)) (R : List Int) (p rp : Option Addr) (c rc : Nat) (w : World) (r : RdR (· < w.heap.size) w p c P) (rr : RdI (· < w.heap.size) w rp rc R) (hP : P.length ≤ 9223372036854775807) (hl : ∀ x ∈ P, x.length ≤ 9223372036854775807) (hR : R.length ≤ 9223372036854775807) :
    Calls Try.prog 3 #[.slice p P.length c, .slice rp R.length rc] w (TrueP w) := by
  have hfew := few_any P p c w r hP hl
  cases hf : fewB P with
  | false =>
    rw [hf] at hfew
    clear r rr hl hf
    generalize P.length = n at *
    generalize R.length = m at *
    go_enter Try.func3, Try.ntmps3
    go_wp2_with (first
      | (go_at_call 9; refine hfew.mono ?_; rintro e w' ⟨rfl, rfl⟩))
    go_ret
    exact ⟨rfl, Below.refl _ _⟩
  | true =>
    rw [hf] at hfew
    obtain ⟨h1, h2⟩ := few_iff.1 hf
    by_cases hRl : R.length ≤ 50
    · have hli := linear_any P R p rp c rc w r rr (by omega) (fun x hx => by have := h2 x hx; omega) (by omega)
      have HLt : Hid (∀ wx, Below w.heap.size w wx → Calls Try.prog 11 #[.slice p P.length c, .slice rp R.length rc] wx (LinP (linP P R) wx)) := fun wx hx => linear_later r rr hx (by omega) (fun x hx => by have := h2 x hx; omega) (by omega)
      have hsh := lin_short (P := P) (R := R)
      unfold LinP at hli HLt
      generalize linP P R = o at *
      generalize hlo : o.getD [] = L at *
      generalize o.isSome = b at *
      clear r rr hl hf h2 hlo
      generalize P.length = n at *
      generalize R.length = m at *
      go_enter Try.func3, Try.ntmps3
      go_wp2_with (first
        | (go_at_call 9; refine hfew.mono ?_; rintro e w' ⟨rfl, rfl⟩)
        | (go_at_call 10; refine hli.mono ?_; rintro e w1 ⟨v1, rfl, ho1, hb1⟩; obtain ⟨q1, c1, rfl, hv1⟩ := own_view ho1; have hl2 := HLt.out w1 hb1; clear ho1)
        | (go_at_call 11; refine hl2.mono ?_; rintro e w2 ⟨v2, rfl, ho2, hb2⟩; obtain ⟨q2, c2, rfl, hv2⟩ := own_view ho2; have hb3 := hb1.trans (hb2.mono hb1.size); have hsm := same_any (zs L) (zs L) q1 q2 c1 c2 w2 (hv1 w2 hb2) (hv2 w2 (Below.refl _ _)) (by omega) (by omega); rw [decide_eq_true rfl] at hsm; clear ho2 hv1 hv2)
        | (go_at_call 12; refine hsm.mono ?_; rintro e w3 ⟨rfl, hk3⟩; have hb4 := hb3.trans (hk3.below hb3.size fun _ _ h => h); have haw := awake_from hb4)
        | (go_at_call 13; refine haw.mono ?_; rintro e w4 ⟨rfl, hb5⟩))
      all_goals
        go_ret
        exact ⟨rfl, hb5⟩
    · clear r rr hl hf h2
      generalize P.length = n at *
      generalize R.length = m at *
      go_enter Try.func3, Try.ntmps3
      go_wp2_with (first
        | (go_at_call 9; refine hfew.mono ?_; rintro e w' ⟨rfl, rfl⟩))
      go_ret
      exact ⟨rfl, Below.refl _ _⟩
end Go.Proofs.Ytmkppbcngpgkdaa

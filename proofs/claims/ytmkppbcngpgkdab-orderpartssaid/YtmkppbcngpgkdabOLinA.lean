/-
  Linear, whatever its parents and ranks.
-/
import Derived.Test.YtmkppbcngpgkdabOLinear
namespace Go.Proofs.Ytmkppbcngpgkdab
open Go.RowKit Go.Maps

theorem linear_any (P : List (List Int)) (R : List Int) (p rp : Option Addr) (c rc : Nat) (w : World) (r : RdR (· < w.heap.size) w p c P) (rr : RdI (· < w.heap.size) w rp rc R) (hP : P.length ≤ 900) (hl : ∀ x ∈ P, x.length ≤ 1000) (hR : R.length ≤ 1000) :
    Calls Try.prog 12 #[.slice p P.length c, .slice rp R.length rc] w (LinP (linP P R) w) := by
  by_cases he : R.length = P.length
  · cases hi : insB P.length P with
    | false => exact linear_ins P R p rp c rc w he hi r (by omega) hl
    | true =>
      rw [linP_ok he hi]
      have hq := toQ_zs hi
      have hn := toQ_len P
      have hpl := par_len hi hl
      have hpt := par_lt hi
      generalize toQ P = Q at *
      subst hq
      rw [List.length_map] at he hi hP hpt ⊢
      exact linear_ok Q R p rp c rc w he hi r rr hP hpl hpt
  · exact linear_len P R p rp c rc w he (by omega) hR
end Go.Proofs.Ytmkppbcngpgkdab

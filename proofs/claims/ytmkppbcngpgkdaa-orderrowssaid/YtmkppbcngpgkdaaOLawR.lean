/-
  OrderRows, walked.
-/
import Derived.Test.YtmkppbcngpgkdaaOAwake
import Derived.Test.YtmkppbcngpgkdaaOLawL
import Derived.Test.YtmkppbcngpgkdaaORRows
namespace Go.Proofs.Ytmkppbcngpgkdaa
open Go.RowKit Go.Maps

theorem rs_eq {P : List (List Int)} {lo hi : Int} {a b : List Int} (h : Rs P lo hi a) (k : Rs P lo hi b) : a = b := riseZ_ext h.rise k.rise fun x => (h.mem x).trans (k.mem x).symm

set_option maxRecDepth 100000 in
set_option maxHeartbeats 8000000 in
theorem orderRows_any (P : List (List Int)) (p : Option Addr) (c : Nat) (w : World) (r : RdR (· < w.heap.size) w p c P) (hP : P.length ≤ 9223372036854775807) (hl : ∀ x ∈ P, x.length ≤ 9223372036854775807) (hw : ∀ x ∈ P, ∀ y ∈ x, wf64 y) :
    Calls Try.prog 8 #[.slice p P.length c] w (TrueP w) := by
  have hfew := few_any P p c w r hP hl
  cases hf : fewB P with
  | false =>
    rw [hf] at hfew
    clear r hl hf
    generalize P.length = n at *
    go_enter Try.func8, Try.ntmps8
    go_wp2_with (first
      | (go_at_call 9; refine hfew.mono ?_; rintro e w' ⟨rfl, rfl⟩))
    go_ret
    exact ⟨rfl, Below.refl _ _⟩
  | true =>
    rw [hf] at hfew
    obtain ⟨h1, h2⟩ := few_iff.1 hf
    have h3 : ∀ x ∈ P, x.length ≤ 1000 := fun x hx => by have := h2 x hx; omega
    have hr : ∀ wx, Below w.heap.size w wx → RdR (· < wx.heap.size) wx p c P := fun wx hx => (r.below hx).carry (fun _ _ => rfl) fun _ h => Nat.lt_of_lt_of_le h hx.size
    have HU : Hid (∀ wx, Below w.heap.size w wx → _) := fun wx hx => union_any P p c wx (hr wx hx) (by omega) h3 hw
    have HC : Hid (∀ wx, Below w.heap.size w wx → _) := fun wx hx => common_any P p c wx (hr wx hx) (by omega) h3 hw
    have HA : Hid (∀ wx, Below w.heap.size w wx → _) := fun wx hx => apart_any P p c wx (hr wx hx) (by omega) h3 hw
    have HRU : Hid (∀ wx, Below w.heap.size w wx → _) := fun wx hx => runion_any P p c wx (hr wx hx) (by omega) h3
    have HRC : Hid (∀ wx, Below w.heap.size w wx → _) := fun wx hx => rcommon_any P p c wx (hr wx hx) (by omega) h3
    have HRA : Hid (∀ wx, Below w.heap.size w wx → _) := fun wx hx => rapart_any P p c wx (hr wx hx) (by omega) h3
    have hb0 : Below w.heap.size w w := Below.refl _ _
    clear r hl hf h2 h3 hr hw
    generalize P.length = n at *
    go_enter Try.func8, Try.ntmps8
    go_wp2_with (first
        | (go_at_call 9; refine hfew.mono ?_; rintro e w' ⟨rfl, rfl⟩)
        | (go_at_call 15; refine (HU.out _ hb0).mono ?_; rintro e wa1 ⟨va1, la1, rfl, hoa1, hra1, hna1, hxa1⟩; have hba1 := hb0.trans (hxa1.mono hb0.size); obtain ⟨qa1, ca1, rfl, hva1⟩ := own_view hoa1; clear hoa1 HU)
        | (go_at_call 16; refine (HRU.out _ hba1).mono ?_; rintro e wa2 ⟨va2, la2, rfl, hoa2, hra2, hna2, hxa2⟩; have hba2 := hba1.trans (hxa2.mono hba1.size); obtain ⟨qa2, ca2, rfl, hva2⟩ := own_view hoa2; obtain rfl := rs_eq hra1 hra2; have hsma := same_any la1 la1 qa1 qa2 ca1 ca2 wa2 (hva1 wa2 hxa2) (hva2 wa2 (Below.refl _ _)) hna1 hna1; rw [decide_eq_true rfl] at hsma; clear hoa2 hva1 hva2 hra1 hra2 HRU)
        | (go_at_call 12; refine hsma.mono ?_; rintro e wa3 ⟨rfl, hka⟩; have hba3 := hba2.trans (hka.below hba2.size fun _ _ h => h); clear hsma hka)
        | (go_at_call 17; refine (HC.out _ hba3).mono ?_; rintro e wb1 ⟨vb1, lb1, rfl, hob1, hrb1, hnb1, hxb1⟩; have hbb1 := hba3.trans (hxb1.mono hba3.size); obtain ⟨qb1, cb1, rfl, hvb1⟩ := own_view hob1; clear hob1 HC)
        | (go_at_call 18; refine (HRC.out _ hbb1).mono ?_; rintro e wb2 ⟨vb2, lb2, rfl, hob2, hrb2, hnb2, hxb2⟩; have hbb2 := hbb1.trans (hxb2.mono hbb1.size); obtain ⟨qb2, cb2, rfl, hvb2⟩ := own_view hob2; obtain rfl := rs_eq hrb1 hrb2; have hsmb := same_any lb1 lb1 qb1 qb2 cb1 cb2 wb2 (hvb1 wb2 hxb2) (hvb2 wb2 (Below.refl _ _)) hnb1 hnb1; rw [decide_eq_true rfl] at hsmb; clear hob2 hvb1 hvb2 hrb1 hrb2 HRC)
        | (go_at_call 12; refine hsmb.mono ?_; rintro e wb3 ⟨rfl, hkb⟩; have hbb3 := hbb2.trans (hkb.below hbb2.size fun _ _ h => h); clear hsmb hkb)
        | (go_at_call 19; refine (HA.out _ hbb3).mono ?_; rintro e wc1 ⟨vc1, lc1, rfl, hoc1, hrc1, hnc1, hxc1⟩; have hbc1 := hbb3.trans (hxc1.mono hbb3.size); obtain ⟨qc1, cc1, rfl, hvc1⟩ := own_view hoc1; clear hoc1 HA)
        | (go_at_call 20; refine (HRA.out _ hbc1).mono ?_; rintro e wc2 ⟨vc2, lc2, rfl, hoc2, hrc2, hnc2, hxc2⟩; have hbc2 := hbc1.trans (hxc2.mono hbc1.size); obtain ⟨qc2, cc2, rfl, hvc2⟩ := own_view hoc2; obtain rfl := rs_eq hrc1 hrc2; have hsmc := same_any lc1 lc1 qc1 qc2 cc1 cc2 wc2 (hvc1 wc2 hxc2) (hvc2 wc2 (Below.refl _ _)) hnc1 hnc1; rw [decide_eq_true rfl] at hsmc; clear hoc2 hvc1 hvc2 hrc1 hrc2 HRA)
        | (go_at_call 12; refine hsmc.mono ?_; rintro e wc3 ⟨rfl, hkc⟩; have hbc3 := hbc2.trans (hkc.below hbc2.size fun _ _ h => h); clear hsmc hkc)
        | (go_at_call 13; refine (awake_from hbc3).mono ?_; rintro e w4 ⟨rfl, hb5⟩))
    go_ret
    exact ⟨rfl, hb5⟩
end Go.Proofs.Ytmkppbcngpgkdaa

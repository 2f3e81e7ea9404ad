/-
  Deeds as they are read; few; both graphs behind deeds.
-/
import Derived.Test.YtbjeaogblpjpeaaGRMiss
import Derived.Deep.RegionWith
namespace Go.Proofs.Ytbjeaogblpjpeaa
open Go.RowKit Go.Maps

def noD : Dd := ⟨⟨#[]⟩, [], []⟩
/-- At p, with room for c, the deeds l are read. -/
def RdD (O : Nat → Prop) (w : World) (p : Option Addr) (c : Nat) (l : List Dd) : Prop :=
  l.length ≤ c ∧ ∀ k, k < l.length → ∃ b o p1 c1 p2 c2, p = some ⟨b, o, none⟩ ∧ O b ∧ w.cell? ⟨b, o + k * 3, none⟩ = some (.string (l.getD k noD).name) ∧ w.cell? ⟨b, o + k * 3 + 1, none⟩ = some (.slice p1 (l.getD k noD).prev.length c1) ∧ w.cell? ⟨b, o + k * 3 + 2, none⟩ = some (.slice p2 (l.getD k noD).auth.length c2) ∧ RdS O w p1 c1 (l.getD k noD).prev ∧ RdS O w p2 c2 (l.getD k noD).auth
theorem RdD.same {O : Nat → Prop} {w w' : World} {p : Option Addr} {c : Nat} {l : List Dd} (h : RdD O w p c l) (hs : Same O w w') : RdD O w' p c l :=
  ⟨h.1, fun k hk => by
    obtain ⟨b, o, p1, c1, p2, c2, e, hO, a1, a2, a3, r1, r2⟩ := h.2 k hk
    have := hs b hO
    exact ⟨b, o, p1, c1, p2, c2, e, hO, (World.cell?_of_block this).trans a1, (World.cell?_of_block this).trans a2, (World.cell?_of_block this).trans a3, r1.same hs, r2.same hs⟩⟩
theorem RdD.below {B : Nat} {w w' : World} {p : Option Addr} {c : Nat} {l : List Dd} (h : RdD (· < B) w p c l) (hb : Below B w w') : RdD (· < B) w' p c l := h.same (Same.of_below hb fun _ h => h)
/-- No deed is longer than memory. -/
def wideD (d : Dd) : Prop := d.name.size ≤ 9223372036854775807 ∧ (d.prev.length ≤ 9223372036854775807 ∧ ∀ s ∈ d.prev, s.size ≤ 9223372036854775807) ∧ d.auth.length ≤ 9223372036854775807 ∧ ∀ s ∈ d.auth, s.size ≤ 9223372036854775807
def fitB (d : Dd) : Bool := decide (d.name.size ≤ 100) && (shortB d.prev && shortB d.auth)
def fewB (l : List Dd) : Bool := decide (l.length ≤ 60) && l.all fitB
theorem fit_iff {d : Dd} : fitB d = true ↔ fitD d := by
  unfold fitB fitD
  rw [Bool.and_eq_true, Bool.and_eq_true, short_iff, short_iff, decide_eq_true_eq]
theorem few_iff {l : List Dd} : fewB l = true ↔ l.length ≤ 60 ∧ ∀ d ∈ l, fitD d := by
  unfold fewB
  rw [Bool.and_eq_true, decide_eq_true_eq, List.all_eq_true]
  exact ⟨fun h => ⟨h.1, fun d hd => fit_iff.1 (h.2 d hd)⟩, fun h => ⟨h.1, fun d hd => fit_iff.2 (h.2 d hd)⟩⟩

set_option maxRecDepth 100000 in
set_option maxHeartbeats 4000000 in
theorem few_any {O : Nat → Prop} (l : List Dd) (p : Option Addr) (c : Nat) (w : World) (r : RdD O w p c l) (hl : l.length ≤ 9223372036854775807) (hw : ∀ d ∈ l, wideD d) :
    Calls Try.prog 9 #[.slice p l.length c] w fun e w' => e = .returned (.bool (fewB l)) ∧ w = w' := by
  have HW : Hid (∀ d ∈ l, wideD d) := hw
  have HR : Hid (RdD O w p c l) := r
  have hrc := r.1
  clear hw r
  by_cases hlen : l.length ≤ 60
  · go_enter Try.func9, Try.ntmps9
    go_wp2
    go_loop [3] (fun i => ∃ k : Nat, k ≤ l.length ∧ i = .int .i64 k ∧ ∀ d ∈ l.take k, fitD d) (fun i => l.length - (intOf i).toNat)
    case atStart => exact ⟨0, Nat.zero_le _, rfl, by simp⟩
    case round =>
      obtain ⟨k, hk, rfl, hall⟩ := hrel
      have HA : Hid (∀ d ∈ l.take k, fitD d) := hall
      clear hall
      by_cases hlt : k < l.length
      · obtain ⟨b, o, p1, c1, p2, c2, rfl, _, a1, a2, a3, r1, r2⟩ := HR.out.2 k hlt
        have HM : Hid (l.getD k noD ∈ l) := getD_inm hlt
        have hwd := HW.out _ HM.out
        have HT : Hid (l.take (k + 1) = l.take k ++ [l.getD k noD]) := take_next l k _ hlt
        generalize l.getD k noD = d at *
        obtain ⟨hw0, ⟨hw1, hw2⟩, hw3, hw4⟩ := hwd
        have s1 := short_any d.prev p1 c1 w r1 hw1 hw2
        have s2 := short_any d.auth p2 c2 w r2 hw3 hw4
        have HX : Hid (fitD d → ∀ e ∈ l.take (k + 1), fitD e) := by
          intro hd e he
          rw [HT.out, List.mem_append, List.mem_singleton] at he
          rcases he with he | rfl
          · exact HA.out e he
          · exact hd
        have HF : Hid (¬ fitD d → fewB l = false) := by
          intro hn
          rw [Bool.eq_false_iff]
          intro h
          exact hn ((few_iff.1 h).2 d HM.out)
        clear hw2 hw4 r1 r2
        by_cases h1 : d.name.size ≤ 100
        · cases h2 : shortB d.prev with
          | true =>
            cases h3 : shortB d.auth with
            | true =>
              have HG : Hid (fitD d) := fit_iff.1 (by unfold fitB; rw [h2, h3, decide_eq_true h1]; rfl)
              rw [h2] at s1
              rw [h3] at s2
              clear h2 h3
              go_wp2_with (first
                | (go_at_call 10; have _h := hdone; refine s2.mono ?_; rintro e w' ⟨rfl, rfl⟩)
                | (go_at_call 10; refine s1.mono ?_; rintro e w' ⟨rfl, rfl⟩; have hdone := HA))
              go_round
              case rel => exact ⟨k + 1, by omega, by go_num, HX.out HG.out⟩
              case measure => simp [intOf]; omega
            | false =>
              have HG : Hid (fewB l = false) := HF.out (fun h => by have := fit_iff.2 h; unfold fitB at this; rw [h3] at this; simp at this)
              rw [h2] at s1
              rw [h3] at s2
              clear h2 h3
              go_wp2_with (first
                | (go_at_call 10; have _h := hdone; refine s2.mono ?_; rintro e w' ⟨rfl, rfl⟩)
                | (go_at_call 10; refine s1.mono ?_; rintro e w' ⟨rfl, rfl⟩; have hdone := HA))
              go_ret
              exact ⟨ret_bool HG.out.symm, rfl⟩
          | false =>
            have HG : Hid (fewB l = false) := HF.out (fun h => by have := fit_iff.2 h; unfold fitB at this; rw [h2] at this; simp at this)
            rw [h2] at s1
            clear h2
            go_wp2_with (first
              | (go_at_call 10; refine s1.mono ?_; rintro e w' ⟨rfl, rfl⟩))
            go_ret
            exact ⟨ret_bool HG.out.symm, rfl⟩
        · have HG : Hid (fewB l = false) := HF.out (fun h => h1 h.1)
          go_wp2
          go_ret
          exact ⟨ret_bool HG.out.symm, rfl⟩
      · obtain rfl : k = l.length := by omega
        have HX : Hid (fewB l = true) := by
          have := HA.out
          rw [List.take_length] at this
          exact few_iff.2 ⟨hlen, this⟩
        go_wp2
        go_ret
        exact ⟨ret_bool HX.out.symm, rfl⟩
  · have HX : Hid (fewB l = false) := by
      show _ = _
      rw [Bool.eq_false_iff]
      intro h
      exact hlen (few_iff.1 h).1
    go_enter Try.func9, Try.ntmps9
    go_wp2
    go_ret
    exact ⟨ret_bool HX.out.symm, rfl⟩
end Go.Proofs.Ytbjeaogblpjpeaa

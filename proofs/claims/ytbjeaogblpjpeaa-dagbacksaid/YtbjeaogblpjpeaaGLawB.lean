/-
  DagBack, walked.
-/
import Derived.Test.YtbjeaogblpjpeaaGLawU
namespace Go.Proofs.Ytbjeaogblpjpeaa
open Go.RowKit Go.Maps

/-- A graph of T at gb, in blocks from B on. -/
def Gb (B : Nat) (w : World) (gb : Nat) (T : List Th) : Prop := ∃ O : Nat → Prop, (∀ k, O k → B ≤ k) ∧ Gp O w gb T
theorem gb_add {B gb : Nat} {T : List Th} (d : Dd) (p2 p3 : Option Addr) (k2 k3 : Nat) (w : World) (h : Gb B w gb T) (hT : T.length ≤ 100) (hd : fitD d) (hB : B ≤ w.heap.size) (r2 : RdS (· < B) w p2 k2 d.prev) (r3 : RdS (· < B) w p3 k3 d.auth) :
    Calls Try.prog 29 #[.pointer (some ⟨gb, 0, none⟩), .string d.name, .slice p2 d.prev.length k2, .slice p3 d.auth.length k3] w fun e w' => e = .returned (.int .i64 (errOf T d)) ∧ Gb B w' gb (addT T d) ∧ Below B w w' := by
  obtain ⟨O, h1, h3⟩ := h
  refine (add_any d p2 p3 k2 k3 w h3 hT hd (r2.carry (fun _ _ => rfl) fun k hk => by omega) (r3.carry (fun _ _ => rfl) fun k hk => by omega)).mono ?_
  rintro e w' ⟨rfl, hk, hg⟩
  refine ⟨rfl, ⟨_, fun k hk' => ?_, hg⟩, hk.below hB fun k hk' h' => by have := h1 k h'; omega⟩
  rcases hk' with h' | h'
  · exact h1 k h'
  · omega
theorem Gb.q {B : Nat} {w : World} {gb : Nat} {T : List Th} (h : Gb B w gb T) : ∃ O, Gq O w (some ⟨gb, 0, none⟩) T := by
  obtain ⟨O, _, h3⟩ := h
  exact ⟨O, h3.q⟩
theorem Gb.below {B : Nat} {w w' : World} {gb : Nat} {T : List Th} (h : Gb B w gb T) (hb : Below w.heap.size w w') : Gb B w' gb T := by
  obtain ⟨O, h1, h3⟩ := h
  exact ⟨O, h1, h3.below hb⟩
theorem own_none {w : World} {B e size n : Nat} {q : Option Addr} {c : Nat} {xs : List Value} (h : w.ownsRow B e size (.slice q n c) n xs) : q = none → c = 0 := by
  rintro rfl
  rcases h.2 with ⟨e, _⟩ | ⟨g, cap, cur, e, _⟩
  · cases e; rfl
  · cases e
theorem len_add (T : List Th) (d : Dd) : (errOf T d = 0 ∧ (addT T d).length = T.length + 1) ∨ (errOf T d ≠ 0 ∧ (addT T d).length = T.length) := by
  unfold addT
  by_cases h : errOf T d = 0
  · left; rw [if_pos h]; exact ⟨h, by simp⟩
  · right; rw [if_neg h]; exact ⟨h, rfl⟩
theorem err_small (T : List Th) (d : Dd) : 0 ≤ errOf T d ∧ errOf T d ≤ 80 := by
  unfold errOf
  split
  · omega
  · split
    · omega
    · split <;> omega

set_option maxRecDepth 100000 in
set_option maxHeartbeats 16000000 in
theorem dagBack_any (l : List Dd) (p : Option Addr) (c : Nat) (f : List Int) (p' : Option Addr) (c' : Nat) (w : World) (r : RdD (· < w.heap.size) w p c l) (hl : l.length ≤ 9223372036854775807) (hw : ∀ d ∈ l, wideD d) (r' : RdI (· < w.heap.size) w p' c' f) (hfl : f.length ≤ 9223372036854775807) (hi : i64 f) :
    Calls Try.prog 6 #[.slice p l.length c, .slice p' f.length c'] w fun e w' => e = .returned (.bool true) ∧ Below w.heap.size w w' := by
  have hfew := few_any l p c w r hl hw
  cases hf : fewB l with
  | false =>
    rw [hf] at hfew
    clear r r' hw hi
    go_enter Try.func6, Try.ntmps6
    go_wp2_with (first
      | (go_at_call 9; refine hfew.mono ?_; rintro e w' ⟨rfl, rfl⟩))
    go_ret
    exact ⟨rfl, Below.refl _ _⟩
  | true =>
    rw [hf] at hfew
    by_cases h100 : f.length ≤ 100
    · obtain ⟨hl60, hfit⟩ := few_iff.1 hf
      have HFD : Hid (∀ d ∈ l, fitD d) := hfit
      have HRD0 : Hid (RdD (· < w.heap.size) w p c l) := r
      have hrc := r.1
      have hrc' := r'.1
      have HR : Hid (RdI (· < w.heap.size) w p' c' f) := r'
      have HI : Hid (i64 f) := hi
      have HTL : Hid ((playT l).length ≤ 100) := play_few hf
      have HG : Hid (Good (playT l)) := play_good hf
      clear r r' hw hf hi hfit
      go_enter Try.func6, Try.ntmps6
      go_wp2_with (first
        | (go_at_call 9; refine hfew.mono ?_; rintro e w' ⟨rfl, rfl⟩)
        | (go_at_call 27; refine (new_any _).mono ?_; rintro e w0 ⟨gb, rfl, hgp, hb0⟩))
      clear hfew
      have HG0 : Hid (Gb w.heap.size w0 gb []) := ⟨_, fun k hk => hk.1, hgp⟩
      have HB0 : Hid (Below w.heap.size w w0) := hb0
      clear hgp hb0
      go_loopw [6] (fun i wr => ∃ k : Nat, k ≤ l.length ∧ i = .int .i64 k ∧ Gb w.heap.size wr gb (playT (l.take k)) ∧ Below w.heap.size w wr) (fun i _ => l.length - (intOf i).toNat)
      case atStart => exact ⟨0, Nat.zero_le _, rfl, HG0.out, HB0.out⟩
      case round =>
        clear HG0 HB0
        obtain ⟨k, hk, rfl, hgb, hbw⟩ := hrel
        have hTl : (playT (l.take k)).length ≤ 100 := by have := playT_len (l.take k); rw [List.length_take] at this; omega
        have hTl' : (playT (l.take k)).length ≤ 99 := by have := playT_len (l.take k); rw [List.length_take] at this; omega
        by_cases hlt : k < l.length
        · obtain ⟨b, o, p1, c1, p2, c2, rfl, hbB, a1, a2, a3, r1, r2⟩ := HRD0.out.2 k hlt
          have hfd := HFD.out _ (getD_inm (d := noD) hlt)
          have HP : Hid (playT (l.take (k + 1)) = addT (playT (l.take k)) (l.getD k noD)) := playT_snoc l k hlt
          generalize l.getD k noD = d at *
          have HC : Hid (∀ wx, Below w.heap.size w wx → wx.cell? ⟨b, o + k * 3, none⟩ = some (.string d.name) ∧ wx.cell? ⟨b, o + k * 3 + 1, none⟩ = some (.slice p1 d.prev.length c1) ∧ wx.cell? ⟨b, o + k * 3 + 2, none⟩ = some (.slice p2 d.auth.length c2)) := fun wx hx => ⟨(hx.cell hbB).trans a1, (hx.cell hbB).trans a2, (hx.cell hbB).trans a3⟩
          have hbd : Below w.heap.size w wr.drew := hbw.drew
          obtain ⟨O, gq⟩ := hgb.q
          have hle := len_any wr gq hTl
          have had := gb_add d p1 p2 c1 c2 wr.drew (hgb.below (Below.refl _ _).drew) hTl hfd hbd.size (r1.below hbd) (r2.below hbd)
          have hes := err_small (playT (l.take k)) d
          have hal := addT_len (playT (l.take k)) d
          have HLA := len_add (playT (l.take k)) d
          clear a1 a2 a3 r1 r2 gq hgb
          generalize playT (l.take k) = T at *
          have HAD : Hid (Calls Try.prog 29 #[.pointer (some ⟨gb, 0, none⟩), .string d.name, .slice p1 d.prev.length c1, .slice p2 d.auth.length c2] wr.drew fun e w' => e = .returned (.int .i64 (errOf T d)) ∧ Gb w.heap.size w' gb (addT T d) ∧ Below w.heap.size wr.drew w') := had
          clear had
          rcases HLA with ⟨he, hla⟩ | ⟨he, hla⟩
          · have HLL : Hid ((addT T d).length = T.length + 1) := hla
            rw [he] at HAD
            clear he hla hes
            go_wp2_with (first
              | (go_at_call 28; refine hle.mono ?_; rintro e w' ⟨rfl, rfl⟩))
            refine wp_region_in (by kernel_rfl) (fun w' => Below w.heap.size w w') ?_
            change wpIn _ _ _ _ _ _ _ _ (World.drew _)
            refine wpIn_take (i := 0) (d := (some 33)) (v := ?vqr0) (a' := ?aqr0) rfl rfl (by kernel_rfl) (by kernel_rfl) (by kernel_rfl) (fun _ _ _ h => h) (Or.inl ⟨by rfl, ?yqr0⟩) ?fqr0 ?_
            case yqr0 => (intro wq hq; go_simp; first | done | with_reducible rfl)
            case fqr0 => (go_frame; rfl)
            refine wpIn_take (i := 1) (d := (some 34)) (v := ?vqr1) (a' := ?aqr1) rfl rfl (by kernel_rfl) (by kernel_rfl) (by kernel_rfl) (fun _ _ _ h => h) (Or.inl ⟨by rfl, ?yqr1⟩) ?fqr1 ?_
            case yqr1 => (intro wq hq; go_simp; first | done | with_reducible rfl)
            case fqr1 => (go_frame; rfl)
            refine wpIn_take (i := 2) (d := (some 35)) (v := ?vqr2) (a' := ?aqr2) rfl rfl (by kernel_rfl) (by kernel_rfl) (by kernel_rfl) (fun _ _ _ h => h) (Or.inl ⟨by rfl, ?yqr2⟩) ?fqr2 ?_
            case yqr2 => (intro wq hq; go_simp; first | done | with_reducible rfl)
            case fqr2 => (go_frame; rfl)
            refine wpIn_take (i := 3) (d := (some 36)) (v := ?vqr3) (a' := ?aqr3) rfl rfl (by kernel_rfl) (by kernel_rfl) (by kernel_rfl) (fun _ _ _ h => h) (Or.inl ⟨by rfl, ?yqr3⟩) ?fqr3 ?_
            case yqr3 => (intro wq hq; go_simp; first | done | with_reducible rfl)
            case fqr3 => (go_frame; rfl)
            refine wpIn_take (i := 4) (d := (some 37)) (v := ?vqr4) (a' := ?aqr4) rfl rfl (by kernel_rfl) (by kernel_rfl) (by kernel_rfl) (fun _ _ _ h => h) (Or.inl ⟨by rfl, ?yqr4⟩) ?fqr4 ?_
            case yqr4 => (intro wq hq; go_simp; first | done | with_reducible rfl)
            case fqr4 => (go_frame; rfl)
            refine wpIn_take (i := 5) (d := (some 38)) (v := ?vqr5) (a' := ?aqr5) rfl rfl (by kernel_rfl) (by kernel_rfl) (by kernel_rfl) (fun _ _ _ h => h) (Or.inl ⟨by rfl, ?yqr5⟩) ?fqr5 ?_
            case yqr5 => (intro wq hq; obtain ⟨z1, z2, z3⟩ := HC.out wq hq; go_simp; first | done | with_reducible rfl)
            case fqr5 => (go_frame; rfl)
            refine wpIn_take (i := 6) (d := (some 39)) (v := ?vqr6) (a' := ?aqr6) rfl rfl (by kernel_rfl) (by kernel_rfl) (by kernel_rfl) (fun _ _ _ h => h) (Or.inl ⟨by rfl, ?yqr6⟩) ?fqr6 ?_
            case yqr6 => (intro wq hq; go_simp; first | done | with_reducible rfl)
            case fqr6 => (go_frame; rfl)
            refine wpIn_take (i := 7) (d := (some 40)) (v := ?vqr7) (a' := ?aqr7) rfl rfl (by kernel_rfl) (by kernel_rfl) (by kernel_rfl) (fun _ _ _ h => h) (Or.inl ⟨by rfl, ?yqr7⟩) ?fqr7 ?_
            case yqr7 => (intro wq hq; go_simp; first | done | with_reducible rfl)
            case fqr7 => (go_frame; rfl)
            refine wpIn_take (i := 8) (d := (some 41)) (v := ?vqr8) (a' := ?aqr8) rfl rfl (by kernel_rfl) (by kernel_rfl) (by kernel_rfl) (fun _ _ _ h => h) (Or.inl ⟨by rfl, ?yqr8⟩) ?fqr8 ?_
            case yqr8 => (intro wq hq; go_simp; first | done | with_reducible rfl)
            case fqr8 => (go_frame; rfl)
            refine wpIn_take (i := 9) (d := (some 42)) (v := ?vqr9) (a' := ?aqr9) rfl rfl (by kernel_rfl) (by kernel_rfl) (by kernel_rfl) (fun _ _ _ h => h) (Or.inl ⟨by rfl, ?yqr9⟩) ?fqr9 ?_
            case yqr9 => (intro wq hq; go_simp; first | done | with_reducible rfl)
            case fqr9 => (go_frame; rfl)
            refine wpIn_take (i := 10) (d := (some 43)) (v := ?vqr10) (a' := ?aqr10) rfl rfl (by kernel_rfl) (by kernel_rfl) (by kernel_rfl) (fun _ _ _ h => h) (Or.inl ⟨by rfl, ?yqr10⟩) ?fqr10 ?_
            case yqr10 => (intro wq hq; obtain ⟨z1, z2, z3⟩ := HC.out wq hq; go_simp; first | done | with_reducible rfl)
            case fqr10 => (go_frame; rfl)
            refine wpIn_take (i := 11) (d := (some 44)) (v := ?vqr11) (a' := ?aqr11) rfl rfl (by kernel_rfl) (by kernel_rfl) (by kernel_rfl) (fun _ _ _ h => h) (Or.inl ⟨by rfl, ?yqr11⟩) ?fqr11 ?_
            case yqr11 => (intro wq hq; go_simp; first | done | with_reducible rfl)
            case fqr11 => (go_frame; rfl)
            refine wpIn_take (i := 12) (d := (some 45)) (v := ?vqr12) (a' := ?aqr12) rfl rfl (by kernel_rfl) (by kernel_rfl) (by kernel_rfl) (fun _ _ _ h => h) (Or.inl ⟨by rfl, ?yqr12⟩) ?fqr12 ?_
            case yqr12 => (intro wq hq; go_simp; first | done | with_reducible rfl)
            case fqr12 => (go_frame; rfl)
            refine wpIn_take (i := 13) (d := (some 46)) (v := ?vqr13) (a' := ?aqr13) rfl rfl (by kernel_rfl) (by kernel_rfl) (by kernel_rfl) (fun _ _ _ h => h) (Or.inl ⟨by rfl, ?yqr13⟩) ?fqr13 ?_
            case yqr13 => (intro wq hq; go_simp; first | done | with_reducible rfl)
            case fqr13 => (go_frame; rfl)
            refine wpIn_take (i := 14) (d := (some 47)) (v := ?vqr14) (a' := ?aqr14) rfl rfl (by kernel_rfl) (by kernel_rfl) (by kernel_rfl) (fun _ _ _ h => h) (Or.inl ⟨by rfl, ?yqr14⟩) ?fqr14 ?_
            case yqr14 => (intro wq hq; go_simp; first | done | with_reducible rfl)
            case fqr14 => (go_frame; rfl)
            refine wpIn_take (i := 15) (d := (some 48)) (v := ?vqr15) (a' := ?aqr15) rfl rfl (by kernel_rfl) (by kernel_rfl) (by kernel_rfl) (fun _ _ _ h => h) (Or.inl ⟨by rfl, ?yqr15⟩) ?fqr15 ?_
            case yqr15 => (intro wq hq; obtain ⟨z1, z2, z3⟩ := HC.out wq hq; go_simp; first | done | with_reducible rfl)
            case fqr15 => (go_frame; rfl)
            refine wpIn_do (i := 16) hbd (by kernel_rfl) rfl (by rfl) ?_
            intro K hK
            go_simp
            go_wp2_with (go_at_call 29; refine HAD.out.mono ?_; rintro e w1 ⟨rfl, ⟨O1, hO1, gp1⟩, hb1⟩; have hbd1 := hbd.trans hb1)
            refine wpIn_take (i := 17) (d := (some 8)) (v := ?vqr17) (a' := ?aqr17) rfl rfl (by kernel_rfl) (by kernel_rfl) (by kernel_rfl) (fun _ _ _ h => h) (Or.inl ⟨by rfl, ?yqr17⟩) ?fqr17 ?_
            case yqr17 => (intro wq hq; go_simp; first | done | with_reducible rfl)
            case fqr17 => (go_frame; rfl)
            refine wpIn_done hbd1 (by kernel_rfl) ?_ _
            obtain ⟨O2, gq2⟩ := Gb.q (B := w.heap.size) ⟨O1, hO1, gp1⟩
            have hle2 := len_any w1 gq2 (by rw [HLL.out]; omega)
            rw [HLL.out] at hle2
            have hle3 : Calls Try.prog 28 #[.pointer (some ⟨gb, 0, none⟩)] w1 fun e w' => e = .returned (.int .i64 ((T.length : Int) + 1)) ∧ w1 = w' := hle2
            clear hle hle2 gq2
            go_wp2_with (first
              | (go_at_call 28; refine hle3.mono ?_; rintro e w' ⟨rfl, rfl⟩))
            go_roundw
            case rel => exact ⟨k + 1, by omega, by go_num, by rw [HP.out]; exact ⟨O1, hO1, gp1⟩, hbd1⟩
            case measure => simp [intOf]; omega
          · have HLL : Hid ((addT T d).length = T.length) := hla
            obtain ⟨er, her⟩ : ∃ er, errOf T d = er := ⟨_, rfl⟩
            rw [her] at HAD he hes
            clear hla her
            have heb : (er == 0) = false := by simpa using he
            have hlb : ((T.length : Int) == (T.length : Int) + 1) = false := by simp; omega
            go_wp2_with (first
              | (go_at_call 28; refine hle.mono ?_; rintro e w' ⟨rfl, rfl⟩))
            refine wp_region_in (by kernel_rfl) (fun w' => Below w.heap.size w w') ?_
            change wpIn _ _ _ _ _ _ _ _ (World.drew _)
            refine wpIn_take (i := 0) (d := (some 33)) (v := ?vqs0) (a' := ?aqs0) rfl rfl (by kernel_rfl) (by kernel_rfl) (by kernel_rfl) (fun _ _ _ h => h) (Or.inl ⟨by rfl, ?yqs0⟩) ?fqs0 ?_
            case yqs0 => (intro wq hq; go_simp; first | done | with_reducible rfl)
            case fqs0 => (go_frame; rfl)
            refine wpIn_take (i := 1) (d := (some 34)) (v := ?vqs1) (a' := ?aqs1) rfl rfl (by kernel_rfl) (by kernel_rfl) (by kernel_rfl) (fun _ _ _ h => h) (Or.inl ⟨by rfl, ?yqs1⟩) ?fqs1 ?_
            case yqs1 => (intro wq hq; go_simp; first | done | with_reducible rfl)
            case fqs1 => (go_frame; rfl)
            refine wpIn_take (i := 2) (d := (some 35)) (v := ?vqs2) (a' := ?aqs2) rfl rfl (by kernel_rfl) (by kernel_rfl) (by kernel_rfl) (fun _ _ _ h => h) (Or.inl ⟨by rfl, ?yqs2⟩) ?fqs2 ?_
            case yqs2 => (intro wq hq; go_simp; first | done | with_reducible rfl)
            case fqs2 => (go_frame; rfl)
            refine wpIn_take (i := 3) (d := (some 36)) (v := ?vqs3) (a' := ?aqs3) rfl rfl (by kernel_rfl) (by kernel_rfl) (by kernel_rfl) (fun _ _ _ h => h) (Or.inl ⟨by rfl, ?yqs3⟩) ?fqs3 ?_
            case yqs3 => (intro wq hq; go_simp; first | done | with_reducible rfl)
            case fqs3 => (go_frame; rfl)
            refine wpIn_take (i := 4) (d := (some 37)) (v := ?vqs4) (a' := ?aqs4) rfl rfl (by kernel_rfl) (by kernel_rfl) (by kernel_rfl) (fun _ _ _ h => h) (Or.inl ⟨by rfl, ?yqs4⟩) ?fqs4 ?_
            case yqs4 => (intro wq hq; go_simp; first | done | with_reducible rfl)
            case fqs4 => (go_frame; rfl)
            refine wpIn_take (i := 5) (d := (some 38)) (v := ?vqs5) (a' := ?aqs5) rfl rfl (by kernel_rfl) (by kernel_rfl) (by kernel_rfl) (fun _ _ _ h => h) (Or.inl ⟨by rfl, ?yqs5⟩) ?fqs5 ?_
            case yqs5 => (intro wq hq; obtain ⟨z1, z2, z3⟩ := HC.out wq hq; go_simp; first | done | with_reducible rfl)
            case fqs5 => (go_frame; rfl)
            refine wpIn_take (i := 6) (d := (some 39)) (v := ?vqs6) (a' := ?aqs6) rfl rfl (by kernel_rfl) (by kernel_rfl) (by kernel_rfl) (fun _ _ _ h => h) (Or.inl ⟨by rfl, ?yqs6⟩) ?fqs6 ?_
            case yqs6 => (intro wq hq; go_simp; first | done | with_reducible rfl)
            case fqs6 => (go_frame; rfl)
            refine wpIn_take (i := 7) (d := (some 40)) (v := ?vqs7) (a' := ?aqs7) rfl rfl (by kernel_rfl) (by kernel_rfl) (by kernel_rfl) (fun _ _ _ h => h) (Or.inl ⟨by rfl, ?yqs7⟩) ?fqs7 ?_
            case yqs7 => (intro wq hq; go_simp; first | done | with_reducible rfl)
            case fqs7 => (go_frame; rfl)
            refine wpIn_take (i := 8) (d := (some 41)) (v := ?vqs8) (a' := ?aqs8) rfl rfl (by kernel_rfl) (by kernel_rfl) (by kernel_rfl) (fun _ _ _ h => h) (Or.inl ⟨by rfl, ?yqs8⟩) ?fqs8 ?_
            case yqs8 => (intro wq hq; go_simp; first | done | with_reducible rfl)
            case fqs8 => (go_frame; rfl)
            refine wpIn_take (i := 9) (d := (some 42)) (v := ?vqs9) (a' := ?aqs9) rfl rfl (by kernel_rfl) (by kernel_rfl) (by kernel_rfl) (fun _ _ _ h => h) (Or.inl ⟨by rfl, ?yqs9⟩) ?fqs9 ?_
            case yqs9 => (intro wq hq; go_simp; first | done | with_reducible rfl)
            case fqs9 => (go_frame; rfl)
            refine wpIn_take (i := 10) (d := (some 43)) (v := ?vqs10) (a' := ?aqs10) rfl rfl (by kernel_rfl) (by kernel_rfl) (by kernel_rfl) (fun _ _ _ h => h) (Or.inl ⟨by rfl, ?yqs10⟩) ?fqs10 ?_
            case yqs10 => (intro wq hq; obtain ⟨z1, z2, z3⟩ := HC.out wq hq; go_simp; first | done | with_reducible rfl)
            case fqs10 => (go_frame; rfl)
            refine wpIn_take (i := 11) (d := (some 44)) (v := ?vqs11) (a' := ?aqs11) rfl rfl (by kernel_rfl) (by kernel_rfl) (by kernel_rfl) (fun _ _ _ h => h) (Or.inl ⟨by rfl, ?yqs11⟩) ?fqs11 ?_
            case yqs11 => (intro wq hq; go_simp; first | done | with_reducible rfl)
            case fqs11 => (go_frame; rfl)
            refine wpIn_take (i := 12) (d := (some 45)) (v := ?vqs12) (a' := ?aqs12) rfl rfl (by kernel_rfl) (by kernel_rfl) (by kernel_rfl) (fun _ _ _ h => h) (Or.inl ⟨by rfl, ?yqs12⟩) ?fqs12 ?_
            case yqs12 => (intro wq hq; go_simp; first | done | with_reducible rfl)
            case fqs12 => (go_frame; rfl)
            refine wpIn_take (i := 13) (d := (some 46)) (v := ?vqs13) (a' := ?aqs13) rfl rfl (by kernel_rfl) (by kernel_rfl) (by kernel_rfl) (fun _ _ _ h => h) (Or.inl ⟨by rfl, ?yqs13⟩) ?fqs13 ?_
            case yqs13 => (intro wq hq; go_simp; first | done | with_reducible rfl)
            case fqs13 => (go_frame; rfl)
            refine wpIn_take (i := 14) (d := (some 47)) (v := ?vqs14) (a' := ?aqs14) rfl rfl (by kernel_rfl) (by kernel_rfl) (by kernel_rfl) (fun _ _ _ h => h) (Or.inl ⟨by rfl, ?yqs14⟩) ?fqs14 ?_
            case yqs14 => (intro wq hq; go_simp; first | done | with_reducible rfl)
            case fqs14 => (go_frame; rfl)
            refine wpIn_take (i := 15) (d := (some 48)) (v := ?vqs15) (a' := ?aqs15) rfl rfl (by kernel_rfl) (by kernel_rfl) (by kernel_rfl) (fun _ _ _ h => h) (Or.inl ⟨by rfl, ?yqs15⟩) ?fqs15 ?_
            case yqs15 => (intro wq hq; obtain ⟨z1, z2, z3⟩ := HC.out wq hq; go_simp; first | done | with_reducible rfl)
            case fqs15 => (go_frame; rfl)
            refine wpIn_do (i := 16) hbd (by kernel_rfl) rfl (by rfl) ?_
            intro K hK
            go_simp
            go_wp2_with (go_at_call 29; refine HAD.out.mono ?_; rintro e w1 ⟨rfl, ⟨O1, hO1, gp1⟩, hb1⟩; have hbd1 := hbd.trans hb1)
            refine wpIn_take (i := 17) (d := (some 8)) (v := ?vqs17) (a' := ?aqs17) rfl rfl (by kernel_rfl) (by kernel_rfl) (by kernel_rfl) (fun _ _ _ h => h) (Or.inl ⟨by rfl, ?yqs17⟩) ?fqs17 ?_
            case yqs17 => (intro wq hq; go_simp; first | done | with_reducible rfl)
            case fqs17 => (go_frame; rfl)
            refine wpIn_done hbd1 (by kernel_rfl) ?_ _
            obtain ⟨O2, gq2⟩ := Gb.q (B := w.heap.size) ⟨O1, hO1, gp1⟩
            have hle2 := len_any w1 gq2 (by rw [HLL.out]; omega)
            rw [HLL.out] at hle2
            clear hle gq2
            go_wp2_with (first
              | (go_at_call 28; refine hle2.mono ?_; rintro e w' ⟨rfl, rfl⟩))
            go_roundw
            case rel => exact ⟨k + 1, by omega, by go_num, by rw [HP.out]; exact ⟨O1, hO1, gp1⟩, hbd1⟩
            case measure => simp [intOf]; omega
        · obtain rfl : k = l.length := by omega
          rw [List.take_length] at hgb hTl
          clear hTl'
          generalize playT l = T at *
          obtain ⟨O, gq⟩ := hgb.q
          have hz := hbw.size
          have HQ : Hid (∀ wx, Below wr.heap.size wr wx → Gq O wx (some ⟨gb, 0, none⟩) T) := fun wx h => gq.below h
          clear gq hgb
          obtain ⟨W, hW⟩ : ∃ W, W = wr := ⟨_, rfl⟩
          rw [← hW] at hbw hz HQ ⊢
          clear hW
          go_wp2
          go_loopw [9, 10] (fun t i wx => ∃ k M : Nat, k ≤ f.length ∧ i = .int .i64 k ∧ t = .int .i64 ((M : Int) - 1) ∧ M ≤ T.length ∧ (∀ x ∈ f.take k, x < T.length → x < M) ∧ Below W.heap.size W wx) (fun _ i _ => f.length - (intOf i).toNat)
          case atStart => exact ⟨0, 0, Nat.zero_le _, rfl, rfl, Nat.zero_le _, by simp, Below.refl _ _⟩
          case round =>
            obtain ⟨k, M, hk, rfl, rfl, hM, hall, hbx⟩ := hrel
            have HA : Hid (∀ x ∈ f.take k, x < T.length → x < M) := hall
            have hwx := hbw.trans (hbx.mono hz)
            clear hall
            by_cases hlt : k < f.length
            · obtain ⟨ad, hp', _, hcell⟩ := (HR.out.below hwx).at k 0 hlt
              subst hp'
              have hx := HI.out _ (getD_inm (d := 0) hlt)
              have HT : Hid (f.take (k + 1) = f.take k ++ [f.getD k 0]) := take_next f k _ hlt
              generalize f.getD k 0 = x at *
              have hA' : Hid (∀ (M' : Nat), M ≤ M' → (x < T.length → x < M') → ∀ y ∈ f.take (k + 1), y < T.length → y < M') := by
                intro M' h1 h2 y hy hyn
                rw [HT.out, List.mem_append, List.mem_singleton] at hy
                rcases hy with hy | rfl
                · have := HA.out y hy hyn; omega
                · exact h2 hyn
              have HLN : Hid (∀ n, Calls Try.prog 28 #[.pointer (some ⟨gb, 0, none⟩)] (wr.drewN n) fun e w' => e = .returned (.int .i64 T.length) ∧ w' = wr.drewN n) := fun n => len_quiet _ (HQ.out _ (hbx.trans ((below_drewN wr n).mono hbx.size))) hTl
              by_cases hxn : x < T.length
              · go_wp2
                go_quiet ((go_at_call 28; exact Calls.quiet_of_same (HLN.out _)))
                go_wp2
                go_roundw
                case rel => exact ⟨k + 1, max M (x + 1).toNat, by omega, by go_num, congrArg (Value.int .i64) (by omega), by omega, hA'.out _ (by omega) fun _ => by omega, hbx.trans ((below_drewN _ _).mono hbx.size)⟩
                case measure => simp [intOf]; omega
              · go_wp2
                go_quiet ((go_at_call 28; exact Calls.quiet_of_same (HLN.out _)))
                go_wp2
                go_roundw
                case rel => exact ⟨k + 1, M, by omega, by go_num, rfl, hM, hA'.out M (Nat.le_refl _) fun h => by omega, hbx.trans ((below_drewN _ _).mono hbx.size)⟩
                case measure => simp [intOf]; omega
            · obtain rfl : k = f.length := by omega
              have HA2 : Hid (∀ i, frm T.length f i → i < M) := by
                have := HA.out
                rw [List.take_length] at this
                intro i hi
                have := this i hi.2 (by have := hi.1; omega)
                omega
              have HLT : Hid (∀ x : Nat, x ∈ reach T.length (prevs T) (frm T.length f) ∨ x ∈ reach T.length (auths T) (frm T.length f) → (x : Int) < (M : Int) - 1) := by
                intro x hx
                rcases hx with hx | hx
                · obtain ⟨i, h1, h2⟩ := rch_lt HG.out.pl (mem_reach.1 hx).2
                  have := HA2.out i h1
                  omega
                · obtain ⟨i, h1, h2⟩ := rch_lt HG.out.al (mem_reach.1 hx).2
                  have := HA2.out i h1
                  omega
              have lp := reach_len T.length (prevs T) (frm T.length f)
              have lc := reach_len T.length (auths T) (frm T.length f)
              have hzx := hwx.size
              have hpa := Past_any f p' c' wr (HQ.out wr hbx) HG.out ((HR.out.below hwx).lift hzx) hTl (by omega) HI.out
              clear HA HA2
              generalize hXX : reach T.length (prevs T) (frm T.length f) = X at *
              generalize hYY : reach T.length (auths T) (frm T.length f) = Y at *
              have HXX : Hid (reach T.length (prevs T) (frm T.length f) = X) := hXX
              have HYY : Hid (reach T.length (auths T) (frm T.length f) = Y) := hYY
              clear hXX hYY
              have hlx : (zs X).length ≤ 100 := by rw [zs_len]; omega
              have hly : (zs Y).length ≤ 100 := by rw [zs_len]; omega
              obtain ⟨XY, hXY⟩ : ∃ XY, XY = X ++ Y := ⟨_, rfl⟩
              have HXY : Hid (zs XY = zs X ++ zs Y) := by show _ = _; rw [hXY]; simp [zs]
              have hlxy : (zs XY).length ≤ 200 := by rw [HXY.out, List.length_append]; omega
              have HLT2 : Hid (∀ x ∈ XY, (x : Int) < (M : Int) - 1) := fun x hx => HLT.out x (List.mem_append.1 (by rw [← hXY]; exact hx))
              clear hXY
              go_wp2_with (first
                | (go_at_call 22; refine hpa.mono ?_; rintro e w2 ⟨v2, rfl, ho2, hb2⟩
                   rw [HXX.out] at ho2
                   have hbx2 := hbx.trans (hb2.mono hbx.size)
                   have hw2 := hbw.trans (hbx2.mono hz)
                   have hch := Chain_any f p' c' w2 (HQ.out w2 hbx2) HG.out ((HR.out.below hw2).lift hw2.size) hTl (by omega) HI.out)
                | (go_at_call 24; refine hch.mono ?_; rintro e w3 ⟨v3, rfl, ho3, hb3⟩
                   rw [HYY.out] at ho3
                   have hbx3 := hbx2.trans (hb3.mono hbx2.size)
                   have hw3 := hbw.trans (hbx3.mono hz)
                   obtain ⟨q3, c3, rfl, r3⟩ := own_rd ho3
                   have ho23 := own_below ho2 hb3
                   have hz23 := hb2.size
                   have hz33 := hb3.size)
                | (at_builtin; refine wpList_append_rd rfl (.tmp 89) (.tmp 92) rfl wr.heap.size _ (zs X) rfl ho23 _ q3 c3 (zs Y) rfl r3 (own_none ho3) (by omega) (by omega) ?_
                   intro v4 w4 ho4 hg4
                   have hb34 : Below wr.heap.size wr w4 := below_row (hb2.trans (hb3.mono hz23)) hg4 ho23 (by omega)
                   have hbx4 := hbx.trans (hb34.mono hbx.size)
                   have hw4 := hbw.trans (hbx4.mono hz)
                   have hz4 := hw4.size
                   rw [← HXY.out] at ho4
                   obtain ⟨q4, c4, rfl, r4⟩ := own_rd ho4))
              have HQ4 := HQ.out w4 hbx4
              clear hpa hch r3 ho3 ho23 ho2 ho4 hg4 hb34 hb2 hb3 hw2 hw3 hbx2 hbx3
              go_loop [12] (fun i => ∃ k : Nat, k ≤ (zs XY).length ∧ i = .int .i64 k) (fun i => (zs XY).length - (intOf i).toNat)
              case atStart => exact ⟨0, Nat.zero_le _, rfl⟩
              case round =>
                obtain ⟨k, hk, rfl⟩ := hrel
                by_cases hlt2 : k < (zs XY).length
                · have hkn : k < XY.length := by rw [← zs_len]; exact hlt2
                  obtain ⟨ad, rfl, _, hcell⟩ := r4.at k 0 hlt2
                  rw [zs_getD] at hcell
                  have hx := HLT2.out _ (getD_inm (d := 0) hkn)
                  generalize XY.getD k 0 = x at *
                  have hx0 : ¬ (x : Int) < 0 := by omega
                  go_wp2
                  go_round
                  case rel => exact ⟨k + 1, by omega, by go_num⟩
                  case measure => simp [intOf]; omega
                · obtain rfl : k = (zs XY).length := by omega
                  obtain ⟨W4, hW4⟩ : ∃ W4, W4 = w4 := ⟨_, rfl⟩
                  have HQ5 : Hid (∀ wx, Below W4.heap.size W4 wx → Gq O wx (some ⟨gb, 0, none⟩) T) := fun wx h => HQ4.below (by rw [← hW4]; exact h)
                  rw [← hW4] at hw4 hz4 ⊢
                  clear hW4 HQ4 r4
                  go_wp2
                  go_loopw [13] (fun i wx => ∃ j : Nat, j ≤ T.length ∧ i = .int .i64 j ∧ Below W4.heap.size W4 wx) (fun i _ => T.length - (intOf i).toNat)
                  case atStart => exact ⟨0, Nat.zero_le _, rfl, Below.refl _ _⟩
                  case round =>
                    obtain ⟨j, hj, rfl, hby⟩ := hrel
                    have hwy := hw4.trans (hby.mono hz4)
                    have gqy := HQ5.out wr hby
                    have hle := len_any wr gqy hTl
                    by_cases hlt3 : j < T.length
                    · have hpv := prev_any (j : Int) wr gqy HG.out hTl
                      rw [thAt_nat] at hpv
                      change Calls Try.prog 17 #[.pointer (some ⟨gb, 0, none⟩), .int .i64 j] wr fun e w' => ∃ v, e = .returned v ∧ w'.ownsRow wr.heap.size 3 1 v (zs (prevs T j)).length ((zs (prevs T j)).map (Value.int .i64)) ∧ Below wr.heap.size wr w' at hpv
                      have hlp := rise_few (HG.out.pr j) (HG.out.pl j)
                      have hla := rise_few (HG.out.ar j) (HG.out.al j)
                      obtain ⟨E, hE⟩ : ∃ E, E = prevs T j ++ auths T j := ⟨_, rfl⟩
                      have HEE : Hid (zs E = zs (prevs T j) ++ zs (auths T j)) := by show _ = _; rw [hE]; simp [zs]
                      have HEL : Hid (∀ x ∈ E, x < j) := fun x hx => by
                        rw [hE] at hx
                        rcases List.mem_append.1 hx with h | h
                        · exact HG.out.pl j x h
                        · exact HG.out.al j x h
                      have hle2 : (zs E).length ≤ 200 := by rw [HEE.out, List.length_append]; omega
                      have HAU : Hid (∀ wx, Below wr.heap.size wr wx → Calls Try.prog 18 #[.pointer (some ⟨gb, 0, none⟩), .int .i64 j] wx fun e w' => ∃ v, e = .returned v ∧ w'.ownsRow wx.heap.size 3 1 v (zs (auths T j)).length ((zs (auths T j)).map (Value.int .i64)) ∧ Below wx.heap.size wx w') := fun wx h => by
                        have := auth_any (j : Int) wx (gqy.below h) HG.out hTl
                        rw [thAt_nat] at this
                        exact this
                      clear hE gqy
                      generalize prevs T j = PJ at *
                      generalize auths T j = AJ at *
                      go_wp2_with (first
                        | (go_at_call 28; refine hle.mono ?_; rintro e w' ⟨rfl, rfl⟩)
                        | (go_at_call 17; refine hpv.mono ?_; rintro e x2 ⟨v2, rfl, ho2, hb2⟩
                           have hau := HAU.out x2 hb2)
                        | (go_at_call 18; refine hau.mono ?_; rintro e x3 ⟨v3, rfl, ho3, hb3⟩
                           obtain ⟨q3, c3, rfl, r3⟩ := own_rd ho3
                           have ho23 := own_below ho2 hb3
                           have hz23 := hb2.size
                           have hz33 := hb3.size)
                        | (at_builtin; refine wpList_append_rd rfl (.tmp 121) (.tmp 124) rfl wr.heap.size _ (zs PJ) rfl ho23 _ q3 c3 (zs AJ) rfl r3 (own_none ho3) (by omega) (by omega) ?_
                           intro v4 x4 ho4 hg4
                           have hb34 : Below wr.heap.size wr x4 := below_row (hb2.trans (hb3.mono hz23)) hg4 ho23 (by omega)
                           rw [← HEE.out] at ho4
                           obtain ⟨q4, c4, rfl, r4⟩ := own_rd ho4))
                      have hby4 := hby.trans (hb34.mono hby.size)
                      clear hle hpv hau r3 ho3 ho23 ho2 ho4 hg4 hb34 hb2 hb3
                      go_loop [15] (fun i => ∃ k : Nat, k ≤ (zs E).length ∧ i = .int .i64 k) (fun i => (zs E).length - (intOf i).toNat)
                      case atStart => exact ⟨0, Nat.zero_le _, rfl⟩
                      case round =>
                        obtain ⟨k, hk, rfl⟩ := hrel
                        by_cases hlt4 : k < (zs E).length
                        · have hkn : k < E.length := by rw [← zs_len]; exact hlt4
                          obtain ⟨ad, rfl, _, hcell⟩ := r4.at k 0 hlt4
                          rw [zs_getD] at hcell
                          have hx := HEL.out _ (getD_inm (d := 0) hkn)
                          generalize E.getD k 0 = x at *
                          have hx0 : ¬ (x : Int) < 0 := by omega
                          go_wp2
                          go_round
                          case rel => exact ⟨k + 1, by omega, by go_num⟩
                          case measure => simp [intOf]; omega
                        · obtain rfl : k = (zs E).length := by omega
                          go_wp2
                          go_roundw
                          case rel => exact ⟨j + 1, by omega, by go_num, hby4⟩
                          case measure => simp [intOf]; omega
                    · obtain rfl : j = T.length := by omega
                      have haw := awake_any wr
                      go_wp2_with (first
                        | (go_at_call 28; refine hle.mono ?_; rintro e w' ⟨rfl, rfl⟩)
                        | (go_at_call 21; refine haw.mono ?_; rintro e w8 ⟨rfl, hb8⟩))
                      go_ret
                      exact ⟨rfl, hwy.trans (hb8.mono hwy.size)⟩
    · clear r r' hw hi
      go_enter Try.func6, Try.ntmps6
      go_wp2_with (first
        | (go_at_call 9; refine hfew.mono ?_; rintro e w' ⟨rfl, rfl⟩))
      go_ret
      exact ⟨rfl, Below.refl _ _⟩
end Go.Proofs.Ytbjeaogblpjpeaa

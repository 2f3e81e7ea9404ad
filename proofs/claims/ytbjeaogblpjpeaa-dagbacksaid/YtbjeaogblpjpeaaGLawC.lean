/-
  DagTops, walked.
-/
import Derived.Test.YtbjeaogblpjpeaaGLawA
namespace Go.Proofs.Ytbjeaogblpjpeaa
open Go.RowKit Go.Maps

theorem frm_heads {m n : Nat} {K : List Bool} {E : Nat → List Nat} (hm : m ≤ n) : frm n (zs (heads m K E)) = fun k => k ∈ heads m K E := by
  funext k
  apply propext
  unfold frm
  rw [zs_mem]
  exact ⟨fun h => h.2, fun h => ⟨by have := (mem_heads.1 h).1; omega, h⟩⟩
/-- All that the first j that are kept follow is kept. -/
def Clo (K : List Bool) (E : Nat → List Nat) (j : Nat) : Prop := ∀ i, i < j → K.getD i false = true → ∀ x ∈ E i, K.getD x false = true
theorem clo_next {K : List Bool} {E : Nat → List Nat} {j : Nat} (h : Clo K E j) (hj : K.getD j false = true → ∀ x ∈ E j, K.getD x false = true) : Clo K E (j + 1) := by
  intro i hi
  by_cases e : i = j
  · subst e; exact hj
  · exact h i (by omega)
/-- What place j follows, the first k of it, is kept if j is. -/
def TkP (K : List Bool) (E : Nat → List Nat) (j k : Nat) : Prop := K.getD j false = true → ∀ x ∈ (E j).take k, K.getD x false = true
theorem in_q {O : Nat → Prop} (n : Int) (l : List Int) (p : Option Addr) (c : Nat) (w : World) (b : Bool) (r : RdI O w p c l) (hl : l.length ≤ 1000000) (hb : decide (n ∈ l) = b) :
    Calls Try.prog 30 #[.int .i64 n, .slice p l.length c] w fun e w' => e = .returned (.bool b) ∧ w' = w :=
  (in_any n l p c w r hl).mono fun _ _ h => ⟨by rw [← hb]; exact h.1, h.2.symm⟩
theorem Rd.drewN {α : Type} {enc : α → Value} {O : Nat → Prop} {w : World} {p : Option Addr} {c : Nat} {xs : List α} (h : Rd enc O w p c xs) (n : Nat) : Rd enc O (w.drewN n) p c xs := h.same fun _ _ => rfl
theorem mem_zs_dec (l : List Nat) (i : Nat) : decide ((i : Int) ∈ zs l) = decide (i ∈ l) := decide_eq_decide.2 (zs_mem _ _)

set_option maxRecDepth 100000 in
set_option maxHeartbeats 8000000 in
theorem dagTops_any (l : List Dd) (p : Option Addr) (c : Nat) (f : List Bool) (p' : Option Addr) (c' : Nat) (w : World) (r : RdD (· < w.heap.size) w p c l) (hl : l.length ≤ 9223372036854775807) (hw : ∀ d ∈ l, wideD d) (r' : RdB (· < w.heap.size) w p' c' f) (hfl : f.length ≤ 9223372036854775807) :
    Calls Try.prog 8 #[.slice p l.length c, .slice p' f.length c'] w fun e w' => e = .returned (.bool true) ∧ Below w.heap.size w w' := by
  have hfew := few_any l p c w r hl hw
  cases hf : fewB l with
  | false =>
    rw [hf] at hfew
    clear r r' hw
    go_enter Try.func8, Try.ntmps8
    go_wp2_with (first
      | (go_at_call 9; refine hfew.mono ?_; rintro e w' ⟨rfl, rfl⟩))
    go_ret
    exact ⟨rfl, Below.refl _ _⟩
  | true =>
    rw [hf] at hfew
    by_cases h100 : f.length ≤ 100
    · have hbo := both_any l p c w r hf
      have hTl := play_few hf
      have HG : Hid (Good (playT l)) := play_good hf
      have HR : Hid (RdB (· < w.heap.size) w p' c' f) := r'
      have hrc := r'.1
      unfold BothP at hbo
      generalize playT l = T at *
      obtain ⟨m, hm⟩ : ∃ m, min f.length T.length = m := ⟨_, rfl⟩
      have HM : Hid (min f.length T.length = m) := hm
      have hmK : m ≤ f.length := by omega
      have hmn : m ≤ T.length := by omega
      have hme : f.length ≤ m ∨ T.length ≤ m := by omega
      clear r r' hw hf hm
      go_enter Try.func8, Try.ntmps8
      go_wp2_with (first
        | (go_at_call 9; refine hfew.mono ?_; rintro e w' ⟨rfl, rfl⟩)
        | (go_at_call 11; refine hbo.mono ?_; rintro e w1 ⟨gb, hb, rfl, bo1, hb1⟩))
      clear hfew hbo
      go_loopw [8] (fun i wr => ∃ j : Nat, j ≤ m ∧ i = .int .i64 j ∧ Clo f (prevs T) j ∧ Bo w.heap.size wr gb hb T T ∧ Below w.heap.size w wr) (fun i _ => m - (intOf i).toNat)
      case atStart => exact ⟨0, Nat.zero_le _, rfl, fun i hi => by omega, bo1, hb1⟩
      case round =>
        clear bo1 hb1
        obtain ⟨j, hj, rfl, hclo, bo, hbw⟩ := hrel
        have HC : Hid (Clo f (prevs T) j) := hclo
        have hz := hbw.size
        clear hclo
        obtain ⟨O, gq⟩ := bo.q
        have hle := len_any _ gq hTl
        by_cases hlt : j < m
        · have hjT : j < T.length := by omega
          have hjf : j < f.length := by omega
          have hpv := prev_any (j : Int) _ gq HG.out hTl
          rw [thAt_nat] at hpv
          change Calls Try.prog 17 #[.pointer (some ⟨gb, 0, none⟩), .int .i64 j] wr fun e w' => ∃ v, e = .returned v ∧ w'.ownsRow wr.heap.size 3 1 v (zs (prevs T j)).length ((zs (prevs T j)).map (Value.int .i64)) ∧ Below wr.heap.size wr w' at hpv
          go_wp2_with (first
            | (go_at_call 28; refine hle.mono ?_; rintro e w' ⟨rfl, rfl⟩)
            | (go_at_call 17; refine hpv.mono ?_; rintro e w2 ⟨v, rfl, ho, hb2⟩
               have bo2 := bo.below hb2
               have hw2 := hbw.trans (hb2.mono hz)
               obtain ⟨q2, c2, rfl, r2⟩ := own_rd ho))
          clear hpv hle gq
          have hlen := rise_few (HG.out.pr j) (HG.out.pl j)
          go_loop [10] (fun i => ∃ k : Nat, k ≤ (zs (prevs T j)).length ∧ i = .int .i64 k ∧ TkP f (prevs T) j k) (fun i => (zs (prevs T j)).length - (intOf i).toNat)
          case atStart => exact ⟨0, Nat.zero_le _, rfl, by intro _ x hx; simp at hx⟩
          case round =>
            obtain ⟨k, hk, rfl, hcl⟩ := hrel
            have HCL : Hid (TkP f (prevs T) j k) := hcl
            clear hcl
            by_cases hlt2 : k < (zs (prevs T j)).length
            · have hkn : k < (prevs T j).length := by rw [← zs_len]; exact hlt2
              obtain ⟨ad, rfl, _, hcp⟩ := r2.at k 0 hlt2
              rw [zs_getD] at hcp
              obtain ⟨ad', hp', _, hcj⟩ := (HR.out.below hw2).at j false hjf
              subst hp'
              have hxj := HG.out.pl j _ (getD_inm (d := 0) hkn)
              have HT : Hid ((prevs T j).take (k + 1) = (prevs T j).take k ++ [(prevs T j).getD k 0]) := take_next _ k _ hkn
              generalize (prevs T j).getD k 0 = x at *
              obtain ⟨ad'', hp', _, hcx⟩ := (HR.out.below hw2).at x false (by omega)
              cases hp'
              have hxf : x < f.length := by omega
              have HN : Hid ((f.getD j false = true → f.getD x false = true) → TkP f (prevs T) j (k + 1)) := by
                intro h1 h2 y hy
                rw [HT.out, List.mem_append, List.mem_singleton] at hy
                rcases hy with hy | rfl
                · exact HCL.out h2 y hy
                · exact h1 h2
              cases hb1 : f.getD j false with
              | false =>
                rw [hb1] at hcj
                have HXX : Hid (TkP f (prevs T) j (k + 1)) := HN.out (fun h => by rw [hb1] at h; cases h)
                clear hb1 HN
                go_wp2
                go_round
                case rel => exact ⟨k + 1, by omega, by go_num, HXX.out⟩
                case measure => simp [intOf]; omega
              | true =>
                rw [hb1] at hcj
                cases hb2' : f.getD x false with
                | true =>
                  rw [hb2'] at hcx
                  have HXX : Hid (TkP f (prevs T) j (k + 1)) := HN.out (fun _ => hb2')
                  clear hb1 hb2' HN
                  go_wp2
                  go_round
                  case rel => exact ⟨k + 1, by omega, by go_num, HXX.out⟩
                  case measure => simp [intOf]; omega
                | false =>
                  rw [hb2'] at hcx
                  clear hb1 hb2'
                  have haw := awake_any w2
                  go_wp2_with (first
                    | (go_at_call 21; refine haw.mono ?_; rintro e w8 ⟨rfl, hb8⟩))
                  go_ret
                  exact ⟨rfl, hw2.trans (hb8.mono hw2.size)⟩
            · obtain rfl : k = (zs (prevs T j)).length := by omega
              have HX : Hid (f.getD j false = true → ∀ y ∈ prevs T j, f.getD y false = true) := by
                have := HCL.out
                unfold TkP at this
                rw [zs_len, List.take_length] at this
                exact this
              go_wp2
              go_roundw
              case rel => exact ⟨j + 1, by omega, by go_num, clo_next HC.out HX.out, bo2, hw2⟩
              case measure => simp [intOf]; omega
        · obtain rfl : j = m := by omega
          have HCE : Hid (∀ i, i < j → f.getD i false = true → ∀ x ∈ prevs T i, f.getD x false = true) := HC.out
          have hme' : j < f.length → ¬ j < T.length := by omega
          have hhe := heads_any f p' c' _ gq HG.out ((HR.out.below hbw).lift hz) hTl (by omega)
          rw [HM.out] at hhe
          have hhl := heads_len j f (prevs T)
          have HQ : Hid (∀ wx, Below wr.heap.size wr wx → Gq O wx (some ⟨gb, 0, none⟩) T) := fun wx h => gq.below h
          by_cases hjf : j < f.length
          all_goals
            go_wp2_with (first
              | (go_at_call 28; refine hle.mono ?_; rintro e w' ⟨rfl, rfl⟩)
              | (go_at_call 25; refine hhe.mono ?_; intro e w2 hP; obtain ⟨q2, c2, rfl, r2, hb2⟩ := heads_rd hP
                 have hz2 := hb2.size
                 have hpa := Past_any (zs (heads j f (prevs T))) q2 c2 w2 (HQ.out w2 hb2) HG.out (r2.carry (fun _ _ => rfl) fun k hk => hk.2) hTl (by rw [zs_len]; omega) (fun x hx => by
                   obtain ⟨y, hy, rfl⟩ := List.mem_map.1 hx
                   have := (mem_heads.1 hy).1
                   omega)
                 rw [frm_heads hmn] at hpa
                 clear hP)
              | (go_at_call 22; refine hpa.mono ?_; intro e w3 hP; obtain ⟨q3, c3, rfl, r3, hb3⟩ := reach_rd hP
                 clear hP))
            have hz3 := hb3.size
            have hw3 := hbw.trans ((hb2.trans (hb3.mono hz2)).mono hz)
            have r2' : RdI (· < w3.heap.size) w3 q2 c2 (zs (heads j f (prevs T))) := Rd.on r2 hb3
            have HQ3 := (HQ.out w3 (hb2.trans (hb3.mono hz2)))
            have hrl := reach_len T.length (prevs T) (fun k => k ∈ heads j f (prevs T))
            have HTOP : Hid (∀ i, i < j → (f.getD i false = true ↔ i ∈ heads j f (prevs T) ∨ Rch (prevs T) (fun k => k ∈ heads j f (prevs T)) i) ∧ ¬ (i ∈ heads j f (prevs T) ∧ Rch (prevs T) (fun k => k ∈ heads j f (prevs T)) i)) := fun i hi => tops HG.out.pl hmn HCE.out hi
            have HMR : Hid (∀ i, i < j → (i ∈ reach T.length (prevs T) (fun k => k ∈ heads j f (prevs T)) ↔ Rch (prevs T) (fun k => k ∈ heads j f (prevs T)) i)) := fun i hi => by rw [mem_reach]; exact ⟨fun h => h.2, fun h => ⟨by omega, h⟩⟩
            have hhl' : (zs (heads j f (prevs T))).length ≤ 1000000 := by rw [zs_len]; omega
            have hrl' : (zs (reach T.length (prevs T) (fun k => k ∈ heads j f (prevs T)))).length ≤ 1000000 := by rw [zs_len]; omega
            clear hhe hpa hle r2 hb2 hb3 hbw bo gq hhl hrl
            generalize reach T.length (prevs T) (fun k => k ∈ heads j f (prevs T)) = PL at *
            generalize hHL : heads j f (prevs T) = HL at *
            have HHL : Hid (heads j f (prevs T) = HL) := hHL
            clear hHL
            go_loopw [13] (fun i wx => ∃ k : Nat, k ≤ j ∧ i = .int .i64 k ∧ Below w3.heap.size w3 wx) (fun i _ => j - (intOf i).toNat)
            case atStart => exact ⟨0, Nat.zero_le _, rfl, Below.refl _ _⟩
            case round =>
              obtain ⟨k, hk, rfl, hbx⟩ := hrel
              have hle := len_any wr (HQ3.below hbx) hTl
              have hwx := hw3.trans (hbx.mono hw3.size)
              by_cases hlt2 : k < j
              · have hkf : k < f.length := by omega
                have hkT : k < T.length := by omega
                obtain ⟨ad, hp', _, hck⟩ := (HR.out.below hwx).at k false hkf
                subst hp'
                have ht := HTOP.out k hlt2
                rw [← HMR.out k hlt2] at ht
                have rr2 := r2'.below hbx
                have rr3 : RdI (· < w3.heap.size) wr q3 c3 (zs PL) := (r3.carry (fun _ _ => rfl) fun k hk => hk.2).below hbx
                have HI : Hid (∀ m b, decide (k ∈ HL) = b → Calls Try.prog 30 #[.int .i64 k, .slice q2 (zs HL).length c2] (wr.drewN m) fun e w' => e = .returned (.bool b) ∧ w' = wr.drewN m) := fun m b hb => in_q _ _ _ _ _ b (rr2.drewN m) hhl' (by rw [mem_zs_dec]; exact hb)
                have HJ : Hid (∀ m b, decide (k ∈ PL) = b → Calls Try.prog 30 #[.int .i64 k, .slice q3 (zs PL).length c3] (wr.drewN m) fun e w' => e = .returned (.bool b) ∧ w' = wr.drewN m) := fun m b hb => in_q _ _ _ _ _ b (rr3.drewN m) hrl' (by rw [mem_zs_dec]; exact hb)
                clear rr2 rr3
                by_cases hA : k ∈ HL
                · have hB : k ∉ PL := fun h => ht.2 ⟨hA, h⟩
                  have hkk : f.getD k false = true := ht.1.2 (.inl hA)
                  rw [hkk] at hck
                  have i1 : Hid (∀ m, Calls Try.prog 30 #[.int .i64 k, .slice q2 (zs HL).length c2] (wr.drewN m) fun e w' => e = .returned (.bool true) ∧ w' = wr.drewN m) := fun m => HI.out m true (decide_eq_true hA)
                  have i2 : Hid (∀ m, Calls Try.prog 30 #[.int .i64 k, .slice q3 (zs PL).length c3] (wr.drewN m) fun e w' => e = .returned (.bool false) ∧ w' = wr.drewN m) := fun m => HJ.out m false (decide_eq_false hB)
                  clear HI HJ ht hA hB hkk
                  go_wp2_with (first
                    | (go_at_call 28; refine hle.mono ?_; rintro e w' ⟨rfl, rfl⟩))
                  go_quiet ((first | (go_at_call 30; with_reducible exact Calls.quiet_of_same (i1.out _)) | (go_at_call 30; with_reducible exact Calls.quiet_of_same (i2.out _))))
                  go_wp2
                  go_roundw
                  case rel => exact ⟨k + 1, by omega, by go_num, hbx.trans ((below_drewN _ _).mono hbx.size)⟩
                  case measure => simp [intOf]; omega
                · by_cases hB : k ∈ PL
                  · have hkk : f.getD k false = true := ht.1.2 (.inr hB)
                    rw [hkk] at hck
                    have i1 : Hid (∀ m, Calls Try.prog 30 #[.int .i64 k, .slice q2 (zs HL).length c2] (wr.drewN m) fun e w' => e = .returned (.bool false) ∧ w' = wr.drewN m) := fun m => HI.out m false (decide_eq_false hA)
                    have i2 : Hid (∀ m, Calls Try.prog 30 #[.int .i64 k, .slice q3 (zs PL).length c3] (wr.drewN m) fun e w' => e = .returned (.bool true) ∧ w' = wr.drewN m) := fun m => HJ.out m true (decide_eq_true hB)
                    clear HI HJ ht hA hB hkk
                    go_wp2_with (first
                      | (go_at_call 28; refine hle.mono ?_; rintro e w' ⟨rfl, rfl⟩))
                    go_quiet ((first | (go_at_call 30; with_reducible exact Calls.quiet_of_same (i1.out _)) | (go_at_call 30; with_reducible exact Calls.quiet_of_same (i2.out _))))
                    go_wp2
                    go_roundw
                    case rel => exact ⟨k + 1, by omega, by go_num, hbx.trans ((below_drewN _ _).mono hbx.size)⟩
                    case measure => simp [intOf]; omega
                  · have hkk : f.getD k false = false := by rw [Bool.eq_false_iff]; intro h; exact (ht.1.1 h).elim hA hB
                    rw [hkk] at hck
                    have i1 : Hid (∀ m, Calls Try.prog 30 #[.int .i64 k, .slice q2 (zs HL).length c2] (wr.drewN m) fun e w' => e = .returned (.bool false) ∧ w' = wr.drewN m) := fun m => HI.out m false (decide_eq_false hA)
                    have i2 : Hid (∀ m, Calls Try.prog 30 #[.int .i64 k, .slice q3 (zs PL).length c3] (wr.drewN m) fun e w' => e = .returned (.bool false) ∧ w' = wr.drewN m) := fun m => HJ.out m false (decide_eq_false hB)
                    clear HI HJ ht hA hB hkk
                    go_wp2_with (first
                      | (go_at_call 28; refine hle.mono ?_; rintro e w' ⟨rfl, rfl⟩))
                    go_quiet ((first | (go_at_call 30; with_reducible exact Calls.quiet_of_same (i1.out _)) | (go_at_call 30; with_reducible exact Calls.quiet_of_same (i2.out _))))
                    go_wp2
                    go_roundw
                    case rel => exact ⟨k + 1, by omega, by go_num, hbx.trans ((below_drewN _ _).mono hbx.size)⟩
                    case measure => simp [intOf]; omega
              · obtain rfl : k = j := by omega
                have haw := awake_any wr
                go_wp2_with (first
                  | (go_at_call 28; refine hle.mono ?_; rintro e w' ⟨rfl, rfl⟩)
                  | (go_at_call 21; refine haw.mono ?_; rintro e w8 ⟨rfl, hb8⟩))
                go_ret
                exact ⟨rfl, hwx.trans (hb8.mono hwx.size)⟩
    · clear r r' hw
      go_enter Try.func8, Try.ntmps8
      go_wp2_with (first
        | (go_at_call 9; refine hfew.mono ?_; rintro e w' ⟨rfl, rfl⟩))
      go_ret
      exact ⟨rfl, Below.refl _ _⟩
end Go.Proofs.Ytbjeaogblpjpeaa

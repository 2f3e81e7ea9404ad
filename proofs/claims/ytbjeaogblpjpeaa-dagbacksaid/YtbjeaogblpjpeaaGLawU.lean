/-
  DagUnion, walked.
-/
import Derived.Test.YtbjeaogblpjpeaaGLawC
namespace Go.Proofs.Ytbjeaogblpjpeaa
open Go.RowKit Go.Maps

theorem ints_one (l : List Int) : ∀ v ∈ l.map (Value.int .i64), v.oneCell' = true := by
  intro v hv
  obtain ⟨x, _, rfl⟩ := List.mem_map.1 hv
  rfl
/-- Numbers that are read, at the end of a row of the call's own. -/
theorem wpList_append_rd {w : World} {ops : Array Oper} {rest : List Oper} {o : Oper} {a : Act} {Q : Exit → Act → World → Prop} (hgd : o.guard = none) (s x : Operand)
    (ho : o.op = .call { callee := .builtin .append, args := #[s, x], argTypes := #[35, 35] })
    (base : Nat) (v : Value) (L : List Int) (hs : a.eval s = v) (hown : w.ownsRow base 3 1 v L.length (L.map (Value.int .i64)))
    (O : Nat → Prop) (q : Option Addr) (cq : Nat) (R : List Int) (hx : a.eval x = .slice q R.length cq) (hrd : RdI O w q cq R) (hnone : q = none → cq = 0) (hlen : L.length + R.length ≤ 1000000) (hbase : base ≤ w.heap.size)
    (h : ∀ v' w', w'.ownsRow base 3 1 v' (L ++ R).length ((L ++ R).map (Value.int .i64)) → w.grownBy w' v.ownBlock → wpList Try.prog ops Q rest (a.put o.dst v') w') : wpList Try.prog ops Q (o :: rest) a w := by
  obtain ⟨i0, hi, hz0, hz1, hz2⟩ := info_parts Try.info3
  cases q with
  | none =>
    obtain rfl := hnone rfl
    obtain rfl := hrd.len
    refine wpList_append_own_none hgd s x 35 ho base 3 i0 1 Try.underlying35 hi v L.length (L.map (Value.int .i64)) hs hown hx ?_
    exact h v w (by rw [List.append_nil]; exact hown) ⟨rfl, rfl, rfl, Nat.le_refl _, fun _ _ _ => rfl⟩
  | some ad =>
    refine wpList_append_own w hgd s x 35 ho base 3 i0 (.int .i64 0) 1 8 Try.underlying35 hi hz0 hz1 hz2 rfl (by decide) v L.length (L.map (Value.int .i64)) hs hown ad R.length cq (R.map (Value.int .i64)) hx (by simp) (fun j u hj => ?_) (ints_one _) (by unfold maxLen; omega) (by omega) hbase ?_
    · have hjl : j < R.length := by have := (List.getElem?_eq_some_iff.1 hj).1; rw [List.length_map] at this; exact this
      obtain ⟨a', ha, _, hc⟩ := hrd.at j 0 hjl
      cases ha
      rw [hc, ← hj, List.getElem?_map, List.getElem?_eq_getElem hjl, getD_in hjl]
      rfl
    · intro v' w' hown' hgrow _
      exact h v' w' (by rw [List.length_append, List.map_append]; exact hown') hgrow
theorem own_empty (w : World) (c : Array Value) (hc : c.size = 0) : (w.alloc (.cells c 3)).ownsRow w.heap.size 3 1 (.slice (some ⟨w.heap.size, 0, none⟩) ([] : List Int).length 0) ([] : List Int).length (([] : List Int).map (Value.int .i64)) :=
  World.ownsRow_made w c 0 (Nat.le_refl _) (Nat.zero_le _) (by rw [hc])
theorem frm_app {n : Nat} {a b : List Int} (i : Nat) : frm n (a ++ b) i ↔ frm n a i ∨ frm n b i := by
  unfold frm
  rw [List.mem_append]
  constructor
  · rintro ⟨h, h' | h'⟩
    · exact .inl ⟨h, h'⟩
    · exact .inr ⟨h, h'⟩
  · rintro (h | h)
    · exact ⟨h.1, .inl h.2⟩
    · exact ⟨h.1, .inr h.2⟩
theorem in_w {O : Nat → Prop} (n : Int) (l : List Int) (p : Option Addr) (c : Nat) (w : World) (b : Bool) (r : RdI O w p c l) (hl : l.length ≤ 1000000) (hb : decide (n ∈ l) = b) :
    Calls Try.prog 30 #[.int .i64 n, .slice p l.length c] w fun e w' => e = .returned (.bool b) ∧ w = w' :=
  (in_any n l p c w r hl).mono fun _ _ h => ⟨by rw [← hb]; exact h.1, h.2⟩

set_option maxRecDepth 100000 in
set_option maxHeartbeats 8000000 in
theorem dagUnion_any (l : List Dd) (p : Option Addr) (c : Nat) (a : List Int) (pa : Option Addr) (ca : Nat) (b : List Int) (pb : Option Addr) (cb : Nat) (w : World) (r : RdD (· < w.heap.size) w p c l) (hl : l.length ≤ 9223372036854775807) (hw : ∀ d ∈ l, wideD d) (ra : RdI (· < w.heap.size) w pa ca a) (hal : a.length ≤ 140737488351232) (hai : i64 a) (han : pa = none → ca = 0) (rb : RdI (· < w.heap.size) w pb cb b) (hbl : b.length ≤ 140737488351232) (hbi : i64 b) (hbn : pb = none → cb = 0) :
    Calls Try.prog 7 #[.slice p l.length c, .slice pa a.length ca, .slice pb b.length cb] w fun e w' => e = .returned (.bool true) ∧ Below w.heap.size w w' := by
  have hfew := few_any l p c w r hl hw
  cases hf : fewB l with
  | false =>
    rw [hf] at hfew
    clear r ra rb hw hai hbi han hbn
    go_enter Try.func7, Try.ntmps7
    go_wp2_with (first
      | (go_at_call 9; refine hfew.mono ?_; rintro e w' ⟨rfl, rfl⟩))
    go_ret
    exact ⟨rfl, Below.refl _ _⟩
  | true =>
    rw [hf] at hfew
    by_cases h100 : a.length + b.length ≤ 100
    · have hbo := both_any l p c w r hf
      have hTl := play_few hf
      have HG : Hid (Good (playT l)) := play_good hf
      have HRA : Hid (RdI (· < w.heap.size) w pa ca a) := ra
      have HRB : Hid (RdI (· < w.heap.size) w pb cb b) := rb
      have HIA : Hid (i64 a) := hai
      have HIB : Hid (i64 b) := hbi
      have HNA : Hid (pa = none → ca = 0) := han
      have HNB : Hid (pb = none → cb = 0) := hbn
      have HIAB : Hid (i64 (a ++ b)) := fun x hx => (List.mem_append.1 hx).elim (hai x) (hbi x)
      obtain ⟨ab, hab⟩ : ∃ ab, ab = a ++ b := ⟨_, rfl⟩
      have HAB : Hid (ab = a ++ b) := hab
      have hll : ab.length ≤ 100 := by rw [hab, List.length_append]; exact h100
      rw [← hab] at HIAB
      clear hab
      unfold BothP at hbo
      generalize playT l = T at *
      clear r ra rb hw hf hai hbi han hbn
      go_enter Try.func7, Try.ntmps7
      go_wp2_with (first
        | (go_at_call 9; refine hfew.mono ?_; rintro e w' ⟨rfl, rfl⟩)
        | (go_at_call 11; refine hbo.mono ?_; rintro e w1 ⟨gb, hb, rfl, bo1, hb1⟩
           have hz1 := hb1.size
           obtain ⟨O, q1⟩ := bo1.q
           have hpa := Past_any a pa ca w1 q1 HG.out ((HRA.out.below hb1).lift hz1) hTl (by omega) HIA.out)
        | (go_at_call 22; have _h := hdone3; refine hpz.mono ?_; intro e w6 hP; obtain ⟨q6, c6, rfl, r6, hb6⟩ := reach_rd hP
           clear hP)
        | (go_at_call 22; have _h := hdone2; refine hpb.mono ?_; intro e w3 hP; obtain ⟨q3, c3, rfl, r3, hb3⟩ := reach_rd hP
           have hz3 := hb3.size
           have hw3 := hw2.trans (hb3.mono hz2)
           have o3 := own_empty w3 #[] rfl
           clear hP)
        | (go_at_call 22; refine hpa.mono ?_; intro e w2 hP; obtain ⟨q2, c2, rfl, r2, hb2⟩ := reach_rd hP
           have hw2 := hb1.trans (hb2.mono hz1)
           have hz2 := hw2.size
           have hpb := Past_any b pb cb w2 (q1.below hb2) HG.out ((HRB.out.below hw2).lift hz2) hTl (by omega) HIB.out
           have hdone2 := HRA
           clear hP)
        | (at_builtin; have _h := ho4; refine wpList_append_rd rfl (.tmp 42) (.tmp 43) rfl w3.heap.size _ a rfl ho4 (· < w.heap.size) pb cb b rfl (HRB.out.below hw4) HNB.out (by omega) (by omega) ?_
           intro v5 w5 ho5 hg5
           have hb5 : Below w3.heap.size w3 w5 := below_row hb4 hg5 ho4 (by omega)
           have hz5 := hb5.size
           have hw5 := hw3.trans (hb5.mono (by have := hw3.size; omega))
           rw [← HAB.out] at ho5
           obtain ⟨q5, cq5, rfl, r5⟩ := own_rd ho5
           have hpz := Past_any ab q5 cq5 w5 (q1.below (hb2.trans ((hb3.trans (hb5.mono (by omega))).mono (by have := hb2.size; omega)))) HG.out (r5.carry (fun _ _ => rfl) fun k hk => (ho5.lt k hk).2) hTl (by omega) HIAB.out
           have hdone3 := HRA)
        | (at_builtin; refine wpList_append_rd rfl (.tmp 40) (.tmp 41) rfl w3.heap.size _ [] rfl o3 (· < w.heap.size) pa ca a rfl (HRA.out.below (hw3.alloc hw3.size _)) HNA.out (by simp; omega) (by simp) ?_
           intro v4 w4 ho4 hg4
           rw [List.nil_append] at ho4
           have hb4 : Below w3.heap.size w3 w4 := below_row ((Below.refl _ _).alloc (Nat.le_refl _) _) hg4 o3 (by simp)
           have hz4 := hb4.size
           have hw4 := hw3.trans (hb4.mono hw3.size)))
      have hz6 := hb6.size
      have hb26 : Below w2.heap.size w2 w6 := hb3.trans ((hb5.trans (hb6.mono (by omega))).mono (by omega))
      have hb36 : Below w3.heap.size w3 w6 := hb5.trans (hb6.mono (by omega))
      have hw6 := hw5.trans (hb6.mono hw5.size)
      have rx : RdI (· < w6.heap.size) w6 q2 c2 (zs (reach T.length (prevs T) (frm T.length a))) := Rd.on r2 hb26
      have ry : RdI (· < w6.heap.size) w6 q3 c3 (zs (reach T.length (prevs T) (frm T.length b))) := Rd.on r3 hb36
      have rz : RdI (· < w6.heap.size) w6 q6 c6 (zs (reach T.length (prevs T) (frm T.length ab))) := r6.carry (fun _ _ => rfl) fun k hk => hk.2
      have g6 := q1.below (hb2.trans (hb26.mono hb2.size))
      have lx := reach_len T.length (prevs T) (frm T.length a)
      have ly := reach_len T.length (prevs T) (frm T.length b)
      have lz := reach_len T.length (prevs T) (frm T.length ab)
      have HU : Hid (∀ i, decide (i ∈ reach T.length (prevs T) (frm T.length ab)) = (decide (i ∈ reach T.length (prevs T) (frm T.length a)) || decide (i ∈ reach T.length (prevs T) (frm T.length b)))) := by
        intro i
        rw [Bool.eq_iff_iff, Bool.or_eq_true, decide_eq_true_eq, decide_eq_true_eq, decide_eq_true_eq, mem_reach, mem_reach, mem_reach, HAB.out, rch_union (fun i => frm_app i)]
        constructor
        · rintro ⟨h, h' | h'⟩
          · exact .inl ⟨h, h'⟩
          · exact .inr ⟨h, h'⟩
        · rintro (h | h)
          · exact ⟨h.1, .inl h.2⟩
          · exact ⟨h.1, .inr h.2⟩
      have HW : Hid (∀ x ∈ reach T.length (prevs T) (frm T.length (zs (reach T.length (prevs T) (frm T.length ab)))), x ∈ reach T.length (prevs T) (frm T.length ab)) := by
        intro x hx
        rw [mem_reach] at hx ⊢
        exact ⟨hx.1, rch_twice (fun i hi => (mem_reach.1 ((zs_mem _ _).1 hi.2)).2) hx.2⟩
      have HZI : Hid (i64 (zs (reach T.length (prevs T) (frm T.length ab)))) := by
        intro x hx
        obtain ⟨y, hy, rfl⟩ := List.mem_map.1 hx
        have := (mem_reach.1 hy).1
        omega
      generalize reach T.length (prevs T) (frm T.length a) = X at *
      generalize reach T.length (prevs T) (frm T.length b) = Y at *
      generalize reach T.length (prevs T) (frm T.length ab) = Z at *
      have hlx : (zs X).length ≤ 1000 := by rw [zs_len]; omega
      have hly : (zs Y).length ≤ 1000 := by rw [zs_len]; omega
      have hlz : (zs Z).length ≤ 1000 := by rw [zs_len]; omega
      have hle := len_any w6 g6 hTl
      have hpw := Past_any (zs Z) q6 c6 w6 g6 HG.out rz hTl hlz HZI.out
      clear hpa hpb hpz r2 r3 r5 r6 ho4 ho5 hfew hbo o3 hdone2 hdone3 q1 g6 bo1 hb1 hb2 hb3 hb4 hb5 hb6 hg4 hg5 hw2 hw3 hw4 hw5 hb26 hb36
      go_loop [13] (fun i => ∃ k : Nat, k ≤ T.length ∧ i = .int .i64 k) (fun i => T.length - (intOf i).toNat)
      case atStart => exact ⟨0, Nat.zero_le _, rfl⟩
      case round =>
        obtain ⟨k, hk, rfl⟩ := hrel
        by_cases hlt : k < T.length
        · have hu := HU.out k
          have iz := fun bb => in_w (k : Int) (zs Z) q6 c6 w6 bb rz (by omega)
          have ix := fun bb => in_w (k : Int) (zs X) q2 c2 w6 bb rx (by omega)
          have iy := fun bb => in_w (k : Int) (zs Y) q3 c3 w6 bb ry (by omega)
          rw [mem_zs_dec] at iz ix iy
          rw [hu] at iz
          cases hx : decide (k ∈ X) with
          | true =>
            have jz := iz true (by rw [hx]; rfl)
            have jx := ix true hx
            clear iz ix iy hx hu
            go_wp2_with (first
              | (go_at_call 28; refine hle.mono ?_; rintro e w' ⟨rfl, rfl⟩)
              | (go_at_call 30; have _h := hd1; refine jx.mono ?_; rintro e w' ⟨rfl, rfl⟩)
              | (go_at_call 30; refine jz.mono ?_; rintro e w' ⟨rfl, rfl⟩; have hd1 := HG))
            go_round
            case rel => exact ⟨k + 1, by omega, by go_num⟩
            case measure => simp [intOf]; omega
          | false =>
            have jx := ix false hx
            cases hy : decide (k ∈ Y) with
            | true =>
              have jz := iz true (by rw [hx, hy]; rfl)
              have jy := iy true hy
              clear iz ix iy hx hy hu
              go_wp2_with (first
                | (go_at_call 28; refine hle.mono ?_; rintro e w' ⟨rfl, rfl⟩)
                | (go_at_call 30; have _h := hd2; refine jy.mono ?_; rintro e w' ⟨rfl, rfl⟩)
                | (go_at_call 30; have _h := hd1; refine jx.mono ?_; rintro e w' ⟨rfl, rfl⟩; have hd2 := HG)
                | (go_at_call 30; refine jz.mono ?_; rintro e w' ⟨rfl, rfl⟩; have hd1 := HG))
              go_round
              case rel => exact ⟨k + 1, by omega, by go_num⟩
              case measure => simp [intOf]; omega
            | false =>
              have jz := iz false (by rw [hx, hy]; rfl)
              have jy := iy false hy
              clear iz ix iy hx hy hu
              go_wp2_with (first
                | (go_at_call 28; refine hle.mono ?_; rintro e w' ⟨rfl, rfl⟩)
                | (go_at_call 30; have _h := hd2; refine jy.mono ?_; rintro e w' ⟨rfl, rfl⟩)
                | (go_at_call 30; have _h := hd1; refine jx.mono ?_; rintro e w' ⟨rfl, rfl⟩; have hd2 := HG)
                | (go_at_call 30; refine jz.mono ?_; rintro e w' ⟨rfl, rfl⟩; have hd1 := HG))
              go_round
              case rel => exact ⟨k + 1, by omega, by go_num⟩
              case measure => simp [intOf]; omega
        · obtain rfl : k = T.length := by omega
          have lw := reach_len T.length (prevs T) (frm T.length (zs Z))
          go_wp2_with (first
            | (go_at_call 28; refine hle.mono ?_; rintro e w' ⟨rfl, rfl⟩)
            | (go_at_call 22; refine hpw.mono ?_; intro e w7 hP; obtain ⟨q7, c7, rfl, r7, hb7⟩ := reach_rd hP
               clear hP))
          have hw7 := hw6.trans (hb7.mono hw6.size)
          have rz7 := Rd.on (O := fun _ => True) (rz.carry (fun _ _ => rfl) fun k hk => ⟨trivial, hk⟩) hb7
          generalize reach T.length (prevs T) (frm T.length (zs Z)) = V at *
          have hlv : (zs V).length ≤ 1000 := by rw [zs_len]; omega
          clear hle hpw
          go_loop [15] (fun i => ∃ k : Nat, k ≤ (zs V).length ∧ i = .int .i64 k) (fun i => (zs V).length - (intOf i).toNat)
          case atStart => exact ⟨0, Nat.zero_le _, rfl⟩
          case round =>
            obtain ⟨k, hk, rfl⟩ := hrel
            by_cases hlt : k < (zs V).length
            · have hkv : k < V.length := by rw [← zs_len]; exact hlt
              obtain ⟨ad, rfl, _, hcell⟩ := r7.at k 0 hlt
              rw [zs_getD] at hcell
              have hx := HW.out _ (getD_inm (d := 0) hkv)
              generalize V.getD k 0 = x at *
              have jz := in_w (x : Int) (zs Z) q6 c6 w7 true rz7 (by omega) (by rw [mem_zs_dec]; exact decide_eq_true hx)
              clear hx
              go_wp2_with (first
                | (go_at_call 30; refine jz.mono ?_; rintro e w' ⟨rfl, rfl⟩))
              go_round
              case rel => exact ⟨k + 1, by omega, by go_num⟩
              case measure => simp [intOf]; omega
            · obtain rfl : k = (zs V).length := by omega
              have haw := awake_any w7
              go_wp2_with (first
                | (go_at_call 21; refine haw.mono ?_; rintro e w8 ⟨rfl, hb8⟩))
              go_ret
              exact ⟨rfl, hw7.trans (hb8.mono hw7.size)⟩
    · clear r ra rb hw hai hbi han hbn
      go_enter Try.func7, Try.ntmps7
      go_wp2_with (first
        | (go_at_call 9; refine hfew.mono ?_; rintro e w' ⟨rfl, rfl⟩))
      go_ret
      exact ⟨rfl, Below.refl _ _⟩
end Go.Proofs.Ytbjeaogblpjpeaa

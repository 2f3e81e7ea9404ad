/-
  The document's Union, Common, Apart, by the same contracts.
-/
import Derived.Test.YtmkppbcngpgkdaaOWithin
import Derived.Test.YtmkppbcngpgkdaaORef
namespace Go.Proofs.Ytmkppbcngpgkdaa
open Go.RowKit Go.Maps

/-- The least met so far. -/
def lstep (above : Int) (any : Bool) (s : Int × Bool) (x : Int) : Int × Bool := if (any = true ∨ above < x) ∧ (s.2 = false ∨ x < s.1) then (x, true) else s
def lst (above : Int) (any : Bool) (l : List Int) : Int × Bool := l.foldl (lstep above any) (0, false)
theorem lst_snoc (above : Int) (any : Bool) (l : List Int) (x : Int) : lst above any (l ++ [x]) = lstep above any (lst above any l) x := by
  unfold lst
  rw [List.foldl_append]
  rfl
structure Lst (above : Int) (any : Bool) (l : List Int) (s : Int × Bool) : Prop where
  no : s.2 = false → ∀ x ∈ l, ¬ (any = true ∨ above < x)
  yes : s.2 = true → s.1 ∈ l ∧ (any = true ∨ above < s.1) ∧ ∀ x ∈ l, (any = true ∨ above < x) → s.1 ≤ x
theorem lst_ok (above : Int) (any : Bool) : ∀ l : List Int, Lst above any l (lst above any l) := by
  intro l
  induction h : l.length generalizing l with
  | zero =>
    obtain rfl := List.eq_nil_of_length_eq_zero h
    exact ⟨fun _ x hx => by simp at hx, fun h => by simp [lst] at h⟩
  | succ n ih =>
    have hne : l ≠ [] := by rintro rfl; simp at h
    have hl : l = l.dropLast ++ [l.getLast hne] := (List.dropLast_concat_getLast hne).symm
    generalize l.dropLast = a at hl
    generalize l.getLast hne = x at hl
    subst hl
    have ih' := ih a (by simpa using h)
    rw [lst_snoc]
    generalize lst above any a = s at ih'
    unfold lstep
    split
    · rename_i hc
      refine ⟨fun h => absurd h (by simp), fun _ => ⟨by simp, hc.1, fun y hy hcy => ?_⟩⟩
      rcases List.mem_append.1 hy with hy | hy
      · cases hs : s.2 with
        | false => exact absurd hcy (ih'.no hs y hy)
        | true =>
          have h1 := (ih'.yes hs).2.2 y hy hcy
          rcases hc.2 with h2 | h2
          · rw [hs] at h2; cases h2
          · show x ≤ y; omega
      · rw [List.mem_singleton.1 hy]; exact Int.le_refl _
    · rename_i hc
      refine ⟨fun hs y hy => ?_, fun hs => ?_⟩
      · rcases List.mem_append.1 hy with hy | hy
        · exact ih'.no hs y hy
        · rw [List.mem_singleton.1 hy]
          exact fun h => hc ⟨h, .inl hs⟩
      · obtain ⟨h1, h2, h3⟩ := ih'.yes hs
        refine ⟨List.mem_append_left _ h1, h2, fun y hy hcy => ?_⟩
        rcases List.mem_append.1 hy with hy | hy
        · exact h3 y hy hcy
        · rw [List.mem_singleton.1 hy] at hcy ⊢
          have : ¬ x < s.1 := fun h => hc ⟨hcy, .inr h⟩
          omega
theorem flat_row (P : List (List Int)) (k : Nat) (hk : k < P.length) : (P.take (k + 1)).flatten = (P.take k).flatten ++ P.getD k [] := by
  rw [take_snoc P k [] hk, List.flatten_append]
  simp
theorem ret_least {a c : Int} {b d : Bool} (h : a = c) (h' : b = d) : Ending.returned (.tuple #[.int .i64 a, .bool b]) = .returned (.tuple #[.int .i64 c, .bool d]) := by rw [h, h']
theorem lstep_yes {above : Int} {any : Bool} {s : Int × Bool} {x : Int} (h1 : any = true ∨ above < x) (h2 : s.2 = false ∨ x < s.1) : lstep above any s x = (x, true) := by unfold lstep; rw [if_pos ⟨h1, h2⟩]
theorem lstep_no1 {above : Int} {any : Bool} {s : Int × Bool} {x : Int} (h1 : ¬ (any = true ∨ above < x)) : lstep above any s x = s := by unfold lstep; rw [if_neg fun h => h1 h.1]
theorem lstep_no2 {above : Int} {any : Bool} {s : Int × Bool} {x : Int} (h1 : ¬ (s.2 = false ∨ x < s.1)) : lstep above any s x = s := by unfold lstep; rw [if_neg fun h => h1 h.2]

set_option maxHeartbeats 8000000 in
theorem least_any (P : List (List Int)) (above : Int) (any : Bool) (p : Option Addr) (c : Nat) (w : World) (r : RdR (· < w.heap.size) w p c P) (hP : P.length ≤ 1000) (hl : ∀ x ∈ P, x.length ≤ 1000) :
    Calls Try.prog 29 #[.slice p P.length c, .int .i64 above, .bool any] w fun e w' => e = .returned (.tuple #[.int .i64 (lst above any P.flatten).1, .bool (lst above any P.flatten).2]) ∧ w = w' := by
  have HL : Hid (∀ x ∈ P, x.length ≤ 1000) := hl
  obtain ⟨n, hn⟩ : ∃ n, P.length = n := ⟨_, rfl⟩
  have HN : Hid (P.length = n) := hn
  rw [hn] at hP ⊢
  clear hn hl
  go_enter Try.func29, Try.ntmps29
  go_wp2
  go_loopw [8, 9, 10] (fun nv ov i wr => ∃ (k : Nat) (s : Int × Bool), k ≤ n ∧ i = .int .i64 k ∧ nv = .int .i64 s.1 ∧ ov = .bool s.2 ∧ wr = w ∧ Hid (lst above any (P.take k).flatten = s)) (fun _ _ i _ => n - (intOf i).toNat)
  case atStart => exact ⟨0, (0, false), Nat.zero_le _, rfl, rfl, rfl, rfl, rfl⟩
  case round =>
    obtain ⟨k, ⟨sn, so⟩, hk, rfl, rfl, rfl, rfl, HA⟩ := hrel
    by_cases hlt : k < n
    · obtain ⟨ad, p1, c1, rfl, _, hcell, hr⟩ := r.at k (by rw [HN.out]; exact hlt)
      have hrl := HL.out _ (getD_inm (l := P) (j := k) (d := []) (by rw [HN.out]; exact hlt))
      have HF : Hid _ := flat_row P k (by rw [HN.out]; exact hlt)
      generalize P.getD k [] = row at *
      have HA0 : Hid (lst above any ((P.take k).flatten ++ row.take 0) = (sn, so)) := by
        show _ = _
        rw [List.take_zero, List.append_nil]
        exact HA.out
      clear HA
      dsimp only
      go_wp2
      go_loopw [8, 9, 11] (fun nv ov i wx => ∃ (j : Nat) (s : Int × Bool), j ≤ row.length ∧ i = .int .i64 j ∧ nv = .int .i64 s.1 ∧ ov = .bool s.2 ∧ wx = wr ∧ Hid (lst above any ((P.take k).flatten ++ row.take j) = s)) (fun _ _ i _ => row.length - (intOf i).toNat)
      case atStart => exact ⟨0, (sn, so), Nat.zero_le _, rfl, rfl, rfl, rfl, HA0⟩
      case round =>
        clear HA0
        obtain ⟨j, ⟨tn, to⟩, hj, rfl, rfl, rfl, rfl, HA⟩ := hrel
        by_cases hjt : j < row.length
        · obtain ⟨ad, rfl, _, hc1⟩ := hr.at j 0 hjt
          have HT2 : Hid (lst above any ((P.take k).flatten ++ row.take (j + 1)) = lstep above any (tn, to) (row.getD j 0)) := by
            show _ = _
            rw [take_snoc row j 0 hjt, ← List.append_assoc, lst_snoc, HA.out]
          clear HA
          generalize row.getD j 0 = x at *
          have HY : Hid ((any = true ∨ above < x) → (to = false ∨ x < tn) → lst above any ((P.take k).flatten ++ row.take (j + 1)) = (x, true)) := fun h1 h2 => HT2.out.trans (lstep_yes h1 h2)
          have HN1 : Hid (¬ (any = true ∨ above < x) → lst above any ((P.take k).flatten ++ row.take (j + 1)) = (tn, to)) := fun h1 => HT2.out.trans (lstep_no1 h1)
          have HN2 : Hid (¬ (to = false ∨ x < tn) → lst above any ((P.take k).flatten ++ row.take (j + 1)) = (tn, to)) := fun h1 => HT2.out.trans (lstep_no2 h1)
          clear HT2
          dsimp only
          cases any with
          | true =>
            cases to with
            | false =>
              have HE : Hid _ := HY.out (.inl rfl) (.inl rfl)
              clear HY HN1 HN2
              go_wp2
              go_roundw
              case rel => exact ⟨j + 1, (x, true), by omega, by go_num, rfl, rfl, by first | rfl | trivial, HE⟩
              case measure => simp [intOf]; omega
            | true =>
              by_cases hx : x < tn
              · have HE : Hid _ := HY.out (.inl rfl) (.inr hx)
                have dx : decide (x < tn) = true := decide_eq_true hx
                clear HY HN1 HN2
                go_wp2
                go_roundw
                case rel => exact ⟨j + 1, (x, true), by omega, by go_num, rfl, rfl, by first | rfl | trivial, HE⟩
                case measure => simp [intOf]; omega
              · have HE : Hid _ := HN2.out (by rintro (h | h); { cases h }; { exact hx h })
                have dx : decide (x < tn) = false := decide_eq_false hx
                clear HY HN1 HN2
                go_wp2
                go_roundw
                case rel => exact ⟨j + 1, (tn, true), by omega, by go_num, rfl, rfl, by first | rfl | trivial, HE⟩
                case measure => simp [intOf]; omega
          | false =>
            by_cases ha : above < x
            · have da : decide (above < x) = true := decide_eq_true ha
              cases to with
              | false =>
                have HE : Hid _ := HY.out (.inr ha) (.inl rfl)
                clear HY HN1 HN2
                go_wp2
                go_roundw
                case rel => exact ⟨j + 1, (x, true), by omega, by go_num, rfl, rfl, by first | rfl | trivial, HE⟩
                case measure => simp [intOf]; omega
              | true =>
                by_cases hx : x < tn
                · have HE : Hid _ := HY.out (.inr ha) (.inr hx)
                  have dx : decide (x < tn) = true := decide_eq_true hx
                  clear HY HN1 HN2
                  go_wp2
                  go_roundw
                  case rel => exact ⟨j + 1, (x, true), by omega, by go_num, rfl, rfl, by first | rfl | trivial, HE⟩
                  case measure => simp [intOf]; omega
                · have HE : Hid _ := HN2.out (by rintro (h | h); { cases h }; { exact hx h })
                  have dx : decide (x < tn) = false := decide_eq_false hx
                  clear HY HN1 HN2
                  go_wp2
                  go_roundw
                  case rel => exact ⟨j + 1, (tn, true), by omega, by go_num, rfl, rfl, by first | rfl | trivial, HE⟩
                  case measure => simp [intOf]; omega
            · have da : decide (above < x) = false := decide_eq_false ha
              have HE : Hid _ := HN1.out (by rintro (h | h); { cases h }; { exact ha h })
              clear HY HN1 HN2
              go_wp2
              go_roundw
              case rel => exact ⟨j + 1, (tn, to), by omega, by go_num, rfl, rfl, by first | rfl | trivial, HE⟩
              case measure => simp [intOf]; omega
        · obtain rfl : j = row.length := by omega
          have HE : Hid (lst above any (P.take (k + 1)).flatten = (tn, to)) := by
            show _ = _
            rw [HF.out]
            have := HA.out
            rw [List.take_length] at this
            exact this
          clear HA HF
          dsimp only
          go_wp2
          go_roundw
          case rel => exact ⟨k + 1, (tn, to), by omega, by go_num, rfl, rfl, by first | rfl | trivial, HE⟩
          case measure => simp [intOf]; omega
    · obtain rfl : k = n := by omega
      have HE : Hid (lst above any P.flatten = (sn, so)) := by
        have := HA.out
        rw [← HN.out, List.take_length] at this
        exact this
      dsimp only
      go_wp2
      go_ret2
      exact ⟨by rw [HE.out]; rfl, rfl⟩
theorem flat_fr {P : List (List Int)} {x : Int} : x ∈ P.flatten ↔ 0 < fr P x := by
  rw [fr_pos, List.mem_flatten]
theorem flat_len {m : Nat} : ∀ {P : List (List Int)}, (∀ r ∈ P, r.length ≤ m) → P.flatten.length ≤ P.length * m
  | [], _ => by simp
  | r :: P, h => by
    have h1 := flat_len (P := P) fun x hx => h x (by simp [hx])
    have h2 := h r (by simp)
    rw [List.flatten_cons, List.length_append, List.length_cons, Nat.succ_mul]
    omega
theorem subz_len : ∀ {l T : List Int}, l.Nodup → (∀ x ∈ l, x ∈ T) → l.length ≤ T.length
  | [], _, _, _ => by simp
  | a :: r, T, hn, h => by
    rw [List.nodup_cons] at hn
    have h1 := subz_len (T := T.erase a) hn.2 fun x hx => (List.mem_erase_of_ne (by rintro rfl; exact hn.1 hx)).2 (h x (by simp [hx]))
    have h2 := h a (by simp)
    rw [List.length_erase_of_mem h2] at h1
    have := List.length_pos_of_mem h2
    simp
    omega
theorem rise_nodup {l : List Int} (h : l.Pairwise (· < ·)) : l.Nodup := h.imp fun h e => by omega
theorem rise_snoc {L : List Int} {x : Int} (h : L.Pairwise (· < ·)) (hx : ∀ y ∈ L, y < x) : (L ++ [x]).Pairwise (· < ·) := by
  rw [List.pairwise_append]
  exact ⟨h, by simp, fun a ha b hb => by rw [List.mem_singleton.1 hb]; exact hx a ha⟩
/-- Told so far, and what comes next. -/
structure Un (F L : List Int) (s : Int × Bool) : Prop where
  rise : L.Pairwise (· < ·)
  sub : ∀ x ∈ L, x ∈ F
  no : s.2 = false → ∀ x ∈ F, x ∈ L
  yes : s.2 = true → s.1 ∈ F ∧ (∀ x ∈ L, x < s.1) ∧ ∀ x ∈ F, x ∈ L ∨ s.1 ≤ x
theorem Un.start (F : List Int) : Un F [] (lst 0 true F) := by
  have h := lst_ok 0 true F
  refine ⟨List.Pairwise.nil, by simp, fun hs x hx => absurd (.inl rfl) (h.no hs x hx), fun hs => ?_⟩
  obtain ⟨h1, _, h3⟩ := h.yes hs
  exact ⟨h1, by simp, fun x hx => .inr (h3 x hx (.inl rfl))⟩
theorem Un.step {F L : List Int} {n : Int} (h : Un F L (n, true)) : Un F (L ++ [n]) (lst n false F) := by
  obtain ⟨h1, h2, h3⟩ := h.yes rfl
  have hl := lst_ok n false F
  refine ⟨rise_snoc h.rise h2, fun x hx => ?_, fun hs x hx => ?_, fun hs => ?_⟩
  · rcases List.mem_append.1 hx with h' | h'
    · exact h.sub x h'
    · rw [List.mem_singleton.1 h']; exact h1
  · have := hl.no hs x hx
    rw [List.mem_append, List.mem_singleton]
    rcases h3 x hx with h' | h'
    · exact .inl h'
    · have h4 : ¬ n < x := fun h => this (.inr h)
      simp only at h'
      right; omega
  · obtain ⟨g1, g2, g3⟩ := hl.yes hs
    have g2' : n < (lst n false F).1 := g2.resolve_left (by simp)
    refine ⟨g1, fun x hx => ?_, fun x hx => ?_⟩
    · rcases List.mem_append.1 hx with h' | h'
      · have := h2 x h'; simp only at this; omega
      · rw [List.mem_singleton.1 h']; exact g2'
    · rw [List.mem_append, List.mem_singleton]
      rcases h3 x hx with h' | h'
      · exact .inl (.inl h')
      · simp only at h'
        by_cases e : x = n
        · exact .inl (.inr e)
        · exact .inr (g3 x hx (.inr (by omega)))
theorem Un.len {F L : List Int} {n : Int} (h : Un F L (n, true)) : L.length < F.length := by
  have h2 := h.step
  have := subz_len (rise_nodup h2.rise) h2.sub
  simp at this
  omega
theorem Un.done {P : List (List Int)} {L : List Int} {n : Int} (h : Un P.flatten L (n, false)) : Rs P 1 P.length L := by
  refine ⟨h.rise, fun x => ?_⟩
  have h1 := fr_le P x
  constructor
  · intro hx
    have := flat_fr.1 (h.sub x hx)
    exact ⟨this, by omega, by omega⟩
  · rintro ⟨a, _, _⟩
    exact h.no rfl x (flat_fr.2 a)
def lenW : Value → Nat
  | .slice _ n _ => n
  | _ => 0

set_option maxHeartbeats 8000000 in
theorem runion_any (P : List (List Int)) (p : Option Addr) (c : Nat) (w : World) (r : RdR (· < w.heap.size) w p c P) (hP : P.length ≤ 1000) (hl : ∀ x ∈ P, x.length ≤ 1000) :
    Calls Try.prog 16 #[.slice p P.length c] w (WithinP P 1 P.length w) := by
  have HLs : Hid (∀ wx, Below w.heap.size w wx → ∀ above any, Calls Try.prog 29 #[.slice p P.length c, .int .i64 above, .bool any] wx fun e w' => e = .returned (.tuple #[.int .i64 (lst above any P.flatten).1, .bool (lst above any P.flatten).2]) ∧ wx = w') := fun wx hx above any =>
    least_any P above any p c wx ((r.below hx).carry (fun _ _ => rfl) fun k hk => Nat.lt_of_lt_of_le hk hx.size) hP hl
  have hfl : P.flatten.length ≤ 1000000 := by
    have h1 := flat_len hl
    have : P.length * 1000 ≤ 1000 * 1000 := Nat.mul_le_mul_right _ hP
    omega
  have HU0 : Hid (Un P.flatten [] (lst 0 true P.flatten)) := Un.start _
  have HD : Hid (∀ L n, Un P.flatten L (n, false) → Rs P 1 P.length L) := fun L n h => h.done
  obtain ⟨B, hB⟩ : ∃ B, w.heap.size = B := ⟨_, rfl⟩
  have HB : Hid (w.heap.size = B) := hB
  rw [hB] at HLs
  have h0 := HLs.out w (Below.refl _ _) 0 true
  obtain ⟨F, hF⟩ : ∃ F, P.flatten = F := ⟨_, rfl⟩
  rw [hF] at HLs h0 hfl HU0 HD
  obtain ⟨s0, hs0⟩ : ∃ s, lst 0 true F = s := ⟨_, rfl⟩
  rw [hs0] at h0 HU0
  clear hF hs0 r hl hB
  generalize P.length = n at *
  go_enter Try.func16, Try.ntmps16
  go_wp2_with (first
    | (go_at_call 29; refine h0.mono ?_; rintro e w' ⟨rfl, rfl⟩))
  go_loopw [3, 4, 5] (fun tv nv ov wr => ∃ (L : List Int) (s : Int × Bool), wr.ownsRow B 3 1 tv L.length (L.map (Value.int .i64)) ∧ nv = .int .i64 s.1 ∧ ov = .bool s.2 ∧ Hid (Un F L s) ∧ Below B w wr) (fun tv _ _ _ => F.length - lenW tv)
  case atStart => exact ⟨[], s0, World.ownsRow_nil _ _ _ _, rfl, rfl, HU0, Below.refl _ _⟩
  case round =>
    obtain ⟨L, ⟨n1, o1⟩, hown, rfl, rfl, HU, hbl⟩ := hrel
    have hbB := hbl.size
    rw [HB.out] at hbB
    clear HU0 h0
    dsimp only
    cases o1 with
    | false =>
      have HRs : Hid _ := HD.out L n1 HU.out
      have hL : L.length ≤ F.length := subz_len (rise_nodup HU.out.rise) HU.out.sub
      go_wp2
      go_ret
      exact ⟨_, L, rfl, by rw [HB.out]; exact hown, HRs.out, by omega, by rw [HB.out]; exact hbl⟩
    | true =>
      have hLt := HU.out.len
      have HU2 : Hid (Un F (L ++ [n1]) (lst n1 false F)) := HU.out.step
      obtain ⟨q, cq, htv, _⟩ := own_rd hown
      subst htv
      have tok1 : True := trivial
      go_wp2_with (first
        | (at_builtin; have _t := tok1; refine wpList_push rfl (.tmp 12) (.tmp 14) 25 3 (.int .i64 0) 8 rfl Try.underlying25 Try.info3 rfl (by decide) int_one B _ L rfl ?a0 _ n1 rfl ?a1 ?a2 ?a3 ?_; clear tok1))
      case a0 => exact hown.alloc _
      case a1 => exact cell_row (cur := [_]) (heap_alloc_new _ _) 0 _ rfl
      case a2 => omega
      case a3 => simp; omega
      intro v' w5 ho5 hg5 _
      have ho6 : w5.ownsRow B 3 1 v' (L ++ [n1]).length ((L ++ [n1]).map (Value.int .i64)) := by rw [List.length_append, List.map_append]; exact ho5
      have hbl5 : Below B w w5 := (hbl.alloc hbB _).grown hg5 (by simp; omega) fun k hk => (hown.lt k hk).1
      have hls := HLs.out w5 hbl5 n1 false
      obtain ⟨q7, c7, hv7, _⟩ := own_rd ho6
      have HLV : Hid (lenW v' = L.length + 1) := by rw [hv7]; show _ = _; simp [lenW]
      have HO6 : Hid _ := ho6
      clear ho5 hg5 hown hv7 ho6
      generalize lst n1 false F = s2 at *
      go_wp2_with (first
        | (go_at_call 29; refine hls.mono ?_; rintro e w' ⟨rfl, rfl⟩))
      go_roundw
      case rel => exact ⟨L ++ [n1], s2, HO6.out, rfl, rfl, HU2, hbl5⟩
      case measure =>
        have := HLV.out
        simp [lenW] at this ⊢
        omega

set_option maxHeartbeats 4000000 in
theorem every_any (x : Int) (P : List (List Int)) (p : Option Addr) (c : Nat) (w : World) (r : RdR (· < w.heap.size) w p c P) (hP : P.length ≤ 1000) (hl : ∀ x ∈ P, x.length ≤ 1000) :
    Calls Try.prog 35 #[.int .i64 x, .slice p P.length c] w fun e w' => e = .returned (.bool (decide (∀ r ∈ P, x ∈ r))) ∧ w = w' := by
  have HL : Hid (∀ x ∈ P, x.length ≤ 1000) := hl
  obtain ⟨n, hn⟩ : ∃ n, P.length = n := ⟨_, rfl⟩
  have HN : Hid (P.length = n) := hn
  rw [hn] at hP ⊢
  clear hn hl
  go_enter Try.func35, Try.ntmps35
  go_wp2
  go_loopw [5] (fun i wr => ∃ k : Nat, k ≤ n ∧ i = .int .i64 k ∧ wr = w ∧ Hid (∀ r ∈ P.take k, x ∈ r)) (fun i _ => n - (intOf i).toNat)
  case atStart => exact ⟨0, Nat.zero_le _, rfl, rfl, by show ∀ _ ∈ _, _; simp⟩
  case round =>
    obtain ⟨k, hk, rfl, rfl, HA⟩ := hrel
    by_cases hlt : k < n
    · have hkl : k < P.length := by rw [HN.out]; exact hlt
      obtain ⟨ad, p1, c1, rfl, _, hc, hr⟩ := r.at k hkl
      have hrl := HL.out _ (getD_inm (d := []) hkl)
      have hh := has_any x (P.getD k []) p1 c1 wr hr (by omega)
      have HT : Hid (P.take (k + 1) = P.take k ++ [P.getD k []]) := take_snoc P k [] hkl
      have HM : Hid (P.getD k [] ∈ P) := getD_inm hkl
      generalize P.getD k [] = row at *
      by_cases e : x ∈ row
      · have HE : Hid (x ∈ row) := e
        rw [decide_eq_true e] at hh
        clear e
        go_wp2_with (first
          | (go_at_call 26; refine hh.mono ?_; rintro e w' ⟨rfl, rfl⟩))
        go_roundw
        case rel =>
          refine ⟨k + 1, by omega, by go_num, by first | rfl | trivial, fun z hz => ?_⟩
          rw [HT.out, List.mem_append, List.mem_singleton] at hz
          exact hz.elim (HA.out z) fun h => h ▸ HE.out
        case measure => simp [intOf]; omega
      · have HE : Hid (¬ ∀ r ∈ P, x ∈ r) := fun h => e (h row HM.out)
        rw [decide_eq_false e] at hh
        clear e
        go_wp2_with (first
          | (go_at_call 26; refine hh.mono ?_; rintro e w' ⟨rfl, rfl⟩))
        go_ret
        exact ⟨ret_bool (decide_eq_false HE.out).symm, rfl⟩
    · obtain rfl : k = n := by omega
      have HF : Hid (∀ r ∈ P, x ∈ r) := by have := HA.out; rw [← HN.out, List.take_length] at this; exact this
      go_wp2
      go_ret
      exact ⟨ret_bool (decide_eq_true HF.out).symm, rfl⟩
/-- Of a row those that are in every row, or those that are not. -/
def pk (P : List (List Int)) (all : Bool) (l : List Int) : List Int := l.filter fun x => decide (∀ r ∈ P, x ∈ r) == all
theorem pk_rs {P : List (List Int)} {l : List Int} (h : Rs P 1 P.length l) (all : Bool) : Rs P (if all then P.length else 1) (if all then (P.length : Int) else P.length - 1) (pk P all l) := by
  refine ⟨List.Pairwise.filter _ h.rise, fun x => ?_⟩
  have h1 := fr_le P x
  have h2 := fr_all (P := P) (x := x)
  unfold pk
  rw [List.mem_filter, h.mem x]
  cases all with
  | true =>
    simp only [if_true]
    rw [show (decide (∀ r ∈ P, x ∈ r) == true) = true ↔ fr P x = P.length by rw [h2]; simp]
    omega
  | false =>
    simp only [Bool.false_eq_true, if_false]
    rw [show (decide (∀ r ∈ P, x ∈ r) == false) = true ↔ ¬ fr P x = P.length by rw [h2]; simp]
    omega
theorem pk_snoc (P : List (List Int)) (all : Bool) (l : List Int) (x : Int) : pk P all (l ++ [x]) = pk P all l ++ if decide (∀ r ∈ P, x ∈ r) = all then [x] else [] := by
  unfold pk
  rw [List.filter_append]
  congr 1
  by_cases h : decide (∀ r ∈ P, x ∈ r) = all
  · rw [if_pos h, List.filter_cons_of_pos (by rw [h]; simp)]
    rfl
  · rw [if_neg h, List.filter_cons_of_neg (by simpa using h)]
    rfl

set_option maxHeartbeats 8000000 in
theorem picked_any (P : List (List Int)) (all : Bool) (p : Option Addr) (c : Nat) (w : World) (r : RdR (· < w.heap.size) w p c P) (hP : P.length ≤ 1000) (hl : ∀ x ∈ P, x.length ≤ 1000) :
    Calls Try.prog 30 #[.slice p P.length c, .bool all] w (WithinP P (if all then P.length else 1) (if all then (P.length : Int) else P.length - 1) w) := by
  have hun := runion_any P p c w r hP hl
  have HEv : Hid (∀ wx, Below w.heap.size w wx → ∀ x, Calls Try.prog 35 #[.int .i64 x, .slice p P.length c] wx fun e w' => e = .returned (.bool (decide (∀ r ∈ P, x ∈ r))) ∧ wx = w') := fun wx hx x =>
    every_any x P p c wx ((r.below hx).carry (fun _ _ => rfl) fun k hk => Nat.lt_of_lt_of_le hk hx.size) hP hl
  have HPk : Hid (∀ l, Rs P 1 P.length l → Rs P (if all then P.length else 1) (if all then (P.length : Int) else P.length - 1) (pk P all l)) := fun l h => pk_rs h all
  obtain ⟨lo, hlo⟩ : ∃ lo : Int, (if all then (P.length : Int) else 1) = lo := ⟨_, rfl⟩
  obtain ⟨hi, hhi⟩ : ∃ hi : Int, (if all then (P.length : Int) else P.length - 1) = hi := ⟨_, rfl⟩
  rw [hlo, hhi] at HPk ⊢
  obtain ⟨B, hB⟩ : ∃ B, w.heap.size = B := ⟨_, rfl⟩
  have HB : Hid (w.heap.size = B) := hB
  rw [hB] at HEv
  unfold WithinP at hun
  rw [hB] at hun
  clear hlo hhi r hl hB
  generalize P.length = n at *
  go_enter Try.func30, Try.ntmps30
  go_wp2_with (first
    | (go_at_call 16; refine hun.mono ?_; rintro e w1 ⟨uv, U, rfl, hU, hrs, hUl, hb1⟩; have HRs : Hid _ := hrs; clear hrs))
  obtain ⟨q, cq, huv, hrd⟩ := own_rd hU
  subst huv
  have HRd : Hid (∀ wx, Below w1.heap.size w1 wx → RdI (· < w1.heap.size) wx q cq U) := fun wx hx => (hrd.carry (fun k e => hx.block k (hU.lt k e).2) fun k e => (hU.lt k e).2)
  have HPu : Hid _ := HPk.out U HRs.out
  clear hU hrd hun HRs HPk
  obtain ⟨m, hm⟩ : ∃ m, U.length = m := ⟨_, rfl⟩
  have HM : Hid (U.length = m) := hm
  rw [hm] at hUl ⊢
  obtain ⟨B1, hB1⟩ : ∃ B1, w1.heap.size = B1 := ⟨_, rfl⟩
  have hBB : B ≤ B1 := by rw [← HB.out, ← hB1]; exact hb1.size
  rw [hB1] at HRd
  have HB1 : Hid (w1.heap.size = B1) := hB1
  clear hm hB1
  go_loopw [6, 7] (fun tv i wr => ∃ k : Nat, k ≤ m ∧ i = .int .i64 k ∧ wr.ownsRow B1 3 1 tv (pk P all (U.take k)).length ((pk P all (U.take k)).map (Value.int .i64)) ∧ Below B1 w1 wr) (fun _ i _ => m - (intOf i).toNat)
  case atStart => exact ⟨0, Nat.zero_le _, rfl, World.ownsRow_nil _ _ _ _, Below.refl _ _⟩
  case round =>
    obtain ⟨k, hk, rfl, hown, hbl⟩ := hrel
    have hbB := hbl.size
    rw [HB1.out] at hbB
    by_cases hlt : k < m
    · have hkl : k < U.length := by rw [HM.out]; exact hlt
      obtain ⟨ad, rfl, _, hc⟩ := (HRd.out wr hbl).at k 0 hkl
      have HT : Hid (pk P all (U.take (k + 1)) = pk P all (U.take k) ++ if decide (∀ r ∈ P, U.getD k 0 ∈ r) = all then [U.getD k 0] else []) := by
        show _ = _
        rw [take_snoc U k 0 hkl, pk_snoc]
      have hpl : (pk P all (U.take k)).length ≤ k := Nat.le_trans (List.length_filter_le _ _) (by rw [List.length_take]; omega)
      have hev := HEv.out wr (hb1.trans (hbl.mono hBB)) (U.getD k 0)
      generalize U.getD k 0 = x at *
      generalize decide (∀ r ∈ P, x ∈ r) = t at *
      generalize hL : pk P all (U.take k) = L at *
      clear hL
      by_cases e : t = all
      · have e' : (t == all) = true := by simpa using e
        rw [if_pos e] at HT
        clear e
        go_wp2_with (first
          | (go_at_call 35; refine hev.mono ?_; rintro e w' ⟨rfl, rfl⟩)
          | (at_builtin; refine wpList_push rfl (.tmp 24) (.tmp 29) 25 3 (.int .i64 0) 8 rfl Try.underlying25 Try.info3 rfl (by decide) int_one B1 _ L rfl ?a0 _ x rfl ?a1 ?a2 ?a3 ?_))
        case a0 => exact hown.alloc _
        case a1 => exact cell_row (cur := [_]) (heap_alloc_new _ _) 0 _ rfl
        case a2 => omega
        case a3 => simp; omega
        intro v' w5 ho5 hg5 _
        have HO6 : Hid (w5.ownsRow B1 3 1 v' (pk P all (U.take (k + 1))).length ((pk P all (U.take (k + 1))).map (Value.int .i64))) := by
          show World.ownsRow _ _ _ _ _ _ _
          rw [HT.out, List.length_append, List.map_append]; exact ho5
        have hbl5 : Below B1 w1 w5 := (hbl.alloc hbB _).grown hg5 (by simp; omega) fun k hk => (hown.lt k hk).1
        clear ho5 hg5 hown
        go_wp2
        go_roundw
        case rel => exact ⟨k + 1, by omega, by go_num, HO6.out, hbl5⟩
        case measure => simp [intOf]; omega
      · have e' : (t == all) = false := by simpa using e
        rw [if_neg e, List.append_nil] at HT
        clear e
        go_wp2_with (first
          | (go_at_call 35; refine hev.mono ?_; rintro e w' ⟨rfl, rfl⟩))
        go_roundw
        case rel => exact ⟨k + 1, by omega, by go_num, by rw [HT.out]; exact hown, hbl⟩
        case measure => simp [intOf]; omega
    · obtain rfl : k = m := by omega
      rw [← HM.out, List.take_length] at hown
      have hpl : (pk P all U).length ≤ U.length := List.length_filter_le _ _
      rw [HM.out] at hpl
      go_wp2
      go_ret
      exact ⟨_, _, rfl, by rw [HB.out]; exact own_le hown hBB, HPu.out, by omega, by rw [HB.out]; exact hb1.trans (hbl.mono hBB)⟩

set_option maxHeartbeats 1000000 in
theorem rcommon_any (P : List (List Int)) (p : Option Addr) (c : Nat) (w : World) (r : RdR (· < w.heap.size) w p c P) (hP : P.length ≤ 1000) (hl : ∀ x ∈ P, x.length ≤ 1000) :
    Calls Try.prog 18 #[.slice p P.length c] w (WithinP P P.length P.length w) := by
  have hc := picked_any P true p c w r hP hl
  simp only [if_true] at hc
  generalize P.length = n at *
  clear r hl
  go_enter Try.func18, Try.ntmps18
  go_wp2_with (first
    | (go_at_call 30; refine hc.mono ?_; rintro e w1 ⟨v, l, rfl, h⟩))
  go_ret
  exact ⟨v, l, rfl, h⟩
set_option maxHeartbeats 1000000 in
theorem rapart_any (P : List (List Int)) (p : Option Addr) (c : Nat) (w : World) (r : RdR (· < w.heap.size) w p c P) (hP : P.length ≤ 1000) (hl : ∀ x ∈ P, x.length ≤ 1000) :
    Calls Try.prog 20 #[.slice p P.length c] w (WithinP P 1 ((P.length : Int) - 1) w) := by
  have hc := picked_any P false p c w r hP hl
  simp only [Bool.false_eq_true, if_false] at hc
  generalize P.length = n at *
  clear r hl
  go_enter Try.func20, Try.ntmps20
  go_wp2_with (first
    | (go_at_call 30; refine hc.mono ?_; rintro e w1 ⟨v, l, rfl, h⟩))
  go_ret
  exact ⟨v, l, rfl, h⟩
end Go.Proofs.Ytmkppbcngpgkdaa

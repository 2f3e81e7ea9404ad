/-
  The document's Heads and Missing, by contracts.
-/
import Derived.Test.YtbjeaogblpjpeaaGRefW
import Derived.Test.YtbjeaogblpjpeaaGHeads
namespace Go.Proofs.Ytbjeaogblpjpeaa
open Go.RowKit Go.Maps

/-- No kept place between j and k follows j. -/
def Hd (K : List Bool) (E : Nat → List Nat) (j k : Nat) : Prop := K.getD j false = true ∧ ∀ x, j < x → x < k → K.getD x false = true → j ∉ E x
theorem hd_next {K : List Bool} {E : Nat → List Nat} {j k : Nat} (hk : j < k) : Hd K E j (k + 1) ↔ Hd K E j k ∧ ¬ (K.getD k false = true ∧ j ∈ E k) := by
  unfold Hd
  constructor
  · rintro ⟨h1, h2⟩
    exact ⟨⟨h1, fun x a b c => h2 x a (by omega) c⟩, fun ⟨a, b⟩ => h2 k hk (by omega) a b⟩
  · rintro ⟨⟨h1, h2⟩, h3⟩
    refine ⟨h1, fun x a b c d => ?_⟩
    by_cases e : x = k
    · subst e; exact h3 ⟨c, d⟩
    · exact h2 x a (by omega) c d
theorem hd_end {K : List Bool} {E : Nat → List Nat} {j m : Nat} (hE : ∀ i, ∀ j ∈ E i, j < i) (hj : j < m) : Hd K E j m ↔ j ∈ heads m K E := by
  rw [mem_heads]
  unfold Hd
  constructor
  · rintro ⟨h1, h2⟩
    exact ⟨hj, h1, fun k hk hkk he => h2 k (hE k j he) hk hkk he⟩
  · rintro ⟨_, h1, h2⟩
    exact ⟨h1, fun x _ b c => h2 x b c⟩
set_option maxRecDepth 100000 in
set_option maxHeartbeats 4000000 in
theorem rheads_any {O : Nat → Prop} {hb : Nat} {T : List Th} (K : List Bool) (p : Option Addr) (c : Nat) (w : World) (h : Rp O w hb T) (hg : Good T) (r : RdB (· < w.heap.size) w p c K) (hT : T.length ≤ 100) (_hK : K.length ≤ 1000) :
    Calls Try.prog 26 #[.pointer (some ⟨hb, 0, none⟩), .slice p K.length c] w (HeadsP (min K.length T.length) K (prevs T) w) := by
  have HQ : Hid (∀ wx, Below w.heap.size w wx → Rp O wx hb T) := fun wx hb => h.below hb
  have HG : Hid (Good T) := hg
  obtain ⟨m, hm⟩ : ∃ m, min K.length T.length = m := ⟨_, rfl⟩
  have hmK : m ≤ K.length := by omega
  have hmn : m ≤ T.length := by omega
  have hme : K.length ≤ m ∨ T.length ≤ m := by omega
  rw [hm]
  obtain ⟨q, cq, hc, hcq, _⟩ := h.rd
  clear hm h hg
  go_enter Try.func26, Try.ntmps26
  go_wp2
  go_loopw [5, 6] (fun v i wr => ∃ j : Nat, j ≤ m ∧ i = .int .i64 j ∧ wr.ownsRow w.heap.size 3 1 v (zs (headsTo m K (prevs T) j)).length ((zs (headsTo m K (prevs T) j)).map (Value.int .i64)) ∧ Below w.heap.size w wr) (fun _ i _ => m - (intOf i).toNat)
  case atStart => exact ⟨0, Nat.zero_le _, rfl, by rw [headsTo_zero]; exact World.ownsRow_nil _ _ _ _, Below.refl _ _⟩
  case round =>
    clear hc
    obtain ⟨j, hj, rfl, hown, hb'⟩ := hrel
    have hsz := hb'.size
    obtain ⟨q2, cq2, hc2, hcq2, hall⟩ := (HQ.out wr hb').rd
    have HALL : Hid (∀ k, k < T.length → ∃ ab ao p1 c1 p2 c2, q2 = some ⟨ab, ao, none⟩ ∧ wr.cell? ⟨ab, ao + k * 3, none⟩ = some (.string (T.getD k noTh).name) ∧ wr.cell? ⟨ab, ao + k * 3 + 1, none⟩ = some (.slice p1 (zs (prevs T k)).length c1) ∧ wr.cell? ⟨ab, ao + k * 3 + 2, none⟩ = some (.slice p2 (zs (auths T k)).length c2) ∧ RdI O wr p1 c1 (zs (prevs T k)) ∧ RdI O wr p2 c2 (zs (auths T k))) := hall
    clear hall
    by_cases hlt : j < m
    · obtain ⟨ad, hp, _, hcell⟩ := (r.below hb').at j false (by omega)
      subst hp
      obtain ⟨b0, hb0⟩ : ∃ b, K.getD j false = b := ⟨_, rfl⟩
      rw [hb0] at hcell
      have HB0 : Hid (K.getD j false = b0) := hb0
      clear hb0
      have hjT : j < T.length := by omega
      have hjK : j < K.length := by omega
      go_wp2
      go_loop [7, 8] (fun t i => ∃ k : Nat, ∃ b : Bool, j + 1 ≤ k ∧ k ≤ m ∧ i = .int .i64 k ∧ t = .bool b ∧ (b = true ↔ Hd K (prevs T) j k)) (fun _ i => m - (intOf i).toNat)
      case atStart => exact ⟨j + 1, b0, Nat.le_refl _, by omega, by go_num, rfl, by rw [← HB0.out]; exact ⟨fun h => ⟨h, fun x a b => by omega⟩, fun h => h.1⟩⟩
      case round =>
        obtain ⟨k, b, hk1, hk, rfl, rfl, hbk⟩ := hrel
        have HBK : Hid (b = true ↔ Hd K (prevs T) j k) := hbk
        clear hbk
        by_cases hlt2 : k < m
        · obtain ⟨ad', hp, _, hcell2⟩ := (r.below hb').at k false (by omega)
          cases hp
          have hkT : k < T.length := by omega
          have hkK : k < K.length := by omega
          obtain ⟨ab, ao, p1, c1, p2, c2, rfl, k1, k2, k3, r1, r2⟩ := HALL.out k hkT
          have HN := hd_next (K := K) (E := prevs T) (j := j) (k := k) (by omega)
          have hlen := rise_few (HG.out.pr k) (HG.out.pl k)
          have hin := in_any (j : Int) (zs (prevs T k)) p1 c1 wr r1 (by omega)
          rw [show decide ((j : Int) ∈ zs (prevs T k)) = decide (j ∈ prevs T k) from decide_eq_decide.2 (zs_mem _ _)] at hin
          cases hkk : K.getD k false with
          | false =>
            rw [hkk] at hcell2
            have HX : Hid (b = true ↔ Hd K (prevs T) j (k + 1)) := by
              show _ ↔ _
              rw [HN, hkk]
              exact ⟨fun h => ⟨HBK.out.1 h, fun h' => absurd h'.1 Bool.false_ne_true⟩, fun h => HBK.out.2 h.1⟩
            clear HN hin r1 r2 hkk
            go_wp2
            go_round
            case rel => exact ⟨k + 1, b, by omega, by omega, by go_num, rfl, HX.out⟩
            case measure => simp [intOf]; omega
          | true =>
            rw [hkk] at hcell2
            rw [hkk] at HN
            by_cases hmem : j ∈ prevs T k
            · have HX : Hid (false = true ↔ Hd K (prevs T) j (k + 1)) := by
                show _ ↔ _
                rw [HN]
                exact ⟨fun h => absurd h Bool.false_ne_true, fun h => absurd ⟨rfl, hmem⟩ h.2⟩
              rw [decide_eq_true hmem] at hin
              clear HN r1 r2 hkk hmem
              go_wp2_with (first
                | (go_at_call 30; refine hin.mono ?_; rintro e w' ⟨rfl, rfl⟩))
              go_round
              case rel => exact ⟨k + 1, false, by omega, by omega, by go_num, rfl, HX.out⟩
              case measure => simp [intOf]; omega
            · have HX : Hid (b = true ↔ Hd K (prevs T) j (k + 1)) := by
                show _ ↔ _
                rw [HN]
                exact ⟨fun h => ⟨HBK.out.1 h, fun h' => hmem h'.2⟩, fun h => HBK.out.2 h.1⟩
              rw [decide_eq_false hmem] at hin
              clear HN r1 r2 hkk hmem
              go_wp2_with (first
                | (go_at_call 30; refine hin.mono ?_; rintro e w' ⟨rfl, rfl⟩))
              go_round
              case rel => exact ⟨k + 1, b, by omega, by omega, by go_num, rfl, HX.out⟩
              case measure => simp [intOf]; omega
        · obtain rfl : k = m := by omega
          have hme' : k < T.length → ¬ k < K.length := by omega
          have HEND := hd_end (K := K) HG.out.pl hlt
          have hlen2 := headsTo_len k K (prevs T) j
          by_cases hkT : k < T.length
          all_goals
            cases b with
            | false =>
              have HO := own_cast hown (congrArg zs (headsTo_no (k := j) (fun h' => absurd (HBK.out.2 (HEND.2 h')) Bool.false_ne_true)))
              clear HEND hown
              go_wp2
              go_roundw
              case rel => exact ⟨j + 1, by omega, by go_num, HO, hb'⟩
              case measure => simp [intOf]; omega
            | true =>
              have HZ : Hid (zs (headsTo k K (prevs T) (j + 1)) = zs (headsTo k K (prevs T) j) ++ [(j : Int)]) := by show _ = _; rw [headsTo_yes (HEND.1 (HBK.out.1 rfl))]; simp [zs]
              clear HEND
              generalize zs (headsTo k K (prevs T) j) = D at *
              go_wp2_with (first
                | (at_builtin; refine wpList_push rfl (.tmp 62) (.tmp 64) 35 3 (.int .i64 0) 8 rfl Try.underlying35 Try.info3 rfl (by decide) int_one w.heap.size _ D rfl (hown.alloc _) _ (j : Int) rfl (cell_row (cur := [_]) (heap_alloc_new _ _) 0 _ rfl) (by omega) (by simp; omega) ?_
                   intro v' w1 hown1 hg1))
              have HC1 : Hid (w1.ownsRow w.heap.size 3 1 v' (zs (headsTo k K (prevs T) (j + 1))).length ((zs (headsTo k K (prevs T) (j + 1))).map (Value.int .i64))) := by show World.ownsRow _ _ _ _ _ _ _; rw [HZ.out]; exact hown1
              have hb1 : Below w.heap.size w w1 := below_row (hb'.alloc hsz _) hg1 (hown.alloc _) (by simp; omega)
              clear hown hown1
              go_wp2
              go_roundw
              case rel => exact ⟨j + 1, by omega, by go_num, HC1.out, hb1⟩
              case measure => simp [intOf]; omega
    · obtain rfl : j = m := by omega
      have HEND := own_cast hown (congrArg zs (headsTo_all j K (prevs T)).symm)
      have hme' : j < T.length → ¬ j < K.length := by omega
      clear hown
      by_cases hkT : j < T.length
      all_goals
        go_wp2
        go_ret
        exact ⟨_, rfl, HEND, hb'⟩
end Go.Proofs.Ytbjeaogblpjpeaa

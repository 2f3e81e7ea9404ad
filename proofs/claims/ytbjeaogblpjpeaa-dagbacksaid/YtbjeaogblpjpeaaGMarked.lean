/-
  marked, by a contract.
-/
import Derived.Test.YtbjeaogblpjpeaaGRowW
namespace Go.Proofs.Ytbjeaogblpjpeaa
open Go.RowKit Go.Maps

theorem ret_sl {p : Option Addr} {a b c d : Nat} (h : a = b) (h' : c = d) : Ending.returned (.slice p a c) = .returned (.slice p b d) := by rw [h, h']
/-- What marked tells: a row of marks, as long as the greatest place of l asks. -/
def MarkedP (n : Nat) (l : List Int) (w : World) (e : Ending) (w' : World) : Prop :=
  ∃ bk L, e = .returned (.slice (some ⟨bk, 0, none⟩) L.length L.length) ∧ Bk w' bk L ∧ L.length ≤ n ∧ (∀ j, j < L.length → L.getD j false = decide ((j : Int) ∈ l)) ∧ (∀ i, frm n l i → i < L.length) ∧ Below w.heap.size w w' ∧ w.heap.size ≤ bk
set_option maxHeartbeats 2000000 in
theorem marked_any {O : Nat → Prop} {g : Option Addr} {T : List Th} (l : List Int) (p : Option Addr) (c : Nat) (w : World) (h : Gq O w g T) (r : RdI (· < w.heap.size) w p c l) (hT : T.length ≤ 100) (hl : l.length ≤ 1000) (hw : ∀ x ∈ l, -9223372036854775808 ≤ x ∧ x ≤ 9223372036854775807) :
    Calls Try.prog 37 #[.pointer g, .slice p l.length c] w (MarkedP T.length l w) := by
  have hlen := len_any w h hT
  have HW : Hid (∀ x ∈ l, -9223372036854775808 ≤ x ∧ x ≤ 9223372036854775807) := hw
  obtain ⟨n, hn⟩ : ∃ n, T.length = n := ⟨_, rfl⟩
  rw [hn] at hlen hT ⊢
  clear h hn hw
  go_enter Try.func37, Try.ntmps37
  go_wp2
  go_loop [5, 13] (fun t i => ∃ k M : Nat, k ≤ l.length ∧ i = .int .i64 k ∧ t = .int .i64 ((M : Int) - 1) ∧ M ≤ n ∧ (∀ x ∈ l.take k, x < n → x < M)) (fun _ i => l.length - (intOf i).toNat)
  case atStart => exact ⟨0, 0, Nat.zero_le _, rfl, rfl, Nat.zero_le _, by simp⟩
  case round =>
    obtain ⟨k, M, hk, rfl, rfl, hM, hall⟩ := hrel
    have HA : Hid (∀ x ∈ l.take k, x < n → x < M) := hall
    clear hall
    by_cases hlt : k < l.length
    · obtain ⟨ad, rfl, _, hcell⟩ := r.at k 0 hlt
      have hx := HW.out _ (getD_inm (d := 0) hlt)
      have HT : Hid (l.take (k + 1) = l.take k ++ [l.getD k 0]) := take_next l k _ hlt
      generalize l.getD k 0 = x at *
      have hA' : Hid (∀ (M' : Nat), M ≤ M' → (x < n → x < M') → ∀ y ∈ l.take (k + 1), y < n → y < M') := by
        intro M' h1 h2 y hy hyn
        rw [HT.out, List.mem_append, List.mem_singleton] at hy
        rcases hy with hy | rfl
        · have := HA.out y hy hyn; omega
        · exact h2 hyn
      by_cases hxn : x < n
      · go_wp2_with (first
          | (go_at_call 28; refine hlen.mono ?_; rintro e w' ⟨rfl, rfl⟩))
        go_round
        case rel => exact ⟨k + 1, max M (x + 1).toNat, by omega, by go_num, congrArg (Value.int .i64) (by omega), by omega, hA'.out _ (by omega) fun _ => by omega⟩
        case measure => simp [intOf]; omega
      · go_wp2_with (first
          | (go_at_call 28; refine hlen.mono ?_; rintro e w' ⟨rfl, rfl⟩))
        go_round
        case rel => exact ⟨k + 1, M, by omega, by go_num, rfl, hM, hA'.out M (Nat.le_refl _) fun h => by omega⟩
        case measure => simp [intOf]; omega
    · obtain rfl : k = l.length := by omega
      rw [List.take_length] at HA
      go_wp2_with (first
        | (at_make; refine wpList_bools rfl (.tmp 26) (.tmp 26) rfl M (by omega) ?hx ?hx2 ?_))
      intro w1 hsz1 hb1 hbk
      go_wp2
      go_loopw [30] (fun i wr => ∃ k : Nat, ∃ L : List Bool, k ≤ l.length ∧ i = .int .i64 k ∧ Bk wr w.heap.size L ∧ L.length = M ∧ (∀ j, j < M → L.getD j false = decide ((j : Int) ∈ l.take k)) ∧ Below w.heap.size w wr) (fun i _ => l.length - (intOf i).toNat)
      case atStart => exact ⟨0, List.replicate M false, Nat.zero_le _, rfl, hbk, by simp, fun j _ => by rw [rep_at]; simp, hb1⟩
      case round =>
        clear hb1 hbk hsz1
        obtain ⟨k, L, hk, rfl, hL, hLM, hat, hb⟩ := hrel
        have HLM : Hid (L.length = M) := hLM
        have HAT : Hid (∀ j, j < M → L.getD j false = decide ((j : Int) ∈ l.take k)) := hat
        clear hLM hat
        by_cases hlt : k < l.length
        · obtain ⟨ad, rfl, _, hcell⟩ := (r.below hb).at k 0 hlt
          have hx := HW.out _ (getD_inm (d := 0) hlt)
          have HT : Hid (l.take (k + 1) = l.take k ++ [l.getD k 0]) := take_next l k _ hlt
          generalize l.getD k 0 = x at *
          by_cases hin : 0 ≤ x ∧ x ≤ (M : Int) - 1
          · obtain ⟨h0, h1⟩ := hin
            obtain ⟨m, rfl⟩ := Int.eq_ofNat_of_zero_le h0
            have hm : m < M := by omega
            have c1 := hL.cell m (by rw [HLM.out]; exact hm)
            have f1 := hL.fz m
            have HB : Hid (Bk (wr.setCell ⟨w.heap.size, m, none⟩ (.bool true)) w.heap.size (L.set m true)) := hL.set m
            have hbb : Below w.heap.size w (wr.setCell ⟨w.heap.size, m, none⟩ (.bool true)) := hb.setCell (Nat.le_refl _) _
            have HN : Hid (∀ j, j < M → (L.set m true).getD j false = decide ((j : Int) ∈ l.take (k + 1))) := by
              intro j hj
              rw [getD_setB L m j (by rw [HLM.out]; exact hj), HAT.out j hj, HT.out]
              by_cases e : j = m
              · subst e; simp
              · have e' : ¬ ((j : Int) = (m : Int)) := by omega
                simp [e, e']
            clear hL
            go_wp2
            go_roundw
            case rel => exact ⟨k + 1, L.set m true, by omega, by go_num, HB.out, by rw [List.length_set]; exact HLM.out, HN.out, hbb⟩
            case measure => simp [intOf]; omega
          · have HN : Hid (∀ j, j < M → L.getD j false = decide ((j : Int) ∈ l.take (k + 1))) := by
              intro j hj
              rw [HAT.out j hj, HT.out]
              have e' : ¬ ((j : Int) = x) := by omega
              simp [e']
            by_cases h0 : 0 ≤ x
            all_goals
              go_wp2
              go_roundw
              case rel => exact ⟨k + 1, L, by omega, by go_num, hL, HLM.out, HN.out, hb⟩
              case measure => simp [intOf]; omega
        · obtain rfl : k = l.length := by omega
          have HAT' := HAT.out
          rw [List.take_length] at HAT'
          have HX : Hid (∀ j, j < M → L.getD j false = decide ((j : Int) ∈ l)) := HAT'
          clear HAT' HAT
          go_wp2
          go_ret
          refine ⟨w.heap.size, L, ret_sl HLM.out.symm HLM.out.symm, hL, by rw [HLM.out]; exact hM, fun j hj => HX.out j (by rw [← HLM.out]; exact hj), fun i hi => ?_, hb, Nat.le_refl _⟩
          rw [HLM.out]
          have := HA.out i hi.2 (by have := hi.1; omega)
          omega
end Go.Proofs.Ytbjeaogblpjpeaa

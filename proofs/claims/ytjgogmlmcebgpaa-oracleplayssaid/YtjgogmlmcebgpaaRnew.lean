/-
  New of the document's table, by its contract.
-/
import Derived.Test.YtjgogmlmcebgpaaRtab
import Derived.Test.YtjgogmlmcebgpaaOwn
namespace Go.Proofs.Ytjgogmlmcebgpaa
open Go.RowKit Go.Maps

/-- What New makes. -/
structure RNew (S : List ByteArray) (w : World) (e : Ending) (w' : World) : Prop where
  below : Below w.heap.size w w'
  good : (S.length ≤ 64 ∧ once S = true) → ∃ rb v0, e = .returned (.tuple #[.pointer (some ⟨rb, 0, none⟩), .int .i64 0]) ∧ Rt w.heap.size w' rb v0 (.slice none 0 0) (.slice none 0 0) (.slice none 0 0) S [] [] []
  bad : ¬ (S.length ≤ 64 ∧ once S = true) → e = .returned (.tuple #[.pointer none, .int .i64 1])

theorem own_empty9 (w : World) (c : Array Value) (hc : c.size = 0) : (w.alloc (.cells c 9)).ownsRow w.heap.size 9 1 (.slice (some ⟨w.heap.size, 0, none⟩) ([] : List ByteArray).length 0) ([] : List ByteArray).length (([] : List ByteArray).map Value.string) :=
  World.ownsRow_made w c 0 (Nat.le_refl _) (Nat.zero_le _) (by rw [hc])

theorem own_le {w : World} {B B' e size n : Nat} {v : Value} {xs : List Value} (h : w.ownsRow B e size v n xs) (hB : B' ≤ B) : w.ownsRow B' e size v n xs := by
  refine ⟨h.1, ?_⟩
  rcases h.2 with h' | ⟨g, cap, cur, e, hg, r⟩
  · exact .inl h'
  · exact .inr ⟨g, cap, cur, e, Nat.le_trans hB hg, r⟩
theorem take_mem_lt {S : List ByteArray} {m k : Nat} (h : m < k) (hk : k < S.length) : S.getD m ⟨#[]⟩ ∈ S.take k := by
  have : S.getD m ⟨#[]⟩ = (S.take k).getD m ⟨#[]⟩ := by
    rw [List.getD_eq_getElem?_getD, List.getD_eq_getElem?_getD, List.getElem?_take, if_pos h]
  rw [this]
  exact getD_memS (by rw [List.length_take]; omega)

set_option maxRecDepth 100000 in
set_option maxHeartbeats 2000000 in
theorem rnew_any (S : List ByteArray) (p : Option Addr) (c : Nat) (w : World) (hS : S.length ≤ 1000) (hrd : RdS w.heap.size w p c S) (hnone : p = none → c = 0) :
    Calls Try.prog 11 #[.slice p S.length c] w fun e w' => RNew S w e w' := by
  by_cases h64 : S.length ≤ 64
  · have HN : Hid (p = none → c = 0) := hnone
    clear hnone
    go_enter Try.func11, Try.ntmps11
    go_wp2
    go_loopw [4] (fun i wr => ∃ k : Nat, k ≤ S.length ∧ i = .int .i64 k ∧ (∀ j, j < k → S.getD j ⟨#[]⟩ ∉ S.take j) ∧ Below w.heap.size w wr) (fun i _ => S.length - (intOf i).toNat)
    case atStart => exact ⟨0, Nat.zero_le _, rfl, fun j hj => by omega, Below.refl _ _⟩
    case round =>
      obtain ⟨k, hk, rfl, hall, hb⟩ := hrel
      have HA : Hid (∀ j, j < k → S.getD j ⟨#[]⟩ ∉ S.take j) := hall
      clear hall
      by_cases hlt : k < S.length
      · obtain ⟨x, hx⟩ : ∃ x, S.getD k ⟨#[]⟩ = x := ⟨_, rfl⟩
        have HX : Hid (S.getD k ⟨#[]⟩ = x) := hx
        clear hx
        go_wp2
        go_loopw [5] (fun i wr => ∃ m : Nat, m ≤ k ∧ i = .int .i64 m ∧ x ∉ S.take m ∧ Below w.heap.size w wr) (fun i _ => k - (intOf i).toNat)
        case atStart => exact ⟨0, Nat.zero_le _, rfl, by simp, hb⟩
        case round =>
          clear hb
          obtain ⟨m, hm, rfl, hxm, hb⟩ := hrel
          have HM : Hid (x ∉ S.take m) := hxm
          clear hxm
          by_cases hmk : m < k
          · have hbd := hb.drew
            have hml : m < S.length := by omega
            obtain ⟨ad, rfl, had, c1⟩ := (hrd.carry hbd).2 k hlt
            obtain ⟨ad', hae, _, c2⟩ := (hrd.carry hbd).2 m hml
            cases hae
            rw [HX.out] at c1
            obtain ⟨y, hy⟩ : ∃ y, S.getD m ⟨#[]⟩ = y := ⟨_, rfl⟩
            rw [hy] at c2
            have HY : Hid (S.getD m ⟨#[]⟩ = y) := hy
            clear hy
            cases hxy : decide (x = y) with
            | true =>
              have e_t : (x.toList == y.toList) = true := by rw [beqS, hxy]
              have HBAD : Hid (¬ (S.length ≤ 64 ∧ once S = true)) := by
                rintro ⟨_, ho⟩
                refine once_iff.1 ho k hlt ?_
                rw [HX.out, of_decide_eq_true hxy, ← HY.out]
                exact take_mem_lt hmk hlt
              clear hxy
              go_wp2
              refine wp_region_in (by kernel_rfl) (fun w' => w' = wr.drew) ?_
              change wpIn _ _ _ _ _ _ _ _ (World.drew _)
              refine wpIn_take (i := 0) (d := (some 20)) (v := ?vqa0) (a' := ?aqa0) rfl rfl (by kernel_rfl) (by kernel_rfl) (by kernel_rfl) (fun _ _ _ h => h) (Or.inl ⟨by rfl, ?yqa0⟩) ?fqa0 ?_
              case yqa0 => (intro wq hq; go_simp; first | done | with_reducible rfl)
              case fqa0 => (go_frame; rfl)
              refine wpIn_take (i := 1) (d := (some 21)) (v := ?vqa1) (a' := ?aqa1) rfl rfl (by kernel_rfl) (by kernel_rfl) (by kernel_rfl) (fun _ _ _ h => h) (Or.inl ⟨by rfl, ?yqa1⟩) ?fqa1 ?_
              case yqa1 => (intro wq hq; go_simp; first | done | with_reducible rfl)
              case fqa1 => (go_frame; rfl)
              refine wpIn_take (i := 2) (d := (some 22)) (v := ?vqa2) (a' := ?aqa2) rfl rfl (by kernel_rfl) (by kernel_rfl) (by kernel_rfl) (fun _ _ _ h => h) (Or.inl ⟨by rfl, ?yqa2⟩) ?fqa2 ?_
              case yqa2 => (intro wq hq; go_simp; first | done | with_reducible rfl)
              case fqa2 => (go_frame; rfl)
              refine wpIn_take (i := 3) (d := (some 23)) (v := ?vqa3) (a' := ?aqa3) rfl rfl (by kernel_rfl) (by kernel_rfl) (by kernel_rfl) (fun _ _ _ h => h) (Or.inl ⟨by rfl, ?yqa3⟩) ?fqa3 ?_
              case yqa3 => (intro wq hq; obtain rfl := hq; go_simp; first | done | with_reducible rfl)
              case fqa3 => (go_frame; rfl)
              refine wpIn_take (i := 4) (d := (some 24)) (v := ?vqa4) (a' := ?aqa4) rfl rfl (by kernel_rfl) (by kernel_rfl) (by kernel_rfl) (fun _ _ _ h => h) (Or.inl ⟨by rfl, ?yqa4⟩) ?fqa4 ?_
              case yqa4 => (intro wq hq; go_simp; first | done | with_reducible rfl)
              case fqa4 => (go_frame; rfl)
              refine wpIn_take (i := 5) (d := (some 25)) (v := ?vqa5) (a' := ?aqa5) rfl rfl (by kernel_rfl) (by kernel_rfl) (by kernel_rfl) (fun _ _ _ h => h) (Or.inl ⟨by rfl, ?yqa5⟩) ?fqa5 ?_
              case yqa5 => (intro wq hq; go_simp; first | done | with_reducible rfl)
              case fqa5 => (go_frame; rfl)
              refine wpIn_take (i := 6) (d := (some 26)) (v := ?vqa6) (a' := ?aqa6) rfl rfl (by kernel_rfl) (by kernel_rfl) (by kernel_rfl) (fun _ _ _ h => h) (Or.inl ⟨by rfl, ?yqa6⟩) ?fqa6 ?_
              case yqa6 => (intro wq hq; go_simp; first | done | with_reducible rfl)
              case fqa6 => (go_frame; rfl)
              refine wpIn_take (i := 7) (d := (some 27)) (v := ?vqa7) (a' := ?aqa7) rfl rfl (by kernel_rfl) (by kernel_rfl) (by kernel_rfl) (fun _ _ _ h => h) (Or.inl ⟨by rfl, ?yqa7⟩) ?fqa7 ?_
              case yqa7 => (intro wq hq; obtain rfl := hq; go_simp; first | done | with_reducible rfl)
              case fqa7 => (go_frame; rfl)
              refine wpIn_take (i := 8) (d := (some 28)) (v := ?vqa8) (a' := ?aqa8) rfl rfl (by kernel_rfl) (by kernel_rfl) (by kernel_rfl) (fun _ _ _ h => h) (Or.inl ⟨by rfl, ?yqa8⟩) ?fqa8 ?_
              case yqa8 => (intro wq hq; go_simp; first | done | with_reducible rfl)
              case fqa8 => (go_frame; rfl)
              refine wpIn_done (C := fun w' => w' = wr.drew) rfl (by kernel_rfl) ?_ _
              go_wp2
              go_ret2
              exact ⟨hbd, fun h => absurd h HBAD.out, fun _ => rfl⟩
            | false =>
              have e_t : (x.toList == y.toList) = false := by rw [beqS, hxy]
              have hn : x ∉ S.take (m + 1) := fun h => by
                rcases (take_mem_snoc (d := ⟨#[]⟩) hml).1 h with h' | h'
                · exact HM.out h'
                · rw [HY.out] at h'; simp [h'] at hxy
              clear hxy
              go_wp2
              refine wp_region_in (by kernel_rfl) (fun w' => w' = wr.drew) ?_
              change wpIn _ _ _ _ _ _ _ _ (World.drew _)
              refine wpIn_take (i := 0) (d := (some 20)) (v := ?vqb0) (a' := ?aqb0) rfl rfl (by kernel_rfl) (by kernel_rfl) (by kernel_rfl) (fun _ _ _ h => h) (Or.inl ⟨by rfl, ?yqb0⟩) ?fqb0 ?_
              case yqb0 => (intro wq hq; go_simp; first | done | with_reducible rfl)
              case fqb0 => (go_frame; rfl)
              refine wpIn_take (i := 1) (d := (some 21)) (v := ?vqb1) (a' := ?aqb1) rfl rfl (by kernel_rfl) (by kernel_rfl) (by kernel_rfl) (fun _ _ _ h => h) (Or.inl ⟨by rfl, ?yqb1⟩) ?fqb1 ?_
              case yqb1 => (intro wq hq; go_simp; first | done | with_reducible rfl)
              case fqb1 => (go_frame; rfl)
              refine wpIn_take (i := 2) (d := (some 22)) (v := ?vqb2) (a' := ?aqb2) rfl rfl (by kernel_rfl) (by kernel_rfl) (by kernel_rfl) (fun _ _ _ h => h) (Or.inl ⟨by rfl, ?yqb2⟩) ?fqb2 ?_
              case yqb2 => (intro wq hq; go_simp; first | done | with_reducible rfl)
              case fqb2 => (go_frame; rfl)
              refine wpIn_take (i := 3) (d := (some 23)) (v := ?vqb3) (a' := ?aqb3) rfl rfl (by kernel_rfl) (by kernel_rfl) (by kernel_rfl) (fun _ _ _ h => h) (Or.inl ⟨by rfl, ?yqb3⟩) ?fqb3 ?_
              case yqb3 => (intro wq hq; obtain rfl := hq; go_simp; first | done | with_reducible rfl)
              case fqb3 => (go_frame; rfl)
              refine wpIn_take (i := 4) (d := (some 24)) (v := ?vqb4) (a' := ?aqb4) rfl rfl (by kernel_rfl) (by kernel_rfl) (by kernel_rfl) (fun _ _ _ h => h) (Or.inl ⟨by rfl, ?yqb4⟩) ?fqb4 ?_
              case yqb4 => (intro wq hq; go_simp; first | done | with_reducible rfl)
              case fqb4 => (go_frame; rfl)
              refine wpIn_take (i := 5) (d := (some 25)) (v := ?vqb5) (a' := ?aqb5) rfl rfl (by kernel_rfl) (by kernel_rfl) (by kernel_rfl) (fun _ _ _ h => h) (Or.inl ⟨by rfl, ?yqb5⟩) ?fqb5 ?_
              case yqb5 => (intro wq hq; go_simp; first | done | with_reducible rfl)
              case fqb5 => (go_frame; rfl)
              refine wpIn_take (i := 6) (d := (some 26)) (v := ?vqb6) (a' := ?aqb6) rfl rfl (by kernel_rfl) (by kernel_rfl) (by kernel_rfl) (fun _ _ _ h => h) (Or.inl ⟨by rfl, ?yqb6⟩) ?fqb6 ?_
              case yqb6 => (intro wq hq; go_simp; first | done | with_reducible rfl)
              case fqb6 => (go_frame; rfl)
              refine wpIn_take (i := 7) (d := (some 27)) (v := ?vqb7) (a' := ?aqb7) rfl rfl (by kernel_rfl) (by kernel_rfl) (by kernel_rfl) (fun _ _ _ h => h) (Or.inl ⟨by rfl, ?yqb7⟩) ?fqb7 ?_
              case yqb7 => (intro wq hq; obtain rfl := hq; go_simp; first | done | with_reducible rfl)
              case fqb7 => (go_frame; rfl)
              refine wpIn_take (i := 8) (d := (some 28)) (v := ?vqb8) (a' := ?aqb8) rfl rfl (by kernel_rfl) (by kernel_rfl) (by kernel_rfl) (fun _ _ _ h => h) (Or.inl ⟨by rfl, ?yqb8⟩) ?fqb8 ?_
              case yqb8 => (intro wq hq; go_simp; first | done | with_reducible rfl)
              case fqb8 => (go_frame; rfl)
              refine wpIn_done (C := fun w' => w' = wr.drew) rfl (by kernel_rfl) ?_ _
              go_wp2
              go_roundw
              case rel => exact ⟨m + 1, by omega, by go_num, hn, hbd⟩
              case measure => simp [intOf]; omega
          · obtain rfl : m = k := by omega
            go_wp2
            go_roundw
            case rel => exact ⟨m + 1, by omega, by go_num, fun j hj => by
                              by_cases e : j = m
                              · rw [e, HX.out]; exact HM.out
                              · exact HA.out j (by omega), hb⟩
            case measure => simp [intOf]; omega
      · obtain rfl : k = S.length := by omega
        have HO : Hid (once S = true) := once_iff.2 HA.out
        go_wp2_with (at_builtin; refine wpList_append_rds rfl _ _ rfl wr.heap.size _ [] rfl ?a0 w.heap.size _ _ S rfl ?a1 HN.out ?a3 ?a4 ?_)
        case a0 => exact own_empty9 _ _ rfl
        case a1 => exact hrd.carry (hb.alloc hb.size _)
        case a3 => simp; omega
        case a4 => simp
        intro v6 w6 hown6 hgrow6
        have hown : w6.ownsRow wr.heap.size 9 1 v6 S.length (S.map Value.string) := by simpa using hown6
        have hb6 : Below wr.heap.size wr w6 := ((Below.refl _ _).alloc (Nat.le_refl _) _).grown hgrow6 (by simp) (fun k e => by cases e; exact Nat.le_refl _)
        clear hown6 hgrow6
        obtain ⟨q6, c6, rfl, _, _⟩ := own_rds hown
        go_wp2
        go_ret2
        have hbx := hb.trans (hb6.mono hb.size)
        refine ⟨hbx.alloc hbx.size _, fun _ => ⟨_, _, rfl, heap_alloc_new _ _, (own_le hown hb.size).alloc _, World.ownsRow_nil _ _ _ _, World.ownsRow_nil _ _ _ _, World.ownsRow_nil _ _ _ _, .inl rfl, fun k e => (hown.lt k e).2, hbx.size⟩, fun h => absurd ⟨h64, HO.out⟩ h⟩
  · go_enter Try.func11, Try.ntmps11
    go_wp2
    go_ret2
    exact ⟨Below.refl _ _, fun h => absurd h.1 h64, fun _ => rfl⟩
end Go.Proofs.Ytjgogmlmcebgpaa

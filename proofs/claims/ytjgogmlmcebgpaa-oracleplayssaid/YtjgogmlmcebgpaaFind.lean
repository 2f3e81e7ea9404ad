/-
  find and Verify of the document's table, by their contracts.
-/
import Derived.Test.YtjgogmlmcebgpaaRtab
import Derived.Test.YtjgogmlmcebgpaaDeeds
namespace Go.Proofs.Ytjgogmlmcebgpaa
open Go.RowKit Go.Maps

/-- The number of what was signed; 0: it was not. -/
def fnd (H : List (ByteArray × ByteArray)) (x : ByteArray × ByteArray) : Int := if inn H x = true then no H x else 0
theorem fnd_in {H : List (ByteArray × ByteArray)} {x : ByteArray × ByteArray} (h : x ∈ H) : fnd H x = no H x := by unfold fnd; rw [if_pos (inn_iff.2 h)]
theorem fnd_out {H : List (ByteArray × ByteArray)} {x : ByteArray × ByteArray} (h : x ∉ H) : fnd H x = 0 := by unfold fnd; rw [inn_not.2 h]; rfl
theorem no_here {H : List (ByteArray × ByteArray)} {k : Nat} (hk : k < H.length) (hn : H.getD k noP ∉ H.take k) : no H (H.getD k noP) = (k : Int) + 1 := by
  have hm := getD_memS (d := noP) hk
  have := idx_here hk hn
  rw [idx_plc hm] at this
  rw [no_mem hm]
  unfold plc at this
  omega

set_option maxRecDepth 100000 in
set_option maxHeartbeats 2000000 in
theorem find_any {B rb : Nat} {v0 v1 v2 vt : Value} {S D T : List ByteArray} {H : List (ByteArray × ByteArray)} (s : ByteArray) (zs : List Int) (p : Option Addr) (c : Nat) (w : World) (h : Rt B w rb v0 v1 v2 vt S D H T) (hrz : Rd w.heap.size w p c zs) (hH : H.length ≤ 100000) :
    Calls Try.prog 31 #[.pointer (some ⟨rb, 0, none⟩), .string s, .slice p zs.length c] w fun e w' => e = .returned (.int .i64 (fnd H (s, strOfNums zs))) ∧ Below w.heap.size w w' := by
  obtain ⟨q, cq, rfl, hle, hrd⟩ := rt_pairs h.signed
  obtain ⟨t, ht⟩ : ∃ t, t = strOfNums zs := ⟨_, rfl⟩
  have HCV : Hid (∀ w', Below w.heap.size w w' → (convert 37 9 (.slice p zs.length c)).run Try.prog w' = .ok (.string t) w') := fun w' hb => by rw [ht]; exact rd_string (hrz.carry hb)
  have HC2 : Hid (∀ w', Below w.heap.size w w' → w'.cell? ⟨rb, 2, none⟩ = some (.slice q H.length cq)) := fun w' hb => (hb.cell h.lt).trans h.c2
  rw [← ht]
  clear h hrz ht
  go_enter Try.func31, Try.ntmps31
  go_wp2
  go_loopw [7] (fun i wr => ∃ k : Nat, k ≤ H.length ∧ i = .int .i64 k ∧ (s, t) ∉ H.take k ∧ Below w.heap.size w wr) (fun i _ => H.length - (intOf i).toNat)
  case atStart => exact ⟨0, Nat.zero_le _, rfl, by simp, Below.refl _ _⟩
  case round =>
    obtain ⟨k, hk, rfl, hall, hb⟩ := hrel
    have HA : Hid ((s, t) ∉ H.take k) := hall
    clear hall
    have hbd := hb.drew
    have hc2 := HC2.out _ hb
    have hd2 := HC2.out _ hbd
    have hcv := HCV.out _ hbd
    by_cases hlt : k < H.length
    · obtain ⟨ad, rfl, had, e1, e2⟩ := hrd k hlt
      obtain ⟨x, hx⟩ : ∃ x, H.getD k noP = x := ⟨_, rfl⟩
      rw [hx] at e1 e2
      have HX : Hid (H.getD k noP = x) := hx
      clear hx
      have d1 : wr.drew.cell? (ad.add (k * 2)) = some (.string x.1) := (hbd.cell (by rw [add_block]; exact had)).trans e1
      have d2 : wr.drew.cell? ⟨(ad.add (k * 2)).block, (ad.add (k * 2)).off + 1, none⟩ = some (.string x.2) := (hbd.cell (by show (ad.add (k * 2)).block < _; rw [add_block]; exact had)).trans e2
      clear e1 e2
      have HNX : Hid (x ≠ (s, t) → (s, t) ∉ H.take (k + 1)) := fun hne hm => by
        rcases (take_mem_snoc (d := noP) hlt).1 hm with h' | h'
        · exact HA.out h'
        · rw [HX.out] at h'; exact hne h'.symm
      cases hbs : decide (x.1 = s) with
      | true =>
        have e_s : (x.1.toList == s.toList) = true := by rw [beqS, hbs]
        cases hbt : decide (x.2 = t) with
        | true =>
          have e_t : (x.2.toList == t.toList) = true := by rw [beqS, hbt]
          have HE : Hid (fnd H (s, t) = (k : Int) + 1) := by
            have e : x = (s, t) := Prod.ext (of_decide_eq_true hbs) (of_decide_eq_true hbt)
            have h1 : H.getD k noP = (s, t) := by rw [HX.out, e]
            have h2 := no_here hlt (by rw [h1]; exact HA.out)
            have h3 := getD_memS (d := noP) hlt
            rw [h1] at h2 h3
            show _ = _
            rw [fnd_in h3, h2]
          clear hbs hbt
          go_wp2
          refine wp_region_in (by kernel_rfl) (fun w' => w' = wr.drew) ?_
          change wpIn _ _ _ _ _ _ _ _ (World.drew _)
          refine wpIn_take (i := 0) (d := (some 17)) (v := ?vqa0) (a' := ?aqa0) rfl rfl (by kernel_rfl) (by kernel_rfl) (by kernel_rfl) (fun _ _ _ h => h) (Or.inl ⟨by rfl, ?yqa0⟩) ?fqa0 ?_
          case yqa0 => (intro wq hq; go_simp; first | done | with_reducible rfl)
          case fqa0 => (go_frame; rfl)
          refine wpIn_take (i := 1) (d := (some 18)) (v := ?vqa1) (a' := ?aqa1) rfl rfl (by kernel_rfl) (by kernel_rfl) (by kernel_rfl) (fun _ _ _ h => h) (Or.inl ⟨by rfl, ?yqa1⟩) ?fqa1 ?_
          case yqa1 => (intro wq hq; go_simp; first | done | with_reducible rfl)
          case fqa1 => (go_frame; rfl)
          refine wpIn_take (i := 2) (d := (some 19)) (v := ?vqa2) (a' := ?aqa2) rfl rfl (by kernel_rfl) (by kernel_rfl) (by kernel_rfl) (fun _ _ _ h => h) (Or.inl ⟨by rfl, ?yqa2⟩) ?fqa2 ?_
          case yqa2 => (intro wq hq; go_simp; first | done | with_reducible rfl)
          case fqa2 => (go_frame; rfl)
          refine wpIn_take (i := 3) (d := (some 20)) (v := ?vqa3) (a' := ?aqa3) rfl rfl (by kernel_rfl) (by kernel_rfl) (by kernel_rfl) (fun _ _ _ h => h) (Or.inl ⟨by rfl, ?yqa3⟩) ?fqa3 ?_
          case yqa3 => (intro wq hq; obtain rfl := hq; go_simp; first | done | with_reducible rfl)
          case fqa3 => (go_frame; rfl)
          refine wpIn_take (i := 4) (d := (some 21)) (v := ?vqa4) (a' := ?aqa4) rfl rfl (by kernel_rfl) (by kernel_rfl) (by kernel_rfl) (fun _ _ _ h => h) (Or.inl ⟨by rfl, ?yqa4⟩) ?fqa4 ?_
          case yqa4 => (intro wq hq; go_simp; first | done | with_reducible rfl)
          case fqa4 => (go_frame; rfl)
          refine wpIn_take (i := 5) (d := (some 22)) (v := ?vqa5) (a' := ?aqa5) rfl rfl (by kernel_rfl) (by kernel_rfl) (by kernel_rfl) (fun _ _ _ h => h) (Or.inl ⟨by rfl, ?yqa5⟩) ?fqa5 ?_
          case yqa5 => (intro wq hq; go_simp; first | done | with_reducible rfl)
          case fqa5 => (go_frame; rfl)
          refine wpIn_take (i := 6) (d := (some 23)) (v := ?vqa6) (a' := ?aqa6) rfl rfl (by kernel_rfl) (by kernel_rfl) (by kernel_rfl) (fun _ _ _ h => h) (Or.inl ⟨by rfl, ?yqa6⟩) ?fqa6 ?_
          case yqa6 => (intro wq hq; go_simp; first | done | with_reducible rfl)
          case fqa6 => (go_frame; rfl)
          refine wpIn_take (i := 7) (d := (some 24)) (v := ?vqa7) (a' := ?aqa7) rfl rfl (by kernel_rfl) (by kernel_rfl) (by kernel_rfl) (fun _ _ _ h => h) (Or.inl ⟨by rfl, ?yqa7⟩) ?fqa7 ?_
          case yqa7 => (intro wq hq; obtain rfl := hq; go_simp; first | done | with_reducible rfl)
          case fqa7 => (go_frame; rfl)
          refine wpIn_take (i := 8) (d := (some 25)) (v := ?vqa8) (a' := ?aqa8) rfl rfl (by kernel_rfl) (by kernel_rfl) (by kernel_rfl) (fun _ _ _ h => h) (Or.inl ⟨by rfl, ?yqa8⟩) ?fqa8 ?_
          case yqa8 => (intro wq hq; go_simp; first | done | with_reducible rfl)
          case fqa8 => (go_frame; rfl)
          refine wpIn_take (i := 9) (d := (some 26)) (v := ?vqa9) (a' := ?aqa9) rfl rfl (by kernel_rfl) (by kernel_rfl) (by kernel_rfl) (fun _ _ _ h => h) (Or.inl ⟨by rfl, ?yqa9⟩) ?fqa9 ?_
          case yqa9 => (intro wq hq; go_simp; first | done | with_reducible rfl)
          case fqa9 => (go_frame; rfl)
          refine wpIn_take (i := 10) (d := (some 27)) (v := ?vqa10) (a' := ?aqa10) rfl rfl (by kernel_rfl) (by kernel_rfl) (by kernel_rfl) (fun _ _ _ h => h) (Or.inl ⟨by rfl, ?yqa10⟩) ?fqa10 ?_
          case yqa10 => (intro wq hq; go_simp; first | done | with_reducible rfl)
          case fqa10 => (go_frame; rfl)
          refine wpIn_take (i := 11) (d := (some 28)) (v := ?vqa11) (a' := ?aqa11) rfl rfl (by kernel_rfl) (by kernel_rfl) (by kernel_rfl) (fun _ _ _ h => h) (Or.inl ⟨by rfl, ?yqa11⟩) ?fqa11 ?_
          case yqa11 => (intro wq hq; go_simp; first | done | with_reducible rfl)
          case fqa11 => (go_frame; rfl)
          refine wpIn_take (i := 12) (d := (some 29)) (v := ?vqa12) (a' := ?aqa12) rfl rfl (by kernel_rfl) (by kernel_rfl) (by kernel_rfl) (fun _ _ _ h => h) (Or.inl ⟨by rfl, ?yqa12⟩) ?fqa12 ?_
          case yqa12 => (intro wq hq; go_simp; first | done | with_reducible rfl)
          case fqa12 => (go_frame; rfl)
          refine wpIn_take (i := 13) (d := (some 30)) (v := ?vqa13) (a' := ?aqa13) rfl rfl (by kernel_rfl) (by kernel_rfl) (by kernel_rfl) (fun _ _ _ h => h) (Or.inl ⟨by rfl, ?yqa13⟩) ?fqa13 ?_
          case yqa13 => (intro wq hq; go_simp; first | done | with_reducible rfl)
          case fqa13 => (go_frame; rfl)
          refine wpIn_take (i := 14) (d := (some 31)) (v := ?vqa14) (a' := ?aqa14) rfl rfl (by kernel_rfl) (by kernel_rfl) (by kernel_rfl) (fun _ _ _ h => h) (Or.inl ⟨by rfl, ?yqa14⟩) ?fqa14 ?_
          case yqa14 => (intro wq hq; obtain rfl := hq; go_simp; first | done | with_reducible rfl)
          case fqa14 => (go_frame; rfl)
          refine wpIn_take (i := 15) (d := (some 32)) (v := ?vqa15) (a' := ?aqa15) rfl rfl (by kernel_rfl) (by kernel_rfl) (by kernel_rfl) (fun _ _ _ h => h) (Or.inl ⟨by rfl, ?yqa15⟩) ?fqa15 ?_
          case yqa15 => (intro wq hq; go_simp; first | done | with_reducible rfl)
          case fqa15 => (go_frame; rfl)
          refine wpIn_take (i := 16) (d := (some 33)) (v := ?vqa16) (a' := ?aqa16) rfl rfl (by kernel_rfl) (by kernel_rfl) (by kernel_rfl) (fun _ _ _ h => h) (Or.inl ⟨by rfl, ?yqa16⟩) ?fqa16 ?_
          case yqa16 => (intro wq hq; go_simp; first | done | with_reducible rfl)
          case fqa16 => (go_frame; rfl)
          refine wpIn_take (i := 17) (d := (some 34)) (v := ?vqa17) (a' := ?aqa17) rfl rfl (by kernel_rfl) (by kernel_rfl) (by kernel_rfl) (fun _ _ _ h => h) (Or.inl ⟨by rfl, ?yqa17⟩) ?fqa17 ?_
          case yqa17 => (intro wq hq; go_simp; first | done | with_reducible rfl)
          case fqa17 => (go_frame; rfl)
          refine wpIn_take (i := 18) (d := (some 35)) (v := ?vqa18) (a' := ?aqa18) rfl rfl (by kernel_rfl) (by kernel_rfl) (by kernel_rfl) (fun _ _ _ h => h) (Or.inl ⟨by rfl, ?yqa18⟩) ?fqa18 ?_
          case yqa18 => (intro wq hq; obtain rfl := hq; go_simp; first | done | with_reducible rfl)
          case fqa18 => (go_frame; rfl)
          refine wpIn_take (i := 19) (d := (some 36)) (v := ?vqa19) (a' := ?aqa19) rfl rfl (by kernel_rfl) (by kernel_rfl) (by kernel_rfl) (fun _ _ _ h => h) (Or.inl ⟨by rfl, ?yqa19⟩) ?fqa19 ?_
          case yqa19 => (intro wq hq; go_simp; first | done | with_reducible rfl)
          case fqa19 => (go_frame; rfl)
          refine wpIn_take (i := 20) (d := (some 37)) (v := ?vqa20) (a' := ?aqa20) rfl rfl (by kernel_rfl) (by kernel_rfl) (by kernel_rfl) (fun _ _ _ h => h) (Or.inl ⟨by rfl, ?yqa20⟩) ?fqa20 ?_
          case yqa20 => (intro wq hq; obtain rfl := hq; go_simp; first | done | with_reducible rfl)
          case fqa20 => (go_frame; rfl)
          refine wpIn_take (i := 21) (d := (some 38)) (v := ?vqa21) (a' := ?aqa21) rfl rfl (by kernel_rfl) (by kernel_rfl) (by kernel_rfl) (fun _ _ _ h => h) (Or.inl ⟨by rfl, ?yqa21⟩) ?fqa21 ?_
          case yqa21 => (intro wq hq; go_simp; first | done | with_reducible rfl)
          case fqa21 => (go_frame; rfl)
          refine wpIn_take (i := 22) (d := (some 39)) (v := ?vqa22) (a' := ?aqa22) rfl rfl (by kernel_rfl) (by kernel_rfl) (by kernel_rfl) (fun _ _ _ h => h) (Or.inl ⟨by rfl, ?yqa22⟩) ?fqa22 ?_
          case yqa22 => (intro wq hq; go_simp; first | done | with_reducible rfl)
          case fqa22 => (go_frame; rfl)
          refine wpIn_done (C := fun w' => w' = wr.drew) rfl (by kernel_rfl) ?_ _
          go_wp2
          go_ret
          exact ⟨ret_int HE.out.symm, hbd⟩
        | false =>
          have e_t : (x.2.toList == t.toList) = false := by rw [beqS, hbt]
          have hne := HNX.out (by rintro rfl; simp at hbt)
          clear hbs hbt
          go_wp2
          refine wp_region_in (by kernel_rfl) (fun w' => w' = wr.drew) ?_
          change wpIn _ _ _ _ _ _ _ _ (World.drew _)
          refine wpIn_take (i := 0) (d := (some 17)) (v := ?vqb0) (a' := ?aqb0) rfl rfl (by kernel_rfl) (by kernel_rfl) (by kernel_rfl) (fun _ _ _ h => h) (Or.inl ⟨by rfl, ?yqb0⟩) ?fqb0 ?_
          case yqb0 => (intro wq hq; go_simp; first | done | with_reducible rfl)
          case fqb0 => (go_frame; rfl)
          refine wpIn_take (i := 1) (d := (some 18)) (v := ?vqb1) (a' := ?aqb1) rfl rfl (by kernel_rfl) (by kernel_rfl) (by kernel_rfl) (fun _ _ _ h => h) (Or.inl ⟨by rfl, ?yqb1⟩) ?fqb1 ?_
          case yqb1 => (intro wq hq; go_simp; first | done | with_reducible rfl)
          case fqb1 => (go_frame; rfl)
          refine wpIn_take (i := 2) (d := (some 19)) (v := ?vqb2) (a' := ?aqb2) rfl rfl (by kernel_rfl) (by kernel_rfl) (by kernel_rfl) (fun _ _ _ h => h) (Or.inl ⟨by rfl, ?yqb2⟩) ?fqb2 ?_
          case yqb2 => (intro wq hq; go_simp; first | done | with_reducible rfl)
          case fqb2 => (go_frame; rfl)
          refine wpIn_take (i := 3) (d := (some 20)) (v := ?vqb3) (a' := ?aqb3) rfl rfl (by kernel_rfl) (by kernel_rfl) (by kernel_rfl) (fun _ _ _ h => h) (Or.inl ⟨by rfl, ?yqb3⟩) ?fqb3 ?_
          case yqb3 => (intro wq hq; obtain rfl := hq; go_simp; first | done | with_reducible rfl)
          case fqb3 => (go_frame; rfl)
          refine wpIn_take (i := 4) (d := (some 21)) (v := ?vqb4) (a' := ?aqb4) rfl rfl (by kernel_rfl) (by kernel_rfl) (by kernel_rfl) (fun _ _ _ h => h) (Or.inl ⟨by rfl, ?yqb4⟩) ?fqb4 ?_
          case yqb4 => (intro wq hq; go_simp; first | done | with_reducible rfl)
          case fqb4 => (go_frame; rfl)
          refine wpIn_take (i := 5) (d := (some 22)) (v := ?vqb5) (a' := ?aqb5) rfl rfl (by kernel_rfl) (by kernel_rfl) (by kernel_rfl) (fun _ _ _ h => h) (Or.inl ⟨by rfl, ?yqb5⟩) ?fqb5 ?_
          case yqb5 => (intro wq hq; go_simp; first | done | with_reducible rfl)
          case fqb5 => (go_frame; rfl)
          refine wpIn_take (i := 6) (d := (some 23)) (v := ?vqb6) (a' := ?aqb6) rfl rfl (by kernel_rfl) (by kernel_rfl) (by kernel_rfl) (fun _ _ _ h => h) (Or.inl ⟨by rfl, ?yqb6⟩) ?fqb6 ?_
          case yqb6 => (intro wq hq; go_simp; first | done | with_reducible rfl)
          case fqb6 => (go_frame; rfl)
          refine wpIn_take (i := 7) (d := (some 24)) (v := ?vqb7) (a' := ?aqb7) rfl rfl (by kernel_rfl) (by kernel_rfl) (by kernel_rfl) (fun _ _ _ h => h) (Or.inl ⟨by rfl, ?yqb7⟩) ?fqb7 ?_
          case yqb7 => (intro wq hq; obtain rfl := hq; go_simp; first | done | with_reducible rfl)
          case fqb7 => (go_frame; rfl)
          refine wpIn_take (i := 8) (d := (some 25)) (v := ?vqb8) (a' := ?aqb8) rfl rfl (by kernel_rfl) (by kernel_rfl) (by kernel_rfl) (fun _ _ _ h => h) (Or.inl ⟨by rfl, ?yqb8⟩) ?fqb8 ?_
          case yqb8 => (intro wq hq; go_simp; first | done | with_reducible rfl)
          case fqb8 => (go_frame; rfl)
          refine wpIn_take (i := 9) (d := (some 26)) (v := ?vqb9) (a' := ?aqb9) rfl rfl (by kernel_rfl) (by kernel_rfl) (by kernel_rfl) (fun _ _ _ h => h) (Or.inl ⟨by rfl, ?yqb9⟩) ?fqb9 ?_
          case yqb9 => (intro wq hq; go_simp; first | done | with_reducible rfl)
          case fqb9 => (go_frame; rfl)
          refine wpIn_take (i := 10) (d := (some 27)) (v := ?vqb10) (a' := ?aqb10) rfl rfl (by kernel_rfl) (by kernel_rfl) (by kernel_rfl) (fun _ _ _ h => h) (Or.inl ⟨by rfl, ?yqb10⟩) ?fqb10 ?_
          case yqb10 => (intro wq hq; go_simp; first | done | with_reducible rfl)
          case fqb10 => (go_frame; rfl)
          refine wpIn_take (i := 11) (d := (some 28)) (v := ?vqb11) (a' := ?aqb11) rfl rfl (by kernel_rfl) (by kernel_rfl) (by kernel_rfl) (fun _ _ _ h => h) (Or.inl ⟨by rfl, ?yqb11⟩) ?fqb11 ?_
          case yqb11 => (intro wq hq; go_simp; first | done | with_reducible rfl)
          case fqb11 => (go_frame; rfl)
          refine wpIn_take (i := 12) (d := (some 29)) (v := ?vqb12) (a' := ?aqb12) rfl rfl (by kernel_rfl) (by kernel_rfl) (by kernel_rfl) (fun _ _ _ h => h) (Or.inl ⟨by rfl, ?yqb12⟩) ?fqb12 ?_
          case yqb12 => (intro wq hq; go_simp; first | done | with_reducible rfl)
          case fqb12 => (go_frame; rfl)
          refine wpIn_take (i := 13) (d := (some 30)) (v := ?vqb13) (a' := ?aqb13) rfl rfl (by kernel_rfl) (by kernel_rfl) (by kernel_rfl) (fun _ _ _ h => h) (Or.inl ⟨by rfl, ?yqb13⟩) ?fqb13 ?_
          case yqb13 => (intro wq hq; go_simp; first | done | with_reducible rfl)
          case fqb13 => (go_frame; rfl)
          refine wpIn_take (i := 14) (d := (some 31)) (v := ?vqb14) (a' := ?aqb14) rfl rfl (by kernel_rfl) (by kernel_rfl) (by kernel_rfl) (fun _ _ _ h => h) (Or.inl ⟨by rfl, ?yqb14⟩) ?fqb14 ?_
          case yqb14 => (intro wq hq; obtain rfl := hq; go_simp; first | done | with_reducible rfl)
          case fqb14 => (go_frame; rfl)
          refine wpIn_take (i := 15) (d := (some 32)) (v := ?vqb15) (a' := ?aqb15) rfl rfl (by kernel_rfl) (by kernel_rfl) (by kernel_rfl) (fun _ _ _ h => h) (Or.inl ⟨by rfl, ?yqb15⟩) ?fqb15 ?_
          case yqb15 => (intro wq hq; go_simp; first | done | with_reducible rfl)
          case fqb15 => (go_frame; rfl)
          refine wpIn_take (i := 16) (d := (some 33)) (v := ?vqb16) (a' := ?aqb16) rfl rfl (by kernel_rfl) (by kernel_rfl) (by kernel_rfl) (fun _ _ _ h => h) (Or.inl ⟨by rfl, ?yqb16⟩) ?fqb16 ?_
          case yqb16 => (intro wq hq; go_simp; first | done | with_reducible rfl)
          case fqb16 => (go_frame; rfl)
          refine wpIn_take (i := 17) (d := (some 34)) (v := ?vqb17) (a' := ?aqb17) rfl rfl (by kernel_rfl) (by kernel_rfl) (by kernel_rfl) (fun _ _ _ h => h) (Or.inl ⟨by rfl, ?yqb17⟩) ?fqb17 ?_
          case yqb17 => (intro wq hq; go_simp; first | done | with_reducible rfl)
          case fqb17 => (go_frame; rfl)
          refine wpIn_take (i := 18) (d := (some 35)) (v := ?vqb18) (a' := ?aqb18) rfl rfl (by kernel_rfl) (by kernel_rfl) (by kernel_rfl) (fun _ _ _ h => h) (Or.inl ⟨by rfl, ?yqb18⟩) ?fqb18 ?_
          case yqb18 => (intro wq hq; obtain rfl := hq; go_simp; first | done | with_reducible rfl)
          case fqb18 => (go_frame; rfl)
          refine wpIn_take (i := 19) (d := (some 36)) (v := ?vqb19) (a' := ?aqb19) rfl rfl (by kernel_rfl) (by kernel_rfl) (by kernel_rfl) (fun _ _ _ h => h) (Or.inl ⟨by rfl, ?yqb19⟩) ?fqb19 ?_
          case yqb19 => (intro wq hq; go_simp; first | done | with_reducible rfl)
          case fqb19 => (go_frame; rfl)
          refine wpIn_take (i := 20) (d := (some 37)) (v := ?vqb20) (a' := ?aqb20) rfl rfl (by kernel_rfl) (by kernel_rfl) (by kernel_rfl) (fun _ _ _ h => h) (Or.inl ⟨by rfl, ?yqb20⟩) ?fqb20 ?_
          case yqb20 => (intro wq hq; obtain rfl := hq; go_simp; first | done | with_reducible rfl)
          case fqb20 => (go_frame; rfl)
          refine wpIn_take (i := 21) (d := (some 38)) (v := ?vqb21) (a' := ?aqb21) rfl rfl (by kernel_rfl) (by kernel_rfl) (by kernel_rfl) (fun _ _ _ h => h) (Or.inl ⟨by rfl, ?yqb21⟩) ?fqb21 ?_
          case yqb21 => (intro wq hq; go_simp; first | done | with_reducible rfl)
          case fqb21 => (go_frame; rfl)
          refine wpIn_take (i := 22) (d := (some 39)) (v := ?vqb22) (a' := ?aqb22) rfl rfl (by kernel_rfl) (by kernel_rfl) (by kernel_rfl) (fun _ _ _ h => h) (Or.inl ⟨by rfl, ?yqb22⟩) ?fqb22 ?_
          case yqb22 => (intro wq hq; go_simp; first | done | with_reducible rfl)
          case fqb22 => (go_frame; rfl)
          refine wpIn_done (C := fun w' => w' = wr.drew) rfl (by kernel_rfl) ?_ _
          go_wp2
          go_roundw
          case rel => exact ⟨k + 1, by omega, by go_num, hne, hbd⟩
          case measure => simp [intOf]; omega
      | false =>
        have e_s : (x.1.toList == s.toList) = false := by rw [beqS, hbs]
        have hne := HNX.out (by rintro rfl; simp at hbs)
        clear hbs
        go_wp2
        refine wp_region_in (by kernel_rfl) (fun w' => w' = wr.drew) ?_
        change wpIn _ _ _ _ _ _ _ _ (World.drew _)
        refine wpIn_take (i := 0) (d := (some 17)) (v := ?vqc0) (a' := ?aqc0) rfl rfl (by kernel_rfl) (by kernel_rfl) (by kernel_rfl) (fun _ _ _ h => h) (Or.inl ⟨by rfl, ?yqc0⟩) ?fqc0 ?_
        case yqc0 => (intro wq hq; go_simp; first | done | with_reducible rfl)
        case fqc0 => (go_frame; rfl)
        refine wpIn_take (i := 1) (d := (some 18)) (v := ?vqc1) (a' := ?aqc1) rfl rfl (by kernel_rfl) (by kernel_rfl) (by kernel_rfl) (fun _ _ _ h => h) (Or.inl ⟨by rfl, ?yqc1⟩) ?fqc1 ?_
        case yqc1 => (intro wq hq; go_simp; first | done | with_reducible rfl)
        case fqc1 => (go_frame; rfl)
        refine wpIn_take (i := 2) (d := (some 19)) (v := ?vqc2) (a' := ?aqc2) rfl rfl (by kernel_rfl) (by kernel_rfl) (by kernel_rfl) (fun _ _ _ h => h) (Or.inl ⟨by rfl, ?yqc2⟩) ?fqc2 ?_
        case yqc2 => (intro wq hq; go_simp; first | done | with_reducible rfl)
        case fqc2 => (go_frame; rfl)
        refine wpIn_take (i := 3) (d := (some 20)) (v := ?vqc3) (a' := ?aqc3) rfl rfl (by kernel_rfl) (by kernel_rfl) (by kernel_rfl) (fun _ _ _ h => h) (Or.inl ⟨by rfl, ?yqc3⟩) ?fqc3 ?_
        case yqc3 => (intro wq hq; obtain rfl := hq; go_simp; first | done | with_reducible rfl)
        case fqc3 => (go_frame; rfl)
        refine wpIn_take (i := 4) (d := (some 21)) (v := ?vqc4) (a' := ?aqc4) rfl rfl (by kernel_rfl) (by kernel_rfl) (by kernel_rfl) (fun _ _ _ h => h) (Or.inl ⟨by rfl, ?yqc4⟩) ?fqc4 ?_
        case yqc4 => (intro wq hq; go_simp; first | done | with_reducible rfl)
        case fqc4 => (go_frame; rfl)
        refine wpIn_take (i := 5) (d := (some 22)) (v := ?vqc5) (a' := ?aqc5) rfl rfl (by kernel_rfl) (by kernel_rfl) (by kernel_rfl) (fun _ _ _ h => h) (Or.inl ⟨by rfl, ?yqc5⟩) ?fqc5 ?_
        case yqc5 => (intro wq hq; go_simp; first | done | with_reducible rfl)
        case fqc5 => (go_frame; rfl)
        refine wpIn_take (i := 6) (d := (some 23)) (v := ?vqc6) (a' := ?aqc6) rfl rfl (by kernel_rfl) (by kernel_rfl) (by kernel_rfl) (fun _ _ _ h => h) (Or.inl ⟨by rfl, ?yqc6⟩) ?fqc6 ?_
        case yqc6 => (intro wq hq; go_simp; first | done | with_reducible rfl)
        case fqc6 => (go_frame; rfl)
        refine wpIn_take (i := 7) (d := (some 24)) (v := ?vqc7) (a' := ?aqc7) rfl rfl (by kernel_rfl) (by kernel_rfl) (by kernel_rfl) (fun _ _ _ h => h) (Or.inl ⟨by rfl, ?yqc7⟩) ?fqc7 ?_
        case yqc7 => (intro wq hq; obtain rfl := hq; go_simp; first | done | with_reducible rfl)
        case fqc7 => (go_frame; rfl)
        refine wpIn_take (i := 8) (d := (some 25)) (v := ?vqc8) (a' := ?aqc8) rfl rfl (by kernel_rfl) (by kernel_rfl) (by kernel_rfl) (fun _ _ _ h => h) (Or.inl ⟨by rfl, ?yqc8⟩) ?fqc8 ?_
        case yqc8 => (intro wq hq; go_simp; first | done | with_reducible rfl)
        case fqc8 => (go_frame; rfl)
        refine wpIn_take (i := 9) (d := (some 26)) (v := ?vqc9) (a' := ?aqc9) rfl rfl (by kernel_rfl) (by kernel_rfl) (by kernel_rfl) (fun _ _ _ h => h) (Or.inl ⟨by rfl, ?yqc9⟩) ?fqc9 ?_
        case yqc9 => (intro wq hq; go_simp; first | done | with_reducible rfl)
        case fqc9 => (go_frame; rfl)
        refine wpIn_take (i := 10) (d := (some 27)) (v := ?vqc10) (a' := ?aqc10) rfl rfl (by kernel_rfl) (by kernel_rfl) (by kernel_rfl) (fun _ _ _ h => h) (Or.inl ⟨by rfl, ?yqc10⟩) ?fqc10 ?_
        case yqc10 => (intro wq hq; go_simp; first | done | with_reducible rfl)
        case fqc10 => (go_frame; rfl)
        refine wpIn_take (i := 11) (d := (some 28)) (v := undef) (a' := ?aqc11) rfl rfl (by kernel_rfl) (by kernel_rfl) (by kernel_rfl) (fun _ _ _ h => h) (Or.inr ⟨by rfl, rfl⟩) ?fqc11 ?_
        case fqc11 => (go_frame; rfl)
        refine wpIn_take (i := 12) (d := (some 29)) (v := undef) (a' := ?aqc12) rfl rfl (by kernel_rfl) (by kernel_rfl) (by kernel_rfl) (fun _ _ _ h => h) (Or.inr ⟨by rfl, rfl⟩) ?fqc12 ?_
        case fqc12 => (go_frame; rfl)
        refine wpIn_take (i := 13) (d := (some 30)) (v := undef) (a' := ?aqc13) rfl rfl (by kernel_rfl) (by kernel_rfl) (by kernel_rfl) (fun _ _ _ h => h) (Or.inr ⟨by rfl, rfl⟩) ?fqc13 ?_
        case fqc13 => (go_frame; rfl)
        refine wpIn_take (i := 14) (d := (some 31)) (v := undef) (a' := ?aqc14) rfl rfl (by kernel_rfl) (by kernel_rfl) (by kernel_rfl) (fun _ _ _ h => h) (Or.inr ⟨by rfl, rfl⟩) ?fqc14 ?_
        case fqc14 => (go_frame; rfl)
        refine wpIn_take (i := 15) (d := (some 32)) (v := undef) (a' := ?aqc15) rfl rfl (by kernel_rfl) (by kernel_rfl) (by kernel_rfl) (fun _ _ _ h => h) (Or.inr ⟨by rfl, rfl⟩) ?fqc15 ?_
        case fqc15 => (go_frame; rfl)
        refine wpIn_take (i := 16) (d := (some 33)) (v := undef) (a' := ?aqc16) rfl rfl (by kernel_rfl) (by kernel_rfl) (by kernel_rfl) (fun _ _ _ h => h) (Or.inr ⟨by rfl, rfl⟩) ?fqc16 ?_
        case fqc16 => (go_frame; rfl)
        refine wpIn_take (i := 17) (d := (some 34)) (v := undef) (a' := ?aqc17) rfl rfl (by kernel_rfl) (by kernel_rfl) (by kernel_rfl) (fun _ _ _ h => h) (Or.inr ⟨by rfl, rfl⟩) ?fqc17 ?_
        case fqc17 => (go_frame; rfl)
        refine wpIn_take (i := 18) (d := (some 35)) (v := undef) (a' := ?aqc18) rfl rfl (by kernel_rfl) (by kernel_rfl) (by kernel_rfl) (fun _ _ _ h => h) (Or.inr ⟨by rfl, rfl⟩) ?fqc18 ?_
        case fqc18 => (go_frame; rfl)
        refine wpIn_take (i := 19) (d := (some 36)) (v := undef) (a' := ?aqc19) rfl rfl (by kernel_rfl) (by kernel_rfl) (by kernel_rfl) (fun _ _ _ h => h) (Or.inr ⟨by rfl, rfl⟩) ?fqc19 ?_
        case fqc19 => (go_frame; rfl)
        refine wpIn_take (i := 20) (d := (some 37)) (v := undef) (a' := ?aqc20) rfl rfl (by kernel_rfl) (by kernel_rfl) (by kernel_rfl) (fun _ _ _ h => h) (Or.inr ⟨by rfl, rfl⟩) ?fqc20 ?_
        case fqc20 => (go_frame; rfl)
        refine wpIn_take (i := 21) (d := (some 38)) (v := undef) (a' := ?aqc21) rfl rfl (by kernel_rfl) (by kernel_rfl) (by kernel_rfl) (fun _ _ _ h => h) (Or.inr ⟨by rfl, rfl⟩) ?fqc21 ?_
        case fqc21 => (go_frame; rfl)
        refine wpIn_take (i := 22) (d := (some 39)) (v := ?vqc22) (a' := ?aqc22) rfl rfl (by kernel_rfl) (by kernel_rfl) (by kernel_rfl) (fun _ _ _ h => h) (Or.inl ⟨by rfl, ?yqc22⟩) ?fqc22 ?_
        case yqc22 => (intro wq hq; go_simp; first | done | with_reducible rfl)
        case fqc22 => (go_frame; rfl)
        refine wpIn_done (C := fun w' => w' = wr.drew) rfl (by kernel_rfl) ?_ _
        go_wp2
        go_roundw
        case rel => exact ⟨k + 1, by omega, by go_num, hne, hbd⟩
        case measure => simp [intOf]; omega
    · obtain rfl : k = H.length := by omega
      have hn := HA.out
      rw [List.take_length] at hn
      go_wp2
      go_ret
      exact ⟨ret_int (fnd_out hn).symm, hb⟩

/-- Is a token right, by the document's table. -/
def rver (H : List (ByteArray × ByteArray)) (s t k : ByteArray) : Bool := inn H (s, t) && decide (lt (no H (s, t)) = k)

set_option maxHeartbeats 1000000 in
theorem rverify_any {B rb : Nat} {v0 v1 v2 vt : Value} {S D T : List ByteArray} {H : List (ByteArray × ByteArray)} (s k : ByteArray) (zs : List Int) (p : Option Addr) (c : Nat) (w : World) (h : Rt B w rb v0 v1 v2 vt S D H T) (hrz : Rd w.heap.size w p c zs) (hH : H.length ≤ 100000) :
    Calls Try.prog 20 #[.pointer (some ⟨rb, 0, none⟩), .string s, .slice p zs.length c, .string k] w fun e w' => e = .returned (.bool (rver H s (strOfNums zs) k)) ∧ Below w.heap.size w w' := by
  have HF : Hid (Calls Try.prog 31 #[.pointer (some ⟨rb, 0, none⟩), .string s, .slice p zs.length c] w fun e w' => e = .returned (.int .i64 (fnd H (s, strOfNums zs))) ∧ Below w.heap.size w w') := find_any s zs p c w h hrz hH
  obtain ⟨t, ht⟩ : ∃ t, t = strOfNums zs := ⟨_, rfl⟩
  rw [← ht] at HF ⊢
  cases hi : inn H (s, t) with
  | false =>
    have HR : Hid (rver H s t k = false) := by show _ = _; unfold rver; rw [hi]; rfl
    rw [fnd_out (inn_not.1 hi)] at HF
    go_enter Try.func20, Try.ntmps20
    go_wp2_with (go_at_call 31; refine HF.out.mono ?_; rintro e w1 ⟨rfl, hb1⟩)
    go_ret
    exact ⟨ret_bool HR.out.symm, hb1⟩
  | true =>
    have h1 := no_pos H (s, t)
    have h2 := no_le H (s, t)
    rw [fnd_in (inn_iff.1 hi)] at HF
    obtain ⟨n, hn⟩ : ∃ n, n = no H (s, t) := ⟨_, rfl⟩
    have HR : Hid (rver H s t k = ((lt n).toList == k.toList)) := by show _ = _; unfold rver; rw [hi, beqS, hn]; simp
    rw [← hn] at HF h1 h2
    have h01 : 0 ≤ n := by omega
    have h02 : n < 9223372036854775808 := by omega
    clear hn hi h
    go_enter Try.func20, Try.ntmps20
    go_wp2_with (first
      | (go_at_call 31; refine HF.out.mono ?_; rintro e w1 ⟨rfl, hb1⟩)
      | (go_at_call 27; refine (number_any _ _ h01 h02).mono ?_; rintro e w2 ⟨rfl, hb2⟩))
    go_ret
    exact ⟨ret_bool HR.out.symm, hb1.trans (hb2.mono hb1.size)⟩
end Go.Proofs.Ytjgogmlmcebgpaa

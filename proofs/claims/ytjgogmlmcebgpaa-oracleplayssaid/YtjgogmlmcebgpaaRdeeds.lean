/-
  Digest and Sign of the document's table, by their contracts.
-/
import Derived.Test.YtjgogmlmcebgpaaFind
import Derived.Test.YtjgogmlmcebgpaaTwo
namespace Go.Proofs.Ytjgogmlmcebgpaa
open Go.RowKit Go.Maps

/-- The bytes of s lie in block bb. -/
structure Byt (w : World) (bb cap : Nat) (s : ByteArray) : Prop where
  obj : ∃ cs f, w.heap[bb]? = some (.cells cs 5 f)
  rd : Rd w.heap.size w (some ⟨bb, 0, none⟩) cap (ints s)
theorem byt_any (s : ByteArray) (w : World) : ∃ cap w1, Bytes w w1 s cap ∧ Byt w1 w.heap.size cap s := by
  obtain ⟨cap, w1, h⟩ := bytes_any s w
  refine ⟨cap, w1, h, ?_, h.rd⟩
  have h1 := h.run
  rw [Lib.run_convert_string_bytes w 9 37 5 s Try.underlying9 Try.underlying37 Try.underlying5] at h1
  simp only [Result.ok.injEq] at h1
  rw [← h1.2]
  exact ⟨_, _, Lib.bytesWorld_at_new w 5 s⟩
theorem Byt.keep {w w' : World} {bb cap : Nat} {s : ByteArray} (h : Byt w bb cap s) (hh : w'.heap[bb]? = w.heap[bb]?) (hs : w.heap.size ≤ w'.heap.size) : Byt w' bb cap s := by
  refine ⟨by rw [hh]; exact h.obj, h.rd.1, h.rd.2.1, fun j hj => ?_⟩
  obtain ⟨a, ha, hB, hc⟩ := h.rd.2.2 j hj
  cases ha
  refine ⟨_, rfl, Nat.lt_of_lt_of_le hB hs, ?_⟩
  rw [World.cell?_of_block (w := w) (by rw [add_block]; exact hh)]
  exact hc
theorem Byt.fr {w w' : World} {B bb cap : Nat} {s : ByteArray} (h : Byt w bb cap s) (hf : Fr B w w') : Byt w' bb cap s := by
  obtain ⟨cs, f, e⟩ := h.obj
  exact h.keep ((hf.rows bb cs 5 f e (.inr rfl)).trans e.symm) hf.low.size
theorem Byt.grown {w w' : World} {row : Option Nat} {bb cap : Nat} {s : ByteArray} (h : Byt w bb cap s) (hg : w.grownBy w' row) (hr : Bare w row) : Byt w' bb cap s := by
  obtain ⟨cs, f, e⟩ := h.obj
  exact h.keep ((obj_bare e hg hr).trans e.symm) hg.size
theorem Byt.below {w w' : World} {bb cap : Nat} {s : ByteArray} (h : Byt w bb cap s) (hb : Below w.heap.size w w') : Byt w' bb cap s := h.grown (below_grown hb) (bare_none _)
theorem Byt.str {w : World} {bb cap : Nat} {s : ByteArray} (h : Byt w bb cap s) : (convert 37 9 (.slice (some ⟨bb, 0, none⟩) s.size cap)).run Try.prog w = .ok (.string s) w := by
  have := rd_string h.rd
  rw [ints_length, str_ints] at this
  exact this

section
variable {B rb : Nat} {v0 v1 v2 vt : Value} {S D T : List ByteArray} {H : List (ByteArray × ByteArray)}
theorem find_byt {w : World} {bb cap : Nat} {t : ByteArray} (s : ByteArray) (h : Rt B w rb v0 v1 v2 vt S D H T) (hb : Byt w bb cap t) (hH : H.length ≤ 100000) :
    Calls Try.prog 31 #[.pointer (some ⟨rb, 0, none⟩), .string s, .slice (some ⟨bb, 0, none⟩) t.size cap] w fun e w' => e = .returned (.int .i64 (fnd H (s, t))) ∧ Below w.heap.size w w' := by
  have := find_any s (ints t) _ cap w h hb.rd hH
  rw [ints_length, str_ints] at this
  exact this
theorem rverify_byt {w : World} {bb cap : Nat} {t : ByteArray} (s k : ByteArray) (h : Rt B w rb v0 v1 v2 vt S D H T) (hb : Byt w bb cap t) (hH : H.length ≤ 100000) :
    Calls Try.prog 20 #[.pointer (some ⟨rb, 0, none⟩), .string s, .slice (some ⟨bb, 0, none⟩) t.size cap, .string k] w fun e w' => e = .returned (.bool (rver H s t k)) ∧ Below w.heap.size w w' := by
  have := rverify_any s k (ints t) _ cap w h hb.rd hH
  rw [ints_length, str_ints] at this
  exact this
end

/-- What Digest leaves. -/
structure RDig (B : Nat) (w : World) (rb : Nat) (v0 v2 vt : Value) (S D : List ByteArray) (H : List (ByteArray × ByteArray)) (T : List ByteArray) (s : ByteArray) (e : Ending) (w' : World) : Prop where
  ret : e = .returned (.string (lt (no D s)))
  tab : ∃ v1', Rt B w' rb v0 v1' v2 vt S (add D s) H T
  fr : Fr B w w'
/-- What Sign leaves. -/
structure RSig (B : Nat) (w : World) (rb : Nat) (v0 v1 vt : Value) (S D : List ByteArray) (H : List (ByteArray × ByteArray)) (T : List ByteArray) (s t : ByteArray) (e : Ending) (w' : World) : Prop where
  ret : e = .returned (.tuple #[.string (lt (no H (s, t))), .int .i64 0])
  tab : ∃ v2', Rt B w' rb v0 v1 v2' vt S D (add H (s, t)) T
  fr : Fr B w w'
theorem Try.info67 : (Try.prog.info? 67).map (fun i => (i.zero, i.size, i.bytes)) = some (some (.agg #[.string ⟨#[]⟩, .string ⟨#[]⟩]), 2, 32) := by kernel_rfl
theorem no_hereS {D : List ByteArray} {k : Nat} (hk : k < D.length) (hn : D.getD k ⟨#[]⟩ ∉ D.take k) : no D (D.getD k ⟨#[]⟩) = (k : Int) + 1 := by
  have hm := getD_memS (d := ⟨#[]⟩) hk
  have := idx_here hk hn
  rw [idx_plc hm] at this
  rw [no_mem hm]
  unfold plc at this
  omega

set_option maxRecDepth 100000 in
set_option maxHeartbeats 4000000 in
theorem rdigest_byt {B rb : Nat} {v0 v1 v2 vt : Value} {S D T : List ByteArray} {H : List (ByteArray × ByteArray)} {w : World} {bb cap : Nat} {s : ByteArray} (h : Rt B w rb v0 v1 v2 vt S D H T) (hbt : Byt w bb cap s) (hD : D.length ≤ 100000) :
    Calls Try.prog 15 #[.pointer (some ⟨rb, 0, none⟩), .slice (some ⟨bb, 0, none⟩) s.size cap] w fun e w' => RDig B w rb v0 v2 vt S D H T s e w' := by
  obtain ⟨q, cq, rfl, hrd, _⟩ := own_rds h.texts
  go_enter Try.func15, Try.ntmps15
  go_wp2
  go_loopw [5] (fun i wr => ∃ k : Nat, k ≤ D.length ∧ i = .int .i64 k ∧ s ∉ D.take k ∧ Below w.heap.size w wr) (fun i _ => D.length - (intOf i).toNat)
  case atStart => exact ⟨0, Nat.zero_le _, rfl, by simp, Below.refl _ _⟩
  case round =>
    obtain ⟨k, hk, rfl, hall, hb⟩ := hrel
    have HA : Hid (s ∉ D.take k) := hall
    clear hall
    have hbd := hb.drew
    have hc1 := (h.below hb).c1
    have hd1 := (h.below hbd).c1
    have hcv := (hbt.below hbd).str
    by_cases hlt : k < D.length
    · obtain ⟨ad, rfl, had, c1⟩ := (hrd.carry hbd).2 k hlt
      obtain ⟨x, hx⟩ : ∃ x, D.getD k ⟨#[]⟩ = x := ⟨_, rfl⟩
      rw [hx] at c1
      have HX : Hid (D.getD k ⟨#[]⟩ = x) := hx
      clear hx
      cases hxs : decide (x = s) with
      | true =>
        have e_t : (x.toList == s.toList) = true := by rw [beqS, hxs]
        have HE : Hid (no D s = (k : Int) + 1 ∧ add D s = D) := by
          have e : D.getD k ⟨#[]⟩ = s := by rw [HX.out]; exact of_decide_eq_true hxs
          have h1 := no_hereS hlt (by rw [e]; exact HA.out)
          have h2 := getD_memS (d := ⟨#[]⟩) hlt
          rw [e] at h1 h2
          exact ⟨h1, add_mem h2⟩
        have h01 : 0 ≤ (k : Int) + 1 := by omega
        have h02 : (k : Int) + 1 < 9223372036854775808 := by omega
        clear hxs
        go_wp2
        refine wp_region_in (by kernel_rfl) (fun w' => w' = wr.drew) ?_
        change wpIn _ _ _ _ _ _ _ _ (World.drew _)
        refine wpIn_take (i := 0) (d := (some 15)) (v := ?vqa0) (a' := ?aqa0) rfl rfl (by kernel_rfl) (by kernel_rfl) (by kernel_rfl) (fun _ _ _ h => h) (Or.inl ⟨by rfl, ?yqa0⟩) ?fqa0 ?_
        case yqa0 => (intro wq hq; go_simp; first | done | with_reducible rfl)
        case fqa0 => (go_frame; rfl)
        refine wpIn_take (i := 1) (d := (some 16)) (v := ?vqa1) (a' := ?aqa1) rfl rfl (by kernel_rfl) (by kernel_rfl) (by kernel_rfl) (fun _ _ _ h => h) (Or.inl ⟨by rfl, ?yqa1⟩) ?fqa1 ?_
        case yqa1 => (intro wq hq; go_simp; first | done | with_reducible rfl)
        case fqa1 => (go_frame; rfl)
        refine wpIn_take (i := 2) (d := (some 17)) (v := ?vqa2) (a' := ?aqa2) rfl rfl (by kernel_rfl) (by kernel_rfl) (by kernel_rfl) (fun _ _ _ h => h) (Or.inl ⟨by rfl, ?yqa2⟩) ?fqa2 ?_
        case yqa2 => (intro wq hq; go_simp; first | done | with_reducible rfl)
        case fqa2 => (go_frame; rfl)
        refine wpIn_take (i := 3) (d := (some 18)) (v := ?vqa3) (a' := ?aqa3) rfl rfl (by kernel_rfl) (by kernel_rfl) (by kernel_rfl) (fun _ _ _ h => h) (Or.inl ⟨by rfl, ?yqa3⟩) ?fqa3 ?_
        case yqa3 => (intro wq hq; obtain rfl := hq; go_simp; first | done | with_reducible rfl)
        case fqa3 => (go_frame; rfl)
        refine wpIn_take (i := 4) (d := (some 19)) (v := ?vqa4) (a' := ?aqa4) rfl rfl (by kernel_rfl) (by kernel_rfl) (by kernel_rfl) (fun _ _ _ h => h) (Or.inl ⟨by rfl, ?yqa4⟩) ?fqa4 ?_
        case yqa4 => (intro wq hq; go_simp; first | done | with_reducible rfl)
        case fqa4 => (go_frame; rfl)
        refine wpIn_take (i := 5) (d := (some 20)) (v := ?vqa5) (a' := ?aqa5) rfl rfl (by kernel_rfl) (by kernel_rfl) (by kernel_rfl) (fun _ _ _ h => h) (Or.inl ⟨by rfl, ?yqa5⟩) ?fqa5 ?_
        case yqa5 => (intro wq hq; go_simp; first | done | with_reducible rfl)
        case fqa5 => (go_frame; rfl)
        refine wpIn_take (i := 6) (d := (some 21)) (v := ?vqa6) (a' := ?aqa6) rfl rfl (by kernel_rfl) (by kernel_rfl) (by kernel_rfl) (fun _ _ _ h => h) (Or.inl ⟨by rfl, ?yqa6⟩) ?fqa6 ?_
        case yqa6 => (intro wq hq; obtain rfl := hq; go_simp; first | done | with_reducible rfl)
        case fqa6 => (go_frame; rfl)
        refine wpIn_take (i := 7) (d := (some 22)) (v := ?vqa7) (a' := ?aqa7) rfl rfl (by kernel_rfl) (by kernel_rfl) (by kernel_rfl) (fun _ _ _ h => h) (Or.inl ⟨by rfl, ?yqa7⟩) ?fqa7 ?_
        case yqa7 => (intro wq hq; go_simp; first | done | with_reducible rfl)
        case fqa7 => (go_frame; rfl)
        refine wpIn_take (i := 8) (d := (some 23)) (v := ?vqa8) (a' := ?aqa8) rfl rfl (by kernel_rfl) (by kernel_rfl) (by kernel_rfl) (fun _ _ _ h => h) (Or.inl ⟨by rfl, ?yqa8⟩) ?fqa8 ?_
        case yqa8 => (intro wq hq; obtain rfl := hq; go_simp; first | done | with_reducible rfl)
        case fqa8 => (go_frame; rfl)
        refine wpIn_take (i := 9) (d := (some 24)) (v := ?vqa9) (a' := ?aqa9) rfl rfl (by kernel_rfl) (by kernel_rfl) (by kernel_rfl) (fun _ _ _ h => h) (Or.inl ⟨by rfl, ?yqa9⟩) ?fqa9 ?_
        case yqa9 => (intro wq hq; go_simp; first | done | with_reducible rfl)
        case fqa9 => (go_frame; rfl)
        refine wpIn_done (C := fun w' => w' = wr.drew) rfl (by kernel_rfl) ?_ _
        go_wp2_with (go_at_call 27; refine (number_any _ _ h01 h02).mono ?_; rintro e w9 ⟨rfl, hb9⟩)
        go_ret
        have hb9' := hbd.trans (hb9.mono hbd.size)
        exact ⟨ret_str (by rw [HE.out.1]), ⟨_, by rw [HE.out.2]; exact h.below hb9'⟩, Fr.below h.le hb9'⟩
      | false =>
        have e_t : (x.toList == s.toList) = false := by rw [beqS, hxs]
        have hn : s ∉ D.take (k + 1) := fun h => by
          rcases (take_mem_snoc (d := ⟨#[]⟩) hlt).1 h with h' | h'
          · exact HA.out h'
          · rw [HX.out] at h'; simp [h'] at hxs
        clear hxs
        go_wp2
        refine wp_region_in (by kernel_rfl) (fun w' => w' = wr.drew) ?_
        change wpIn _ _ _ _ _ _ _ _ (World.drew _)
        refine wpIn_take (i := 0) (d := (some 15)) (v := ?vqb0) (a' := ?aqb0) rfl rfl (by kernel_rfl) (by kernel_rfl) (by kernel_rfl) (fun _ _ _ h => h) (Or.inl ⟨by rfl, ?yqb0⟩) ?fqb0 ?_
        case yqb0 => (intro wq hq; go_simp; first | done | with_reducible rfl)
        case fqb0 => (go_frame; rfl)
        refine wpIn_take (i := 1) (d := (some 16)) (v := ?vqb1) (a' := ?aqb1) rfl rfl (by kernel_rfl) (by kernel_rfl) (by kernel_rfl) (fun _ _ _ h => h) (Or.inl ⟨by rfl, ?yqb1⟩) ?fqb1 ?_
        case yqb1 => (intro wq hq; go_simp; first | done | with_reducible rfl)
        case fqb1 => (go_frame; rfl)
        refine wpIn_take (i := 2) (d := (some 17)) (v := ?vqb2) (a' := ?aqb2) rfl rfl (by kernel_rfl) (by kernel_rfl) (by kernel_rfl) (fun _ _ _ h => h) (Or.inl ⟨by rfl, ?yqb2⟩) ?fqb2 ?_
        case yqb2 => (intro wq hq; go_simp; first | done | with_reducible rfl)
        case fqb2 => (go_frame; rfl)
        refine wpIn_take (i := 3) (d := (some 18)) (v := ?vqb3) (a' := ?aqb3) rfl rfl (by kernel_rfl) (by kernel_rfl) (by kernel_rfl) (fun _ _ _ h => h) (Or.inl ⟨by rfl, ?yqb3⟩) ?fqb3 ?_
        case yqb3 => (intro wq hq; obtain rfl := hq; go_simp; first | done | with_reducible rfl)
        case fqb3 => (go_frame; rfl)
        refine wpIn_take (i := 4) (d := (some 19)) (v := ?vqb4) (a' := ?aqb4) rfl rfl (by kernel_rfl) (by kernel_rfl) (by kernel_rfl) (fun _ _ _ h => h) (Or.inl ⟨by rfl, ?yqb4⟩) ?fqb4 ?_
        case yqb4 => (intro wq hq; go_simp; first | done | with_reducible rfl)
        case fqb4 => (go_frame; rfl)
        refine wpIn_take (i := 5) (d := (some 20)) (v := ?vqb5) (a' := ?aqb5) rfl rfl (by kernel_rfl) (by kernel_rfl) (by kernel_rfl) (fun _ _ _ h => h) (Or.inl ⟨by rfl, ?yqb5⟩) ?fqb5 ?_
        case yqb5 => (intro wq hq; go_simp; first | done | with_reducible rfl)
        case fqb5 => (go_frame; rfl)
        refine wpIn_take (i := 6) (d := (some 21)) (v := ?vqb6) (a' := ?aqb6) rfl rfl (by kernel_rfl) (by kernel_rfl) (by kernel_rfl) (fun _ _ _ h => h) (Or.inl ⟨by rfl, ?yqb6⟩) ?fqb6 ?_
        case yqb6 => (intro wq hq; obtain rfl := hq; go_simp; first | done | with_reducible rfl)
        case fqb6 => (go_frame; rfl)
        refine wpIn_take (i := 7) (d := (some 22)) (v := ?vqb7) (a' := ?aqb7) rfl rfl (by kernel_rfl) (by kernel_rfl) (by kernel_rfl) (fun _ _ _ h => h) (Or.inl ⟨by rfl, ?yqb7⟩) ?fqb7 ?_
        case yqb7 => (intro wq hq; go_simp; first | done | with_reducible rfl)
        case fqb7 => (go_frame; rfl)
        refine wpIn_take (i := 8) (d := (some 23)) (v := ?vqb8) (a' := ?aqb8) rfl rfl (by kernel_rfl) (by kernel_rfl) (by kernel_rfl) (fun _ _ _ h => h) (Or.inl ⟨by rfl, ?yqb8⟩) ?fqb8 ?_
        case yqb8 => (intro wq hq; obtain rfl := hq; go_simp; first | done | with_reducible rfl)
        case fqb8 => (go_frame; rfl)
        refine wpIn_take (i := 9) (d := (some 24)) (v := ?vqb9) (a' := ?aqb9) rfl rfl (by kernel_rfl) (by kernel_rfl) (by kernel_rfl) (fun _ _ _ h => h) (Or.inl ⟨by rfl, ?yqb9⟩) ?fqb9 ?_
        case yqb9 => (intro wq hq; go_simp; first | done | with_reducible rfl)
        case fqb9 => (go_frame; rfl)
        refine wpIn_done (C := fun w' => w' = wr.drew) rfl (by kernel_rfl) ?_ _
        go_wp2
        go_roundw
        case rel => exact ⟨k + 1, by omega, by go_num, hn, hbd⟩
        case measure => simp [intOf]; omega
    · obtain rfl : k = D.length := by omega
      have hn := HA.out
      rw [List.take_length] at hn
      have hC0 := hbt.below hbd
      have hal : Below wr.drew.heap.size wr.drew (wr.drew.alloc (.cells #[.string s] 9)) := (Below.refl _ _).alloc (Nat.le_refl _) _
      have hbd1 := hbd.trans (hal.mono hbd.size)
      have hrt1 := h.below hbd1
      have hC1 := hC0.below hal
      have he1 : (wr.alloc (.cells #[.string s] 9)).cell? ⟨rb, 1, none⟩ = some (.slice q D.length cq) := hrt1.c1
      clear hcv hal
      go_wp2
      refine wp_region_in (by kernel_rfl) (fun w' => Byt w' bb cap s) ?_
      change wpIn _ _ _ _ _ _ _ _ (World.drew _)
      refine wpIn_take (i := 0) (d := (some 28)) (v := ?vqcD0) (a' := ?aqcD0) rfl rfl (by kernel_rfl) (by kernel_rfl) (by kernel_rfl) (fun _ _ _ h => h) (Or.inl ⟨by rfl, ?yqcD0⟩) ?fqcD0 ?_
      case yqcD0 => (intro wq hq; go_simp; first | done | with_reducible rfl)
      case fqcD0 => (go_frame; rfl)
      refine wpIn_take (i := 1) (d := (some 29)) (v := ?vqcD1) (a' := ?aqcD1) rfl rfl (by kernel_rfl) (by kernel_rfl) (by kernel_rfl) (fun _ _ _ h => h) (Or.inl ⟨by rfl, ?yqcD1⟩) ?fqcD1 ?_
      case yqcD1 => (intro wq hq; go_simp; first | done | with_reducible rfl)
      case fqcD1 => (go_frame; rfl)
      refine wpIn_take (i := 2) (d := (some 30)) (v := ?vqcD2) (a' := ?aqcD2) rfl rfl (by kernel_rfl) (by kernel_rfl) (by kernel_rfl) (fun _ _ _ h => h) (Or.inl ⟨by rfl, ?yqcD2⟩) ?fqcD2 ?_
      case yqcD2 => (intro wq hq; go_simp; first | done | with_reducible rfl)
      case fqcD2 => (go_frame; rfl)
      refine wpIn_take (i := 3) (d := (some 31)) (v := ?vqcD3) (a' := ?aqcD3) rfl rfl (by kernel_rfl) (by kernel_rfl) (by kernel_rfl) (fun _ _ _ h => h) (Or.inl ⟨by rfl, ?yqcD3⟩) ?fqcD3 ?_
      case yqcD3 => (intro wq hq; go_simp; first | done | with_reducible rfl)
      case fqcD3 => (go_frame; rfl)
      refine wpIn_take (i := 5) (d := (some 33)) (v := ?vqcD5) (a' := ?aqcD5) rfl rfl (by kernel_rfl) (by kernel_rfl) (by kernel_rfl) (fun _ _ _ h => h) (Or.inl ⟨by rfl, ?yqcD5⟩) ?fqcD5 ?_
      case yqcD5 => (intro wq hq; go_simp; first | done | with_reducible rfl)
      case fqcD5 => (go_frame; rfl)
      refine wpIn_take (i := 6) (d := (some 34)) (v := ?vqcD6) (a' := ?aqcD6) rfl rfl (by kernel_rfl) (by kernel_rfl) (by kernel_rfl) (fun _ _ _ h => h) (Or.inl ⟨by rfl, ?yqcD6⟩) ?fqcD6 ?_
      case yqcD6 => (intro wq hq; have hcv := hq.str; go_simp; first | done | with_reducible rfl)
      case fqcD6 => (go_frame; rfl)
      refine wpIn_pair (i := 4) (j := 7) hC0 (by kernel_rfl) rfl rfl (by rfl) (by rfl) ?_ ?_
      · intro K hK
        go_simp
        refine hK _ _ ?_
        clear hK K
        refine wpIn_do (i := 7) hC0 (by kernel_rfl) rfl (by rfl) ?_
        intro K hK
        go_simp
        refine hK _ _ ?_
        clear hK K
        refine wpIn_do (i := 8) hC1 (by kernel_rfl) rfl (by rfl) ?_
        intro K hK
        refine wp_append_at (.tmp 32) (.tmp 35) 22 rfl (rb + 1) 9 (.string ⟨#[]⟩) 1 16 Try.underlying22 Try.info9 rfl (by decide) (by decide) _ D.length (D.map Value.string) rfl hrt1.texts _ [.string s] rfl rfl (cell_one_new _ _ _) (str_oneCell [s]) (by omega) hrt1.lt ?_
        intro v6 w6 hown6 hgrow6 hat6
        refine hK _ _ ?_
        clear hK K
        have hown6' : w6.ownsRow (rb + 1) 9 1 v6 (D ++ [s]).length ((D ++ [s]).map Value.string) := by simpa using hown6
        obtain ⟨hrt7, hfr7⟩ := hrt1.text hown6' hgrow6 hat6
        have hne : some rb ≠ (Value.slice q D.length cq).ownBlock := fun e => by have := own_base hrt1.texts rb e.symm; omega
        have hc6 := hgrow6.cell hrt1.c1 hne
        have hf6 : w6.frozen? ⟨rb, 1, none⟩ = false := by
          have := World.frozen?_of_block (a := ⟨rb, 1, none⟩) (hgrow6.block rb hrt1.lt hne)
          rw [this]
          exact hrt1.fz 1
        have hC6 : Byt w6 bb cap s := by
          obtain ⟨cs, f, e⟩ := hC1.obj
          refine hC1.keep (hgrow6.block bb (obj_lt e) (fun e' => ?_)) hgrow6.size
          rcases hrt1.texts.2 with ⟨h', _⟩ | ⟨g, cap', cur, h', _, hgg, _⟩
          · rw [h'] at e'; cases e'
          · rw [h'] at e'; cases e'; rw [hgg] at e; cases e
        have hC7 := hC1.fr hfr7
        have HFR : Hid (Fr B w _) := (Fr.below h.le hbd1).trans hfr7
        obtain ⟨L, hL⟩ : ∃ L, L = D ++ [s] := ⟨_, rfl⟩
        rw [← hL] at hown6' hrt7
        have HL : Hid (L = D ++ [s]) := hL
        have hLl : L.length = D.length + 1 := by rw [hL]; simp
        have HLl : Hid (L.length = D.length + 1) := hLl
        have h01 : 0 ≤ (L.length : Int) := by omega
        have h02 : (L.length : Int) < 9223372036854775808 := by omega
        obtain ⟨q6, c6, hv6⟩ : ∃ q c, v6 = .slice q L.length c := by
          rcases hown6'.2 with ⟨h', h0⟩ | ⟨g, cap', cur, h', _⟩
          · omega
          · exact ⟨_, _, h'⟩
        subst hv6
        clear hL hLl hown6 hown6' hgrow6 hat6 hne
        refine wpIn_take (i := 9) (d := (some 37)) (v := ?vqdD9) (a' := ?aqdD9) rfl rfl (by kernel_rfl) (by kernel_rfl) (by kernel_rfl) (fun _ _ _ h => h) (Or.inl ⟨by rfl, ?yqdD9⟩) ?fqdD9 ?_
        case yqdD9 => (intro wq hq; go_simp; first | done | with_reducible rfl)
        case fqdD9 => (go_frame; rfl)
        refine wpIn_take (i := 10) (d := (some 38)) (v := ?vqdD10) (a' := ?aqdD10) rfl rfl (by kernel_rfl) (by kernel_rfl) (by kernel_rfl) (fun _ _ _ h => h) (Or.inl ⟨by rfl, ?yqdD10⟩) ?fqdD10 ?_
        case yqdD10 => (intro wq hq; go_simp; first | done | with_reducible rfl)
        case fqdD10 => (go_frame; rfl)
        refine wpIn_do (i := 11) hC6 (by kernel_rfl) rfl (by rfl) ?_
        intro K hK
        go_simp
        refine hK _ _ ?_
        clear hK K hc6 hf6
        have hc7 := hrt7.c1
        refine wpIn_done hC7 (by kernel_rfl) ?_ _
        go_wp2_with (go_at_call 27; refine (number_any _ _ h01 h02).mono ?_; rintro e w9 ⟨rfl, hb9⟩)
        go_ret
        refine ⟨ret_str (by rw [no_new hn, HLl.out]; rfl), ⟨.slice q6 L.length c6, ?_⟩, HFR.out.trans (Fr.below hrt7.le hb9)⟩
        have ea : add D s = L := by rw [HL.out]; unfold add; rw [if_neg hn]
        rw [ea]
        exact hrt7.below hb9
      · intro K hK
        go_simp
        refine hK _ _ ?_
        clear hK K
        refine wpIn_do (i := 4) hC1 (by kernel_rfl) rfl (by rfl) ?_
        intro K hK
        go_simp
        refine hK _ _ ?_
        clear hK K
        refine wpIn_do (i := 8) hC1 (by kernel_rfl) rfl (by rfl) ?_
        intro K hK
        refine wp_append_at (.tmp 32) (.tmp 35) 22 rfl (rb + 1) 9 (.string ⟨#[]⟩) 1 16 Try.underlying22 Try.info9 rfl (by decide) (by decide) _ D.length (D.map Value.string) rfl hrt1.texts _ [.string s] rfl rfl (cell_one_new _ _ _) (str_oneCell [s]) (by omega) hrt1.lt ?_
        intro v6 w6 hown6 hgrow6 hat6
        refine hK _ _ ?_
        clear hK K
        have hown6' : w6.ownsRow (rb + 1) 9 1 v6 (D ++ [s]).length ((D ++ [s]).map Value.string) := by simpa using hown6
        obtain ⟨hrt7, hfr7⟩ := hrt1.text hown6' hgrow6 hat6
        have hne : some rb ≠ (Value.slice q D.length cq).ownBlock := fun e => by have := own_base hrt1.texts rb e.symm; omega
        have hc6 := hgrow6.cell hrt1.c1 hne
        have hf6 : w6.frozen? ⟨rb, 1, none⟩ = false := by
          have := World.frozen?_of_block (a := ⟨rb, 1, none⟩) (hgrow6.block rb hrt1.lt hne)
          rw [this]
          exact hrt1.fz 1
        have hC6 : Byt w6 bb cap s := by
          obtain ⟨cs, f, e⟩ := hC1.obj
          refine hC1.keep (hgrow6.block bb (obj_lt e) (fun e' => ?_)) hgrow6.size
          rcases hrt1.texts.2 with ⟨h', _⟩ | ⟨g, cap', cur, h', _, hgg, _⟩
          · rw [h'] at e'; cases e'
          · rw [h'] at e'; cases e'; rw [hgg] at e; cases e
        have hC7 := hC1.fr hfr7
        have HFR : Hid (Fr B w _) := (Fr.below h.le hbd1).trans hfr7
        obtain ⟨L, hL⟩ : ∃ L, L = D ++ [s] := ⟨_, rfl⟩
        rw [← hL] at hown6' hrt7
        have HL : Hid (L = D ++ [s]) := hL
        have hLl : L.length = D.length + 1 := by rw [hL]; simp
        have HLl : Hid (L.length = D.length + 1) := hLl
        have h01 : 0 ≤ (L.length : Int) := by omega
        have h02 : (L.length : Int) < 9223372036854775808 := by omega
        obtain ⟨q6, c6, hv6⟩ : ∃ q c, v6 = .slice q L.length c := by
          rcases hown6'.2 with ⟨h', h0⟩ | ⟨g, cap', cur, h', _⟩
          · omega
          · exact ⟨_, _, h'⟩
        subst hv6
        clear hL hLl hown6 hown6' hgrow6 hat6 hne
        refine wpIn_take (i := 9) (d := (some 37)) (v := ?vqeD9) (a' := ?aqeD9) rfl rfl (by kernel_rfl) (by kernel_rfl) (by kernel_rfl) (fun _ _ _ h => h) (Or.inl ⟨by rfl, ?yqeD9⟩) ?fqeD9 ?_
        case yqeD9 => (intro wq hq; go_simp; first | done | with_reducible rfl)
        case fqeD9 => (go_frame; rfl)
        refine wpIn_take (i := 10) (d := (some 38)) (v := ?vqeD10) (a' := ?aqeD10) rfl rfl (by kernel_rfl) (by kernel_rfl) (by kernel_rfl) (fun _ _ _ h => h) (Or.inl ⟨by rfl, ?yqeD10⟩) ?fqeD10 ?_
        case yqeD10 => (intro wq hq; go_simp; first | done | with_reducible rfl)
        case fqeD10 => (go_frame; rfl)
        refine wpIn_do (i := 11) hC6 (by kernel_rfl) rfl (by rfl) ?_
        intro K hK
        go_simp
        refine hK _ _ ?_
        clear hK K hc6 hf6
        have hc7 := hrt7.c1
        refine wpIn_done hC7 (by kernel_rfl) ?_ _
        go_wp2_with (go_at_call 27; refine (number_any _ _ h01 h02).mono ?_; rintro e w9 ⟨rfl, hb9⟩)
        go_ret
        refine ⟨ret_str (by rw [no_new hn, HLl.out]; rfl), ⟨.slice q6 L.length c6, ?_⟩, HFR.out.trans (Fr.below hrt7.le hb9)⟩
        have ea : add D s = L := by rw [HL.out]; unfold add; rw [if_neg hn]
        rw [ea]
        exact hrt7.below hb9

set_option maxRecDepth 100000 in
set_option maxHeartbeats 4000000 in
theorem rsign_byt {B rb : Nat} {v0 v1 v2 vt : Value} {S D T : List ByteArray} {H : List (ByteArray × ByteArray)} {w : World} {bb cap : Nat} {t : ByteArray} (s : ByteArray) (h : Rt B w rb v0 v1 v2 vt S D H T) (hbt : Byt w bb cap t) (hS : S.length ≤ 1000) (hH : H.length ≤ 100000) (hin : inn S s = true) :
    Calls Try.prog 17 #[.pointer (some ⟨rb, 0, none⟩), .string s, .slice (some ⟨bb, 0, none⟩) t.size cap] w fun e w' => RSig B w rb v0 v1 vt S D H T s t e w' := by
  obtain ⟨q, cq, rfl, _, _⟩ := rt_pairs h.signed
  have HF : Hid (Calls Try.prog 31 #[.pointer (some ⟨rb, 0, none⟩), .string s, .slice (some ⟨bb, 0, none⟩) t.size cap] w fun e w' => e = .returned (.int .i64 (fnd H (s, t))) ∧ Below w.heap.size w w') := find_byt s h hbt hH
  cases hi : inn H (s, t) with
  | true =>
    have hm := inn_iff.1 hi
    rw [fnd_in hm] at HF
    have h1 := no_pos H (s, t)
    have h2 := no_le H (s, t)
    obtain ⟨n, hn⟩ : ∃ n, n = no H (s, t) := ⟨_, rfl⟩
    have HN : Hid (n = no H (s, t)) := hn
    rw [← hn] at HF h1 h2
    have h01 : 0 ≤ n := by omega
    have h02 : n < 9223372036854775808 := by omega
    clear hn
    go_enter Try.func17, Try.ntmps17
    go_wp2_with (first
      | (go_at_call 30; refine (has_any s _ h hS).mono ?_; rintro e w' ⟨rfl, rfl⟩)
      | (go_at_call 31; refine HF.out.mono ?_; rintro e w1 ⟨rfl, hb1⟩)
      | (go_at_call 27; refine (number_any _ _ h01 h02).mono ?_; rintro e w2 ⟨rfl, hb2⟩))
    go_ret2
    have hb := hb1.trans (hb2.mono hb1.size)
    exact ⟨ret_sign (by rw [HN.out]) rfl, ⟨_, by rw [add_mem hm]; exact h.below hb⟩, Fr.below h.le hb⟩
  | false =>
    have hn := inn_not.1 hi
    rw [fnd_out hn] at HF
    go_enter Try.func17, Try.ntmps17
    go_wp2_with (first
      | (go_at_call 30; refine (has_any s _ h hS).mono ?_; rintro e w' ⟨rfl, rfl⟩)
      | (go_at_call 31; refine HF.out.mono ?_; rintro e wr ⟨rfl, hb⟩))
    have hbd := hb.drew
    have hd2 := (h.below hbd).c2
    have hC0 := hbt.below hbd
    have hal : Below wr.drew.heap.size wr.drew (wr.drew.alloc (.cells #[.string s, .string t] 67)) := (Below.refl _ _).alloc (Nat.le_refl _) _
    have hbd1 := hbd.trans (hal.mono hbd.size)
    have hrt1 := h.below hbd1
    have hC1 := hC0.below hal
    have he1 : (wr.alloc (.cells #[.string s, .string t] 67)).cell? ⟨rb, 2, none⟩ = some (.slice q H.length cq) := hrt1.c2
    have hnew : ∀ j u, [Value.string s, .string t][j]? = some u → (wr.drew.alloc (.cells #[.string s, .string t] 67)).cell? ((⟨wr.drew.heap.size, 0, none⟩ : Addr).add j) = some u := by
      intro j u hj
      have e : (⟨wr.drew.heap.size, 0, none⟩ : Addr).add j = ⟨wr.drew.heap.size, j, none⟩ := by unfold Addr.add; split <;> simp_all
      rw [e]
      exact cell_row (cur := [Value.string s, .string t]) (heap_alloc_new _ _) j _ hj
    clear hal
    refine wp_region_in (by kernel_rfl) (fun w' => Byt w' bb cap t) ?_
    change wpIn _ _ _ _ _ _ _ _ (World.drew _)
    refine wpIn_take (i := 0) (d := (some 19)) (v := ?vqcH0) (a' := ?aqcH0) rfl rfl (by kernel_rfl) (by kernel_rfl) (by kernel_rfl) (fun _ _ _ h => h) (Or.inl ⟨by rfl, ?yqcH0⟩) ?fqcH0 ?_
    case yqcH0 => (intro wq hq; go_simp; first | done | with_reducible rfl)
    case fqcH0 => (go_frame; rfl)
    refine wpIn_take (i := 1) (d := (some 20)) (v := ?vqcH1) (a' := ?aqcH1) rfl rfl (by kernel_rfl) (by kernel_rfl) (by kernel_rfl) (fun _ _ _ h => h) (Or.inl ⟨by rfl, ?yqcH1⟩) ?fqcH1 ?_
    case yqcH1 => (intro wq hq; go_simp; first | done | with_reducible rfl)
    case fqcH1 => (go_frame; rfl)
    refine wpIn_take (i := 2) (d := (some 21)) (v := ?vqcH2) (a' := ?aqcH2) rfl rfl (by kernel_rfl) (by kernel_rfl) (by kernel_rfl) (fun _ _ _ h => h) (Or.inl ⟨by rfl, ?yqcH2⟩) ?fqcH2 ?_
    case yqcH2 => (intro wq hq; go_simp; first | done | with_reducible rfl)
    case fqcH2 => (go_frame; rfl)
    refine wpIn_take (i := 3) (d := (some 22)) (v := ?vqcH3) (a' := ?aqcH3) rfl rfl (by kernel_rfl) (by kernel_rfl) (by kernel_rfl) (fun _ _ _ h => h) (Or.inl ⟨by rfl, ?yqcH3⟩) ?fqcH3 ?_
    case yqcH3 => (intro wq hq; go_simp; first | done | with_reducible rfl)
    case fqcH3 => (go_frame; rfl)
    refine wpIn_take (i := 5) (d := (some 24)) (v := ?vqcH5) (a' := ?aqcH5) rfl rfl (by kernel_rfl) (by kernel_rfl) (by kernel_rfl) (fun _ _ _ h => h) (Or.inl ⟨by rfl, ?yqcH5⟩) ?fqcH5 ?_
    case yqcH5 => (intro wq hq; go_simp; first | done | with_reducible rfl)
    case fqcH5 => (go_frame; rfl)
    refine wpIn_take (i := 6) (d := (some 25)) (v := ?vqcH6) (a' := ?aqcH6) rfl rfl (by kernel_rfl) (by kernel_rfl) (by kernel_rfl) (fun _ _ _ h => h) (Or.inl ⟨by rfl, ?yqcH6⟩) ?fqcH6 ?_
    case yqcH6 => (intro wq hq; go_simp; first | done | with_reducible rfl)
    case fqcH6 => (go_frame; rfl)
    refine wpIn_take (i := 7) (d := (some 26)) (v := ?vqcH7) (a' := ?aqcH7) rfl rfl (by kernel_rfl) (by kernel_rfl) (by kernel_rfl) (fun _ _ _ h => h) (Or.inl ⟨by rfl, ?yqcH7⟩) ?fqcH7 ?_
    case yqcH7 => (intro wq hq; have hcv := hq.str; go_simp; first | done | with_reducible rfl)
    case fqcH7 => (go_frame; rfl)
    refine wpIn_take (i := 8) (d := (some 27)) (v := ?vqcH8) (a' := ?aqcH8) rfl rfl (by kernel_rfl) (by kernel_rfl) (by kernel_rfl) (fun _ _ _ h => h) (Or.inl ⟨by rfl, ?yqcH8⟩) ?fqcH8 ?_
    case yqcH8 => (intro wq hq; go_simp; first | done | with_reducible rfl)
    case fqcH8 => (go_frame; rfl)
    refine wpIn_pair (i := 4) (j := 9) hC0 (by kernel_rfl) rfl rfl (by rfl) (by rfl) ?_ ?_
    · intro K hK
      go_simp
      refine hK _ _ ?_
      clear hK K
      refine wpIn_do (i := 9) hC0 (by kernel_rfl) rfl (by rfl) ?_
      intro K hK
      go_simp
      refine hK _ _ ?_
      clear hK K
      refine wpIn_do (i := 10) hC1 (by kernel_rfl) rfl (by rfl) ?_
      intro K hK
      refine wp_append_at (.tmp 23) (.tmp 28) 43 rfl (rb + 1) 67 (.agg #[.string ⟨#[]⟩, .string ⟨#[]⟩]) 2 32 Try.underlying43 Try.info67 rfl (by decide) (by decide) _ H.length (flat H) rfl hrt1.signed _ [.string s, .string t] rfl rfl hnew (by intro u hu; simp at hu; rcases hu with rfl | rfl <;> rfl) (by omega) hrt1.lt ?_
      intro v6 w6 hown6 hgrow6 hat6
      refine hK _ _ ?_
      clear hK K
      have hown6' : w6.ownsRow (rb + 1) 67 2 v6 (H ++ [(s, t)]).length (flat (H ++ [(s, t)])) := by rw [flat_snoc]; simpa using hown6
      obtain ⟨hrt7, hfr7⟩ := hrt1.sign hown6' hgrow6
      have hne : some rb ≠ (Value.slice q H.length cq).ownBlock := fun e => by have := own_base hrt1.signed rb e.symm; omega
      have hc6 := hgrow6.cell hrt1.c2 hne
      have hf6 : w6.frozen? ⟨rb, 2, none⟩ = false := by
        have := World.frozen?_of_block (a := ⟨rb, 2, none⟩) (hgrow6.block rb hrt1.lt hne)
        rw [this]
        exact hrt1.fz 2
      have hC6 : Byt w6 bb cap t := by
        obtain ⟨cs, f, e⟩ := hC1.obj
        refine hC1.keep (hgrow6.block bb (obj_lt e) (fun e' => ?_)) hgrow6.size
        rcases hrt1.signed.2 with ⟨h', _⟩ | ⟨g, cap', cur, h', _, hgg, _⟩
        · rw [h'] at e'; cases e'
        · rw [h'] at e'; cases e'; rw [hgg] at e; cases e
      have hC7 := hC1.fr hfr7
      have HFR : Hid (Fr B w _) := (Fr.below h.le hbd1).trans hfr7
      obtain ⟨L, hL⟩ : ∃ L, L = H ++ [(s, t)] := ⟨_, rfl⟩
      rw [← hL] at hown6' hrt7
      have HL : Hid (L = H ++ [(s, t)]) := hL
      have hLl : L.length = H.length + 1 := by rw [hL]; simp
      have HLl : Hid (L.length = H.length + 1) := hLl
      have h01 : 0 ≤ (L.length : Int) := by omega
      have h02 : (L.length : Int) < 9223372036854775808 := by omega
      obtain ⟨q6, c6, hv6⟩ : ∃ q c, v6 = .slice q L.length c := by
        rcases hown6'.2 with ⟨h', h0⟩ | ⟨g, cap', cur, h', _⟩
        · omega
        · exact ⟨_, _, h'⟩
      subst hv6
      clear hL hLl hown6 hown6' hgrow6 hat6 hne
      refine wpIn_take (i := 11) (d := (some 30)) (v := ?vqdH11) (a' := ?aqdH11) rfl rfl (by kernel_rfl) (by kernel_rfl) (by kernel_rfl) (fun _ _ _ h => h) (Or.inl ⟨by rfl, ?yqdH11⟩) ?fqdH11 ?_
      case yqdH11 => (intro wq hq; go_simp; first | done | with_reducible rfl)
      case fqdH11 => (go_frame; rfl)
      refine wpIn_take (i := 12) (d := (some 31)) (v := ?vqdH12) (a' := ?aqdH12) rfl rfl (by kernel_rfl) (by kernel_rfl) (by kernel_rfl) (fun _ _ _ h => h) (Or.inl ⟨by rfl, ?yqdH12⟩) ?fqdH12 ?_
      case yqdH12 => (intro wq hq; go_simp; first | done | with_reducible rfl)
      case fqdH12 => (go_frame; rfl)
      refine wpIn_do (i := 13) hC6 (by kernel_rfl) rfl (by rfl) ?_
      intro K hK
      go_simp
      refine hK _ _ ?_
      clear hK K hc6 hf6
      have hc7 := hrt7.c2
      refine wpIn_done hC7 (by kernel_rfl) ?_ _
      go_wp2_with (go_at_call 27; refine (number_any _ _ h01 h02).mono ?_; rintro e w9 ⟨rfl, hb9⟩)
      go_ret2
      refine ⟨ret_sign (by rw [no_new hn, HLl.out]; rfl) rfl, ⟨.slice q6 L.length c6, ?_⟩, HFR.out.trans (Fr.below hrt7.le hb9)⟩
      have ea : add H (s, t) = L := by rw [HL.out]; unfold add; rw [if_neg hn]
      rw [ea]
      exact hrt7.below hb9
    · intro K hK
      go_simp
      refine hK _ _ ?_
      clear hK K
      refine wpIn_do (i := 4) hC1 (by kernel_rfl) rfl (by rfl) ?_
      intro K hK
      go_simp
      refine hK _ _ ?_
      clear hK K
      refine wpIn_do (i := 10) hC1 (by kernel_rfl) rfl (by rfl) ?_
      intro K hK
      refine wp_append_at (.tmp 23) (.tmp 28) 43 rfl (rb + 1) 67 (.agg #[.string ⟨#[]⟩, .string ⟨#[]⟩]) 2 32 Try.underlying43 Try.info67 rfl (by decide) (by decide) _ H.length (flat H) rfl hrt1.signed _ [.string s, .string t] rfl rfl hnew (by intro u hu; simp at hu; rcases hu with rfl | rfl <;> rfl) (by omega) hrt1.lt ?_
      intro v6 w6 hown6 hgrow6 hat6
      refine hK _ _ ?_
      clear hK K
      have hown6' : w6.ownsRow (rb + 1) 67 2 v6 (H ++ [(s, t)]).length (flat (H ++ [(s, t)])) := by rw [flat_snoc]; simpa using hown6
      obtain ⟨hrt7, hfr7⟩ := hrt1.sign hown6' hgrow6
      have hne : some rb ≠ (Value.slice q H.length cq).ownBlock := fun e => by have := own_base hrt1.signed rb e.symm; omega
      have hc6 := hgrow6.cell hrt1.c2 hne
      have hf6 : w6.frozen? ⟨rb, 2, none⟩ = false := by
        have := World.frozen?_of_block (a := ⟨rb, 2, none⟩) (hgrow6.block rb hrt1.lt hne)
        rw [this]
        exact hrt1.fz 2
      have hC6 : Byt w6 bb cap t := by
        obtain ⟨cs, f, e⟩ := hC1.obj
        refine hC1.keep (hgrow6.block bb (obj_lt e) (fun e' => ?_)) hgrow6.size
        rcases hrt1.signed.2 with ⟨h', _⟩ | ⟨g, cap', cur, h', _, hgg, _⟩
        · rw [h'] at e'; cases e'
        · rw [h'] at e'; cases e'; rw [hgg] at e; cases e
      have hC7 := hC1.fr hfr7
      have HFR : Hid (Fr B w _) := (Fr.below h.le hbd1).trans hfr7
      obtain ⟨L, hL⟩ : ∃ L, L = H ++ [(s, t)] := ⟨_, rfl⟩
      rw [← hL] at hown6' hrt7
      have HL : Hid (L = H ++ [(s, t)]) := hL
      have hLl : L.length = H.length + 1 := by rw [hL]; simp
      have HLl : Hid (L.length = H.length + 1) := hLl
      have h01 : 0 ≤ (L.length : Int) := by omega
      have h02 : (L.length : Int) < 9223372036854775808 := by omega
      obtain ⟨q6, c6, hv6⟩ : ∃ q c, v6 = .slice q L.length c := by
        rcases hown6'.2 with ⟨h', h0⟩ | ⟨g, cap', cur, h', _⟩
        · omega
        · exact ⟨_, _, h'⟩
      subst hv6
      clear hL hLl hown6 hown6' hgrow6 hat6 hne
      refine wpIn_take (i := 11) (d := (some 30)) (v := ?vqeH11) (a' := ?aqeH11) rfl rfl (by kernel_rfl) (by kernel_rfl) (by kernel_rfl) (fun _ _ _ h => h) (Or.inl ⟨by rfl, ?yqeH11⟩) ?fqeH11 ?_
      case yqeH11 => (intro wq hq; go_simp; first | done | with_reducible rfl)
      case fqeH11 => (go_frame; rfl)
      refine wpIn_take (i := 12) (d := (some 31)) (v := ?vqeH12) (a' := ?aqeH12) rfl rfl (by kernel_rfl) (by kernel_rfl) (by kernel_rfl) (fun _ _ _ h => h) (Or.inl ⟨by rfl, ?yqeH12⟩) ?fqeH12 ?_
      case yqeH12 => (intro wq hq; go_simp; first | done | with_reducible rfl)
      case fqeH12 => (go_frame; rfl)
      refine wpIn_do (i := 13) hC6 (by kernel_rfl) rfl (by rfl) ?_
      intro K hK
      go_simp
      refine hK _ _ ?_
      clear hK K hc6 hf6
      have hc7 := hrt7.c2
      refine wpIn_done hC7 (by kernel_rfl) ?_ _
      go_wp2_with (go_at_call 27; refine (number_any _ _ h01 h02).mono ?_; rintro e w9 ⟨rfl, hb9⟩)
      go_ret2
      refine ⟨ret_sign (by rw [no_new hn, HLl.out]; rfl) rfl, ⟨.slice q6 L.length c6, ?_⟩, HFR.out.trans (Fr.below hrt7.le hb9)⟩
      have ea : add H (s, t) = L := by rw [HL.out]; unfold add; rw [if_neg hn]
      rw [ea]
      exact hrt7.below hb9

theorem rsign_none {B rb : Nat} {v0 v1 v2 vt : Value} {S D T : List ByteArray} {H : List (ByteArray × ByteArray)} {w : World} (s : ByteArray) (x : Value) (h : Rt B w rb v0 v1 v2 vt S D H T) (hS : S.length ≤ 1000) (hin : inn S s = false) :
    Calls Try.prog 17 #[.pointer (some ⟨rb, 0, none⟩), .string s, x] w fun e w' => e = .returned (.tuple #[.string ⟨#[]⟩, .int .i64 2]) ∧ w = w' := by
  go_enter Try.func17, Try.ntmps17
  go_wp2_with (go_at_call 30; refine (has_any s _ h hS).mono ?_; rintro e w' ⟨rfl, rfl⟩)
  go_ret2
  exact ⟨rfl, rfl⟩
end Go.Proofs.Ytjgogmlmcebgpaa

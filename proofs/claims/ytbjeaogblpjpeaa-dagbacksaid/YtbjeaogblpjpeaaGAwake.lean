/-
  The chapter's examples hold.
-/
import Derived.Test.YtbjeaogblpjpeaaGBothW
import Derived.Test.YtbjeaogblpjpeaaGReachF
import Derived.Test.YtbjeaogblpjpeaaGHeads
namespace Go.Proofs.Ytbjeaogblpjpeaa
open Go.RowKit Go.Maps

def exL : List Dd := [⟨⟨#[97]⟩, [], []⟩, ⟨⟨#[98]⟩, [⟨#[97]⟩], []⟩, ⟨⟨#[99]⟩, [⟨#[97]⟩], []⟩, ⟨⟨#[100]⟩, [⟨#[99]⟩, ⟨#[98]⟩], []⟩]
def exT : List Th := [⟨⟨#[97]⟩, [], []⟩, ⟨⟨#[98]⟩, [0], []⟩, ⟨⟨#[99]⟩, [0], []⟩, ⟨⟨#[100]⟩, [1, 2], []⟩]
theorem ex_play : playT exL = exT := by kernel_rfl
theorem ex_few : fewB exL = true := by kernel_rfl
theorem ex_heads : heads (min 4 exT.length) [true, true, true, false] (prevs exT) = [1, 2] := by kernel_rfl
theorem ex_good : Good exT := by
  rw [← ex_play]
  exact good_play _ fun d hd => ((few_iff.1 ex_few).2 d hd).1
theorem ex_past : reach exT.length (prevs exT) (frm exT.length [3]) = [0, 1, 2] := by
  refine rise_ext (reach_rise _ _ _) (by decide) fun x => ?_
  rw [mem_reach]
  have h1 : Rch (prevs exT) (frm exT.length [3]) 1 := .one (i := 3) ⟨by decide, by simp⟩ (by decide)
  have h2 : Rch (prevs exT) (frm exT.length [3]) 2 := .one (i := 3) ⟨by decide, by simp⟩ (by decide)
  have h0 : Rch (prevs exT) (frm exT.length [3]) 0 := .more h1 (by decide)
  constructor
  · rintro ⟨_, h⟩
    obtain ⟨i, hi, hx⟩ := rch_lt ex_good.pl h
    have : (i : Int) = 3 := by simpa using hi.2
    have hx3 : x < 3 := by omega
    match x, hx3 with
    | 0, _ => simp
    | 1, _ => simp
    | 2, _ => simp
  · intro h
    simp only [List.mem_cons, List.not_mem_nil, or_false] at h
    rcases h with rfl | rfl | rfl
    · exact ⟨by decide, h0⟩
    · exact ⟨by decide, h1⟩
    · exact ⟨by decide, h2⟩
theorem row_new {α : Type} {enc : α → Value} (w : World) (xs : List α) (t : Nat) {w' : World} (hb : Below (w.heap.size + 1) (w.alloc (.cells (xs.map enc).toArray t)) w') : Rd enc (· = w.heap.size) w' (some ⟨w.heap.size, 0, none⟩) xs.length xs := by
  refine ⟨Nat.le_refl _, fun _ => ⟨w.heap.size, 0, rfl, rfl, fun j x hj => ?_⟩⟩
  rw [Nat.zero_add]
  exact cell_row (cur := xs.map enc) ((hb.block _ (by omega)).trans (heap_alloc_new _ _)) j _ (by rw [List.getElem?_map, hj]; rfl)
theorem ex_both (w : World) : Calls Try.prog 11 #[.slice (some ⟨w.heap.size + 1 + 1 + 1, 0, none⟩) 4 4]
    ((((w.alloc (.cells #[.string ⟨#[97]⟩] 9)).alloc (.cells #[.string ⟨#[97]⟩] 9)).alloc (.cells #[.string ⟨#[99]⟩, .string ⟨#[98]⟩] 9)).alloc
      (.cells #[.string ⟨#[97]⟩, .slice none 0 0, .slice none 0 0, .string ⟨#[98]⟩, .slice (some ⟨w.heap.size, 0, none⟩) 1 1, .slice none 0 0, .string ⟨#[99]⟩, .slice (some ⟨w.heap.size + 1, 0, none⟩) 1 1, .slice none 0 0, .string ⟨#[100]⟩, .slice (some ⟨w.heap.size + 1 + 1, 0, none⟩) 2 2, .slice none 0 0] 56))
    fun e w' => ∃ gb hb, e = .returned (.tuple #[.pointer (some ⟨gb, 0, none⟩), .pointer (some ⟨hb, 0, none⟩), .bool true]) ∧ Bo w.heap.size w' gb hb exT exT ∧ Below w.heap.size w w' := by
  obtain ⟨w1, hw1⟩ : ∃ x, x = w.alloc (.cells #[.string ⟨#[97]⟩] 9) := ⟨_, rfl⟩
  obtain ⟨w2, hw2⟩ : ∃ x, x = w1.alloc (.cells #[.string ⟨#[97]⟩] 9) := ⟨_, rfl⟩
  obtain ⟨w3, hw3⟩ : ∃ x, x = w2.alloc (.cells #[.string ⟨#[99]⟩, .string ⟨#[98]⟩] 9) := ⟨_, rfl⟩
  obtain ⟨o, ho⟩ : ∃ o : Obj, o = Obj.cells #[Value.string ⟨#[97]⟩, .slice none 0 0, .slice none 0 0, .string ⟨#[98]⟩, .slice (some ⟨w.heap.size, 0, none⟩) 1 1, .slice none 0 0, .string ⟨#[99]⟩, .slice (some ⟨w.heap.size + 1, 0, none⟩) 1 1, .slice none 0 0, .string ⟨#[100]⟩, .slice (some ⟨w.heap.size + 1 + 1, 0, none⟩) 2 2, .slice none 0 0] 56 := ⟨_, rfl⟩
  rw [← hw1, ← hw2, ← hw3, ← ho]
  have s1 : w1.heap.size = w.heap.size + 1 := by rw [hw1]; simp
  have s2 : w2.heap.size = w.heap.size + 1 + 1 := by rw [hw2]; simp [s1]
  have s3 : w3.heap.size = w.heap.size + 1 + 1 + 1 := by rw [hw3]; simp [s2]
  have s4 : (w3.alloc o).heap.size = w.heap.size + 1 + 1 + 1 + 1 := by simp [s3]
  have b1 : Below w.heap.size w w1 := by rw [hw1]; exact (Below.refl _ _).alloc (Nat.le_refl _) _
  have b2 : Below w1.heap.size w1 w2 := by rw [hw2]; exact (Below.refl _ _).alloc (Nat.le_refl _) _
  have b3 : Below w2.heap.size w2 w3 := by rw [hw3]; exact (Below.refl _ _).alloc (Nat.le_refl _) _
  have b4 : Below w3.heap.size w3 (w3.alloc o) := (Below.refl _ _).alloc (Nat.le_refl _) _
  have b24 : Below w1.heap.size w1 (w3.alloc o) := b2.trans ((b3.trans (b4.mono (by omega))).mono (by omega))
  have b34 : Below w2.heap.size w2 (w3.alloc o) := b3.trans (b4.mono (by omega))
  have bw : Below w.heap.size w (w3.alloc o) := b1.trans (b24.mono (by omega))
  have r1 : RdS (· < (w3.alloc o).heap.size) (w3.alloc o) (some ⟨w.heap.size, 0, none⟩) 1 [⟨#[97]⟩] := (row_new (enc := Value.string) w [⟨#[97]⟩] 9 (by rw [← s1]; change Below _ (w.alloc (.cells #[.string ⟨#[97]⟩] 9)) _; rw [← hw1]; exact b24)).carry (fun _ _ => rfl) fun k hk => by omega
  have r2 : RdS (· < (w3.alloc o).heap.size) (w3.alloc o) (some ⟨w.heap.size + 1, 0, none⟩) 1 [⟨#[97]⟩] := by
    rw [← s1]
    exact (row_new (enc := Value.string) w1 [⟨#[97]⟩] 9 (by change Below _ (w1.alloc (.cells #[.string ⟨#[97]⟩] 9)) _; rw [← hw2]; exact b34.mono (by omega))).carry (fun _ _ => rfl) fun k hk => by omega
  have r3 : RdS (· < (w3.alloc o).heap.size) (w3.alloc o) (some ⟨w.heap.size + 1 + 1, 0, none⟩) 2 [⟨#[99]⟩, ⟨#[98]⟩] := by
    rw [← s2]
    exact (row_new (enc := Value.string) w2 [⟨#[99]⟩, ⟨#[98]⟩] 9 (by change Below _ (w2.alloc (.cells #[.string ⟨#[99]⟩, .string ⟨#[98]⟩] 9)) _; rw [← hw3]; exact b4.mono (by omega))).carry (fun _ _ => rfl) fun k hk => by omega
  have hn := heap_alloc_new w3 o
  rw [ho] at hn
  rw [← ho, s3] at hn
  have cc : ∀ j u, [Value.string ⟨#[97]⟩, .slice none 0 0, .slice none 0 0, .string ⟨#[98]⟩, .slice (some ⟨w.heap.size, 0, none⟩) 1 1, .slice none 0 0, .string ⟨#[99]⟩, .slice (some ⟨w.heap.size + 1, 0, none⟩) 1 1, .slice none 0 0, .string ⟨#[100]⟩, .slice (some ⟨w.heap.size + 1 + 1, 0, none⟩) 2 2, .slice none 0 0][j]? = some u → (w3.alloc o).cell? ⟨w.heap.size + 1 + 1 + 1, j, none⟩ = some u := fun j u hj => cell_row (hn.trans (by rw [ho])) j u hj
  have hrd : RdD (· < (w3.alloc o).heap.size) (w3.alloc o) (some ⟨w.heap.size + 1 + 1 + 1, 0, none⟩) 4 exL := by
    refine ⟨Nat.le_refl _, fun k hk => ?_⟩
    have hk4 : k < 4 := hk
    match k, hk4 with
    | 0, _ => exact ⟨_, 0, none, 0, none, 0, rfl, by omega, cc 0 _ rfl, cc 1 _ rfl, cc 2 _ rfl, Rd.nil _ _ _ _ _, Rd.nil _ _ _ _ _⟩
    | 1, _ => exact ⟨_, 0, _, 1, none, 0, rfl, by omega, cc 3 _ rfl, cc 4 _ rfl, cc 5 _ rfl, r1, Rd.nil _ _ _ _ _⟩
    | 2, _ => exact ⟨_, 0, _, 1, none, 0, rfl, by omega, cc 6 _ rfl, cc 7 _ rfl, cc 8 _ rfl, r2, Rd.nil _ _ _ _ _⟩
    | 3, _ => exact ⟨_, 0, _, 2, none, 0, rfl, by omega, cc 9 _ rfl, cc 10 _ rfl, cc 11 _ rfl, r3, Rd.nil _ _ _ _ _⟩
  have := both_any exL _ 4 (w3.alloc o) hrd ex_few
  refine this.mono ?_
  rintro e w' ⟨gb, hb, he, hbo, hbl⟩
  rw [ex_play] at hbo
  obtain ⟨O, R, h1, h2, h3, h4⟩ := hbo
  exact ⟨gb, hb, he, ⟨O, R, fun k hk => ⟨by have := (h1 k hk).1; omega, (h1 k hk).2⟩, fun k hk => by have := h2 k hk; omega, h3, h4⟩, bw.trans (hbl.mono (by omega))⟩
theorem ex_pastC {O : Nat → Prop} {g : Option Addr} (w : World) (h : Gq O w g exT) : Calls Try.prog 22 #[.pointer g, .slice (some ⟨w.heap.size, 0, none⟩) 1 1] (w.alloc (.cells #[.int .i64 3] 3)) fun e w' => ∃ q c, e = .returned (.slice q 3 c) ∧ RdI (· < w'.heap.size) w' q c [0, 1, 2] ∧ Below w.heap.size w w' := by
  have hb : Below w.heap.size w (w.alloc (.cells #[.int .i64 3] 3)) := (Below.refl _ _).alloc (Nat.le_refl _) _
  have hz : (w.alloc (.cells #[.int .i64 3] 3)).heap.size = w.heap.size + 1 := by simp
  have r : RdI (· < (w.alloc (.cells #[.int .i64 3] 3)).heap.size) (w.alloc (.cells #[.int .i64 3] 3)) (some ⟨w.heap.size, 0, none⟩) 1 [3] := (row_new w [3] 3 (Below.refl _ _)).carry (fun _ _ => rfl) fun k hk => by omega
  refine (Past_any [3] _ 1 _ (h.below hb) ex_good r (by decide) (by decide) (by simp)).mono ?_
  rintro e w' ⟨v, rfl, ho, hb'⟩
  rw [ex_past] at ho
  obtain ⟨q, c, rfl, rr⟩ := own_rd ho
  exact ⟨q, c, rfl, rr.carry (fun _ _ => rfl) fun k hk => (ho.lt k hk).2, hb.trans (hb'.mono (by omega))⟩
theorem ex_headsC {O : Nat → Prop} {g : Option Addr} (w : World) (h : Gq O w g exT) : Calls Try.prog 25 #[.pointer g, .slice (some ⟨w.heap.size, 0, none⟩) 4 4] (w.alloc (.cells #[.bool true, .bool true, .bool true, .bool false] 4)) fun e w' => ∃ q c, e = .returned (.slice q 2 c) ∧ RdI (· < w'.heap.size) w' q c [1, 2] ∧ Below w.heap.size w w' := by
  have hb : Below w.heap.size w (w.alloc (.cells #[.bool true, .bool true, .bool true, .bool false] 4)) := (Below.refl _ _).alloc (Nat.le_refl _) _
  have hz : (w.alloc (.cells #[.bool true, .bool true, .bool true, .bool false] 4)).heap.size = w.heap.size + 1 := by simp
  have r : RdB (· < (w.alloc (.cells #[.bool true, .bool true, .bool true, .bool false] 4)).heap.size) (w.alloc (.cells #[.bool true, .bool true, .bool true, .bool false] 4)) (some ⟨w.heap.size, 0, none⟩) 4 [true, true, true, false] := (row_new w [true, true, true, false] 4 (Below.refl _ _)).carry (fun _ _ => rfl) fun k hk => by omega
  refine (heads_any [true, true, true, false] _ 4 _ (h.below hb) ex_good r (by decide) (by decide)).mono ?_
  rintro e w' ⟨v, rfl, ho, hb'⟩
  rw [show min [true, true, true, false].length exT.length = min 4 exT.length from rfl, ex_heads] at ho
  obtain ⟨q, c, rfl, rr⟩ := own_rd ho
  exact ⟨q, c, rfl, rr.carry (fun _ _ => rfl) fun k hk => (ho.lt k hk).2, hb.trans (hb'.mono (by omega))⟩
theorem ex_ints3 (w : World) (q : Option Addr) (c : Nat) (r : RdI (· < w.heap.size) w q c [0, 1, 2]) : Calls Try.prog 16 #[.slice q 3 c, .slice (some ⟨w.heap.size, 0, none⟩) 3 3] (w.alloc (.cells #[.int .i64 0, .int .i64 1, .int .i64 2] 3)) fun e w' => e = .returned (.bool true) ∧ Below w.heap.size w w' := by
  have hb : Below w.heap.size w (w.alloc (.cells #[.int .i64 0, .int .i64 1, .int .i64 2] 3)) := (Below.refl _ _).alloc (Nat.le_refl _) _
  refine (ints_any [0, 1, 2] [0, 1, 2] q _ c 3 _ (r.below hb) (row_new w [0, 1, 2] 3 (Below.refl _ _)) (by decide) (by decide)).mono ?_
  rintro e w' ⟨rfl, n, rfl⟩
  exact ⟨rfl, hb.trans ((below_drewN _ n).mono (by simp))⟩
theorem ex_ints2 (w : World) (q : Option Addr) (c : Nat) (r : RdI (· < w.heap.size) w q c [1, 2]) : Calls Try.prog 16 #[.slice q 2 c, .slice (some ⟨w.heap.size, 0, none⟩) 2 2] (w.alloc (.cells #[.int .i64 1, .int .i64 2] 3)) fun e w' => e = .returned (.bool true) ∧ Below w.heap.size w w' := by
  have hb : Below w.heap.size w (w.alloc (.cells #[.int .i64 1, .int .i64 2] 3)) := (Below.refl _ _).alloc (Nat.le_refl _) _
  refine (ints_any [1, 2] [1, 2] q _ c 2 _ (r.below hb) (row_new w [1, 2] 3 (Below.refl _ _)) (by decide) (by decide)).mono ?_
  rintro e w' ⟨rfl, n, rfl⟩
  exact ⟨rfl, hb.trans ((below_drewN _ n).mono (by simp))⟩
set_option maxRecDepth 100000 in
set_option maxHeartbeats 4000000 in
theorem awake_any (w : World) : Calls Try.prog 21 #[] w fun e w' => e = .returned (.bool true) ∧ Below w.heap.size w w' := by
  go_enter Try.func21, Try.ntmps21
  go_wp2_with (first
    | (go_at_call 11; refine (ex_both w).mono ?_; rintro e w1 ⟨gb, hb, rfl, hbo, hb1⟩; obtain ⟨O, hq⟩ := hbo.q)
    | (go_at_call 22; refine (ex_pastC w1 hq).mono ?_; rintro e w2 ⟨q2, c2, rfl, r2, hb2⟩; have hq2 := hq.below hb2; have hz2 := hb2.size)
    | (go_at_call 25; refine (ex_headsC w3 hq3).mono ?_; rintro e w4 ⟨q4, c4, rfl, r4, hb4⟩; have hz4 := hb4.size)
    | (go_at_call 16; have _h := hz4; refine (ex_ints2 w4 q4 c4 r4).mono ?_; rintro e w5 ⟨rfl, hb5⟩)
    | (go_at_call 16; refine (ex_ints3 w2 q2 c2 r2).mono ?_; rintro e w3 ⟨rfl, hb3⟩; have hq3 := hq2.below hb3; have hz3 := hb3.size))
  go_ret
  have hz1 := hb1.size
  exact ⟨rfl, hb1.trans ((hb2.trans ((hb3.trans ((hb4.trans (hb5.mono hz4)).mono hz3)).mono hz2)).mono hz1)⟩
end Go.Proofs.Ytbjeaogblpjpeaa

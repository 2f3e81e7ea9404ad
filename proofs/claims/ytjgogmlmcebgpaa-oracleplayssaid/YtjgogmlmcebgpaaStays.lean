/-
  OracleStays, walked.
-/
import Derived.Test.YtjgogmlmcebgpaaFew
import Derived.Test.YtjgogmlmcebgpaaOwn
namespace Go.Proofs.Ytjgogmlmcebgpaa
open Go.RowKit Go.Maps

theorem add_at (a : Addr) (h : a.spot = none) (j : Nat) : a.add j = ⟨a.block, a.off + j, none⟩ := by
  obtain ⟨b, o, s⟩ := a
  simp only at h
  subst h
  unfold Addr.add
  split <;> simp_all
/-- The deed that came in, in the block that the call has laid. -/
theorem at_box (w : World) (x : Dd) (t : Nat) : x.at (w.alloc (.cells #[.int .i64 x.kind, .string x.srv, .string x.txt, .string x.tok, .int .i64 x.n] t)) ⟨w.heap.size, 0, none⟩ :=
  ⟨cell_row (cur := [_, _, _, _, _]) (heap_alloc_new _ _) 0 _ rfl, cell_row (cur := [_, _, _, _, _]) (heap_alloc_new _ _) 1 _ rfl, cell_row (cur := [_, _, _, _, _]) (heap_alloc_new _ _) 2 _ rfl,
    cell_row (cur := [_, _, _, _, _]) (heap_alloc_new _ _) 3 _ rfl, cell_row (cur := [_, _, _, _, _]) (heap_alloc_new _ _) 4 _ rfl⟩
theorem Dd.at.kept {w w' : World} {a : Addr} {d : Dd} {B : Nat} (h : d.at w a) (ha : a.block < B) (hb : Below B w w') : d.at w' a :=
  ⟨(hb.cell (by exact ha)).trans h.1, (hb.cell (by exact ha)).trans h.2.1, (hb.cell (by exact ha)).trans h.2.2.1, (hb.cell (by exact ha)).trans h.2.2.2.1, (hb.cell (by exact ha)).trans h.2.2.2.2⟩
theorem RdD.carry {B : Nat} {w w' : World} {p : Option Addr} {c : Nat} {l : List Dd} (h : RdD B w p c l) (hb : Below B w w') : RdD B w' p c l :=
  ⟨h.1, fun j hj => by
    obtain ⟨a, ha, hB, hat, hf⟩ := h.2 j hj
    exact ⟨a, ha, hB, hat.kept (by rw [add_block]; exact hB) hb, hf⟩⟩
theorem RdD.grow {B B' : Nat} {w : World} {p : Option Addr} {c : Nat} {l : List Dd} (h : RdD B w p c l) (hB : B ≤ B') : RdD B' w p c l :=
  ⟨h.1, fun j hj => by
    obtain ⟨a, ha, hb, r⟩ := h.2 j hj
    exact ⟨a, ha, by omega, r⟩⟩
theorem rdd_one (w : World) (x : Dd) (t : Nat) (hx : x.fit) : RdD (w.alloc (.cells #[.int .i64 x.kind, .string x.srv, .string x.txt, .string x.tok, .int .i64 x.n] t)).heap.size (w.alloc (.cells #[.int .i64 x.kind, .string x.srv, .string x.txt, .string x.tok, .int .i64 x.n] t)) (some ⟨w.heap.size, 0, none⟩) 1 [x] := by
  refine ⟨Nat.le_refl _, fun j hj => ?_⟩
  match j, hj with
  | 0, _ => exact ⟨_, rfl, by simp, at_box w x t, hx⟩
theorem rds_nil (B : Nat) (w : World) : RdS B w none 0 [] := ⟨Nat.le_refl _, fun j hj => absurd hj (by simp)⟩

theorem few_x (w : World) (x : Dd) (hx : x.fit) : Calls Try.prog 9 #[.slice (some ⟨w.heap.size + 1, 0, none⟩) 1 1, .slice none 0 0] ((w.alloc (.cells #[.int .i64 x.kind, .string x.srv, .string x.txt, .string x.tok, .int .i64 x.n] 35)).alloc (.cells #[.int .i64 x.kind, .string x.srv, .string x.txt, .string x.tok, .int .i64 x.n] 35)) fun e w' => e = .returned (.bool (fewB [x] [])) ∧ (w.alloc (.cells #[.int .i64 x.kind, .string x.srv, .string x.txt, .string x.tok, .int .i64 x.n] 35)).alloc (.cells #[.int .i64 x.kind, .string x.srv, .string x.txt, .string x.tok, .int .i64 x.n] 35) = w' := by
  have h := rdd_one (w.alloc (.cells #[.int .i64 x.kind, .string x.srv, .string x.txt, .string x.tok, .int .i64 x.n] 35)) x 35 hx
  have e : (w.alloc (.cells #[.int .i64 x.kind, .string x.srv, .string x.txt, .string x.tok, .int .i64 x.n] 35)).heap.size = w.heap.size + 1 := by simp
  rw [e] at h
  exact few_any [x] _ 1 [] none 0 _ _ (by simp) (by simp) (by simp) h (rds_nil _ _)

theorem same_key {S : List ByteArray} {G : List (Nat × ByteArray)} {s t u v : ByteArray} (hs : inn S s = true) (ht : inn S t = true) (hm : (plc S t, v) ∈ G) (hn : no G (plc S t, v) = 1) (hl : G.length ≤ 100000) :
    ((lt (no G (plc S s, u))).toList == (lt 1).toList) = (decide (s = t) && decide (u = v)) := by
  rw [beqS, Bool.eq_iff_iff]
  simp only [decide_eq_true_eq, Bool.and_eq_true]
  have h1 := no_pos G (plc S s, u)
  have h2 := no_le G (plc S s, u)
  constructor
  · intro h
    have h3 := lt_inj (by omega) (by omega) (by decide) (by decide) h
    have h4 : (plc S s, u) = (plc S t, v) := no_inj (l := add G (plc S s, u)) ((mem_add _ _ _).2 (.inr rfl)) ((mem_add _ _ _).2 (.inl hm)) (by
      rw [no_add hm, hn]
      by_cases hx : (plc S s, u) ∈ G
      · rw [no_add hx, h3]
      · unfold no at h3 ⊢
        rw [add_mem ((mem_add _ _ _).2 (.inr rfl))]
        exact h3)
    simp only [Prod.mk.injEq] at h4
    exact ⟨plc_inj (inn_iff.1 hs) (inn_iff.1 ht) h4.1, h4.2⟩
  · rintro ⟨rfl, rfl⟩
    rw [hn]

theorem ver_eq {S : List ByteArray} {G : List (Nat × ByteArray)} {s t k : ByteArray} (hs : inn S s = true) (hm : (plc S s, t) ∈ G) (hn : no G (plc S s, t) = 1) : ver S G s t k = decide (k = lt 1) := by
  unfold ver
  rw [hs, inn_iff.2 hm, hn]
  simp
theorem ver_self {S : List ByteArray} {G : List (Nat × ByteArray)} {s t : ByteArray} (hs : inn S s = true) (hm : (plc S s, t) ∈ G) : ver S G s t (lt (no G (plc S s, t))) = true := by
  unfold ver
  rw [hs, inn_iff.2 hm]
  simp

set_option maxRecDepth 100000 in
set_option maxHeartbeats 8000000 in
theorem oracleStays_any (S : List ByteArray) (p0 : Option Addr) (c0 : Nat) (l : List Dd) (p1 : Option Addr) (c1 : Nat) (x : Dd) (w : World)
    (hS : S.length ≤ 140737488351232) (hSs : ∀ x ∈ S, x.size ≤ 140737488351232) (hl : l.length ≤ 140737488351232) (hx : x.fit) (hn0 : p0 = none → c0 = 0)
    (hrS : RdS w.heap.size w p0 c0 S) (hrl : RdD w.heap.size w p1 c1 l) :
    Calls Try.prog 6 #[.slice p0 S.length c0, .slice p1 l.length c1, .agg #[.int .i64 x.kind, .string x.srv, .string x.txt, .string x.tok, .int .i64 x.n]] w fun e w' => e = .returned (.bool true) ∧ Below w.heap.size w w' := by
  have HBX : Hid (Below w.heap.size w (w.alloc (.cells #[.int .i64 x.kind, .string x.srv, .string x.txt, .string x.tok, .int .i64 x.n] 35))) := (Below.refl _ _).alloc (Nat.le_refl _) _
  have HATX : Hid (x.at (w.alloc (.cells #[.int .i64 x.kind, .string x.srv, .string x.txt, .string x.tok, .int .i64 x.n] 35)) ⟨w.heap.size, 0, none⟩) := at_box w x 35
  cases hf1 : fewB l S with
  | false =>
    go_enter Try.func6, Try.ntmps6
    go_wp2_with (go_at_call 9; refine (few_any l _ _ S _ _ _ w.heap.size hl hS hSs (hrl.carry HBX.out) (hrS.carry HBX.out)).mono ?_; rintro e w' ⟨rfl, rfl⟩)
    go_ret
    exact ⟨rfl, HBX.out⟩
  | true =>
    have HF := Hid.out (show Hid (fewB l S = true) from hf1)
    obtain ⟨hl100, hS100, hSz, hlz⟩ := fewB_iff.1 HF
    have HLZ : Hid (∀ d ∈ l, d.txt.size ≤ 500 ∧ d.srv.size ≤ 100 ∧ d.tok.size ≤ 100) := hlz
    clear HF hSz hlz
    cases hf2 : fewB [x] [] with
    | false =>
      go_enter Try.func6, Try.ntmps6
      go_wp2_with (first
        | (go_at_call 9; have _h := hB1; refine (few_x _ x hx).mono ?_; rintro e w' ⟨rfl, rfl⟩)
        | (go_at_call 9; refine (few_any l _ _ S _ _ _ w.heap.size hl hS hSs (hrl.carry HBX.out) (hrS.carry HBX.out)).mono ?_; rintro e w' ⟨rfl, rfl⟩; have hB1 := HBX))
      go_ret
      exact ⟨rfl, HBX.out.alloc HBX.out.size _⟩
    | true =>
      obtain ⟨_, _, _, hxz⟩ := fewB_iff.1 hf2
      obtain ⟨hx1, hx2, hx3⟩ := hxz x (by simp)
      clear hxz
      obtain ⟨W2, hW2⟩ : ∃ W2, W2 = (w.alloc (.cells #[.int .i64 x.kind, .string x.srv, .string x.txt, .string x.tok, .int .i64 x.n] 35)).alloc (.cells #[.int .i64 x.kind, .string x.srv, .string x.txt, .string x.tok, .int .i64 x.n] 35) := ⟨_, rfl⟩
      have hb2 : Below w.heap.size w W2 := by rw [hW2]; exact HBX.out.alloc HBX.out.size _
      have hsz2 : W2.heap.size = w.heap.size + 2 := by rw [hW2]; simp
      have hat2 : x.at W2 ⟨w.heap.size, 0, none⟩ := by
        rw [hW2]
        exact HATX.out.kept (B := w.heap.size + 1) (by simp) ((Below.refl _ _).alloc (by simp) _)
      have HFX : Hid (Calls Try.prog 9 #[.slice (some ⟨w.heap.size + 1, 0, none⟩) 1 1, .slice none 0 0] ((w.alloc (.cells #[.int .i64 x.kind, .string x.srv, .string x.txt, .string x.tok, .int .i64 x.n] 35)).alloc (.cells #[.int .i64 x.kind, .string x.srv, .string x.txt, .string x.tok, .int .i64 x.n] 35)) fun e w' => e = .returned (.bool true) ∧ W2 = w') := by
        have := few_x w x hx
        rw [hf2, ← hW2] at this
        rw [← hW2]
        exact this
      have HAT2 : Hid (x.at W2 ⟨w.heap.size, 0, none⟩) := hat2
      have HSZ2 : Hid (W2.heap.size = w.heap.size + 2) := hsz2
      have hwlt : w.heap.size < W2.heap.size := by omega
      clear hW2 hat2 hsz2 hf2
      by_cases hgood : S.length ≤ 64 ∧ once S = true
      case neg =>
        go_enter Try.func6, Try.ntmps6
        go_wp2_with (first
          | (go_at_call 9; have _h := hB1; refine HFX.out.mono ?_; rintro e w' ⟨rfl, rfl⟩)
          | (go_at_call 9; refine (few_any l _ _ S _ _ _ w.heap.size hl hS hSs (hrl.carry HBX.out) (hrS.carry HBX.out)).mono ?_; rintro e w' ⟨rfl, rfl⟩; have hB1 := HBX)
          | (go_at_call 10; refine (new_bad S _ _ _ (by omega) ((hrS.carry hb2).grow (by omega)) hgood).mono ?_; rintro e w' ⟨rfl, rfl⟩)
          | (go_at_call 12; refine (awake_any _).mono ?_; rintro e w3 ⟨rfl, hb3⟩))
        go_ret
        exact ⟨rfl, hb2.trans (hb3.mono hb2.size)⟩
      obtain ⟨h64, hone⟩ := hgood
      cases hin : inn S x.srv with
      | false =>
        go_enter Try.func6, Try.ntmps6
        go_wp2_with (first
          | (go_at_call 9; have _h := hB1; refine HFX.out.mono ?_; rintro e w' ⟨rfl, rfl⟩)
          | (go_at_call 9; refine (few_any l _ _ S _ _ _ w.heap.size hl hS hSs (hrl.carry HBX.out) (hrS.carry HBX.out)).mono ?_; rintro e w' ⟨rfl, rfl⟩; have hB1 := HBX)
          | (go_at_call 10; refine (new_good S _ _ _ h64 hone ((hrS.carry hb2).grow (by omega)) hn0).mono ?_; rintro e w1 ⟨tb, rfl, ⟨vv, b1, b2, ht1⟩, hb1⟩; obtain ⟨cap, wc, hconv⟩ := bytes_any x.txt w1; have hrun := hconv.run; obtain ⟨z0, z1, z2, z3, z4⟩ := HAT2.out.kept hwlt hb1; have htc := ht1.below hconv.below)
          | (go_at_call 16; refine (sign_none x.srv _ _ htc hin).mono ?_; rintro e w' ⟨rfl, rfl⟩)
          | (go_at_call 22; refine (tokens_any _ htc).mono ?_; rintro e w' ⟨rfl, rfl⟩)
          | (go_at_call 12; refine (awake_any _).mono ?_; rintro e w3 ⟨rfl, hb3⟩))
        go_ret
        have q1 := hb2.trans (hb1.mono hb2.size)
        have q2 := q1.trans (hconv.below.mono q1.size)
        exact ⟨rfl, q2.trans (hb3.mono q2.size)⟩
      | true =>
        go_enter Try.func6, Try.ntmps6
        go_wp2_with (first
          | (go_at_call 9; have _h := hB1; refine HFX.out.mono ?_; rintro e w' ⟨rfl, rfl⟩)
          | (go_at_call 9; refine (few_any l _ _ S _ _ _ w.heap.size hl hS hSs (hrl.carry HBX.out) (hrS.carry HBX.out)).mono ?_; rintro e w' ⟨rfl, rfl⟩; have hB1 := HBX)
          | (go_at_call 10; refine (new_good S _ _ _ h64 hone ((hrS.carry hb2).grow (by omega)) hn0).mono ?_; rintro e w1 ⟨tb, rfl, ⟨vv, b1, b2, ht1⟩, hb1⟩; obtain ⟨cap, wc, hconv⟩ := bytes_any x.txt w1; have hrun := hconv.run; obtain ⟨z0, z1, z2, z3, z4⟩ := HAT2.out.kept hwlt hb1)
          | (go_at_call 16; refine (sign_text x.srv ht1 hconv (by omega) (by simp) hin).mono ?_; rintro e w3 ⟨rfl, ht3, hg3⟩))
        rw [no_nil]
        rw [add_nil] at ht3
        have hb3 : Below W2.heap.size W2 w3 := hb1.trans (ht1.under2 hg3)
        clear z0 z1 z2 z3 z4 ht1 hb1 hg3 hconv hrun
        go_loopw [11] (fun i wr => ∃ (k : Nat) (D : List ByteArray) (G : List (Nat × ByteArray)), k ≤ l.length ∧ i = .int .i64 k ∧ Tab W2.heap.size wr tb vv b1 b2 S D G ∧ (plc S x.srv, x.txt) ∈ G ∧ no G (plc S x.srv, x.txt) = 1 ∧ G.length ≤ k + 1 ∧ D.length ≤ k ∧ Below W2.heap.size W2 wr) (fun i _ => l.length - (intOf i).toNat)
        case atStart => exact ⟨0, [], [(plc S x.srv, x.txt)], Nat.zero_le _, rfl, ht3, by simp, no_one _, by simp, by simp, hb3⟩
        case round =>
          clear ht3 hb3
          obtain ⟨k, D, G, hk, rfl, ht, hmem, hno, hGl, hDl, hb⟩ := hrel
          have HM : Hid ((plc S x.srv, x.txt) ∈ G) := hmem
          have HNO : Hid (no G (plc S x.srv, x.txt) = 1) := hno
          have HXC : Hid (∀ w', Below W2.heap.size W2 w' → w'.cell? ⟨w.heap.size, 1, none⟩ = some (.string x.srv) ∧ w'.cell? ⟨w.heap.size, 2, none⟩ = some (.string x.txt) ∧ w'.cell? ⟨w.heap.size, 3, none⟩ = some (.string x.tok)) := fun w' h => by
            obtain ⟨_, h1, h2, h3, _⟩ := HAT2.out.kept hwlt h
            simp only [Nat.zero_add] at h1 h2 h3
            exact ⟨h1, h2, h3⟩
          clear hmem hno
          by_cases hlt : k < l.length
          · obtain ⟨ad, rfl, had, hatd, hfd⟩ := hrl.2 k hlt
            have hdm := getD_mem (d := Dd.none) hlt
            obtain ⟨d, hd⟩ : ∃ d, l.getD k Dd.none = d := ⟨_, rfl⟩
            rw [hd] at hatd hfd hdm
            obtain ⟨hd1, hd2, hd3⟩ := HLZ.out d hdm
            have HD : Hid (∀ w', Below W2.heap.size W2 w' → d.at w' (ad.add (k * 5))) := fun w' h => hatd.kept (by rw [add_block]; exact had) (hb2.trans (h.mono hb2.size))
            clear hd hatd hdm
            obtain ⟨y0, y1, y2, y3, y4⟩ := HD.out wr hb
            by_cases hk1 : d.kind = 1
            · clear y1 y2 y3 y4
              rw [hk1] at y0
              have hbd : Below W2.heap.size W2 wr.drew := hb.drew
              have htd := ht.grown (grown_drew wr none)
              obtain ⟨cap, wc, hconv⟩ := bytes_any d.txt wr.drew
              have hbc : Below W2.heap.size W2 wc := hbd.trans (hconv.below.mono htd.le)
              have htc := htd.below hconv.below
              have hC0 := HD.out _ hbd
              have hC1 := HD.out _ hbc
              have hrun := hconv.run
              cases hsd : inn S d.srv with
              | false =>
                go_wp2
                refine wp_region_in (by kernel_rfl) (fun w' => d.at w' (ad.add (k * 5))) ?_
                change wpIn _ _ _ _ _ _ _ _ (World.drew _)
                refine wpIn_take (i := 0) (d := (some 73)) (v := ?vqa10) (a' := ?aqa10) rfl rfl (by kernel_rfl) (by kernel_rfl) (by kernel_rfl) (fun _ _ _ h => h) (Or.inl ⟨by rfl, ?yqa10⟩) ?fqa10 ?_
                case yqa10 => (intro wq hq; go_simp; first | done | with_reducible rfl)
                case fqa10 => (go_frame; rfl)
                refine wpIn_take (i := 1) (d := (some 74)) (v := ?vqa11) (a' := ?aqa11) rfl rfl (by kernel_rfl) (by kernel_rfl) (by kernel_rfl) (fun _ _ _ h => h) (Or.inl ⟨by rfl, ?yqa11⟩) ?fqa11 ?_
                case yqa11 => (intro wq hq; go_simp; first | done | with_reducible rfl)
                case fqa11 => (go_frame; rfl)
                refine wpIn_take (i := 2) (d := (some 75)) (v := ?vqa12) (a' := ?aqa12) rfl rfl (by kernel_rfl) (by kernel_rfl) (by kernel_rfl) (fun _ _ _ h => h) (Or.inl ⟨by rfl, ?yqa12⟩) ?fqa12 ?_
                case yqa12 => (intro wq hq; go_simp; first | done | with_reducible rfl)
                case fqa12 => (go_frame; rfl)
                refine wpIn_take (i := 3) (d := (some 76)) (v := ?vqa13) (a' := ?aqa13) rfl rfl (by kernel_rfl) (by kernel_rfl) (by kernel_rfl) (fun _ _ _ h => h) (Or.inl ⟨by rfl, ?yqa13⟩) ?fqa13 ?_
                case yqa13 => (intro wq hq; go_simp; first | done | with_reducible rfl)
                case fqa13 => (go_frame; rfl)
                refine wpIn_take (i := 4) (d := (some 77)) (v := ?vqa14) (a' := ?aqa14) rfl rfl (by kernel_rfl) (by kernel_rfl) (by kernel_rfl) (fun _ _ _ h => h) (Or.inl ⟨by rfl, ?yqa14⟩) ?fqa14 ?_
                case yqa14 => (intro wq hq; go_simp; first | done | with_reducible rfl)
                case fqa14 => (go_frame; rfl)
                refine wpIn_take (i := 5) (d := (some 78)) (v := ?vqa15) (a' := ?aqa15) rfl rfl (by kernel_rfl) (by kernel_rfl) (by kernel_rfl) (fun _ _ _ h => h) (Or.inl ⟨by rfl, ?yqa15⟩) ?fqa15 ?_
                case yqa15 => (intro wq hq; obtain ⟨f0, f1, f2, f3, f4⟩ := hq; go_simp; first | done | with_reducible rfl)
                case fqa15 => (go_frame; rfl)
                refine wpIn_take (i := 6) (d := (some 79)) (v := ?vqa16) (a' := ?aqa16) rfl rfl (by kernel_rfl) (by kernel_rfl) (by kernel_rfl) (fun _ _ _ h => h) (Or.inl ⟨by rfl, ?yqa16⟩) ?fqa16 ?_
                case yqa16 => (intro wq hq; go_simp; first | done | with_reducible rfl)
                case fqa16 => (go_frame; rfl)
                refine wpIn_take (i := 7) (d := (some 80)) (v := ?vqa17) (a' := ?aqa17) rfl rfl (by kernel_rfl) (by kernel_rfl) (by kernel_rfl) (fun _ _ _ h => h) (Or.inl ⟨by rfl, ?yqa17⟩) ?fqa17 ?_
                case yqa17 => (intro wq hq; go_simp; first | done | with_reducible rfl)
                case fqa17 => (go_frame; rfl)
                refine wpIn_take (i := 8) (d := (some 81)) (v := ?vqa18) (a' := ?aqa18) rfl rfl (by kernel_rfl) (by kernel_rfl) (by kernel_rfl) (fun _ _ _ h => h) (Or.inl ⟨by rfl, ?yqa18⟩) ?fqa18 ?_
                case yqa18 => (intro wq hq; go_simp; first | done | with_reducible rfl)
                case fqa18 => (go_frame; rfl)
                refine wpIn_take (i := 9) (d := (some 82)) (v := ?vqa19) (a' := ?aqa19) rfl rfl (by kernel_rfl) (by kernel_rfl) (by kernel_rfl) (fun _ _ _ h => h) (Or.inl ⟨by rfl, ?yqa19⟩) ?fqa19 ?_
                case yqa19 => (intro wq hq; go_simp; first | done | with_reducible rfl)
                case fqa19 => (go_frame; rfl)
                refine wpIn_take (i := 10) (d := (some 83)) (v := ?vqa110) (a' := ?aqa110) rfl rfl (by kernel_rfl) (by kernel_rfl) (by kernel_rfl) (fun _ _ _ h => h) (Or.inl ⟨by rfl, ?yqa110⟩) ?fqa110 ?_
                case yqa110 => (intro wq hq; obtain ⟨f0, f1, f2, f3, f4⟩ := hq; go_simp; first | done | with_reducible rfl)
                case fqa110 => (go_frame; rfl)
                refine wpIn_do (i := 11) hC0 (by kernel_rfl) rfl (by rfl) ?_
                intro K hK
                go_simp
                refine hK _ _ ?_
                clear hK K
                refine wpIn_do (i := 12) hC1 (by kernel_rfl) rfl (by rfl) ?_
                intro K hK
                go_simp
                go_wp2_with (go_at_call 16; refine (sign_none d.srv _ _ htc hsd).mono ?_; rintro e w' ⟨rfl, rfl⟩)
                refine wpIn_take (i := 13) (d := (some 72)) (v := ?vqb113) (a' := ?aqb113) rfl rfl (by kernel_rfl) (by kernel_rfl) (by kernel_rfl) (fun _ _ _ h => h) (Or.inl ⟨by rfl, ?yqb113⟩) ?fqb113 ?_
                case yqb113 => (intro wq hq; go_simp; first | done | with_reducible rfl)
                case fqb113 => (go_frame; rfl)
                refine wpIn_take (i := 14) (d := (some 86)) (v := ?vqb114) (a' := ?aqb114) rfl rfl (by kernel_rfl) (by kernel_rfl) (by kernel_rfl) (fun _ _ _ h => h) (Or.inl ⟨by rfl, ?yqb114⟩) ?fqb114 ?_
                case yqb114 => (intro wq hq; go_simp; first | done | with_reducible rfl)
                case fqb114 => (go_frame; rfl)
                refine wpIn_take (i := 15) (d := (some 87)) (v := ?vqb115) (a' := ?aqb115) rfl rfl (by kernel_rfl) (by kernel_rfl) (by kernel_rfl) (fun _ _ _ h => h) (Or.inl ⟨by rfl, ?yqb115⟩) ?fqb115 ?_
                case yqb115 => (intro wq hq; go_simp; first | done | with_reducible rfl)
                case fqb115 => (go_frame; rfl)
                refine wpIn_take (i := 16) (d := (some 12)) (v := ?vqb116) (a' := ?aqb116) rfl rfl (by kernel_rfl) (by kernel_rfl) (by kernel_rfl) (fun _ _ _ h => h) (Or.inl ⟨by rfl, ?yqb116⟩) ?fqb116 ?_
                case yqb116 => (intro wq hq; go_simp; first | done | with_reducible rfl)
                case fqb116 => (go_frame; rfl)
                refine wpIn_take (i := 17) (d := (some 13)) (v := ?vqb117) (a' := ?aqb117) rfl rfl (by kernel_rfl) (by kernel_rfl) (by kernel_rfl) (fun _ _ _ h => h) (Or.inl ⟨by rfl, ?yqb117⟩) ?fqb117 ?_
                case yqb117 => (intro wq hq; go_simp; first | done | with_reducible rfl)
                case fqb117 => (go_frame; rfl)
                refine wpIn_done hC1 (by kernel_rfl) ?_ _
                go_wp2
                have hbe : Below W2.heap.size W2 wc.drew := hbc.drew
                have hC4 := And.intro (HD.out _ hbe) (And.intro (HXC.out _ hbe).1 (HXC.out _ hbe).2.1)
                refine wp_region_in (by kernel_rfl) (fun w' => d.at w' (ad.add (k * 5)) ∧ w'.cell? ⟨w.heap.size, 1, none⟩ = some (.string x.srv) ∧ w'.cell? ⟨w.heap.size, 2, none⟩ = some (.string x.txt)) ?_
                change wpIn _ _ _ _ _ _ _ _ (World.drew _)
                refine wpIn_take (i := 0) (d := (some 88)) (v := ?vqc10) (a' := ?aqc10) rfl rfl (by kernel_rfl) (by kernel_rfl) (by kernel_rfl) (fun _ _ _ h => h) (Or.inl ⟨by rfl, ?yqc10⟩) ?fqc10 ?_
                case yqc10 => (intro wq hq; go_simp; first | done | with_reducible rfl)
                case fqc10 => (go_frame; rfl)
                refine wpIn_take (i := 1) (d := (some 89)) (v := ?vqc11) (a' := ?aqc11) rfl rfl (by kernel_rfl) (by kernel_rfl) (by kernel_rfl) (fun _ _ _ h => h) (Or.inl ⟨by rfl, ?yqc11⟩) ?fqc11 ?_
                case yqc11 => (intro wq hq; go_simp; first | done | with_reducible rfl)
                case fqc11 => (go_frame; rfl)
                refine wpIn_take (i := 2) (d := (some 90)) (v := ?vqc12) (a' := ?aqc12) rfl rfl (by kernel_rfl) (by kernel_rfl) (by kernel_rfl) (fun _ _ _ h => h) (Or.inl ⟨by rfl, ?yqc12⟩) ?fqc12 ?_
                case yqc12 => (intro wq hq; go_simp; first | done | with_reducible rfl)
                case fqc12 => (go_frame; rfl)
                refine wpIn_take (i := 3) (d := (some 91)) (v := undef) (a' := ?aqc13) rfl rfl (by kernel_rfl) (by kernel_rfl) (by kernel_rfl) (fun _ _ _ h => h) (Or.inr ⟨by rfl, rfl⟩) ?fqc13 ?_
                case fqc13 => (go_frame; rfl)
                refine wpIn_take (i := 4) (d := (some 92)) (v := undef) (a' := ?aqc14) rfl rfl (by kernel_rfl) (by kernel_rfl) (by kernel_rfl) (fun _ _ _ h => h) (Or.inr ⟨by rfl, rfl⟩) ?fqc14 ?_
                case fqc14 => (go_frame; rfl)
                refine wpIn_take (i := 5) (d := (some 93)) (v := undef) (a' := ?aqc15) rfl rfl (by kernel_rfl) (by kernel_rfl) (by kernel_rfl) (fun _ _ _ h => h) (Or.inr ⟨by rfl, rfl⟩) ?fqc15 ?_
                case fqc15 => (go_frame; rfl)
                refine wpIn_take (i := 6) (d := (some 94)) (v := undef) (a' := ?aqc16) rfl rfl (by kernel_rfl) (by kernel_rfl) (by kernel_rfl) (fun _ _ _ h => h) (Or.inr ⟨by rfl, rfl⟩) ?fqc16 ?_
                case fqc16 => (go_frame; rfl)
                refine wpIn_take (i := 7) (d := (some 95)) (v := undef) (a' := ?aqc17) rfl rfl (by kernel_rfl) (by kernel_rfl) (by kernel_rfl) (fun _ _ _ h => h) (Or.inr ⟨by rfl, rfl⟩) ?fqc17 ?_
                case fqc17 => (go_frame; rfl)
                refine wpIn_take (i := 8) (d := (some 96)) (v := undef) (a' := ?aqc18) rfl rfl (by kernel_rfl) (by kernel_rfl) (by kernel_rfl) (fun _ _ _ h => h) (Or.inr ⟨by rfl, rfl⟩) ?fqc18 ?_
                case fqc18 => (go_frame; rfl)
                refine wpIn_take (i := 9) (d := (some 97)) (v := undef) (a' := ?aqc19) rfl rfl (by kernel_rfl) (by kernel_rfl) (by kernel_rfl) (fun _ _ _ h => h) (Or.inr ⟨by rfl, rfl⟩) ?fqc19 ?_
                case fqc19 => (go_frame; rfl)
                refine wpIn_take (i := 10) (d := (some 98)) (v := undef) (a' := ?aqc110) rfl rfl (by kernel_rfl) (by kernel_rfl) (by kernel_rfl) (fun _ _ _ h => h) (Or.inr ⟨by rfl, rfl⟩) ?fqc110 ?_
                case fqc110 => (go_frame; rfl)
                refine wpIn_take (i := 11) (d := (some 99)) (v := undef) (a' := ?aqc111) rfl rfl (by kernel_rfl) (by kernel_rfl) (by kernel_rfl) (fun _ _ _ h => h) (Or.inr ⟨by rfl, rfl⟩) ?fqc111 ?_
                case fqc111 => (go_frame; rfl)
                refine wpIn_take (i := 12) (d := (some 100)) (v := undef) (a' := ?aqc112) rfl rfl (by kernel_rfl) (by kernel_rfl) (by kernel_rfl) (fun _ _ _ h => h) (Or.inr ⟨by rfl, rfl⟩) ?fqc112 ?_
                case fqc112 => (go_frame; rfl)
                refine wpIn_take (i := 13) (d := (some 101)) (v := undef) (a' := ?aqc113) rfl rfl (by kernel_rfl) (by kernel_rfl) (by kernel_rfl) (fun _ _ _ h => h) (Or.inr ⟨by rfl, rfl⟩) ?fqc113 ?_
                case fqc113 => (go_frame; rfl)
                refine wpIn_take (i := 14) (d := (some 102)) (v := undef) (a' := ?aqc114) rfl rfl (by kernel_rfl) (by kernel_rfl) (by kernel_rfl) (fun _ _ _ h => h) (Or.inr ⟨by rfl, rfl⟩) ?fqc114 ?_
                case fqc114 => (go_frame; rfl)
                refine wpIn_take (i := 15) (d := (some 103)) (v := undef) (a' := ?aqc115) rfl rfl (by kernel_rfl) (by kernel_rfl) (by kernel_rfl) (fun _ _ _ h => h) (Or.inr ⟨by rfl, rfl⟩) ?fqc115 ?_
                case fqc115 => (go_frame; rfl)
                refine wpIn_take (i := 16) (d := (some 104)) (v := undef) (a' := ?aqc116) rfl rfl (by kernel_rfl) (by kernel_rfl) (by kernel_rfl) (fun _ _ _ h => h) (Or.inr ⟨by rfl, rfl⟩) ?fqc116 ?_
                case fqc116 => (go_frame; rfl)
                refine wpIn_take (i := 17) (d := (some 105)) (v := undef) (a' := ?aqc117) rfl rfl (by kernel_rfl) (by kernel_rfl) (by kernel_rfl) (fun _ _ _ h => h) (Or.inr ⟨by rfl, rfl⟩) ?fqc117 ?_
                case fqc117 => (go_frame; rfl)
                refine wpIn_take (i := 18) (d := (some 106)) (v := undef) (a' := ?aqc118) rfl rfl (by kernel_rfl) (by kernel_rfl) (by kernel_rfl) (fun _ _ _ h => h) (Or.inr ⟨by rfl, rfl⟩) ?fqc118 ?_
                case fqc118 => (go_frame; rfl)
                refine wpIn_take (i := 19) (d := (some 107)) (v := undef) (a' := ?aqc119) rfl rfl (by kernel_rfl) (by kernel_rfl) (by kernel_rfl) (fun _ _ _ h => h) (Or.inr ⟨by rfl, rfl⟩) ?fqc119 ?_
                case fqc119 => (go_frame; rfl)
                refine wpIn_take (i := 20) (d := (some 108)) (v := undef) (a' := ?aqc120) rfl rfl (by kernel_rfl) (by kernel_rfl) (by kernel_rfl) (fun _ _ _ h => h) (Or.inr ⟨by rfl, rfl⟩) ?fqc120 ?_
                case fqc120 => (go_frame; rfl)
                refine wpIn_take (i := 21) (d := (some 109)) (v := undef) (a' := ?aqc121) rfl rfl (by kernel_rfl) (by kernel_rfl) (by kernel_rfl) (fun _ _ _ h => h) (Or.inr ⟨by rfl, rfl⟩) ?fqc121 ?_
                case fqc121 => (go_frame; rfl)
                refine wpIn_take (i := 22) (d := (some 110)) (v := undef) (a' := ?aqc122) rfl rfl (by kernel_rfl) (by kernel_rfl) (by kernel_rfl) (fun _ _ _ h => h) (Or.inr ⟨by rfl, rfl⟩) ?fqc122 ?_
                case fqc122 => (go_frame; rfl)
                refine wpIn_take (i := 23) (d := (some 111)) (v := undef) (a' := ?aqc123) rfl rfl (by kernel_rfl) (by kernel_rfl) (by kernel_rfl) (fun _ _ _ h => h) (Or.inr ⟨by rfl, rfl⟩) ?fqc123 ?_
                case fqc123 => (go_frame; rfl)
                refine wpIn_take (i := 24) (d := (some 112)) (v := undef) (a' := ?aqc124) rfl rfl (by kernel_rfl) (by kernel_rfl) (by kernel_rfl) (fun _ _ _ h => h) (Or.inr ⟨by rfl, rfl⟩) ?fqc124 ?_
                case fqc124 => (go_frame; rfl)
                refine wpIn_take (i := 25) (d := (some 113)) (v := ?vqc125) (a' := ?aqc125) rfl rfl (by kernel_rfl) (by kernel_rfl) (by kernel_rfl) (fun _ _ _ h => h) (Or.inl ⟨by rfl, ?yqc125⟩) ?fqc125 ?_
                case yqc125 => (intro wq hq; go_simp; first | done | with_reducible rfl)
                case fqc125 => (go_frame; rfl)
                refine wpIn_done hC4 (by kernel_rfl) ?_ _
                have hte := htc.grown (grown_drew wc none)
                obtain ⟨capd, wcd, hcvd⟩ := bytes_any d.txt wc.drew
                have hrund := hcvd.run
                obtain ⟨z0, z1, z2, z3, z4⟩ := HD.out wc.drew hbe
                go_wp2_with (go_at_call 14; refine (digest_text hte hcvd (by omega) (by omega)).mono ?_; rintro e w9 ⟨rfl, ht9, hg9⟩)
                have hb9 : Below W2.heap.size W2 w9 := (hbe).trans (hte.under1 hg9)
                go_roundw
                case rel => exact ⟨k + 1, _, G, by omega, by go_num, ht9, HM.out, HNO.out, by omega, by have := add_len D d.txt; omega, hb9⟩
                case measure => simp [intOf]; omega
              | true =>
                have hsk := same_key (u := d.txt) hsd hin HM.out HNO.out (by omega)
                have hmem' : (plc S x.srv, x.txt) ∈ (add G (plc S d.srv, d.txt)) := (mem_add _ _ _).2 (.inl HM.out)
                have hno' : no (add G (plc S d.srv, d.txt)) (plc S x.srv, x.txt) = 1 := (no_add HM.out).trans HNO.out
                have hGl' := add_len G (plc S d.srv, d.txt)
                have HM' : Hid ((plc S x.srv, x.txt) ∈ (add G (plc S d.srv, d.txt))) := hmem'
                have HNO' : Hid (no (add G (plc S d.srv, d.txt)) (plc S x.srv, x.txt) = 1) := hno'
                obtain ⟨G', hG'⟩ : ∃ G', G' = (add G (plc S d.srv, d.txt)) := ⟨_, rfl⟩
                rw [← hG'] at HM' HNO' hGl'
                obtain ⟨tk, htk⟩ : ∃ tk, tk = lt (no G (plc S d.srv, d.txt)) := ⟨_, rfl⟩
                rw [← htk] at hsk
                have HS : Hid (Calls Try.prog 16 #[.pointer (some ⟨tb, 0, none⟩), .string d.srv, .slice (some ⟨wr.drew.heap.size, 0, none⟩) d.txt.size cap] wc fun e w' => e = .returned (.tuple #[.string tk, .int .i64 0]) ∧ Tab W2.heap.size w' tb vv b1 b2 S D G' ∧ wr.drew.grownBy w' (some b2)) := by
                  rw [htk, hG']
                  exact sign_text d.srv htd hconv (by omega) (by omega) hsd
                obtain ⟨bt, hbt⟩ : ∃ b, b = decide (d.txt = x.txt) := ⟨_, rfl⟩
                have e_t : (d.txt.toList == x.txt.toList) = bt := by rw [beqS, hbt]
                rw [← hbt] at hsk
                clear hG' htk hbt hmem' hno'
                cases hbs : decide (d.srv = x.srv) with
                | true =>
                  have e_s : (d.srv.toList == x.srv.toList) = true := by rw [beqS, hbs]
                  rw [hbs, Bool.true_and] at hsk
                  clear hbs
                  go_wp2
                  refine wp_region_in (by kernel_rfl) (fun w' => d.at w' (ad.add (k * 5))) ?_
                  change wpIn _ _ _ _ _ _ _ _ (World.drew _)
                  refine wpIn_take (i := 0) (d := (some 73)) (v := ?vqa20) (a' := ?aqa20) rfl rfl (by kernel_rfl) (by kernel_rfl) (by kernel_rfl) (fun _ _ _ h => h) (Or.inl ⟨by rfl, ?yqa20⟩) ?fqa20 ?_
                  case yqa20 => (intro wq hq; go_simp; first | done | with_reducible rfl)
                  case fqa20 => (go_frame; rfl)
                  refine wpIn_take (i := 1) (d := (some 74)) (v := ?vqa21) (a' := ?aqa21) rfl rfl (by kernel_rfl) (by kernel_rfl) (by kernel_rfl) (fun _ _ _ h => h) (Or.inl ⟨by rfl, ?yqa21⟩) ?fqa21 ?_
                  case yqa21 => (intro wq hq; go_simp; first | done | with_reducible rfl)
                  case fqa21 => (go_frame; rfl)
                  refine wpIn_take (i := 2) (d := (some 75)) (v := ?vqa22) (a' := ?aqa22) rfl rfl (by kernel_rfl) (by kernel_rfl) (by kernel_rfl) (fun _ _ _ h => h) (Or.inl ⟨by rfl, ?yqa22⟩) ?fqa22 ?_
                  case yqa22 => (intro wq hq; go_simp; first | done | with_reducible rfl)
                  case fqa22 => (go_frame; rfl)
                  refine wpIn_take (i := 3) (d := (some 76)) (v := ?vqa23) (a' := ?aqa23) rfl rfl (by kernel_rfl) (by kernel_rfl) (by kernel_rfl) (fun _ _ _ h => h) (Or.inl ⟨by rfl, ?yqa23⟩) ?fqa23 ?_
                  case yqa23 => (intro wq hq; go_simp; first | done | with_reducible rfl)
                  case fqa23 => (go_frame; rfl)
                  refine wpIn_take (i := 4) (d := (some 77)) (v := ?vqa24) (a' := ?aqa24) rfl rfl (by kernel_rfl) (by kernel_rfl) (by kernel_rfl) (fun _ _ _ h => h) (Or.inl ⟨by rfl, ?yqa24⟩) ?fqa24 ?_
                  case yqa24 => (intro wq hq; go_simp; first | done | with_reducible rfl)
                  case fqa24 => (go_frame; rfl)
                  refine wpIn_take (i := 5) (d := (some 78)) (v := ?vqa25) (a' := ?aqa25) rfl rfl (by kernel_rfl) (by kernel_rfl) (by kernel_rfl) (fun _ _ _ h => h) (Or.inl ⟨by rfl, ?yqa25⟩) ?fqa25 ?_
                  case yqa25 => (intro wq hq; obtain ⟨f0, f1, f2, f3, f4⟩ := hq; go_simp; first | done | with_reducible rfl)
                  case fqa25 => (go_frame; rfl)
                  refine wpIn_take (i := 6) (d := (some 79)) (v := ?vqa26) (a' := ?aqa26) rfl rfl (by kernel_rfl) (by kernel_rfl) (by kernel_rfl) (fun _ _ _ h => h) (Or.inl ⟨by rfl, ?yqa26⟩) ?fqa26 ?_
                  case yqa26 => (intro wq hq; go_simp; first | done | with_reducible rfl)
                  case fqa26 => (go_frame; rfl)
                  refine wpIn_take (i := 7) (d := (some 80)) (v := ?vqa27) (a' := ?aqa27) rfl rfl (by kernel_rfl) (by kernel_rfl) (by kernel_rfl) (fun _ _ _ h => h) (Or.inl ⟨by rfl, ?yqa27⟩) ?fqa27 ?_
                  case yqa27 => (intro wq hq; go_simp; first | done | with_reducible rfl)
                  case fqa27 => (go_frame; rfl)
                  refine wpIn_take (i := 8) (d := (some 81)) (v := ?vqa28) (a' := ?aqa28) rfl rfl (by kernel_rfl) (by kernel_rfl) (by kernel_rfl) (fun _ _ _ h => h) (Or.inl ⟨by rfl, ?yqa28⟩) ?fqa28 ?_
                  case yqa28 => (intro wq hq; go_simp; first | done | with_reducible rfl)
                  case fqa28 => (go_frame; rfl)
                  refine wpIn_take (i := 9) (d := (some 82)) (v := ?vqa29) (a' := ?aqa29) rfl rfl (by kernel_rfl) (by kernel_rfl) (by kernel_rfl) (fun _ _ _ h => h) (Or.inl ⟨by rfl, ?yqa29⟩) ?fqa29 ?_
                  case yqa29 => (intro wq hq; go_simp; first | done | with_reducible rfl)
                  case fqa29 => (go_frame; rfl)
                  refine wpIn_take (i := 10) (d := (some 83)) (v := ?vqa210) (a' := ?aqa210) rfl rfl (by kernel_rfl) (by kernel_rfl) (by kernel_rfl) (fun _ _ _ h => h) (Or.inl ⟨by rfl, ?yqa210⟩) ?fqa210 ?_
                  case yqa210 => (intro wq hq; obtain ⟨f0, f1, f2, f3, f4⟩ := hq; go_simp; first | done | with_reducible rfl)
                  case fqa210 => (go_frame; rfl)
                  refine wpIn_do (i := 11) hC0 (by kernel_rfl) rfl (by rfl) ?_
                  intro K hK
                  go_simp
                  refine hK _ _ ?_
                  clear hK K
                  refine wpIn_do (i := 12) hC1 (by kernel_rfl) rfl (by rfl) ?_
                  intro K hK
                  go_simp
                  go_wp2_with (go_at_call 16; refine HS.out.mono ?_; rintro e w4 ⟨rfl, ht4, hg4⟩)
                  have hb4 : Below W2.heap.size W2 w4 := hbd.trans (htd.under2 hg4)
                  have hC2 := HD.out _ hb4
                  refine wpIn_take (i := 13) (d := (some 72)) (v := ?vqb213) (a' := ?aqb213) rfl rfl (by kernel_rfl) (by kernel_rfl) (by kernel_rfl) (fun _ _ _ h => h) (Or.inl ⟨by rfl, ?yqb213⟩) ?fqb213 ?_
                  case yqb213 => (intro wq hq; go_simp; first | done | with_reducible rfl)
                  case fqb213 => (go_frame; rfl)
                  refine wpIn_take (i := 14) (d := (some 86)) (v := ?vqb214) (a' := ?aqb214) rfl rfl (by kernel_rfl) (by kernel_rfl) (by kernel_rfl) (fun _ _ _ h => h) (Or.inl ⟨by rfl, ?yqb214⟩) ?fqb214 ?_
                  case yqb214 => (intro wq hq; go_simp; first | done | with_reducible rfl)
                  case fqb214 => (go_frame; rfl)
                  refine wpIn_take (i := 15) (d := (some 87)) (v := ?vqb215) (a' := ?aqb215) rfl rfl (by kernel_rfl) (by kernel_rfl) (by kernel_rfl) (fun _ _ _ h => h) (Or.inl ⟨by rfl, ?yqb215⟩) ?fqb215 ?_
                  case yqb215 => (intro wq hq; go_simp; first | done | with_reducible rfl)
                  case fqb215 => (go_frame; rfl)
                  refine wpIn_take (i := 16) (d := (some 12)) (v := ?vqb216) (a' := ?aqb216) rfl rfl (by kernel_rfl) (by kernel_rfl) (by kernel_rfl) (fun _ _ _ h => h) (Or.inl ⟨by rfl, ?yqb216⟩) ?fqb216 ?_
                  case yqb216 => (intro wq hq; go_simp; first | done | with_reducible rfl)
                  case fqb216 => (go_frame; rfl)
                  refine wpIn_take (i := 17) (d := (some 13)) (v := ?vqb217) (a' := ?aqb217) rfl rfl (by kernel_rfl) (by kernel_rfl) (by kernel_rfl) (fun _ _ _ h => h) (Or.inl ⟨by rfl, ?yqb217⟩) ?fqb217 ?_
                  case yqb217 => (intro wq hq; go_simp; first | done | with_reducible rfl)
                  case fqb217 => (go_frame; rfl)
                  refine wpIn_done hC2 (by kernel_rfl) ?_ _
                  go_wp2
                  have hbe : Below W2.heap.size W2 w4.drew := hb4.drew
                  have hC4 := And.intro (HD.out _ hbe) (And.intro (HXC.out _ hbe).1 (HXC.out _ hbe).2.1)
                  refine wp_region_in (by kernel_rfl) (fun w' => d.at w' (ad.add (k * 5)) ∧ w'.cell? ⟨w.heap.size, 1, none⟩ = some (.string x.srv) ∧ w'.cell? ⟨w.heap.size, 2, none⟩ = some (.string x.txt)) ?_
                  change wpIn _ _ _ _ _ _ _ _ (World.drew _)
                  refine wpIn_take (i := 0) (d := (some 88)) (v := ?vqc20) (a' := ?aqc20) rfl rfl (by kernel_rfl) (by kernel_rfl) (by kernel_rfl) (fun _ _ _ h => h) (Or.inl ⟨by rfl, ?yqc20⟩) ?fqc20 ?_
                  case yqc20 => (intro wq hq; go_simp; first | done | with_reducible rfl)
                  case fqc20 => (go_frame; rfl)
                  refine wpIn_take (i := 1) (d := (some 89)) (v := ?vqc21) (a' := ?aqc21) rfl rfl (by kernel_rfl) (by kernel_rfl) (by kernel_rfl) (fun _ _ _ h => h) (Or.inl ⟨by rfl, ?yqc21⟩) ?fqc21 ?_
                  case yqc21 => (intro wq hq; go_simp; first | done | with_reducible rfl)
                  case fqc21 => (go_frame; rfl)
                  refine wpIn_take (i := 2) (d := (some 90)) (v := ?vqc22) (a' := ?aqc22) rfl rfl (by kernel_rfl) (by kernel_rfl) (by kernel_rfl) (fun _ _ _ h => h) (Or.inl ⟨by rfl, ?yqc22⟩) ?fqc22 ?_
                  case yqc22 => (intro wq hq; go_simp; first | done | with_reducible rfl)
                  case fqc22 => (go_frame; rfl)
                  refine wpIn_take (i := 3) (d := (some 91)) (v := ?vqc23) (a' := ?aqc23) rfl rfl (by kernel_rfl) (by kernel_rfl) (by kernel_rfl) (fun _ _ _ h => h) (Or.inl ⟨by rfl, ?yqc23⟩) ?fqc23 ?_
                  case yqc23 => (intro wq hq; go_simp; first | done | with_reducible rfl)
                  case fqc23 => (go_frame; rfl)
                  refine wpIn_take (i := 4) (d := (some 92)) (v := ?vqc24) (a' := ?aqc24) rfl rfl (by kernel_rfl) (by kernel_rfl) (by kernel_rfl) (fun _ _ _ h => h) (Or.inl ⟨by rfl, ?yqc24⟩) ?fqc24 ?_
                  case yqc24 => (intro wq hq; go_simp; first | done | with_reducible rfl)
                  case fqc24 => (go_frame; rfl)
                  refine wpIn_take (i := 5) (d := (some 93)) (v := ?vqc25) (a' := ?aqc25) rfl rfl (by kernel_rfl) (by kernel_rfl) (by kernel_rfl) (fun _ _ _ h => h) (Or.inl ⟨by rfl, ?yqc25⟩) ?fqc25 ?_
                  case yqc25 => (intro wq hq; go_simp; first | done | with_reducible rfl)
                  case fqc25 => (go_frame; rfl)
                  refine wpIn_take (i := 6) (d := (some 94)) (v := ?vqc26) (a' := ?aqc26) rfl rfl (by kernel_rfl) (by kernel_rfl) (by kernel_rfl) (fun _ _ _ h => h) (Or.inl ⟨by rfl, ?yqc26⟩) ?fqc26 ?_
                  case yqc26 => (intro wq hq; go_simp; first | done | with_reducible rfl)
                  case fqc26 => (go_frame; rfl)
                  refine wpIn_take (i := 7) (d := (some 95)) (v := ?vqc27) (a' := ?aqc27) rfl rfl (by kernel_rfl) (by kernel_rfl) (by kernel_rfl) (fun _ _ _ h => h) (Or.inl ⟨by rfl, ?yqc27⟩) ?fqc27 ?_
                  case yqc27 => (intro wq hq; go_simp; first | done | with_reducible rfl)
                  case fqc27 => (go_frame; rfl)
                  refine wpIn_take (i := 8) (d := (some 96)) (v := ?vqc28) (a' := ?aqc28) rfl rfl (by kernel_rfl) (by kernel_rfl) (by kernel_rfl) (fun _ _ _ h => h) (Or.inl ⟨by rfl, ?yqc28⟩) ?fqc28 ?_
                  case yqc28 => (intro wq hq; go_simp; first | done | with_reducible rfl)
                  case fqc28 => (go_frame; rfl)
                  refine wpIn_take (i := 9) (d := (some 97)) (v := ?vqc29) (a' := ?aqc29) rfl rfl (by kernel_rfl) (by kernel_rfl) (by kernel_rfl) (fun _ _ _ h => h) (Or.inl ⟨by rfl, ?yqc29⟩) ?fqc29 ?_
                  case yqc29 => (intro wq hq; go_simp; first | done | with_reducible rfl)
                  case fqc29 => (go_frame; rfl)
                  refine wpIn_take (i := 10) (d := (some 98)) (v := ?vqc210) (a' := ?aqc210) rfl rfl (by kernel_rfl) (by kernel_rfl) (by kernel_rfl) (fun _ _ _ h => h) (Or.inl ⟨by rfl, ?yqc210⟩) ?fqc210 ?_
                  case yqc210 => (intro wq hq; obtain ⟨⟨f0, f1, f2, f3, f4⟩, g1, g2⟩ := hq; go_simp; first | done | with_reducible rfl)
                  case fqc210 => (go_frame; rfl)
                  refine wpIn_take (i := 11) (d := (some 99)) (v := ?vqc211) (a' := ?aqc211) rfl rfl (by kernel_rfl) (by kernel_rfl) (by kernel_rfl) (fun _ _ _ h => h) (Or.inl ⟨by rfl, ?yqc211⟩) ?fqc211 ?_
                  case yqc211 => (intro wq hq; go_simp; first | done | with_reducible rfl)
                  case fqc211 => (go_frame; rfl)
                  refine wpIn_take (i := 12) (d := (some 100)) (v := ?vqc212) (a' := ?aqc212) rfl rfl (by kernel_rfl) (by kernel_rfl) (by kernel_rfl) (fun _ _ _ h => h) (Or.inl ⟨by rfl, ?yqc212⟩) ?fqc212 ?_
                  case yqc212 => (intro wq hq; obtain ⟨⟨f0, f1, f2, f3, f4⟩, g1, g2⟩ := hq; go_simp; first | done | with_reducible rfl)
                  case fqc212 => (go_frame; rfl)
                  refine wpIn_take (i := 13) (d := (some 101)) (v := ?vqc213) (a' := ?aqc213) rfl rfl (by kernel_rfl) (by kernel_rfl) (by kernel_rfl) (fun _ _ _ h => h) (Or.inl ⟨by rfl, ?yqc213⟩) ?fqc213 ?_
                  case yqc213 => (intro wq hq; go_simp; first | done | with_reducible rfl)
                  case fqc213 => (go_frame; rfl)
                  refine wpIn_take (i := 14) (d := (some 102)) (v := ?vqc214) (a' := ?aqc214) rfl rfl (by kernel_rfl) (by kernel_rfl) (by kernel_rfl) (fun _ _ _ h => h) (Or.inl ⟨by rfl, ?yqc214⟩) ?fqc214 ?_
                  case yqc214 => (intro wq hq; go_simp; first | done | with_reducible rfl)
                  case fqc214 => (go_frame; rfl)
                  refine wpIn_take (i := 15) (d := (some 103)) (v := ?vqc215) (a' := ?aqc215) rfl rfl (by kernel_rfl) (by kernel_rfl) (by kernel_rfl) (fun _ _ _ h => h) (Or.inl ⟨by rfl, ?yqc215⟩) ?fqc215 ?_
                  case yqc215 => (intro wq hq; go_simp; first | done | with_reducible rfl)
                  case fqc215 => (go_frame; rfl)
                  refine wpIn_take (i := 16) (d := (some 104)) (v := ?vqc216) (a' := ?aqc216) rfl rfl (by kernel_rfl) (by kernel_rfl) (by kernel_rfl) (fun _ _ _ h => h) (Or.inl ⟨by rfl, ?yqc216⟩) ?fqc216 ?_
                  case yqc216 => (intro wq hq; go_simp; first | done | with_reducible rfl)
                  case fqc216 => (go_frame; rfl)
                  refine wpIn_take (i := 17) (d := (some 105)) (v := ?vqc217) (a' := ?aqc217) rfl rfl (by kernel_rfl) (by kernel_rfl) (by kernel_rfl) (fun _ _ _ h => h) (Or.inl ⟨by rfl, ?yqc217⟩) ?fqc217 ?_
                  case yqc217 => (intro wq hq; go_simp; first | done | with_reducible rfl)
                  case fqc217 => (go_frame; rfl)
                  refine wpIn_take (i := 18) (d := (some 106)) (v := ?vqc218) (a' := ?aqc218) rfl rfl (by kernel_rfl) (by kernel_rfl) (by kernel_rfl) (fun _ _ _ h => h) (Or.inl ⟨by rfl, ?yqc218⟩) ?fqc218 ?_
                  case yqc218 => (intro wq hq; go_simp; first | done | with_reducible rfl)
                  case fqc218 => (go_frame; rfl)
                  refine wpIn_take (i := 19) (d := (some 107)) (v := ?vqc219) (a' := ?aqc219) rfl rfl (by kernel_rfl) (by kernel_rfl) (by kernel_rfl) (fun _ _ _ h => h) (Or.inl ⟨by rfl, ?yqc219⟩) ?fqc219 ?_
                  case yqc219 => (intro wq hq; obtain ⟨⟨f0, f1, f2, f3, f4⟩, g1, g2⟩ := hq; go_simp; first | done | with_reducible rfl)
                  case fqc219 => (go_frame; rfl)
                  refine wpIn_take (i := 20) (d := (some 108)) (v := ?vqc220) (a' := ?aqc220) rfl rfl (by kernel_rfl) (by kernel_rfl) (by kernel_rfl) (fun _ _ _ h => h) (Or.inl ⟨by rfl, ?yqc220⟩) ?fqc220 ?_
                  case yqc220 => (intro wq hq; go_simp; first | done | with_reducible rfl)
                  case fqc220 => (go_frame; rfl)
                  refine wpIn_take (i := 21) (d := (some 109)) (v := ?vqc221) (a' := ?aqc221) rfl rfl (by kernel_rfl) (by kernel_rfl) (by kernel_rfl) (fun _ _ _ h => h) (Or.inl ⟨by rfl, ?yqc221⟩) ?fqc221 ?_
                  case yqc221 => (intro wq hq; obtain ⟨⟨f0, f1, f2, f3, f4⟩, g1, g2⟩ := hq; go_simp; first | done | with_reducible rfl)
                  case fqc221 => (go_frame; rfl)
                  refine wpIn_take (i := 22) (d := (some 110)) (v := ?vqc222) (a' := ?aqc222) rfl rfl (by kernel_rfl) (by kernel_rfl) (by kernel_rfl) (fun _ _ _ h => h) (Or.inl ⟨by rfl, ?yqc222⟩) ?fqc222 ?_
                  case yqc222 => (intro wq hq; go_simp; first | done | with_reducible rfl)
                  case fqc222 => (go_frame; rfl)
                  refine wpIn_take (i := 23) (d := (some 111)) (v := ?vqc223) (a' := ?aqc223) rfl rfl (by kernel_rfl) (by kernel_rfl) (by kernel_rfl) (fun _ _ _ h => h) (Or.inl ⟨by rfl, ?yqc223⟩) ?fqc223 ?_
                  case yqc223 => (intro wq hq; go_simp; first | done | with_reducible rfl)
                  case fqc223 => (go_frame; rfl)
                  refine wpIn_take (i := 24) (d := (some 112)) (v := ?vqc224) (a' := ?aqc224) rfl rfl (by kernel_rfl) (by kernel_rfl) (by kernel_rfl) (fun _ _ _ h => h) (Or.inl ⟨by rfl, ?yqc224⟩) ?fqc224 ?_
                  case yqc224 => (intro wq hq; go_simp; first | done | with_reducible rfl)
                  case fqc224 => (go_frame; rfl)
                  refine wpIn_take (i := 25) (d := (some 113)) (v := ?vqc225) (a' := ?aqc225) rfl rfl (by kernel_rfl) (by kernel_rfl) (by kernel_rfl) (fun _ _ _ h => h) (Or.inl ⟨by rfl, ?yqc225⟩) ?fqc225 ?_
                  case yqc225 => (intro wq hq; go_simp; first | done | with_reducible rfl)
                  case fqc225 => (go_frame; rfl)
                  refine wpIn_done hC4 (by kernel_rfl) ?_ _
                  have hte := ht4.grown (grown_drew w4 none)
                  obtain ⟨capd, wcd, hcvd⟩ := bytes_any d.txt w4.drew
                  have hrund := hcvd.run
                  obtain ⟨z0, z1, z2, z3, z4⟩ := HD.out w4.drew hbe
                  go_wp2_with (go_at_call 14; refine (digest_text hte hcvd (by omega) (by omega)).mono ?_; rintro e w9 ⟨rfl, ht9, hg9⟩)
                  have hb9 : Below W2.heap.size W2 w9 := (hbe).trans (hte.under1 hg9)
                  go_roundw
                  case rel => exact ⟨k + 1, _, G', by omega, by go_num, ht9, HM'.out, HNO'.out, by omega, by have := add_len D d.txt; omega, hb9⟩
                  case measure => simp [intOf]; omega
                | false =>
                  have e_s : (d.srv.toList == x.srv.toList) = false := by rw [beqS, hbs]
                  rw [hbs, Bool.false_and] at hsk
                  clear hbs
                  go_wp2
                  refine wp_region_in (by kernel_rfl) (fun w' => d.at w' (ad.add (k * 5))) ?_
                  change wpIn _ _ _ _ _ _ _ _ (World.drew _)
                  refine wpIn_take (i := 0) (d := (some 73)) (v := ?vqa30) (a' := ?aqa30) rfl rfl (by kernel_rfl) (by kernel_rfl) (by kernel_rfl) (fun _ _ _ h => h) (Or.inl ⟨by rfl, ?yqa30⟩) ?fqa30 ?_
                  case yqa30 => (intro wq hq; go_simp; first | done | with_reducible rfl)
                  case fqa30 => (go_frame; rfl)
                  refine wpIn_take (i := 1) (d := (some 74)) (v := ?vqa31) (a' := ?aqa31) rfl rfl (by kernel_rfl) (by kernel_rfl) (by kernel_rfl) (fun _ _ _ h => h) (Or.inl ⟨by rfl, ?yqa31⟩) ?fqa31 ?_
                  case yqa31 => (intro wq hq; go_simp; first | done | with_reducible rfl)
                  case fqa31 => (go_frame; rfl)
                  refine wpIn_take (i := 2) (d := (some 75)) (v := ?vqa32) (a' := ?aqa32) rfl rfl (by kernel_rfl) (by kernel_rfl) (by kernel_rfl) (fun _ _ _ h => h) (Or.inl ⟨by rfl, ?yqa32⟩) ?fqa32 ?_
                  case yqa32 => (intro wq hq; go_simp; first | done | with_reducible rfl)
                  case fqa32 => (go_frame; rfl)
                  refine wpIn_take (i := 3) (d := (some 76)) (v := ?vqa33) (a' := ?aqa33) rfl rfl (by kernel_rfl) (by kernel_rfl) (by kernel_rfl) (fun _ _ _ h => h) (Or.inl ⟨by rfl, ?yqa33⟩) ?fqa33 ?_
                  case yqa33 => (intro wq hq; go_simp; first | done | with_reducible rfl)
                  case fqa33 => (go_frame; rfl)
                  refine wpIn_take (i := 4) (d := (some 77)) (v := ?vqa34) (a' := ?aqa34) rfl rfl (by kernel_rfl) (by kernel_rfl) (by kernel_rfl) (fun _ _ _ h => h) (Or.inl ⟨by rfl, ?yqa34⟩) ?fqa34 ?_
                  case yqa34 => (intro wq hq; go_simp; first | done | with_reducible rfl)
                  case fqa34 => (go_frame; rfl)
                  refine wpIn_take (i := 5) (d := (some 78)) (v := ?vqa35) (a' := ?aqa35) rfl rfl (by kernel_rfl) (by kernel_rfl) (by kernel_rfl) (fun _ _ _ h => h) (Or.inl ⟨by rfl, ?yqa35⟩) ?fqa35 ?_
                  case yqa35 => (intro wq hq; obtain ⟨f0, f1, f2, f3, f4⟩ := hq; go_simp; first | done | with_reducible rfl)
                  case fqa35 => (go_frame; rfl)
                  refine wpIn_take (i := 6) (d := (some 79)) (v := ?vqa36) (a' := ?aqa36) rfl rfl (by kernel_rfl) (by kernel_rfl) (by kernel_rfl) (fun _ _ _ h => h) (Or.inl ⟨by rfl, ?yqa36⟩) ?fqa36 ?_
                  case yqa36 => (intro wq hq; go_simp; first | done | with_reducible rfl)
                  case fqa36 => (go_frame; rfl)
                  refine wpIn_take (i := 7) (d := (some 80)) (v := ?vqa37) (a' := ?aqa37) rfl rfl (by kernel_rfl) (by kernel_rfl) (by kernel_rfl) (fun _ _ _ h => h) (Or.inl ⟨by rfl, ?yqa37⟩) ?fqa37 ?_
                  case yqa37 => (intro wq hq; go_simp; first | done | with_reducible rfl)
                  case fqa37 => (go_frame; rfl)
                  refine wpIn_take (i := 8) (d := (some 81)) (v := ?vqa38) (a' := ?aqa38) rfl rfl (by kernel_rfl) (by kernel_rfl) (by kernel_rfl) (fun _ _ _ h => h) (Or.inl ⟨by rfl, ?yqa38⟩) ?fqa38 ?_
                  case yqa38 => (intro wq hq; go_simp; first | done | with_reducible rfl)
                  case fqa38 => (go_frame; rfl)
                  refine wpIn_take (i := 9) (d := (some 82)) (v := ?vqa39) (a' := ?aqa39) rfl rfl (by kernel_rfl) (by kernel_rfl) (by kernel_rfl) (fun _ _ _ h => h) (Or.inl ⟨by rfl, ?yqa39⟩) ?fqa39 ?_
                  case yqa39 => (intro wq hq; go_simp; first | done | with_reducible rfl)
                  case fqa39 => (go_frame; rfl)
                  refine wpIn_take (i := 10) (d := (some 83)) (v := ?vqa310) (a' := ?aqa310) rfl rfl (by kernel_rfl) (by kernel_rfl) (by kernel_rfl) (fun _ _ _ h => h) (Or.inl ⟨by rfl, ?yqa310⟩) ?fqa310 ?_
                  case yqa310 => (intro wq hq; obtain ⟨f0, f1, f2, f3, f4⟩ := hq; go_simp; first | done | with_reducible rfl)
                  case fqa310 => (go_frame; rfl)
                  refine wpIn_do (i := 11) hC0 (by kernel_rfl) rfl (by rfl) ?_
                  intro K hK
                  go_simp
                  refine hK _ _ ?_
                  clear hK K
                  refine wpIn_do (i := 12) hC1 (by kernel_rfl) rfl (by rfl) ?_
                  intro K hK
                  go_simp
                  go_wp2_with (go_at_call 16; refine HS.out.mono ?_; rintro e w4 ⟨rfl, ht4, hg4⟩)
                  have hb4 : Below W2.heap.size W2 w4 := hbd.trans (htd.under2 hg4)
                  have hC2 := HD.out _ hb4
                  refine wpIn_take (i := 13) (d := (some 72)) (v := ?vqb313) (a' := ?aqb313) rfl rfl (by kernel_rfl) (by kernel_rfl) (by kernel_rfl) (fun _ _ _ h => h) (Or.inl ⟨by rfl, ?yqb313⟩) ?fqb313 ?_
                  case yqb313 => (intro wq hq; go_simp; first | done | with_reducible rfl)
                  case fqb313 => (go_frame; rfl)
                  refine wpIn_take (i := 14) (d := (some 86)) (v := ?vqb314) (a' := ?aqb314) rfl rfl (by kernel_rfl) (by kernel_rfl) (by kernel_rfl) (fun _ _ _ h => h) (Or.inl ⟨by rfl, ?yqb314⟩) ?fqb314 ?_
                  case yqb314 => (intro wq hq; go_simp; first | done | with_reducible rfl)
                  case fqb314 => (go_frame; rfl)
                  refine wpIn_take (i := 15) (d := (some 87)) (v := ?vqb315) (a' := ?aqb315) rfl rfl (by kernel_rfl) (by kernel_rfl) (by kernel_rfl) (fun _ _ _ h => h) (Or.inl ⟨by rfl, ?yqb315⟩) ?fqb315 ?_
                  case yqb315 => (intro wq hq; go_simp; first | done | with_reducible rfl)
                  case fqb315 => (go_frame; rfl)
                  refine wpIn_take (i := 16) (d := (some 12)) (v := ?vqb316) (a' := ?aqb316) rfl rfl (by kernel_rfl) (by kernel_rfl) (by kernel_rfl) (fun _ _ _ h => h) (Or.inl ⟨by rfl, ?yqb316⟩) ?fqb316 ?_
                  case yqb316 => (intro wq hq; go_simp; first | done | with_reducible rfl)
                  case fqb316 => (go_frame; rfl)
                  refine wpIn_take (i := 17) (d := (some 13)) (v := ?vqb317) (a' := ?aqb317) rfl rfl (by kernel_rfl) (by kernel_rfl) (by kernel_rfl) (fun _ _ _ h => h) (Or.inl ⟨by rfl, ?yqb317⟩) ?fqb317 ?_
                  case yqb317 => (intro wq hq; go_simp; first | done | with_reducible rfl)
                  case fqb317 => (go_frame; rfl)
                  refine wpIn_done hC2 (by kernel_rfl) ?_ _
                  go_wp2
                  have hbe : Below W2.heap.size W2 w4.drew := hb4.drew
                  have hC4 := And.intro (HD.out _ hbe) (And.intro (HXC.out _ hbe).1 (HXC.out _ hbe).2.1)
                  refine wp_region_in (by kernel_rfl) (fun w' => d.at w' (ad.add (k * 5)) ∧ w'.cell? ⟨w.heap.size, 1, none⟩ = some (.string x.srv) ∧ w'.cell? ⟨w.heap.size, 2, none⟩ = some (.string x.txt)) ?_
                  change wpIn _ _ _ _ _ _ _ _ (World.drew _)
                  refine wpIn_take (i := 0) (d := (some 88)) (v := ?vqc30) (a' := ?aqc30) rfl rfl (by kernel_rfl) (by kernel_rfl) (by kernel_rfl) (fun _ _ _ h => h) (Or.inl ⟨by rfl, ?yqc30⟩) ?fqc30 ?_
                  case yqc30 => (intro wq hq; go_simp; first | done | with_reducible rfl)
                  case fqc30 => (go_frame; rfl)
                  refine wpIn_take (i := 1) (d := (some 89)) (v := ?vqc31) (a' := ?aqc31) rfl rfl (by kernel_rfl) (by kernel_rfl) (by kernel_rfl) (fun _ _ _ h => h) (Or.inl ⟨by rfl, ?yqc31⟩) ?fqc31 ?_
                  case yqc31 => (intro wq hq; go_simp; first | done | with_reducible rfl)
                  case fqc31 => (go_frame; rfl)
                  refine wpIn_take (i := 2) (d := (some 90)) (v := ?vqc32) (a' := ?aqc32) rfl rfl (by kernel_rfl) (by kernel_rfl) (by kernel_rfl) (fun _ _ _ h => h) (Or.inl ⟨by rfl, ?yqc32⟩) ?fqc32 ?_
                  case yqc32 => (intro wq hq; go_simp; first | done | with_reducible rfl)
                  case fqc32 => (go_frame; rfl)
                  refine wpIn_take (i := 3) (d := (some 91)) (v := ?vqc33) (a' := ?aqc33) rfl rfl (by kernel_rfl) (by kernel_rfl) (by kernel_rfl) (fun _ _ _ h => h) (Or.inl ⟨by rfl, ?yqc33⟩) ?fqc33 ?_
                  case yqc33 => (intro wq hq; go_simp; first | done | with_reducible rfl)
                  case fqc33 => (go_frame; rfl)
                  refine wpIn_take (i := 4) (d := (some 92)) (v := ?vqc34) (a' := ?aqc34) rfl rfl (by kernel_rfl) (by kernel_rfl) (by kernel_rfl) (fun _ _ _ h => h) (Or.inl ⟨by rfl, ?yqc34⟩) ?fqc34 ?_
                  case yqc34 => (intro wq hq; go_simp; first | done | with_reducible rfl)
                  case fqc34 => (go_frame; rfl)
                  refine wpIn_take (i := 5) (d := (some 93)) (v := ?vqc35) (a' := ?aqc35) rfl rfl (by kernel_rfl) (by kernel_rfl) (by kernel_rfl) (fun _ _ _ h => h) (Or.inl ⟨by rfl, ?yqc35⟩) ?fqc35 ?_
                  case yqc35 => (intro wq hq; go_simp; first | done | with_reducible rfl)
                  case fqc35 => (go_frame; rfl)
                  refine wpIn_take (i := 6) (d := (some 94)) (v := ?vqc36) (a' := ?aqc36) rfl rfl (by kernel_rfl) (by kernel_rfl) (by kernel_rfl) (fun _ _ _ h => h) (Or.inl ⟨by rfl, ?yqc36⟩) ?fqc36 ?_
                  case yqc36 => (intro wq hq; go_simp; first | done | with_reducible rfl)
                  case fqc36 => (go_frame; rfl)
                  refine wpIn_take (i := 7) (d := (some 95)) (v := ?vqc37) (a' := ?aqc37) rfl rfl (by kernel_rfl) (by kernel_rfl) (by kernel_rfl) (fun _ _ _ h => h) (Or.inl ⟨by rfl, ?yqc37⟩) ?fqc37 ?_
                  case yqc37 => (intro wq hq; go_simp; first | done | with_reducible rfl)
                  case fqc37 => (go_frame; rfl)
                  refine wpIn_take (i := 8) (d := (some 96)) (v := ?vqc38) (a' := ?aqc38) rfl rfl (by kernel_rfl) (by kernel_rfl) (by kernel_rfl) (fun _ _ _ h => h) (Or.inl ⟨by rfl, ?yqc38⟩) ?fqc38 ?_
                  case yqc38 => (intro wq hq; go_simp; first | done | with_reducible rfl)
                  case fqc38 => (go_frame; rfl)
                  refine wpIn_take (i := 9) (d := (some 97)) (v := ?vqc39) (a' := ?aqc39) rfl rfl (by kernel_rfl) (by kernel_rfl) (by kernel_rfl) (fun _ _ _ h => h) (Or.inl ⟨by rfl, ?yqc39⟩) ?fqc39 ?_
                  case yqc39 => (intro wq hq; go_simp; first | done | with_reducible rfl)
                  case fqc39 => (go_frame; rfl)
                  refine wpIn_take (i := 10) (d := (some 98)) (v := ?vqc310) (a' := ?aqc310) rfl rfl (by kernel_rfl) (by kernel_rfl) (by kernel_rfl) (fun _ _ _ h => h) (Or.inl ⟨by rfl, ?yqc310⟩) ?fqc310 ?_
                  case yqc310 => (intro wq hq; obtain ⟨⟨f0, f1, f2, f3, f4⟩, g1, g2⟩ := hq; go_simp; first | done | with_reducible rfl)
                  case fqc310 => (go_frame; rfl)
                  refine wpIn_take (i := 11) (d := (some 99)) (v := ?vqc311) (a' := ?aqc311) rfl rfl (by kernel_rfl) (by kernel_rfl) (by kernel_rfl) (fun _ _ _ h => h) (Or.inl ⟨by rfl, ?yqc311⟩) ?fqc311 ?_
                  case yqc311 => (intro wq hq; go_simp; first | done | with_reducible rfl)
                  case fqc311 => (go_frame; rfl)
                  refine wpIn_take (i := 12) (d := (some 100)) (v := ?vqc312) (a' := ?aqc312) rfl rfl (by kernel_rfl) (by kernel_rfl) (by kernel_rfl) (fun _ _ _ h => h) (Or.inl ⟨by rfl, ?yqc312⟩) ?fqc312 ?_
                  case yqc312 => (intro wq hq; obtain ⟨⟨f0, f1, f2, f3, f4⟩, g1, g2⟩ := hq; go_simp; first | done | with_reducible rfl)
                  case fqc312 => (go_frame; rfl)
                  refine wpIn_take (i := 13) (d := (some 101)) (v := ?vqc313) (a' := ?aqc313) rfl rfl (by kernel_rfl) (by kernel_rfl) (by kernel_rfl) (fun _ _ _ h => h) (Or.inl ⟨by rfl, ?yqc313⟩) ?fqc313 ?_
                  case yqc313 => (intro wq hq; go_simp; first | done | with_reducible rfl)
                  case fqc313 => (go_frame; rfl)
                  refine wpIn_take (i := 14) (d := (some 102)) (v := ?vqc314) (a' := ?aqc314) rfl rfl (by kernel_rfl) (by kernel_rfl) (by kernel_rfl) (fun _ _ _ h => h) (Or.inl ⟨by rfl, ?yqc314⟩) ?fqc314 ?_
                  case yqc314 => (intro wq hq; go_simp; first | done | with_reducible rfl)
                  case fqc314 => (go_frame; rfl)
                  refine wpIn_take (i := 15) (d := (some 103)) (v := undef) (a' := ?aqc315) rfl rfl (by kernel_rfl) (by kernel_rfl) (by kernel_rfl) (fun _ _ _ h => h) (Or.inr ⟨by rfl, rfl⟩) ?fqc315 ?_
                  case fqc315 => (go_frame; rfl)
                  refine wpIn_take (i := 16) (d := (some 104)) (v := undef) (a' := ?aqc316) rfl rfl (by kernel_rfl) (by kernel_rfl) (by kernel_rfl) (fun _ _ _ h => h) (Or.inr ⟨by rfl, rfl⟩) ?fqc316 ?_
                  case fqc316 => (go_frame; rfl)
                  refine wpIn_take (i := 17) (d := (some 105)) (v := undef) (a' := ?aqc317) rfl rfl (by kernel_rfl) (by kernel_rfl) (by kernel_rfl) (fun _ _ _ h => h) (Or.inr ⟨by rfl, rfl⟩) ?fqc317 ?_
                  case fqc317 => (go_frame; rfl)
                  refine wpIn_take (i := 18) (d := (some 106)) (v := undef) (a' := ?aqc318) rfl rfl (by kernel_rfl) (by kernel_rfl) (by kernel_rfl) (fun _ _ _ h => h) (Or.inr ⟨by rfl, rfl⟩) ?fqc318 ?_
                  case fqc318 => (go_frame; rfl)
                  refine wpIn_take (i := 19) (d := (some 107)) (v := undef) (a' := ?aqc319) rfl rfl (by kernel_rfl) (by kernel_rfl) (by kernel_rfl) (fun _ _ _ h => h) (Or.inr ⟨by rfl, rfl⟩) ?fqc319 ?_
                  case fqc319 => (go_frame; rfl)
                  refine wpIn_take (i := 20) (d := (some 108)) (v := undef) (a' := ?aqc320) rfl rfl (by kernel_rfl) (by kernel_rfl) (by kernel_rfl) (fun _ _ _ h => h) (Or.inr ⟨by rfl, rfl⟩) ?fqc320 ?_
                  case fqc320 => (go_frame; rfl)
                  refine wpIn_take (i := 21) (d := (some 109)) (v := undef) (a' := ?aqc321) rfl rfl (by kernel_rfl) (by kernel_rfl) (by kernel_rfl) (fun _ _ _ h => h) (Or.inr ⟨by rfl, rfl⟩) ?fqc321 ?_
                  case fqc321 => (go_frame; rfl)
                  refine wpIn_take (i := 22) (d := (some 110)) (v := undef) (a' := ?aqc322) rfl rfl (by kernel_rfl) (by kernel_rfl) (by kernel_rfl) (fun _ _ _ h => h) (Or.inr ⟨by rfl, rfl⟩) ?fqc322 ?_
                  case fqc322 => (go_frame; rfl)
                  refine wpIn_take (i := 23) (d := (some 111)) (v := ?vqc323) (a' := ?aqc323) rfl rfl (by kernel_rfl) (by kernel_rfl) (by kernel_rfl) (fun _ _ _ h => h) (Or.inl ⟨by rfl, ?yqc323⟩) ?fqc323 ?_
                  case yqc323 => (intro wq hq; go_simp; first | done | with_reducible rfl)
                  case fqc323 => (go_frame; rfl)
                  refine wpIn_take (i := 24) (d := (some 112)) (v := ?vqc324) (a' := ?aqc324) rfl rfl (by kernel_rfl) (by kernel_rfl) (by kernel_rfl) (fun _ _ _ h => h) (Or.inl ⟨by rfl, ?yqc324⟩) ?fqc324 ?_
                  case yqc324 => (intro wq hq; go_simp; first | done | with_reducible rfl)
                  case fqc324 => (go_frame; rfl)
                  refine wpIn_take (i := 25) (d := (some 113)) (v := ?vqc325) (a' := ?aqc325) rfl rfl (by kernel_rfl) (by kernel_rfl) (by kernel_rfl) (fun _ _ _ h => h) (Or.inl ⟨by rfl, ?yqc325⟩) ?fqc325 ?_
                  case yqc325 => (intro wq hq; go_simp; first | done | with_reducible rfl)
                  case fqc325 => (go_frame; rfl)
                  refine wpIn_done hC4 (by kernel_rfl) ?_ _
                  have hte := ht4.grown (grown_drew w4 none)
                  obtain ⟨capd, wcd, hcvd⟩ := bytes_any d.txt w4.drew
                  have hrund := hcvd.run
                  obtain ⟨z0, z1, z2, z3, z4⟩ := HD.out w4.drew hbe
                  go_wp2_with (go_at_call 14; refine (digest_text hte hcvd (by omega) (by omega)).mono ?_; rintro e w9 ⟨rfl, ht9, hg9⟩)
                  have hb9 : Below W2.heap.size W2 w9 := (hbe).trans (hte.under1 hg9)
                  go_roundw
                  case rel => exact ⟨k + 1, _, G', by omega, by go_num, ht9, HM'.out, HNO'.out, by omega, by have := add_len D d.txt; omega, hb9⟩
                  case measure => simp [intOf]; omega
            · clear y1 y3 y4
              obtain ⟨capd, wcd, hcvd⟩ := bytes_any d.txt wr
              have hrund := hcvd.run
              obtain ⟨z0, z1, z2, z3, z4⟩ := HD.out wr hb
              go_wp2_with (go_at_call 14; refine (digest_text ht hcvd (by omega) (by omega)).mono ?_; rintro e w9 ⟨rfl, ht9, hg9⟩)
              have hb9 : Below W2.heap.size W2 w9 := (hb).trans (ht.under1 hg9)
              go_roundw
              case rel => exact ⟨k + 1, _, G, by omega, by go_num, ht9, HM.out, HNO.out, by omega, by have := add_len D d.txt; omega, hb9⟩
              case measure => simp [intOf]; omega
          · obtain rfl : k = l.length := by omega
            obtain ⟨cap, wc, hconv⟩ := bytes_any x.txt wr
            have hrun := hconv.run
            obtain ⟨y1, y2, y3⟩ := HXC.out wr hb
            have HS : Hid (Calls Try.prog 16 #[.pointer (some ⟨tb, 0, none⟩), .string x.srv, .slice (some ⟨wr.heap.size, 0, none⟩) x.txt.size cap] wc fun e w' => e = .returned (.tuple #[.string (lt 1), .int .i64 0]) ∧ Tab W2.heap.size w' tb vv b1 b2 S D G ∧ wr.grownBy w' (some b2)) := by
              have := sign_text x.srv ht hconv (by omega) (by omega) hin
              rw [HNO.out, add_mem HM.out] at this
              exact this
            have v1 : ver S G x.srv x.txt (lt 1) = true := by rw [ver_eq hin HM.out HNO.out]; simp
            cases hvt : decide (x.tok = lt 1) with
            | true =>
              have e_t : (x.tok.toList == (lt 1).toList) = true := by rw [beqS, hvt]
              go_wp2_with (first
                | (go_at_call 16; refine HS.out.mono ?_; rintro e w4 ⟨rfl, ht4, hg4⟩; have hb4 : Below W2.heap.size W2 w4 := hb.trans (ht.under2 hg4); obtain ⟨x1, x2, x3⟩ := HXC.out w4 hb4; obtain ⟨cap5, wc5, hconv5⟩ := bytes_any x.txt w4; have hrun5 := hconv5.run)
                | (go_at_call 19; refine (verify_text x.srv (lt 1) ht4 hconv5 (by omega) (by omega)).mono ?_; rw [v1]; rintro e w5 ⟨rfl, ht5, hb45⟩; have hb5 := hb4.trans (hb45.mono ht4.le); obtain ⟨u1, u2, u3⟩ := HXC.out w5 hb5)
                | (go_at_call 12; refine (awake_any _).mono ?_; rintro e w7 ⟨rfl, hb7⟩))
              go_ret
              have q1 := hb2.trans (hb5.mono hb2.size)
              exact ⟨rfl, q1.trans (hb7.mono q1.size)⟩
            | false =>
              have e_t : (x.tok.toList == (lt 1).toList) = false := by rw [beqS, hvt]
              have v2 : ver S G x.srv x.txt x.tok = false := by rw [ver_eq hin HM.out HNO.out, hvt]
              go_wp2_with (first
                | (go_at_call 16; refine HS.out.mono ?_; rintro e w4 ⟨rfl, ht4, hg4⟩; have hb4 : Below W2.heap.size W2 w4 := hb.trans (ht.under2 hg4); obtain ⟨x1, x2, x3⟩ := HXC.out w4 hb4; obtain ⟨cap5, wc5, hconv5⟩ := bytes_any x.txt w4; have hrun5 := hconv5.run)
                | (go_at_call 19; have _h := ht5; refine (verify_text x.srv x.tok ht5 hconv6 (by omega) (by omega)).mono ?_; rw [v2]; rintro e w6 ⟨rfl, ht6, hb56⟩; have hb6 := hb5.trans (hb56.mono ht5.le))
                | (go_at_call 19; refine (verify_text x.srv (lt 1) ht4 hconv5 (by omega) (by omega)).mono ?_; rw [v1]; rintro e w5 ⟨rfl, ht5, hb45⟩; have hb5 := hb4.trans (hb45.mono ht4.le); obtain ⟨u1, u2, u3⟩ := HXC.out w5 hb5; obtain ⟨cap6, wc6, hconv6⟩ := bytes_any x.txt w5; have hrun6 := hconv6.run; obtain ⟨o1, o2, o3⟩ := HXC.out wc6 (hb5.trans (hconv6.below.mono ht5.le)))
                | (go_at_call 12; refine (awake_any _).mono ?_; rintro e w7 ⟨rfl, hb7⟩))
              go_ret
              have q1 := hb2.trans (hb6.mono hb2.size)
              exact ⟨rfl, q1.trans (hb7.mono q1.size)⟩
end Go.Proofs.Ytjgogmlmcebgpaa

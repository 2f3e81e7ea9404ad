/-
  OraclePlays, walked.
-/
import Derived.Test.YtjgogmlmcebgpaaBoth
import Derived.Test.YtjgogmlmcebgpaaToken
import Derived.Deep.Cut
import Derived.Deep.CutRange
import Derived.Deep.CutBlock
namespace Go.Proofs.Ytjgogmlmcebgpaa
open Go.RowKit Go.Maps

/-- The world a itself. -/
def Same (a w : World) : Prop := w = a

set_option maxRecDepth 100000 in
set_option maxHeartbeats 16000000 in
theorem oraclePlays_any (S : List ByteArray) (p0 : Option Addr) (c0 : Nat) (l : List Dd) (p1 : Option Addr) (c1 : Nat) (w : World)
    (hS : S.length ≤ 140737488351232) (hSs : ∀ x ∈ S, x.size ≤ 140737488351232) (hl : l.length ≤ 140737488351232) (hn0 : p0 = none → c0 = 0)
    (hrS : RdS w.heap.size w p0 c0 S) (hrl : RdD w.heap.size w p1 c1 l) :
    Calls Try.prog 3 #[.slice p0 S.length c0, .slice p1 l.length c1] w fun e w' => e = .returned (.bool true) ∧ Below w.heap.size w w' := by
  cases hf1 : fewB l S with
  | false =>
    go_enter Try.func3, Try.ntmps3
    go_wp2_with (go_at_call 9; refine (few_any l _ _ S _ _ _ w.heap.size hl hS hSs hrl hrS).mono ?_; rintro e w' ⟨rfl, rfl⟩)
    go_ret
    exact ⟨rfl, Below.refl _ _⟩
  | true =>
    have HF := Hid.out (show Hid (fewB l S = true) from hf1)
    obtain ⟨hl100, hS100, hSz, hlz⟩ := fewB_iff.1 HF
    have HLZ : Hid (∀ d ∈ l, d.txt.size ≤ 500 ∧ d.srv.size ≤ 100 ∧ d.tok.size ≤ 100) := hlz
    clear HF hSz hlz
    by_cases hgood : S.length ≤ 64 ∧ once S = true
    case neg =>
      have HG : Hid (¬ (S.length ≤ 64 ∧ once S = true)) := hgood
      clear hgood
      go_enter Try.func3, Try.ntmps3
      go_wp2_with (first
        | (go_at_call 9; refine (few_any l _ _ S _ _ _ w.heap.size hl hS hSs hrl hrS).mono ?_; rintro e w' ⟨rfl, rfl⟩)
        | (at_builtin; refine wpList_append_rds rfl _ _ rfl w.heap.size _ [] rfl ?a0 w.heap.size _ _ S rfl ?a1 hn0 ?a3 ?a4 ?_))
      case a0 => exact own_empty9 _ _ rfl
      case a1 => exact hrS.carry ((Below.refl _ _).alloc (Nat.le_refl _) _)
      case a3 => simp; omega
      case a4 => simp
      intro v6 w6 hown6 hgrow6
      have hown : w6.ownsRow w.heap.size 9 1 v6 S.length (S.map Value.string) := by simpa using hown6
      have hb6 : Below w.heap.size w w6 := ((Below.refl _ _).alloc (Nat.le_refl _) _).grown hgrow6 (by simp) (fun k e => by cases e; exact Nat.le_refl _)
      obtain ⟨q6, c6, rfl, hrd6, hn6⟩ := own_rds hown
      clear hown6 hgrow6 hown
      have hrS6 := (hrS.carry hb6).grow hb6.size
      go_wp2_with (first
        | (go_at_call 10; refine (new_bad S _ _ _ (by omega) hrd6 HG.out).mono ?_; rintro e w' ⟨rfl, rfl⟩)
        | (go_at_call 11; refine (rnew_any S _ _ _ (by omega) hrS6 hn0).mono ?_; rintro e w7 ⟨hb7, _, hbad⟩; obtain rfl := hbad HG.out)
        | (go_at_call 12; refine (awake_any _).mono ?_; rintro e w8 ⟨rfl, hb8⟩))
      go_ret
      have q1 := hb6.trans (hb7.mono hb6.size)
      exact ⟨rfl, q1.trans (hb8.mono q1.size)⟩
    case pos =>
      have HG : Hid (S.length ≤ 64 ∧ once S = true) := hgood
      obtain ⟨h64, hone⟩ := hgood
      go_enter Try.func3, Try.ntmps3
      go_wp2_with (first
        | (go_at_call 9; refine (few_any l _ _ S _ _ _ w.heap.size hl hS hSs hrl hrS).mono ?_; rintro e w' ⟨rfl, rfl⟩)
        | (at_builtin; refine wpList_append_rds rfl _ _ rfl w.heap.size _ [] rfl ?a0 w.heap.size _ _ S rfl ?a1 hn0 ?a3 ?a4 ?_))
      case a0 => exact own_empty9 _ _ rfl
      case a1 => exact hrS.carry ((Below.refl _ _).alloc (Nat.le_refl _) _)
      case a3 => simp; omega
      case a4 => simp
      intro v6 w6 hown6 hgrow6
      have hown : w6.ownsRow w.heap.size 9 1 v6 S.length (S.map Value.string) := by simpa using hown6
      have hb6 : Below w.heap.size w w6 := ((Below.refl _ _).alloc (Nat.le_refl _) _).grown hgrow6 (by simp) (fun k e => by cases e; exact Nat.le_refl _)
      obtain ⟨q6, c6, rfl, hrd6, hn6⟩ := own_rds hown
      clear hown6 hgrow6 hown
      have hrS6 := (hrS.carry hb6).grow hb6.size
      go_wp2_with (first
        | (go_at_call 10; refine (new_good S _ _ _ h64 hone hrd6 hn6).mono ?_; rintro e w7 ⟨tb, rfl, ⟨vv, b1, b2, ht7⟩, hb7⟩; have hB7 := hb6.trans (hb7.mono hb6.size); have hrS7 := (hrS.carry hB7).grow hB7.size)
        | (go_at_call 11; refine (rnew_any S _ _ _ (by omega) hrS7 hn0).mono ?_; rintro e w8 ⟨hb8, hgd, _⟩; obtain ⟨rb, v0, rfl, hrt8⟩ := hgd HG.out)
        | (go_at_call 13; have hT8 := ht7.below hb8; refine (servers_any _ hT8).mono ?_; rintro e w9 ⟨q9, c9, rfl, hown9, hb9⟩))
      have hSq : Sq w tb b1 b2 rb vv v0 (.slice none 0 0) (.slice none 0 0) (.slice none 0 0) S [] [] (gm S []) [] [] w9 :=
        Sq.below ⟨⟨w6.heap.size, w7.heap.size, hb6.size, hB7.size, ht7.below hb8, hrt8, ht7.lo⟩, hB7.trans (hb8.mono hB7.size)⟩ hb9
      have hrd9 := (own_rds hown9)
      obtain ⟨q9', c9', e9, hrd9, _⟩ := hrd9
      simp only [Value.slice.injEq, true_and] at e9
      obtain ⟨rfl, rfl⟩ := e9
      clear hown9 ht7 hb7 hb8 hb9 hrt8 hrd6 hgd hrS6 hrS7 hT8
      go_loopw [10] (fun i wr => ∃ k : Nat, k ≤ S.length ∧ i = .int .i64 k ∧ Below w9.heap.size w9 wr) (fun i _ => S.length - (intOf i).toNat)
      case atStart => exact ⟨0, Nat.zero_le _, rfl, Below.refl _ _⟩
      case round =>
        obtain ⟨k, hk, rfl, hb⟩ := hrel
        by_cases hlt : k < S.length
        · have hbd := hb.drew
          obtain ⟨ad, rfl, had, c_1⟩ := (hrd9.carry hbd).2 k hlt
          obtain ⟨ad', rfl, had', c_2⟩ := (hrS.carry (hSq.low.trans (hbd.mono hSq.low.size))).2 k hlt
          obtain ⟨x, hx⟩ : ∃ x, S.getD k ⟨#[]⟩ = x := ⟨_, rfl⟩
          rw [hx] at c_1 c_2
          clear hx
          go_wp2
          refine wp_region_in (by kernel_rfl) (fun w' => w' = wr.drew) ?_
          change wpIn _ _ _ _ _ _ _ _ (World.drew _)
          refine wpIn_take (i := 0) (d := (some 62)) (v := ?vqn0) (a' := ?aqn0) rfl rfl (by kernel_rfl) (by kernel_rfl) (by kernel_rfl) (fun _ _ _ h => h) (Or.inl ⟨by rfl, ?yqn0⟩) ?fqn0 ?_
          case yqn0 => (intro wq hq; go_simp; first | done | with_reducible rfl)
          case fqn0 => (go_frame; rfl)
          refine wpIn_take (i := 1) (d := (some 63)) (v := ?vqn1) (a' := ?aqn1) rfl rfl (by kernel_rfl) (by kernel_rfl) (by kernel_rfl) (fun _ _ _ h => h) (Or.inl ⟨by rfl, ?yqn1⟩) ?fqn1 ?_
          case yqn1 => (intro wq hq; go_simp; first | done | with_reducible rfl)
          case fqn1 => (go_frame; rfl)
          refine wpIn_take (i := 2) (d := (some 64)) (v := ?vqn2) (a' := ?aqn2) rfl rfl (by kernel_rfl) (by kernel_rfl) (by kernel_rfl) (fun _ _ _ h => h) (Or.inl ⟨by rfl, ?yqn2⟩) ?fqn2 ?_
          case yqn2 => (intro wq hq; go_simp; first | done | with_reducible rfl)
          case fqn2 => (go_frame; rfl)
          refine wpIn_take (i := 3) (d := (some 65)) (v := ?vqn3) (a' := ?aqn3) rfl rfl (by kernel_rfl) (by kernel_rfl) (by kernel_rfl) (fun _ _ _ h => h) (Or.inl ⟨by rfl, ?yqn3⟩) ?fqn3 ?_
          case yqn3 => (intro wq hq; obtain rfl := hq; go_simp; first | done | with_reducible rfl)
          case fqn3 => (go_frame; rfl)
          refine wpIn_take (i := 4) (d := (some 66)) (v := ?vqn4) (a' := ?aqn4) rfl rfl (by kernel_rfl) (by kernel_rfl) (by kernel_rfl) (fun _ _ _ h => h) (Or.inl ⟨by rfl, ?yqn4⟩) ?fqn4 ?_
          case yqn4 => (intro wq hq; go_simp; first | done | with_reducible rfl)
          case fqn4 => (go_frame; rfl)
          refine wpIn_take (i := 5) (d := (some 67)) (v := ?vqn5) (a' := ?aqn5) rfl rfl (by kernel_rfl) (by kernel_rfl) (by kernel_rfl) (fun _ _ _ h => h) (Or.inl ⟨by rfl, ?yqn5⟩) ?fqn5 ?_
          case yqn5 => (intro wq hq; go_simp; first | done | with_reducible rfl)
          case fqn5 => (go_frame; rfl)
          refine wpIn_take (i := 6) (d := (some 68)) (v := ?vqn6) (a' := ?aqn6) rfl rfl (by kernel_rfl) (by kernel_rfl) (by kernel_rfl) (fun _ _ _ h => h) (Or.inl ⟨by rfl, ?yqn6⟩) ?fqn6 ?_
          case yqn6 => (intro wq hq; go_simp; first | done | with_reducible rfl)
          case fqn6 => (go_frame; rfl)
          refine wpIn_take (i := 7) (d := (some 69)) (v := ?vqn7) (a' := ?aqn7) rfl rfl (by kernel_rfl) (by kernel_rfl) (by kernel_rfl) (fun _ _ _ h => h) (Or.inl ⟨by rfl, ?yqn7⟩) ?fqn7 ?_
          case yqn7 => (intro wq hq; obtain rfl := hq; go_simp; first | done | with_reducible rfl)
          case fqn7 => (go_frame; rfl)
          refine wpIn_take (i := 8) (d := (some 70)) (v := ?vqn8) (a' := ?aqn8) rfl rfl (by kernel_rfl) (by kernel_rfl) (by kernel_rfl) (fun _ _ _ h => h) (Or.inl ⟨by rfl, ?yqn8⟩) ?fqn8 ?_
          case yqn8 => (intro wq hq; go_simp; first | done | with_reducible rfl)
          case fqn8 => (go_frame; rfl)
          refine wpIn_done (C := fun w' => w' = wr.drew) rfl (by kernel_rfl) ?_ _
          go_wp2
          go_roundw
          case rel => exact ⟨k + 1, by omega, by go_num, hbd⟩
          case measure => simp [intOf]; omega
        · obtain rfl : k = S.length := by omega
          have hSq0 := hSq.below hb
          clear hSq hb hrd9
          go_wp2
          go_loopw [11, 12] (fun v i wr => ∃ (k : Nat) (v1 v2 : Value) (D : List ByteArray) (H : List (ByteArray × ByteArray)) (T : List ByteArray), k ≤ l.length ∧ i = .int .i64 k ∧ Sq w tb b1 b2 rb vv v0 v1 v2 v S D D (gm S H) H T wr ∧ (∀ x ∈ H, x.1 ∈ S) ∧ D.length ≤ k ∧ H.length ≤ k ∧ T.length ≤ k) (fun _ i _ => l.length - (intOf i).toNat)
          case atStart => exact ⟨0, _, _, [], [], [], Nat.zero_le _, rfl, hSq0, by simp, by simp, by simp, by simp⟩
          case round =>
            clear hSq0
            obtain ⟨k, v1, v2, D, H, T, hk, rfl, hSq, hHS, hDl, hHl, hTl⟩ := hrel
            have HHS : Hid (∀ x ∈ H, x.1 ∈ S) := hHS
            clear hHS
            by_cases hlt : k < l.length
            · obtain ⟨ad, rfl, had, hatd, hfd⟩ := hrl.2 k hlt
              have hdm := getD_mem (d := Dd.none) hlt
              obtain ⟨d, hd⟩ : ∃ d, l.getD k Dd.none = d := ⟨_, rfl⟩
              rw [hd] at hatd hfd hdm
              obtain ⟨hd1, hd2, hd3⟩ := HLZ.out d hdm
              obtain ⟨y0, y1, y2, y3, y4⟩ := hatd.kept (by rw [add_block]; exact had) hSq.low
              clear hd hatd hdm
              obtain ⟨kd, hkd⟩ : ∃ kd, d.kind = kd := ⟨_, rfl⟩
              rw [hkd] at y0
              clear hkd
              go_upto_block 4 with fail
              go_cut [11, 14, 15, 16, 17, 18, 19] from 71 to 173 (fun tv ok _ _ _ _ _ wx => ok = .bool true ∧ ∃ (v1 v2 : Value) (D' : List ByteArray) (H' : List (ByteArray × ByteArray)) (T' : List ByteArray), Sq w tb b1 b2 rb vv v0 v1 v2 tv S D' D' (gm S H') H' T' wx ∧ (∀ x ∈ H', x.1 ∈ S) ∧ D'.length ≤ k + 1 ∧ H'.length ≤ k + 1 ∧ T'.length ≤ k + 1)
              case first =>
                by_cases hk0 : kd = 0
                · subst hk0
                  go_wp2
                  have hal : Below wr.heap.size wr (wr.alloc (.cells #[.int .i64 0, .string d.srv, .string d.txt, .string d.tok, .int .i64 d.n] 35)) := (Below.refl _ _).alloc (Nat.le_refl _) _
                  have hSqx := (hSq.below hal).below (Below.refl _ _).drew
                  have hXx : (wr.alloc (.cells #[.int .i64 0, .string d.srv, .string d.txt, .string d.tok, .int .i64 d.n] 35)).drew.heap[wr.heap.size]? = some (.cells #[.int .i64 0, .string d.srv, .string d.txt, .string d.tok, .int .i64 d.n] 35) := heap_alloc_new _ _
                  obtain ⟨D', hD'⟩ : ∃ D', D' = add D d.txt := ⟨_, rfl⟩
                  have hDl' := add_len D d.txt
                  have HD' : Hid (add D d.txt = D') := hD'.symm
                  rw [← hD'] at hDl'
                  clear hD' hal
                  obtain ⟨capa, Wa, hcva, hbya⟩ := byt_any d.txt (wr.alloc (.cells #[.int .i64 0, .string d.srv, .string d.txt, .string d.tok, .int .i64 d.n] 35)).drew
                  have hruna := hcva.run
                  have hSqa := hSqx.below hcva.below
                  have hXa := (hcva.below.block _ (obj_lt hXx)).trans hXx
                  have hsza : (wr.alloc (.cells #[.int .i64 0, .string d.srv, .string d.txt, .string d.tok, .int .i64 d.n] 35)).drew.heap.size = wr.heap.size + 1 := by simp
                  rw [hsza] at hbya
                  clear hsza
                  refine wp_region_in (by kernel_rfl) (fun w' => w'.heap[wr.heap.size]? = some (.cells #[.int .i64 0, .string d.srv, .string d.txt, .string d.tok, .int .i64 d.n] 35)) ?_
                  change wpIn _ _ _ _ _ _ _ _ (World.drew _)
                  refine wpIn_take (i := 0) (d := (some 85)) (v := ?vqk0) (a' := ?aqk0) rfl rfl (by kernel_rfl) (by kernel_rfl) (by kernel_rfl) (fun _ _ _ h => h) (Or.inl ⟨by rfl, ?yqk0⟩) ?fqk0 ?_
                  case yqk0 => (intro wq hq; go_simp; first | done | with_reducible rfl)
                  case fqk0 => (go_frame; rfl)
                  refine wpIn_take (i := 1) (d := (some 86)) (v := ?vqk1) (a' := ?aqk1) rfl rfl (by kernel_rfl) (by kernel_rfl) (by kernel_rfl) (fun _ _ _ h => h) (Or.inl ⟨by rfl, ?yqk1⟩) ?fqk1 ?_
                  case yqk1 => (intro wq hq; go_simp; first | done | with_reducible rfl)
                  case fqk1 => (go_frame; rfl)
                  refine wpIn_take (i := 2) (d := (some 87)) (v := ?vqk2) (a' := ?aqk2) rfl rfl (by kernel_rfl) (by kernel_rfl) (by kernel_rfl) (fun _ _ _ h => h) (Or.inl ⟨by rfl, ?yqk2⟩) ?fqk2 ?_
                  case yqk2 => (intro wq hq; have f2 := cell_row (cur := [_, _, _, _, _]) hq 2 _ rfl; go_simp; first | done | with_reducible rfl)
                  case fqk2 => (go_frame; rfl)
                  refine wpIn_take (i := 5) (d := (some 90)) (v := ?vqk5) (a' := ?aqk5) rfl rfl (by kernel_rfl) (by kernel_rfl) (by kernel_rfl) (fun _ _ _ h => h) (Or.inl ⟨by rfl, ?yqk5⟩) ?fqk5 ?_
                  case yqk5 => (intro wq hq; go_simp; first | done | with_reducible rfl)
                  case fqk5 => (go_frame; rfl)
                  refine wpIn_take (i := 6) (d := (some 91)) (v := ?vqk6) (a' := ?aqk6) rfl rfl (by kernel_rfl) (by kernel_rfl) (by kernel_rfl) (fun _ _ _ h => h) (Or.inl ⟨by rfl, ?yqk6⟩) ?fqk6 ?_
                  case yqk6 => (intro wq hq; go_simp; first | done | with_reducible rfl)
                  case fqk6 => (go_frame; rfl)
                  refine wpIn_take (i := 7) (d := (some 92)) (v := ?vqk7) (a' := ?aqk7) rfl rfl (by kernel_rfl) (by kernel_rfl) (by kernel_rfl) (fun _ _ _ h => h) (Or.inl ⟨by rfl, ?yqk7⟩) ?fqk7 ?_
                  case yqk7 => (intro wq hq; have f2 := cell_row (cur := [_, _, _, _, _]) hq 2 _ rfl; go_simp; first | done | with_reducible rfl)
                  case fqk7 => (go_frame; rfl)
                  refine wpIn_pair (i := 3) (j := 8) hXx (by kernel_rfl) rfl rfl (by rfl) (by rfl) ?_ ?_
                  · intro K hK
                    go_simp
                    refine hK _ _ ?_
                    clear hK K
                    obtain ⟨capb, Wb, hcvb, hbyb⟩ := byt_any d.txt Wa
                    have hrunb := hcvb.run
                    have hSqb := hSqa.below hcvb.below
                    have hXb := (hcvb.below.block _ (obj_lt hXa)).trans hXa
                    have hbyab := hbya.below hcvb.below
                    refine wpIn_pair (i := 4) (j := 8) hXa (by kernel_rfl) rfl rfl (by rfl) (by rfl) ?_ ?_
                    · intro K hK
                      go_simp
                      go_wp2_with (go_at_call 14; refine (hSqa.digest hbya (by omega) (by omega)).mono ?_; rw [HD'.out]; rintro e W4 ⟨rfl, hSq4, hkp4⟩)
                      have hX4 := hkp4.rows _ _ _ _ hXa (.inl rfl)
                      obtain ⟨capc, Wc, hcvc, hbyc⟩ := byt_any d.txt W4
                      have hrunc := hcvc.run
                      have hSqc := hSq4.below hcvc.below
                      have hXc := (hcvc.below.block _ (obj_lt hX4)).trans hX4
                      refine wpIn_do (i := 8) hX4 (by kernel_rfl) rfl (by rfl) ?_
                      intro K hK
                      go_simp
                      refine hK _ _ ?_
                      clear hK K
                      refine wpIn_do (i := 9) hXc (by kernel_rfl) rfl (by rfl) ?_
                      intro K hK
                      go_simp
                      go_wp2_with (go_at_call 15; refine (hSqc.rdigest hbyc (by omega)).mono ?_; rintro e W9 ⟨hret9, ⟨v9, hSq9⟩, hkp9⟩; obtain rfl := hret9)
                      rw [HD'.out] at hSq9
                      have hX9 := hkp9.rows _ _ _ _ hXc (.inl rfl)
                      refine wpIn_take (i := 10) (d := (some 95)) (v := ?vql110) (a' := ?aql110) rfl rfl (by kernel_rfl) (by kernel_rfl) (by kernel_rfl) (fun _ _ _ h => h) (Or.inl ⟨by rfl, ?yql110⟩) ?fql110 ?_
                      case yql110 => (intro wq hq; go_simp; first | done | with_reducible rfl)
                      case fql110 => (go_frame; rfl)
                      refine wpIn_take (i := 11) (d := (some 14)) (v := ?vql111) (a' := ?aql111) rfl rfl (by kernel_rfl) (by kernel_rfl) (by kernel_rfl) (fun _ _ _ h => h) (Or.inl ⟨by rfl, ?yql111⟩) ?fql111 ?_
                      case yql111 => (intro wq hq; go_simp; first | done | with_reducible rfl)
                      case fql111 => (go_frame; rfl)
                      refine wpIn_done hX9 (by kernel_rfl) ?_ _
                      go_wp2
                      go_meet
                      exact ⟨rfl, _, _, D', H, T, hSq9, HHS.out, by omega, by omega, by omega⟩
                    · intro K hK
                      go_simp
                      refine hK _ _ ?_
                      clear hK K
                      refine wpIn_do (i := 4) hXb (by kernel_rfl) rfl (by rfl) ?_
                      intro K hK
                      go_simp
                      go_wp2_with (go_at_call 14; refine (hSqb.digest hbyab (by omega) (by omega)).mono ?_; rw [HD'.out]; rintro e W4 ⟨rfl, hSq4, hkp4⟩)
                      have hX4 := hkp4.rows _ _ _ _ hXb (.inl rfl)
                      have hbyB4 := hbyb.kp hkp4
                      refine wpIn_do (i := 9) hX4 (by kernel_rfl) rfl (by rfl) ?_
                      intro K hK
                      go_simp
                      go_wp2_with (go_at_call 15; refine (hSq4.rdigest hbyB4 (by omega)).mono ?_; rintro e W9 ⟨hret9, ⟨v9, hSq9⟩, hkp9⟩; obtain rfl := hret9)
                      rw [HD'.out] at hSq9
                      have hX9 := hkp9.rows _ _ _ _ hX4 (.inl rfl)
                      refine wpIn_take (i := 10) (d := (some 95)) (v := ?vql210) (a' := ?aql210) rfl rfl (by kernel_rfl) (by kernel_rfl) (by kernel_rfl) (fun _ _ _ h => h) (Or.inl ⟨by rfl, ?yql210⟩) ?fql210 ?_
                      case yql210 => (intro wq hq; go_simp; first | done | with_reducible rfl)
                      case fql210 => (go_frame; rfl)
                      refine wpIn_take (i := 11) (d := (some 14)) (v := ?vql211) (a' := ?aql211) rfl rfl (by kernel_rfl) (by kernel_rfl) (by kernel_rfl) (fun _ _ _ h => h) (Or.inl ⟨by rfl, ?yql211⟩) ?fql211 ?_
                      case yql211 => (intro wq hq; go_simp; first | done | with_reducible rfl)
                      case fql211 => (go_frame; rfl)
                      refine wpIn_done hX9 (by kernel_rfl) ?_ _
                      go_wp2
                      go_meet
                      exact ⟨rfl, _, _, D', H, T, hSq9, HHS.out, by omega, by omega, by omega⟩
                  · intro K hK
                    go_simp
                    refine hK _ _ ?_
                    clear hK K
                    obtain ⟨capb, Wb, hcvb, hbyb⟩ := byt_any d.txt Wa
                    have hrunb := hcvb.run
                    have hSqb := hSqa.below hcvb.below
                    have hXb := (hcvb.below.block _ (obj_lt hXa)).trans hXa
                    have hbyab := hbya.below hcvb.below
                    refine wpIn_do (i := 3) hXa (by kernel_rfl) rfl (by rfl) ?_
                    intro K hK
                    go_simp
                    refine hK _ _ ?_
                    clear hK K
                    refine wpIn_do (i := 4) hXb (by kernel_rfl) rfl (by rfl) ?_
                    intro K hK
                    go_simp
                    go_wp2_with (go_at_call 14; refine (hSqb.digest hbyb (by omega) (by omega)).mono ?_; rw [HD'.out]; rintro e W4 ⟨rfl, hSq4, hkp4⟩)
                    have hX4 := hkp4.rows _ _ _ _ hXb (.inl rfl)
                    have hbyB4 := hbyab.kp hkp4
                    refine wpIn_do (i := 9) hX4 (by kernel_rfl) rfl (by rfl) ?_
                    intro K hK
                    go_simp
                    go_wp2_with (go_at_call 15; refine (hSq4.rdigest hbyB4 (by omega)).mono ?_; rintro e W9 ⟨hret9, ⟨v9, hSq9⟩, hkp9⟩; obtain rfl := hret9)
                    rw [HD'.out] at hSq9
                    have hX9 := hkp9.rows _ _ _ _ hX4 (.inl rfl)
                    refine wpIn_take (i := 10) (d := (some 95)) (v := ?vql310) (a' := ?aql310) rfl rfl (by kernel_rfl) (by kernel_rfl) (by kernel_rfl) (fun _ _ _ h => h) (Or.inl ⟨by rfl, ?yql310⟩) ?fql310 ?_
                    case yql310 => (intro wq hq; go_simp; first | done | with_reducible rfl)
                    case fql310 => (go_frame; rfl)
                    refine wpIn_take (i := 11) (d := (some 14)) (v := ?vql311) (a' := ?aql311) rfl rfl (by kernel_rfl) (by kernel_rfl) (by kernel_rfl) (fun _ _ _ h => h) (Or.inl ⟨by rfl, ?yql311⟩) ?fql311 ?_
                    case yql311 => (intro wq hq; go_simp; first | done | with_reducible rfl)
                    case fql311 => (go_frame; rfl)
                    refine wpIn_done hX9 (by kernel_rfl) ?_ _
                    go_wp2
                    go_meet
                    exact ⟨rfl, _, _, D', H, T, hSq9, HHS.out, by omega, by omega, by omega⟩
                · by_cases hk1 : kd = 1
                  · subst hk1
                    have hal : Below wr.heap.size wr (wr.alloc (.cells #[.int .i64 1, .string d.srv, .string d.txt, .string d.tok, .int .i64 d.n] 35)) := (Below.refl _ _).alloc (Nat.le_refl _) _
                    have hSqx := hSq.below hal
                    have hXx : (wr.alloc (.cells #[.int .i64 1, .string d.srv, .string d.txt, .string d.tok, .int .i64 d.n] 35)).heap[wr.heap.size]? = some (.cells #[.int .i64 1, .string d.srv, .string d.txt, .string d.tok, .int .i64 d.n] 35) := heap_alloc_new _ _
                    clear hal
                    obtain ⟨capa, Wa, hcva, hbya⟩ := byt_any d.txt (wr.alloc (.cells #[.int .i64 1, .string d.srv, .string d.txt, .string d.tok, .int .i64 d.n] 35))
                    have hruna := hcva.run
                    have hSqa := hSqx.below hcva.below
                    have hXa := (hcva.below.block _ (obj_lt hXx)).trans hXx
                    have hsza : (wr.alloc (.cells #[.int .i64 1, .string d.srv, .string d.txt, .string d.tok, .int .i64 d.n] 35)).heap.size = wr.heap.size + 1 := by simp
                    rw [hsza] at hbya
                    clear hsza
                    have f_1 := cell_row (cur := [_, _, _, _, _]) hXa 1 _ rfl
                    have f_2 := cell_row (cur := [_, _, _, _, _]) hXa 2 _ rfl
                    cases hsd : inn S d.srv with
                    | false =>
                      obtain ⟨capb, Wb, hcvb, hbyb⟩ := byt_any d.txt Wa
                      have hrunb := hcvb.run
                      have hSqb := hSqa.below hcvb.below
                      have hXb := (hcvb.below.block _ (obj_lt hXa)).trans hXa
                      have hSqt : Sq w tb b1 b2 rb vv v0 v1 v2 u11 S D D (gm S H) H T (Wb.alloc (.cells #[.string ⟨#[]⟩] 9)) := hSqb.below ((Below.refl _ _).alloc (Nat.le_refl _) _)
                      go_wp2_with (first
                        | (go_at_call 16; refine (hSqa.signNone d.srv _ hsd).mono ?_; rintro e w' ⟨rfl, rfl⟩)
                        | (go_at_call 17; refine (hSqb.rsignNone d.srv _ hsd).mono ?_; rintro e w' ⟨rfl, rfl⟩)
                        | (at_builtin; refine wpList_append_at rfl _ _ rfl (rb + 1) _ T rfl ?t0 _ ⟨#[]⟩ rfl ?t1 ?t2 ?t3 ?_))
                      case t0 => exact hSqt.told.1
                      case t1 => exact cell_one_new _ _ _
                      case t2 => omega
                      case t3 => exact hSqt.told.2
                      intro v6 w6 hown6 hgrow6 hat6
                      have hSq6 := hSqt.tell (s := ⟨#[]⟩) (by simpa using hown6) hgrow6 (by simpa using hat6)
                      clear hown6 hgrow6 hat6 hSqt
                      go_wp2
                      go_meet
                      exact ⟨rfl, _, _, D, H, (T ++ [⟨#[]⟩]), hSq6, HHS.out, by omega, by omega, by simp; omega⟩
                    | true =>
                      obtain ⟨n, hn⟩ : ∃ n, no H (d.srv, d.txt) = n := ⟨_, rfl⟩
                      obtain ⟨H', hH'⟩ : ∃ H', add H (d.srv, d.txt) = H' := ⟨_, rfl⟩
                      have E1 : no (gm S H) (plc S d.srv, d.txt) = n := by rw [(gm_all HHS.out (inn_iff.1 hsd)).1, hn]
                      have E2 : add (gm S H) (plc S d.srv, d.txt) = gm S H' := by rw [(gm_all HHS.out (inn_iff.1 hsd)).2.1, hH']
                      have HHS' : Hid (∀ x ∈ H', x.1 ∈ S) := fun x hx => by
                        rw [← hH'] at hx
                        rcases (mem_add _ _ _).1 hx with h | h
                        · exact HHS.out x h
                        · rw [h]; exact inn_iff.1 hsd
                      have hHl' := add_len H (d.srv, d.txt)
                      rw [hH'] at hHl'
                      have hgl := gm_length S H
                      have EH : Hid ((gm S H).length ≤ 100000) := by show _ ≤ _; omega
                      have E1' : Hid (no (gm S H) (plc S d.srv, d.txt) = n) := E1
                      have E2' : Hid (add (gm S H) (plc S d.srv, d.txt) = gm S H') := E2
                      have N1 : Hid (no H (d.srv, d.txt) = n) := hn
                      have N2 : Hid (add H (d.srv, d.txt) = H') := hH'
                      clear hn hH' E1 E2 hgl f_1 f_2
                      go_wp2_with (first
                        | (go_at_call 16; refine (hSqa.sign d.srv hbya (by omega) EH.out hsd).mono ?_; rw [E1'.out, E2'.out]; rintro e W4 ⟨rfl, hSq4, hkp4⟩; have hX4 := hkp4.rows _ _ _ _ hXa (.inl rfl); have f_1 := cell_row (cur := [_, _, _, _, _]) hX4 1 _ rfl; have f_2 := cell_row (cur := [_, _, _, _, _]) hX4 2 _ rfl; obtain ⟨capb, Wb, hcvb, hbyb⟩ := byt_any d.txt W4; have hrunb := hcvb.run; have hSqb := hSq4.below hcvb.below)
                        | (go_at_call 17; refine (hSqb.rsign d.srv hbyb (by omega) hsd).mono ?_; rintro e W9 ⟨hret9, ⟨v9, hSq9⟩, hkp9⟩; rw [N1.out] at hret9; rw [N2.out] at hSq9; obtain rfl := hret9; have hSqt := hSq9.below ((Below.refl _ _).alloc (Nat.le_refl _) (.cells #[.string (lt n)] 9)))
                        | (at_builtin; refine wpList_append_at rfl _ _ rfl (rb + 1) _ T rfl ?t0 _ (lt n) rfl ?t1 ?t2 ?t3 ?_))
                      case t0 => exact hSqt.told.1
                      case t1 => exact cell_one_new _ _ _
                      case t2 => omega
                      case t3 => exact hSqt.told.2
                      intro v6 w6 hown6 hgrow6 hat6
                      have hSq6 := hSqt.tell (s := (lt n)) (by simpa using hown6) hgrow6 (by simpa using hat6)
                      clear hown6 hgrow6 hat6 hSqt
                      go_wp2
                      go_meet
                      exact ⟨rfl, _, _, D, H', (T ++ [lt n]), hSq6, HHS'.out, by omega, by omega, by simp; omega⟩
                  · by_cases hk2 : kd = 2
                    · subst hk2
                      have hal : Below wr.heap.size wr (wr.alloc (.cells #[.int .i64 2, .string d.srv, .string d.txt, .string d.tok, .int .i64 d.n] 35)) := (Below.refl _ _).alloc (Nat.le_refl _) _
                      have hSqx := hSq.below hal
                      have hXx : (wr.alloc (.cells #[.int .i64 2, .string d.srv, .string d.txt, .string d.tok, .int .i64 d.n] 35)).heap[wr.heap.size]? = some (.cells #[.int .i64 2, .string d.srv, .string d.txt, .string d.tok, .int .i64 d.n] 35) := heap_alloc_new _ _
                      obtain ⟨qt, ct, hvt, hrdt, _⟩ := own_rds hSqx.told.1
                      subst hvt
                      have hgl := gm_length S H
                      have EH : Hid ((gm S H).length ≤ 100000) := by show _ ≤ _; omega
                      clear hal hgl
                      go_wp2_with (go_at_call 18; refine (token_any _ d T _ _ _ hfd (by omega) hrdt).mono ?_; rintro e w5 ⟨tk, rfl, hb5⟩)
                      have hSq5 := (hSqx.below hb5).below (Below.refl _ _).drew
                      have hX5 : w5.drew.heap[wr.heap.size]? = some (.cells #[.int .i64 2, .string d.srv, .string d.txt, .string d.tok, .int .i64 d.n] 35) := (hb5.block _ (obj_lt hXx)).trans hXx
                      obtain ⟨bv, hbv⟩ : ∃ bv, rver H d.srv d.txt tk = bv := ⟨_, rfl⟩
                      have RV : Hid (rver H d.srv d.txt tk = bv) := hbv
                      have GV : Hid (ver S (gm S H) d.srv d.txt tk = bv) := by show _ = _; rw [gm_ver HHS.out, hbv]
                      clear hbv
                      obtain ⟨capa, Wa, hcva, hbya⟩ := byt_any d.txt w5.drew
                      have hruna := hcva.run
                      have hSqa := hSq5.below hcva.below
                      have hXa := (hcva.below.block _ (obj_lt hX5)).trans hX5
                      refine wp_region_in (by kernel_rfl) (fun w' => w'.heap[wr.heap.size]? = some (.cells #[.int .i64 2, .string d.srv, .string d.txt, .string d.tok, .int .i64 d.n] 35)) ?_
                      change wpIn _ _ _ _ _ _ _ _ (World.drew _)
                      refine wpIn_take (i := 0) (d := (some 135)) (v := ?vqm0) (a' := ?aqm0) rfl rfl (by kernel_rfl) (by kernel_rfl) (by kernel_rfl) (fun _ _ _ h => h) (Or.inl ⟨by rfl, ?yqm0⟩) ?fqm0 ?_
                      case yqm0 => (intro wq hq; go_simp; first | done | with_reducible rfl)
                      case fqm0 => (go_frame; rfl)
                      refine wpIn_take (i := 1) (d := (some 136)) (v := ?vqm1) (a' := ?aqm1) rfl rfl (by kernel_rfl) (by kernel_rfl) (by kernel_rfl) (fun _ _ _ h => h) (Or.inl ⟨by rfl, ?yqm1⟩) ?fqm1 ?_
                      case yqm1 => (intro wq hq; go_simp; first | done | with_reducible rfl)
                      case fqm1 => (go_frame; rfl)
                      refine wpIn_take (i := 2) (d := (some 137)) (v := ?vqm2) (a' := ?aqm2) rfl rfl (by kernel_rfl) (by kernel_rfl) (by kernel_rfl) (fun _ _ _ h => h) (Or.inl ⟨by rfl, ?yqm2⟩) ?fqm2 ?_
                      case yqm2 => (intro wq hq; have f1 := cell_row (cur := [_, _, _, _, _]) hq 1 _ rfl; go_simp; first | done | with_reducible rfl)
                      case fqm2 => (go_frame; rfl)
                      refine wpIn_take (i := 3) (d := (some 138)) (v := ?vqm3) (a' := ?aqm3) rfl rfl (by kernel_rfl) (by kernel_rfl) (by kernel_rfl) (fun _ _ _ h => h) (Or.inl ⟨by rfl, ?yqm3⟩) ?fqm3 ?_
                      case yqm3 => (intro wq hq; go_simp; first | done | with_reducible rfl)
                      case fqm3 => (go_frame; rfl)
                      refine wpIn_take (i := 4) (d := (some 139)) (v := ?vqm4) (a' := ?aqm4) rfl rfl (by kernel_rfl) (by kernel_rfl) (by kernel_rfl) (fun _ _ _ h => h) (Or.inl ⟨by rfl, ?yqm4⟩) ?fqm4 ?_
                      case yqm4 => (intro wq hq; have f2 := cell_row (cur := [_, _, _, _, _]) hq 2 _ rfl; go_simp; first | done | with_reducible rfl)
                      case fqm4 => (go_frame; rfl)
                      refine wpIn_take (i := 6) (d := (some 141)) (v := ?vqm6) (a' := ?aqm6) rfl rfl (by kernel_rfl) (by kernel_rfl) (by kernel_rfl) (fun _ _ _ h => h) (Or.inl ⟨by rfl, ?yqm6⟩) ?fqm6 ?_
                      case yqm6 => (intro wq hq; go_simp; first | done | with_reducible rfl)
                      case fqm6 => (go_frame; rfl)
                      refine wpIn_take (i := 8) (d := (some 143)) (v := ?vqm8) (a' := ?aqm8) rfl rfl (by kernel_rfl) (by kernel_rfl) (by kernel_rfl) (fun _ _ _ h => h) (Or.inl ⟨by rfl, ?yqm8⟩) ?fqm8 ?_
                      case yqm8 => (intro wq hq; go_simp; first | done | with_reducible rfl)
                      case fqm8 => (go_frame; rfl)
                      refine wpIn_take (i := 9) (d := (some 144)) (v := ?vqm9) (a' := ?aqm9) rfl rfl (by kernel_rfl) (by kernel_rfl) (by kernel_rfl) (fun _ _ _ h => h) (Or.inl ⟨by rfl, ?yqm9⟩) ?fqm9 ?_
                      case yqm9 => (intro wq hq; go_simp; first | done | with_reducible rfl)
                      case fqm9 => (go_frame; rfl)
                      refine wpIn_take (i := 10) (d := (some 145)) (v := ?vqm10) (a' := ?aqm10) rfl rfl (by kernel_rfl) (by kernel_rfl) (by kernel_rfl) (fun _ _ _ h => h) (Or.inl ⟨by rfl, ?yqm10⟩) ?fqm10 ?_
                      case yqm10 => (intro wq hq; have f1 := cell_row (cur := [_, _, _, _, _]) hq 1 _ rfl; go_simp; first | done | with_reducible rfl)
                      case fqm10 => (go_frame; rfl)
                      refine wpIn_take (i := 11) (d := (some 146)) (v := ?vqm11) (a' := ?aqm11) rfl rfl (by kernel_rfl) (by kernel_rfl) (by kernel_rfl) (fun _ _ _ h => h) (Or.inl ⟨by rfl, ?yqm11⟩) ?fqm11 ?_
                      case yqm11 => (intro wq hq; go_simp; first | done | with_reducible rfl)
                      case fqm11 => (go_frame; rfl)
                      refine wpIn_take (i := 12) (d := (some 147)) (v := ?vqm12) (a' := ?aqm12) rfl rfl (by kernel_rfl) (by kernel_rfl) (by kernel_rfl) (fun _ _ _ h => h) (Or.inl ⟨by rfl, ?yqm12⟩) ?fqm12 ?_
                      case yqm12 => (intro wq hq; have f2 := cell_row (cur := [_, _, _, _, _]) hq 2 _ rfl; go_simp; first | done | with_reducible rfl)
                      case fqm12 => (go_frame; rfl)
                      refine wpIn_take (i := 14) (d := (some 149)) (v := ?vqm14) (a' := ?aqm14) rfl rfl (by kernel_rfl) (by kernel_rfl) (by kernel_rfl) (fun _ _ _ h => h) (Or.inl ⟨by rfl, ?yqm14⟩) ?fqm14 ?_
                      case yqm14 => (intro wq hq; go_simp; first | done | with_reducible rfl)
                      case fqm14 => (go_frame; rfl)
                      refine wpIn_pair (i := 5) (j := 13) hX5 (by kernel_rfl) rfl rfl (by rfl) (by rfl) ?_ ?_
                      · intro K hK
                        go_simp
                        refine hK _ _ ?_
                        clear hK K
                        obtain ⟨capb, Wb, hcvb, hbyb⟩ := byt_any d.txt Wa
                        have hrunb := hcvb.run
                        have hSqb := hSqa.below hcvb.below
                        have hXb := (hcvb.below.block _ (obj_lt hXa)).trans hXa
                        have hbyab := hbya.below hcvb.below
                        refine wpIn_pair (i := 7) (j := 13) hXa (by kernel_rfl) rfl rfl (by rfl) (by rfl) ?_ ?_
                        · intro K hK
                          go_simp
                          go_wp2_with (go_at_call 19; refine (hSqa.verify d.srv tk hbya (by omega) EH.out).mono ?_; rw [GV.out]; rintro e W4 ⟨rfl, hb4⟩)
                          have hSq4 := hSqa.below hb4
                          have hX4 := (hb4.block _ (obj_lt hXa)).trans hXa
                          obtain ⟨capc, Wc, hcvc, hbyc⟩ := byt_any d.txt W4
                          have hrunc := hcvc.run
                          have hSqc := hSq4.below hcvc.below
                          have hXc := (hcvc.below.block _ (obj_lt hX4)).trans hX4
                          refine wpIn_do (i := 13) hX4 (by kernel_rfl) rfl (by rfl) ?_
                          intro K hK
                          go_simp
                          refine hK _ _ ?_
                          clear hK K
                          refine wpIn_do (i := 15) hXc (by kernel_rfl) rfl (by rfl) ?_
                          intro K hK
                          go_simp
                          go_wp2_with (go_at_call 20; refine (hSqc.rverify d.srv tk hbyc (by omega)).mono ?_; rw [RV.out]; rintro e W9 ⟨rfl, hb9⟩)
                          have hSq9 := hSqc.below hb9
                          have hX9 := (hb9.block _ (obj_lt hXc)).trans hXc
                          refine wpIn_take (i := 16) (d := (some 151)) (v := ?vqn616) (a' := ?aqn616) rfl rfl (by kernel_rfl) (by kernel_rfl) (by kernel_rfl) (fun _ _ _ h => h) (Or.inl ⟨by rfl, ?yqn616⟩) ?fqn616 ?_
                          case yqn616 => (intro wq hq; go_simp; first | done | with_reducible rfl)
                          case fqn616 => (go_frame; rfl)
                          refine wpIn_take (i := 17) (d := (some 14)) (v := ?vqn617) (a' := ?aqn617) rfl rfl (by kernel_rfl) (by kernel_rfl) (by kernel_rfl) (fun _ _ _ h => h) (Or.inl ⟨by rfl, ?yqn617⟩) ?fqn617 ?_
                          case yqn617 => (intro wq hq; go_simp; first | done | with_reducible rfl)
                          case fqn617 => (go_frame; rfl)
                          refine wpIn_done hX9 (by kernel_rfl) ?_ _
                          go_wp2
                          go_meet
                          exact ⟨rfl, _, _, D, H, T, hSq9, HHS.out, by omega, by omega, by omega⟩
                        · intro K hK
                          go_simp
                          refine hK _ _ ?_
                          clear hK K
                          refine wpIn_do (i := 7) hXb (by kernel_rfl) rfl (by rfl) ?_
                          intro K hK
                          go_simp
                          go_wp2_with (go_at_call 19; refine (hSqb.verify d.srv tk hbyab (by omega) EH.out).mono ?_; rw [GV.out]; rintro e W4 ⟨rfl, hb4⟩)
                          have hSq4 := hSqb.below hb4
                          have hX4 := (hb4.block _ (obj_lt hXb)).trans hXb
                          have hbyB4 := hbyb.below hb4
                          refine wpIn_do (i := 15) hX4 (by kernel_rfl) rfl (by rfl) ?_
                          intro K hK
                          go_simp
                          go_wp2_with (go_at_call 20; refine (hSq4.rverify d.srv tk hbyB4 (by omega)).mono ?_; rw [RV.out]; rintro e W9 ⟨rfl, hb9⟩)
                          have hSq9 := hSq4.below hb9
                          have hX9 := (hb9.block _ (obj_lt hX4)).trans hX4
                          refine wpIn_take (i := 16) (d := (some 151)) (v := ?vqn716) (a' := ?aqn716) rfl rfl (by kernel_rfl) (by kernel_rfl) (by kernel_rfl) (fun _ _ _ h => h) (Or.inl ⟨by rfl, ?yqn716⟩) ?fqn716 ?_
                          case yqn716 => (intro wq hq; go_simp; first | done | with_reducible rfl)
                          case fqn716 => (go_frame; rfl)
                          refine wpIn_take (i := 17) (d := (some 14)) (v := ?vqn717) (a' := ?aqn717) rfl rfl (by kernel_rfl) (by kernel_rfl) (by kernel_rfl) (fun _ _ _ h => h) (Or.inl ⟨by rfl, ?yqn717⟩) ?fqn717 ?_
                          case yqn717 => (intro wq hq; go_simp; first | done | with_reducible rfl)
                          case fqn717 => (go_frame; rfl)
                          refine wpIn_done hX9 (by kernel_rfl) ?_ _
                          go_wp2
                          go_meet
                          exact ⟨rfl, _, _, D, H, T, hSq9, HHS.out, by omega, by omega, by omega⟩
                      · intro K hK
                        go_simp
                        refine hK _ _ ?_
                        clear hK K
                        obtain ⟨capb, Wb, hcvb, hbyb⟩ := byt_any d.txt Wa
                        have hrunb := hcvb.run
                        have hSqb := hSqa.below hcvb.below
                        have hXb := (hcvb.below.block _ (obj_lt hXa)).trans hXa
                        have hbyab := hbya.below hcvb.below
                        refine wpIn_do (i := 5) hXa (by kernel_rfl) rfl (by rfl) ?_
                        intro K hK
                        go_simp
                        refine hK _ _ ?_
                        clear hK K
                        refine wpIn_do (i := 7) hXb (by kernel_rfl) rfl (by rfl) ?_
                        intro K hK
                        go_simp
                        go_wp2_with (go_at_call 19; refine (hSqb.verify d.srv tk hbyb (by omega) EH.out).mono ?_; rw [GV.out]; rintro e W4 ⟨rfl, hb4⟩)
                        have hSq4 := hSqb.below hb4
                        have hX4 := (hb4.block _ (obj_lt hXb)).trans hXb
                        have hbyB4 := hbyab.below hb4
                        refine wpIn_do (i := 15) hX4 (by kernel_rfl) rfl (by rfl) ?_
                        intro K hK
                        go_simp
                        go_wp2_with (go_at_call 20; refine (hSq4.rverify d.srv tk hbyB4 (by omega)).mono ?_; rw [RV.out]; rintro e W9 ⟨rfl, hb9⟩)
                        have hSq9 := hSq4.below hb9
                        have hX9 := (hb9.block _ (obj_lt hX4)).trans hX4
                        refine wpIn_take (i := 16) (d := (some 151)) (v := ?vqn816) (a' := ?aqn816) rfl rfl (by kernel_rfl) (by kernel_rfl) (by kernel_rfl) (fun _ _ _ h => h) (Or.inl ⟨by rfl, ?yqn816⟩) ?fqn816 ?_
                        case yqn816 => (intro wq hq; go_simp; first | done | with_reducible rfl)
                        case fqn816 => (go_frame; rfl)
                        refine wpIn_take (i := 17) (d := (some 14)) (v := ?vqn817) (a' := ?aqn817) rfl rfl (by kernel_rfl) (by kernel_rfl) (by kernel_rfl) (fun _ _ _ h => h) (Or.inl ⟨by rfl, ?yqn817⟩) ?fqn817 ?_
                        case yqn817 => (intro wq hq; go_simp; first | done | with_reducible rfl)
                        case fqn817 => (go_frame; rfl)
                        refine wpIn_done hX9 (by kernel_rfl) ?_ _
                        go_wp2
                        go_meet
                        exact ⟨rfl, _, _, D, H, T, hSq9, HHS.out, by omega, by omega, by omega⟩
                    ·
                      have hal : Below wr.heap.size wr (wr.alloc (.cells #[.int .i64 kd, .string d.srv, .string d.txt, .string d.tok, .int .i64 d.n] 35)) := (Below.refl _ _).alloc (Nat.le_refl _) _
                      have hSqx := hSq.below hal
                      clear hal
                      go_wp2
                      go_meet
                      exact ⟨rfl, _, _, D, H, T, hSqx, HHS.out, by omega, by omega, by omega⟩
              case rest =>
                obtain ⟨rfl, v1, v2, D', H', T', hSq', hHS', hD', hH', hT'⟩ := hcut
                have HHS' : Hid (∀ x ∈ H', x.1 ∈ S) := hHS'
                clear hHS' hSq
                have hSqd := hSq'.below (Below.refl _ _).drew
                obtain ⟨⟨qd, cd, hvd⟩, hcd⟩ := hSqd.c1
                obtain ⟨⟨qh, ch, hvh⟩, hch⟩ := hSqd.c2
                subst hvd
                subst hvh
                have HTX : Hid (Calls Try.prog 21 #[.pointer (some ⟨tb, 0, none⟩)] wc.drew fun e w' => e = .returned (.int .i64 D'.length) ∧ wc.drew = w') := hSqd.texts
                have HTK : Hid (Calls Try.prog 22 #[.pointer (some ⟨tb, 0, none⟩)] wc.drew fun e w' => e = .returned (.int .i64 H'.length) ∧ wc.drew = w') := by
                  have := hSqd.tokens
                  rw [gm_length] at this
                  exact this
                have hCr : Same wc.drew wc.drew := rfl
                go_wp2
                refine wp_region_in (by kernel_rfl) (Same wc.drew) ?_
                change wpIn _ _ _ _ _ _ _ _ (World.drew _)
                refine wpIn_take (i := 0) (d := (some 152)) (v := ?vqs0) (a' := ?aqs0) rfl rfl (by kernel_rfl) (by kernel_rfl) (by kernel_rfl) (fun _ _ _ h => h) (Or.inl ⟨by rfl, ?yqs0⟩) ?fqs0 ?_
                case yqs0 => (intro wq hq; go_simp; first | done | with_reducible rfl)
                case fqs0 => (go_frame; rfl)
                refine wpIn_take (i := 1) (d := (some 153)) (v := ?vqs1) (a' := ?aqs1) rfl rfl (by kernel_rfl) (by kernel_rfl) (by kernel_rfl) (fun _ _ _ h => h) (Or.inl ⟨by rfl, ?yqs1⟩) ?fqs1 ?_
                case yqs1 => (intro wq hq; go_simp; first | done | with_reducible rfl)
                case fqs1 => (go_frame; rfl)
                refine wpIn_take (i := 2) (d := (some 154)) (v := ?vqs2) (a' := ?aqs2) rfl rfl (by kernel_rfl) (by kernel_rfl) (by kernel_rfl) (fun _ _ _ h => h) (Or.inl ⟨by rfl, ?yqs2⟩) ?fqs2 ?_
                case yqs2 => (intro wq hq; go_simp; first | done | with_reducible rfl)
                case fqs2 => (go_frame; rfl)
                refine wpIn_take (i := 3) (d := (some 155)) (v := ?vqs3) (a' := ?aqs3) rfl rfl (by kernel_rfl) (by kernel_rfl) (by kernel_rfl) (fun _ _ _ h => h) (Or.inl ⟨by rfl, ?yqs3⟩) ?fqs3 ?_
                case yqs3 => (intro wq hq; go_simp; first | done | with_reducible rfl)
                case fqs3 => (go_frame; rfl)
                refine wpIn_take (i := 5) (d := (some 157)) (v := ?vqs5) (a' := ?aqs5) rfl rfl (by kernel_rfl) (by kernel_rfl) (by kernel_rfl) (fun _ _ _ h => h) (Or.inl ⟨by rfl, ?yqs5⟩) ?fqs5 ?_
                case yqs5 => (intro wq hq; go_simp; first | done | with_reducible rfl)
                case fqs5 => (go_frame; rfl)
                refine wpIn_take (i := 6) (d := (some 158)) (v := ?vqs6) (a' := ?aqs6) rfl rfl (by kernel_rfl) (by kernel_rfl) (by kernel_rfl) (fun _ _ _ h => h) (Or.inl ⟨by rfl, ?yqs6⟩) ?fqs6 ?_
                case yqs6 => (intro wq hq; go_simp; first | done | with_reducible rfl)
                case fqs6 => (go_frame; rfl)
                refine wpIn_take (i := 7) (d := (some 159)) (v := ?vqs7) (a' := ?aqs7) rfl rfl (by kernel_rfl) (by kernel_rfl) (by kernel_rfl) (fun _ _ _ h => h) (Or.inl ⟨by rfl, ?yqs7⟩) ?fqs7 ?_
                case yqs7 => (intro wq hq; go_simp; first | done | with_reducible rfl)
                case fqs7 => (go_frame; rfl)
                refine wpIn_take (i := 8) (d := (some 160)) (v := ?vqs8) (a' := ?aqs8) rfl rfl (by kernel_rfl) (by kernel_rfl) (by kernel_rfl) (fun _ _ _ h => h) (Or.inl ⟨by rfl, ?yqs8⟩) ?fqs8 ?_
                case yqs8 => (intro wq hq; unfold Same at hq; subst hq; go_simp; first | done | with_reducible rfl)
                case fqs8 => (go_frame; rfl)
                refine wpIn_take (i := 9) (d := (some 161)) (v := ?vqs9) (a' := ?aqs9) rfl rfl (by kernel_rfl) (by kernel_rfl) (by kernel_rfl) (fun _ _ _ h => h) (Or.inl ⟨by rfl, ?yqs9⟩) ?fqs9 ?_
                case yqs9 => (intro wq hq; go_simp; first | done | with_reducible rfl)
                case fqs9 => (go_frame; rfl)
                refine wpIn_do (i := 4) hCr (by kernel_rfl) rfl (by rfl) ?_
                intro K hK
                go_simp
                go_wp2_with (go_at_call 21; refine HTX.out.mono ?_; rintro e w' ⟨rfl, rfl⟩)
                refine wpIn_take (i := 10) (d := (some 162)) (v := ?vqs10) (a' := ?aqs10) rfl rfl (by kernel_rfl) (by kernel_rfl) (by kernel_rfl) (fun _ _ _ h => h) (Or.inl ⟨by rfl, ?yqs10⟩) ?fqs10 ?_
                case yqs10 => (intro wq hq; go_simp; first | done | with_reducible rfl)
                case fqs10 => (go_frame; rfl)
                refine wpIn_take (i := 11) (d := (some 163)) (v := ?vqs11) (a' := ?aqs11) rfl rfl (by kernel_rfl) (by kernel_rfl) (by kernel_rfl) (fun _ _ _ h => h) (Or.inl ⟨by rfl, ?yqs11⟩) ?fqs11 ?_
                case yqs11 => (intro wq hq; go_simp; first | done | with_reducible rfl)
                case fqs11 => (go_frame; rfl)
                refine wpIn_take (i := 12) (d := (some 164)) (v := ?vqs12) (a' := ?aqs12) rfl rfl (by kernel_rfl) (by kernel_rfl) (by kernel_rfl) (fun _ _ _ h => h) (Or.inl ⟨by rfl, ?yqs12⟩) ?fqs12 ?_
                case yqs12 => (intro wq hq; go_simp; first | done | with_reducible rfl)
                case fqs12 => (go_frame; rfl)
                refine wpIn_take (i := 13) (d := (some 165)) (v := ?vqs13) (a' := ?aqs13) rfl rfl (by kernel_rfl) (by kernel_rfl) (by kernel_rfl) (fun _ _ _ h => h) (Or.inl ⟨by rfl, ?yqs13⟩) ?fqs13 ?_
                case yqs13 => (intro wq hq; go_simp; first | done | with_reducible rfl)
                case fqs13 => (go_frame; rfl)
                refine wpIn_take (i := 15) (d := (some 167)) (v := ?vqs15) (a' := ?aqs15) rfl rfl (by kernel_rfl) (by kernel_rfl) (by kernel_rfl) (fun _ _ _ h => h) (Or.inl ⟨by rfl, ?yqs15⟩) ?fqs15 ?_
                case yqs15 => (intro wq hq; go_simp; first | done | with_reducible rfl)
                case fqs15 => (go_frame; rfl)
                refine wpIn_take (i := 16) (d := (some 168)) (v := ?vqs16) (a' := ?aqs16) rfl rfl (by kernel_rfl) (by kernel_rfl) (by kernel_rfl) (fun _ _ _ h => h) (Or.inl ⟨by rfl, ?yqs16⟩) ?fqs16 ?_
                case yqs16 => (intro wq hq; go_simp; first | done | with_reducible rfl)
                case fqs16 => (go_frame; rfl)
                refine wpIn_take (i := 17) (d := (some 169)) (v := ?vqs17) (a' := ?aqs17) rfl rfl (by kernel_rfl) (by kernel_rfl) (by kernel_rfl) (fun _ _ _ h => h) (Or.inl ⟨by rfl, ?yqs17⟩) ?fqs17 ?_
                case yqs17 => (intro wq hq; go_simp; first | done | with_reducible rfl)
                case fqs17 => (go_frame; rfl)
                refine wpIn_take (i := 18) (d := (some 170)) (v := ?vqs18) (a' := ?aqs18) rfl rfl (by kernel_rfl) (by kernel_rfl) (by kernel_rfl) (fun _ _ _ h => h) (Or.inl ⟨by rfl, ?yqs18⟩) ?fqs18 ?_
                case yqs18 => (intro wq hq; unfold Same at hq; subst hq; go_simp; first | done | with_reducible rfl)
                case fqs18 => (go_frame; rfl)
                refine wpIn_take (i := 19) (d := (some 171)) (v := ?vqs19) (a' := ?aqs19) rfl rfl (by kernel_rfl) (by kernel_rfl) (by kernel_rfl) (fun _ _ _ h => h) (Or.inl ⟨by rfl, ?yqs19⟩) ?fqs19 ?_
                case yqs19 => (intro wq hq; go_simp; first | done | with_reducible rfl)
                case fqs19 => (go_frame; rfl)
                refine wpIn_do (i := 14) hCr (by kernel_rfl) rfl (by rfl) ?_
                intro K hK
                go_simp
                go_wp2_with (go_at_call 22; refine HTK.out.mono ?_; rintro e w' ⟨rfl, rfl⟩)
                refine wpIn_take (i := 20) (d := (some 172)) (v := ?vqs20) (a' := ?aqs20) rfl rfl (by kernel_rfl) (by kernel_rfl) (by kernel_rfl) (fun _ _ _ h => h) (Or.inl ⟨by rfl, ?yqs20⟩) ?fqs20 ?_
                case yqs20 => (intro wq hq; go_simp; first | done | with_reducible rfl)
                case fqs20 => (go_frame; rfl)
                refine wpIn_take (i := 21) (d := (some 173)) (v := ?vqs21) (a' := ?aqs21) rfl rfl (by kernel_rfl) (by kernel_rfl) (by kernel_rfl) (fun _ _ _ h => h) (Or.inl ⟨by rfl, ?yqs21⟩) ?fqs21 ?_
                case yqs21 => (intro wq hq; go_simp; first | done | with_reducible rfl)
                case fqs21 => (go_frame; rfl)
                refine wpIn_done hCr (by kernel_rfl) ?_ _
                go_wp2
                go_roundw
                case rel =>
                  have R : ∃ (k' : Nat) (v1 v2 : Value) (D : List ByteArray) (H : List (ByteArray × ByteArray)) (T : List ByteArray), k' ≤ l.length ∧ Value.int .i64 ((k : Int) + 1) = .int .i64 k' ∧ Sq w tb b1 b2 rb vv v0 v1 v2 u11 S D D (gm S H) H T wc.drew ∧ (∀ x ∈ H, x.1 ∈ S) ∧ D.length ≤ k' ∧ H.length ≤ k' ∧ T.length ≤ k' :=
                    ⟨k + 1, _, _, D', H', T', by omega, by go_num, hSqd, HHS'.out, hD', hH', hT'⟩
                  first | exact R | ((repeat apply Exists.intro); exact ⟨R, rfl⟩)
                case measure => simp [intOf]; omega
            · obtain rfl : k = l.length := by omega
              go_wp2_with (go_at_call 12; refine (awake_any _).mono ?_; rintro e w8 ⟨rfl, hb8⟩)
              go_ret
              exact ⟨rfl, hSq.low.trans (hb8.mono hSq.low.size)⟩
end Go.Proofs.Ytjgogmlmcebgpaa

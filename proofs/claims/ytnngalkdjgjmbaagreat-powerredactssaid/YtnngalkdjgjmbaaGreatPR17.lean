/-
  The document's own shape of an event, walked behind what its parts tell.
  A content one level deeper: by a contract.
  The document's own shape of an event is the event's shape: by a contract.
  What is left of an event, as the document answers: by a contract.
-/
import Derived.Test.YtnngalkdjgjmbaaGreatPR16
set_option maxRecDepth 100000
set_option maxHeartbeats 16000000
namespace Go.Proofs.YtnngalkdjgjmbaaGreat
open Go.RowKit
set_option linter.unusedSimpArgs false in
theorem rFits_walk (room typ sender : ByteArray) (st : Bool) (key : ByteArray) (k i : Int) (t : ByteArray) (nk nl np na : Nat) (depth ts : Int) (hash : ByteArray) (ns : Nat) (pk : Option Addr) (ck : Nat) (pl : Option Addr) (cl : Nat) (pp : Option Addr) (cp : Nat) (pa : Option Addr) (ca : Nat) (ps : Option Addr) (cs : Nat) (w B : World)
    (ra rb : ByteArray) (r ty us : Bool) (b : Int) (gd gdd pv au sg ev : Bool) (HHZ : Hid (hash.size ≤ 1000000000))
    (hB : B = w.alloc (.cells #[.string room, .string typ, .string sender, .bool st, .string key, .int .i64 k, .int .i64 i, .string t, .slice pk nk ck, .slice pl nl cl, .slice pp np cp, .slice pa na ca, .int .i64 depth, .int .i64 ts, .string hash, .slice ps ns cs] 29))
    (HC : Hid (∀ W, Below B.heap.size B W → ∀ j v, [.string room, .string typ, .string sender, .bool st, .string key, .int .i64 k, .int .i64 i, .string t, .slice pk nk ck, .slice pl nl cl, .slice pp np cp, .slice pa na ca, .int .i64 depth, .int .i64 ts, .string hash, .slice ps ns cs][j]? = some v → W.cell? ⟨w.heap.size, j, none⟩ = some v))
    (HBW : Hid (Below w.heap.size w B))
    (H0 : Hid (∀ W, Below B.heap.size B W → Calls Tryz.prog 11 #[.string room] W fun x w' => x = .returned (.tuple #[.string ra, .string rb, .bool r]) ∧ Below W.heap.size W w'))
    (H1 : Hid (∀ W, Below B.heap.size B W → Calls Tryz.prog 12 #[.string typ] W fun x w' => x = .returned (.bool ty) ∧ Below W.heap.size W w'))
    (H2 : Hid (∀ W, Below B.heap.size B W → Calls Tryz.prog 13 #[.string sender] W fun x w' => x = .returned (.bool us) ∧ Below W.heap.size W w'))
    (H3 : Hid (∀ W, Below B.heap.size B W → Calls Tryz.prog 14 #[.string key] W fun x w' => x = .returned (.int .i64 b) ∧ Below W.heap.size W w'))
    (H4 : Hid (∀ W, Below B.heap.size B W → Calls Tryz.prog 15 #[.agg #[.int .i64 k, .int .i64 i, .string t, .slice pk nk ck, .slice pl nl cl]] W fun x w' => x = .returned (.bool gd) ∧ Below W.heap.size W w'))
    (H5 : Hid (∀ W, Below B.heap.size B W → Calls Tryz.prog 16 #[.agg #[.int .i64 k, .int .i64 i, .string t, .slice pk nk ck, .slice pl nl cl]] W fun x w' => (∃ p1 p2, x = .returned (.agg #[.int .i64 5, .int .i64 0, .string ⟨#[]⟩, .slice p1 1 1, .slice p2 1 1]) ∧ Calls Tryz.prog 15 #[.agg #[.int .i64 5, .int .i64 0, .string ⟨#[]⟩, .slice p1 1 1, .slice p2 1 1]] w' fun y w2 => y = .returned (.bool gdd) ∧ Below w'.heap.size w' w2) ∧ Below W.heap.size W w'))
    (H6 : Hid (∀ W, Below B.heap.size B W → Calls Tryz.prog 17 #[.slice pp np cp, .int .i64 20] W fun x w' => x = .returned (.bool pv) ∧ Below W.heap.size W w'))
    (H7 : Hid (∀ W, Below B.heap.size B W → Calls Tryz.prog 17 #[.slice pa na ca, .int .i64 10] W fun x w' => x = .returned (.bool au) ∧ Below W.heap.size W w'))
    (H8 : Hid (∀ W, Below B.heap.size B W → Calls Tryz.prog 18 #[.slice ps ns cs] W fun x w' => x = .returned (.bool sg) ∧ Below W.heap.size W w'))
    (H9 : Hid (∀ W, Below B.heap.size B W → Calls Tryz.prog 19 #[.string (⟨#[36]⟩ ++ hash)] W fun x w' => x = .returned (.bool ev) ∧ Below W.heap.size W w')) :
    Calls Tryz.prog 5 #[.agg #[.string room, .string typ, .string sender, .bool st, .string key, .int .i64 k, .int .i64 i, .string t, .slice pk nk ck, .slice pl nl cl, .slice pp np cp, .slice pa na ca, .int .i64 depth, .int .i64 ts, .string hash, .slice ps ns cs]] w fun x w' => x = .returned (.bool ((r && ty && us) && (decide (key.size ≤ 128) && decide (b < 0) && (st || decide (key.size = 0))) && (decide (k = 5) && gd && gdd) && (pv && au && sg) && (decide (0 ≤ depth) && decide (depth ≤ 1099511627776) && decide (0 ≤ ts) && decide (ts ≤ 9007199254740991) && (decide (hash.size = 0) || ev)))) ∧ Below w.heap.size w w' := by
 obtain ⟨S, hS⟩ : ∃ S : Bool, ((r && ty && us) && (decide (key.size ≤ 128) && decide (b < 0) && (st || decide (key.size = 0))) && (decide (k = 5) && gd && gdd) && (pv && au && sg) && (decide (0 ≤ depth) && decide (depth ≤ 1099511627776) && decide (0 ≤ ts) && decide (ts ≤ 9007199254740991) && (decide (hash.size = 0) || ev))) = S := ⟨_, rfl⟩
 rw [hS]
 have HS : Hid (((r && ty && us) && (decide (key.size ≤ 128) && decide (b < 0) && (st || decide (key.size = 0))) && (decide (k = 5) && gd && gdd) && (pv && au && sg) && (decide (0 ≤ depth) && decide (depth ≤ 1099511627776) && decide (0 ≤ ts) && decide (ts ≤ 9007199254740991) && (decide (hash.size = 0) || ev))) = S) := hS
 clear hS
 go_enter Tryz.func5, Tryz.ntmps5
 go_upto_region 1 with fail
 rw [← hB]
 clear hB
 have c0 := HC.out B (Below.refl _ _) 0 _ rfl
 have h0 := H0.out B (Below.refl _ _)
 go_upto_region 2 with (go_at_call 11; refine h0.mono ?_; rintro x w1 ⟨rfl, b1⟩)
 clear c0 h0
 have c1 := HC.out w1 b1 1 _ rfl
 have h1 := H1.out w1 b1
 cases r with
 | false =>
  go_wp2
  go_ret
  exact ⟨ret_bool (by rw [← HS.out]; rfl), below_in HBW.out b1⟩
 | true =>
 cases ty with
 | false =>
  go_wp2_with (go_at_call 12; refine h1.mono ?_; rintro x w2 ⟨rfl, b2⟩)
  go_ret
  exact ⟨ret_bool (by rw [← HS.out]; rfl), below_in HBW.out (below_in b1 b2)⟩
 | true =>
 cases us with
 | false =>
  go_wp2_with (first
   | (go_at_call 12; refine h1.mono ?_; rintro x w2 ⟨rfl, b2⟩; have c2 := HC.out w2 (below_in b1 b2) 2 _ rfl; have h2 := H2.out w2 (below_in b1 b2))
   | (go_at_call 13; refine h2.mono ?_; rintro x w3 ⟨rfl, b3⟩))
  go_ret
  exact ⟨ret_bool (by rw [← HS.out]; rfl), below_in HBW.out (below_in b1 (below_in b2 b3))⟩
 | true =>
 go_upto_region 4 with (first
     | (go_at_call 12; refine h1.mono ?_; rintro x w2 ⟨rfl, b2⟩; have c2 := HC.out w2 (below_in b1 b2) 2 _ rfl; have h2 := H2.out w2 (below_in b1 b2))
     | (go_at_call 13; refine h2.mono ?_; rintro x w3 ⟨rfl, b3⟩))
 have g3 := below_in b1 (below_in b2 b3)
 clear c1 h1 c2 h2 b1 b2 b3 w1 w2
 have c3 := HC.out w3 g3 3 _ rfl
 have c4 := HC.out w3 g3 4 _ rfl
 have h3 := H3.out w3 g3
 by_cases d1 : key.size ≤ 128
 case neg =>
  have d1i : (128 : Int) < key.size := by omega
  have HD1 : Hid (decide (key.size ≤ 128) = false) := decide_eq_false d1
  go_wp2
  go_ret
  exact ⟨ret_bool (by rw [← HS.out]; simp only [HD1.out, Bool.and_true, Bool.true_and, Bool.and_false, Bool.false_and, Bool.or_true, Bool.true_or]), below_in HBW.out g3⟩
 have d1i : ¬ (128 : Int) < key.size := by omega
 have HD1 : Hid (decide (key.size ≤ 128) = true) := decide_eq_true d1
 clear d1
 by_cases d2 : b < 0
 case neg =>
  have d2i : 0 ≤ b := by omega
  have HD2 : Hid (decide (b < 0) = false) := decide_eq_false d2
  clear d2
  go_wp2_with (go_at_call 14; refine h3.mono ?_; rintro x w4 ⟨rfl, b4⟩; have c4' := HC.out w4 (below_in g3 b4) 4 _ rfl; have c3' := HC.out w4 (below_in g3 b4) 3 _ rfl)
  go_ret
  exact ⟨ret_bool (by rw [← HS.out]; simp only [HD2.out, Bool.and_true, Bool.true_and, Bool.and_false, Bool.false_and, Bool.or_true, Bool.true_or]), below_in HBW.out (below_in g3 b4)⟩
 have d2i : ¬ 0 ≤ b := by omega
 have HD2 : Hid (decide (b < 0) = true) := decide_eq_true d2
 clear d2
 by_cases d3 : st = false ∧ key.size ≠ 0
 · have d3k : key.toList.isEmpty = false := by rw [nilS]; exact decide_eq_false d3.2
   have HD3 : Hid (decide (key.size = 0) = false) := decide_eq_false d3.2
   obtain ⟨rfl, -⟩ := d3
   go_wp2_with (go_at_call 14; refine h3.mono ?_; rintro x w4 ⟨rfl, b4⟩; have c4' := HC.out w4 (below_in g3 b4) 4 _ rfl; have c3' := HC.out w4 (below_in g3 b4) 3 _ rfl)
   go_ret
   exact ⟨ret_bool (by rw [← HS.out]; simp only [HD3.out, Bool.or_false, Bool.and_true, Bool.true_and, Bool.and_false, Bool.false_and, Bool.or_true, Bool.true_or]), below_in HBW.out (below_in g3 b4)⟩
 have HD3 : Hid ((st || decide (key.size = 0)) = true) := by
  show _ = _
  cases st with
  | true => rfl
  | false => simpa using d3
 have hst : st = true ∨ (st = false ∧ key.toList.isEmpty = true) := by
  cases st with
  | true => exact .inl rfl
  | false => exact .inr ⟨rfl, by rw [nilS]; simpa using d3⟩
 clear d3
 rcases hst with rfl | ⟨rfl, hke⟩
 all_goals
  go_upto_region 6 with (go_at_call 14; refine h3.mono ?_; rintro x w4 ⟨rfl, b4⟩; have c4' := HC.out w4 (below_in g3 b4) 4 _ rfl; have c3' := HC.out w4 (below_in g3 b4) 3 _ rfl)
  have g4 := below_in g3 b4
  clear c3 c4 c3' c4' h3 b4 g3 w3 d1i d2i
  have c5 := HC.out w4 g4 5 _ rfl
  have c6 := HC.out w4 g4 6 _ rfl
  have c7 := HC.out w4 g4 7 _ rfl
  have c8 := HC.out w4 g4 8 _ rfl
  have c9 := HC.out w4 g4 9 _ rfl
  have h4 := H4.out w4 g4
  by_cases d4 : k = 5
  case neg =>
   have HD4 : Hid (decide (k = 5) = false) := decide_eq_false d4
   go_wp2
   go_ret
   exact ⟨ret_bool (by rw [← HS.out]; simp only [HD4.out, Bool.and_true, Bool.true_and, Bool.and_false, Bool.false_and, Bool.or_true, Bool.true_or]), below_in HBW.out g4⟩
  subst d4
  cases gd with
  | false =>
   go_wp2_with (go_at_call 15; refine h4.mono ?_; rintro x w5 ⟨rfl, b5⟩)
   go_ret
   exact ⟨ret_bool (by rw [← HS.out]; simp only [Bool.and_true, Bool.true_and, Bool.and_false, Bool.false_and, Bool.or_true, Bool.true_or]), below_in HBW.out (below_in g4 b5)⟩
  | true =>
  cases gdd with
  | false =>
   go_wp2_with (first
    | (go_at_call 15; refine h4.mono ?_; rintro x w5 ⟨rfl, b5⟩; have g5 := below_in g4 b5; have e5 := HC.out w5 g5 5 _ rfl; have e6 := HC.out w5 g5 6 _ rfl; have e7 := HC.out w5 g5 7 _ rfl; have e8 := HC.out w5 g5 8 _ rfl; have e9 := HC.out w5 g5 9 _ rfl; have h5 := H5.out w5 g5; clear h4 c5 c6 c7 c8 c9)
    | (go_at_call 16; refine h5.mono ?_; rintro x w6 ⟨⟨p1, p2, rfl, h6⟩, b6⟩; clear e5 e6 e7 e8 e9)
    | (go_at_call 15; refine h6.mono ?_; rintro x w7 ⟨rfl, b7⟩))
   go_ret
   exact ⟨ret_bool (by rw [← HS.out]; simp only [Bool.and_true, Bool.true_and, Bool.and_false, Bool.false_and, Bool.or_true, Bool.true_or]), below_in HBW.out (below_in g5 (below_in b6 b7))⟩
  | true =>
  go_upto_region 8 with (first
      | (go_at_call 15; refine h4.mono ?_; rintro x w5 ⟨rfl, b5⟩; have g5 := below_in g4 b5; have e5 := HC.out w5 g5 5 _ rfl; have e6 := HC.out w5 g5 6 _ rfl; have e7 := HC.out w5 g5 7 _ rfl; have e8 := HC.out w5 g5 8 _ rfl; have e9 := HC.out w5 g5 9 _ rfl; have h5 := H5.out w5 g5; clear h4 c5 c6 c7 c8 c9)
      | (go_at_call 16; refine h5.mono ?_; rintro x w6 ⟨⟨p1, p2, rfl, h6⟩, b6⟩; clear e5 e6 e7 e8 e9)
      | (go_at_call 15; refine h6.mono ?_; rintro x w7 ⟨rfl, b7⟩))
  have g7 := below_in g5 (below_in b6 b7)
  clear h5 h6 b5 b6 b7 g5 g4
  have c10 := HC.out w7 g7 10 _ rfl
  have h7 := H6.out w7 g7
  cases pv with
  | false =>
   go_wp2_with (go_at_call 17; refine h7.mono ?_; rintro x w8 ⟨rfl, b8⟩)
   go_ret
   exact ⟨ret_bool (by rw [← HS.out]; simp only [Bool.and_true, Bool.true_and, Bool.and_false, Bool.false_and, Bool.or_true, Bool.true_or]), below_in HBW.out (below_in g7 b8)⟩
  | true =>
  cases au with
  | false =>
   go_wp2_with (first
    | (go_at_call 17; refine h7.mono ?_; rintro x w8 ⟨rfl, b8⟩; have g8 := below_in g7 b8; have e11 := HC.out w8 g8 11 _ rfl; have h8 := H7.out w8 g8; clear h7)
    | (go_at_call 17; refine h8.mono ?_; rintro x w9 ⟨rfl, b9⟩))
   go_ret
   exact ⟨ret_bool (by rw [← HS.out]; simp only [Bool.and_true, Bool.true_and, Bool.and_false, Bool.false_and, Bool.or_true, Bool.true_or]), below_in HBW.out (below_in g8 b9)⟩
  | true =>
  cases sg with
  | false =>
   go_wp2_with (first
    | (go_at_call 17; refine h7.mono ?_; rintro x w8 ⟨rfl, b8⟩; have g8 := below_in g7 b8; have e11 := HC.out w8 g8 11 _ rfl; have h8 := H7.out w8 g8; clear h7)
    | (go_at_call 17; refine h8.mono ?_; rintro x w9 ⟨rfl, b9⟩; have g9 := below_in g8 b9; have e15 := HC.out w9 g9 15 _ rfl; have h9 := H8.out w9 g9; clear h8)
    | (go_at_call 18; refine h9.mono ?_; rintro x w10 ⟨rfl, b10⟩))
   go_ret
   exact ⟨ret_bool (by rw [← HS.out]; simp only [Bool.and_true, Bool.true_and, Bool.and_false, Bool.false_and, Bool.or_true, Bool.true_or]), below_in HBW.out (below_in g9 b10)⟩
  | true =>
  go_upto_region 10 with (first
      | (go_at_call 17; refine h7.mono ?_; rintro x w8 ⟨rfl, b8⟩; have g8 := below_in g7 b8; have e11 := HC.out w8 g8 11 _ rfl; have h8 := H7.out w8 g8; clear h7)
      | (go_at_call 17; refine h8.mono ?_; rintro x w9 ⟨rfl, b9⟩; have g9 := below_in g8 b9; have e15 := HC.out w9 g9 15 _ rfl; have h9 := H8.out w9 g9; clear h8)
      | (go_at_call 18; refine h9.mono ?_; rintro x w10 ⟨rfl, b10⟩))
  have g10 := below_in g9 b10
  clear h9 b8 b9 b10 g7 g8 g9 e11 e15 c10
  have c12 := HC.out w10 g10 12 _ rfl
  have c13 := HC.out w10 g10 13 _ rfl
  have c14 := HC.out w10 g10 14 _ rfl
  have h10 := H9.out w10 g10
  by_cases d5 : 0 ≤ depth
  case neg =>
   have HD5 : Hid (decide (0 ≤ depth) = false) := decide_eq_false d5
   go_wp2
   go_ret
   exact ⟨ret_bool (by rw [← HS.out]; simp only [HD5.out, Bool.and_true, Bool.true_and, Bool.and_false, Bool.false_and, Bool.or_true, Bool.true_or]), below_in HBW.out g10⟩
  have HD5 : Hid (decide (0 ≤ depth) = true) := decide_eq_true d5
  by_cases d6 : depth ≤ 1099511627776
  case neg =>
   have HD6 : Hid (decide (depth ≤ 1099511627776) = false) := decide_eq_false d6
   go_wp2
   go_ret
   exact ⟨ret_bool (by rw [← HS.out]; simp only [HD6.out, Bool.and_true, Bool.true_and, Bool.and_false, Bool.false_and, Bool.or_true, Bool.true_or]), below_in HBW.out g10⟩
  have HD6 : Hid (decide (depth ≤ 1099511627776) = true) := decide_eq_true d6
  by_cases d7 : 0 ≤ ts
  case neg =>
   have HD7 : Hid (decide (0 ≤ ts) = false) := decide_eq_false d7
   go_wp2
   go_ret
   exact ⟨ret_bool (by rw [← HS.out]; simp only [HD7.out, Bool.and_true, Bool.true_and, Bool.and_false, Bool.false_and, Bool.or_true, Bool.true_or]), below_in HBW.out g10⟩
  have HD7 : Hid (decide (0 ≤ ts) = true) := decide_eq_true d7
  by_cases d8 : ts ≤ 9007199254740991
  case neg =>
   have HD8 : Hid (decide (ts ≤ 9007199254740991) = false) := decide_eq_false d8
   go_wp2
   go_ret
   exact ⟨ret_bool (by rw [← HS.out]; simp only [HD8.out, Bool.and_true, Bool.true_and, Bool.and_false, Bool.false_and, Bool.or_true, Bool.true_or]), below_in HBW.out g10⟩
  have HD8 : Hid (decide (ts ≤ 9007199254740991) = true) := decide_eq_true d8
  by_cases d9 : hash.size = 0
  · have d9k : hash.toList.isEmpty = true := by rw [nilS]; exact decide_eq_true d9
    have HD9 : Hid (decide (hash.size = 0) = true) := decide_eq_true d9
    clear d9
    go_wp2
    go_ret
    exact ⟨ret_bool (by rw [← HS.out]; simp only [HD1.out, HD2.out, HD3.out, HD5.out, HD6.out, HD7.out, HD8.out, HD9.out, decide_true, Bool.and_true, Bool.true_and, Bool.and_false, Bool.false_and, Bool.or_true, Bool.true_or]), below_in HBW.out g10⟩
  · have d9k : hash.toList.isEmpty = false := by rw [nilS]; exact decide_eq_false d9
    have HD9 : Hid (decide (hash.size = 0) = false) := decide_eq_false d9
    have hhz := HHZ.out
    clear d9
    go_wp2_with (go_at_call 19; refine h10.mono ?_; rintro x w11 ⟨rfl, b11⟩)
    go_ret
    exact ⟨ret_bool (by rw [← HS.out]; simp only [HD1.out, HD2.out, HD3.out, HD5.out, HD6.out, HD7.out, HD8.out, HD9.out, decide_true, Bool.false_or, Bool.and_true, Bool.true_and, Bool.and_false, Bool.false_and, Bool.or_true, Bool.true_or]), below_in HBW.out (below_in g10 b11)⟩
end Go.Proofs.YtnngalkdjgjmbaaGreat
namespace Go.Proofs.YtnngalkdjgjmbaaGreat
open Go.RowKit Go.Maps
theorem rDeep_any {w : World} {O : Nat → Prop} {j : J} {k i : Int} {t : ByteArray} {pk pl : Option Addr} {nk ck nl cl : Nat} (hO : ∀ x, O x → x < w.heap.size)
    (hj : isJ O w j [.int .i64 k, .int .i64 i, .string t, .slice pk nk ck, .slice pl nl cl]) :
    Calls Tryz.prog 16 #[.agg #[.int .i64 k, .int .i64 i, .string t, .slice pk nk ck, .slice pl nl cl]] w fun x w' => (∃ p1 p2, x = .returned (.agg #[.int .i64 5, .int .i64 0, .string ⟨#[]⟩, .slice p1 1 1, .slice p2 1 1]) ∧ isJ (fun b => O b ∨ New w w' b) w' (.mk 5 0 nix [nContent] [j]) [.int .i64 5, .int .i64 0, .string ⟨#[]⟩, .slice p1 1 1, .slice p2 1 1]) ∧ Below w.heap.size w w' := by
 obtain ⟨WB, hWB⟩ : ∃ WB, WB = (w.alloc (.cells #[.int .i64 k, .int .i64 i, .string t, .slice pk nk ck, .slice pl nl cl] 25)).alloc (.cells #[.int .i64 0, .int .i64 0, .string ⟨#[]⟩, .slice none 0 0, .slice none 0 0] 25) := ⟨_, rfl⟩
 have hbw : Below w.heap.size w WB := by rw [hWB]; exact ((Below.refl _ _).alloc (Nat.le_refl _) _).alloc (by simp) _
 have hx0 : WB.heap[w.heap.size]? = some (.cells #[.int .i64 k, .int .i64 i, .string t, .slice pk nk ck, .slice pl nl cl] 25 (0, 0)) := by rw [hWB]; exact one_of _ _
 have hr0 : WB.heap[w.heap.size + 1]? = some (.cells #[.int .i64 0, .int .i64 0, .string ⟨#[]⟩, .slice none 0 0, .slice none 0 0] 25 (0, 0)) := by rw [hWB]; exact two_at _ _
 have hsB : WB.heap.size = w.heap.size + 2 := by rw [hWB]; simp
 go_enter Tryz.func16, Tryz.ntmps16
 go_upto_region 1 with fail
 rw [← hWB]
 clear hWB
 have q0 := five_c0 hx0; have q1 := five_c1 hx0; have q2 := five_c2 hx0; have q3 := five_c3 hx0; have q4 := five_c4 hx0
 have i0 := five_c0 hr0; have i1 := five_c1 hr0; have i2 := five_c2 hr0; have i3 := five_c3 hr0; have i4 := five_c4 hr0
 have z0 := five_fz hr0 0; have z1 := five_fz hr0 1; have z2 := five_fz hr0 2; have z3 := five_fz hr0 3; have z4 := five_fz hr0 4
 go_wp2
 have h5 := set5_heap hr0 (.int .i64 5) (.int .i64 0) (.string ⟨#[]⟩) (.slice (some ⟨w.heap.size + 2, 0, none⟩) 1 1) (.slice (some ⟨w.heap.size + 2 + 1, 0, none⟩) 1 1)
 have HK5 : Keep (One (w.heap.size + 1)) WB _ := set5_keep WB (w.heap.size + 1) (.int .i64 5) (.int .i64 0) (.string ⟨#[]⟩) (.slice (some ⟨w.heap.size + 2, 0, none⟩) 1 1) (.slice (some ⟨w.heap.size + 2 + 1, 0, none⟩) 1 1)
 obtain ⟨W5, hW5⟩ : ∃ W5, W5 = set5 WB (w.heap.size + 1) (.int .i64 5) (.int .i64 0) (.string ⟨#[]⟩) (.slice (some ⟨w.heap.size + 2, 0, none⟩) 1 1) (.slice (some ⟨w.heap.size + 2 + 1, 0, none⟩) 1 1) := ⟨_, rfl⟩
 have s5 : W5.heap.size = w.heap.size + 2 := by rw [hW5]; unfold set5; simp [hsB]
 rw [← hW5] at h5 HK5
 unfold set5 at hW5
 rw [← hW5]
 obtain ⟨WE, hWE⟩ : ∃ WE, WE = (W5.alloc (.cells #[.string ⟨#[99, 111, 110, 116, 101, 110, 116]⟩] 9)).alloc (.cells #[.int .i64 k, .int .i64 i, .string t, .slice pk nk ck, .slice pl nl cl] 25) := ⟨_, rfl⟩
 have hbE : Below W5.heap.size W5 WE := by rw [hWE]; exact ((Below.refl _ _).alloc (Nat.le_refl _) _).alloc (by simp) _
 have hc0 : WE.heap[w.heap.size + 2]? = some (.cells #[.string nContent] 9 (0, 0)) := by rw [hWE, ← s5]; exact one_of _ _
 have hc1 : WE.heap[w.heap.size + 2 + 1]? = some (.cells #[.int .i64 k, .int .i64 i, .string t, .slice pk nk ck, .slice pl nl cl] 25 (0, 0)) := by rw [hWE, ← s5]; exact two_at _ _
 have sE : WE.heap.size = w.heap.size + 4 := by rw [hWE]; simp; omega
 rw [← hWE]
 have hrE := (hbE.block (w.heap.size + 1) (by omega)).trans h5
 refine bodyPost_ret (results_cell rfl _ _ _ rfl (loadJ5 hrE)) rfl ?_
 have bE : Below w.heap.size w WE := (hbw.trans (HK5.below (by omega) fun q hq => by unfold One; omega)).trans (hbE.mono (by omega))
 refine ⟨⟨_, _, rfl, ?_⟩, bE⟩
 unfold isJ
 refine ⟨some ⟨w.heap.size + 2, 0, none⟩, 1, some ⟨w.heap.size + 2 + 1, 0, none⟩, 1, rfl, ⟨Nat.le_refl _, fun m hm => ?_⟩, Nat.le_refl _, ?_⟩
 · obtain rfl : m = 0 := by simpa using hm
   exact ⟨_, rfl, .inr ⟨by simp, by simp; omega⟩, cell_row (cur := [_]) hc0 0 _ rfl⟩
 · unfold isJs
   refine ⟨⟨_, 0, _, rfl, .inr ⟨by show _ ≤ w.heap.size + 2 + 1; omega, by rw [sE]; exact Nat.lt_succ_self _⟩, fun m v hm => ?_, hj.carry fun x hx => ⟨.inl hx, bE.block x (hO x hx)⟩⟩, by unfold isJs; trivial⟩
   rw [Nat.zero_mul, Nat.add_zero, Nat.zero_add]
   exact cell_row (cur := [_, _, _, _, _]) hc1 m v hm
end Go.Proofs.YtnngalkdjgjmbaaGreat
namespace Go.Proofs.YtnngalkdjgjmbaaGreat
open Go.RowKit
theorem sz_deep {d : Nat} {c : J} (h : szJ (d + 1) c = true) : szJ (d + 1) (.mk 5 0 nix [nContent] [c]) = true := by
 have := sz_less d (d + 1) c (by omega) h
 unfold szJ
 rw [show List.all [c] (szJ d) = true by rw [List.all_cons, this]; rfl]
 rfl
theorem filled_is (c : J) : (decide (c.kind = 5) && goodJ 12 c && goodJ 12 (.mk 5 0 nix [nContent] [c])) = filledE c := by
 have h1 : goodJ 12 (.mk 4 0 nix [] [c]) = goodJ 11 c := by
  rw [good_shape, show shapeB 4 0 nix [] [c].length = true from by rw [show [c].length = 1 from rfl]; decide +kernel]
  simp
 have h2 : goodJ 12 (.mk 5 0 nix [nContent] [c]) = goodJ 11 c := by
  rw [good_shape, show shapeB 5 0 nix [nContent] [c].length = true from by rw [show [c].length = 1 from rfl]; decide +kernel]
  simp
 unfold filledE
 rw [h1, h2]
 cases h : goodJ 11 c with
 | false => simp
 | true => rw [good_more h]; simp
theorem keyed_is (e : Ev) : (decide (e.key.size ≤ 128) && decide (badAt (stray (ints e.key)) < 0) && (e.st || decide (e.key.size = 0))) = keyedE e := by
 have hb : decide (badAt (stray (ints e.key)) < 0) = letters e.key := by
  cases h : letters e.key with
  | true => rw [letters_stray.1 h]; rfl
  | false =>
   obtain ⟨p, hp⟩ := letters_stray.2 h
   rw [hp]
   simp
 unfold keyedE
 rw [hb, valid_letters]
 cases e.st with
 | true => simp
 | false =>
  by_cases h0 : e.key.size = 0
  · have hn : e.key = ⟨#[]⟩ := by
      revert h0
      generalize e.key = y
      intro h0
      obtain ⟨d⟩ := y
      exact congrArg ByteArray.mk (Array.eq_empty_of_size_eq_zero h0)
    rw [hn]
    decide +kernel
  · rw [decide_eq_false h0]; simp
theorem rFits_any {O : Nat → Prop} (e : Ev) (p : Pt) (w : World) (hE : IsE O w e p) (hO : ∀ k, O k → k < w.heap.size) (hz : SzE e) (hr : e.room.size ≤ 1000000) (hu : e.sender.size ≤ 1000000) :
    Calls Tryz.prog 5 #[valE e p] w fun x w' => x = .returned (.bool (shapedE e)) ∧ Below w.heap.size w w' := by
 have hS : shapedE e = (((Id.parts 33 e.room).2.2 && Id.typ e.typ && (Id.parts 64 e.sender).2.2) && (decide (e.key.size ≤ 128) && decide (badAt (stray (ints e.key)) < 0) && (e.st || decide (e.key.size = 0))) && (decide (e.content.kind = 5) && goodJ 12 e.content && goodJ 12 (.mk 5 0 nix [nContent] [e.content])) && (namedE 20 e.prev && namedE 10 e.auth && signedE e.sigs) && (decide (0 ≤ e.depth) && decide (e.depth ≤ 1099511627776) && decide (0 ≤ e.ts) && decide (e.ts ≤ 9007199254740991) && (decide (e.hash.size = 0) || digestE e.hash))) := by
  rw [filled_is, keyed_is]
  unfold shapedE placedE withinE maxInt
  ac_rfl
 rw [hS]
 have hbA : Below w.heap.size w (w.alloc (.cells (cellsE e p).toArray 29)) := (Below.refl _ _).alloc (Nat.le_refl _) _
 obtain ⟨B, hB⟩ : ∃ B, B = w.alloc (.cells (cellsE e p).toArray 29) := ⟨_, rfl⟩
 rw [← hB] at hbA
 have hEA : ∀ W, Below B.heap.size B W → IsE O W e p := fun W hW => hE.below hO (below_in hbA hW)
 have hOA : ∀ W, Below B.heap.size B W → ∀ k, O k → k < W.heap.size := fun W hW k hk => Nat.lt_of_lt_of_le (hO k hk) (below_in hbA hW).size
 refine rFits_walk e.room e.typ e.sender e.st e.key e.content.kind e.content.int e.content.text e.content.keys.length e.content.list.length e.prev.length e.auth.length e.depth e.ts e.hash e.sigs.length p.pk p.ck p.pl p.cl p.pp p.cp p.pa p.ca p.ps p.cs w B
  (Id.parts 33 e.room).1 (Id.parts 33 e.room).2.1 _ _ _ _ _ _ _ _ _ _ hz.hash hB
  (fun W hW j v hj => cell_row ((hW.block _ (by rw [hB]; simp)).trans (by rw [hB]; exact heap_alloc_new _ _)) j v hj) hbA (fun W _ => Id.refRoom_any e.room W (by omega))
  (fun W _ => (Id.refType_any e.typ W (by have := hz.typ; omega)).mono fun x w2 h => ⟨h.1, h.2 ▸ Below.refl _ _⟩) (fun W _ => rIsUser_any e.sender W hu)
  (fun W _ => (bad_any runes e.key W hz.key).mono fun x w2 h => ⟨h.1, h.2 ▸ Below.refl _ _⟩)
  (fun W hW => rGood_any (hOA W hW) hz.cont (hEA W hW).cont) (fun W hW => (rDeep_any (hOA W hW) (hEA W hW).cont).mono fun x w2 h => ?_)
  (fun W hW => revents_any 20 (hEA W hW).prev (hOA W hW) hz.prev (by decide)) (fun W hW => revents_any 10 (hEA W hW).auth (hOA W hW) hz.auth (by decide))
  (fun W hW => rFitSigs_any (hEA W hW).sigs (hOA W hW) hz.sigs hz.sigss) (fun W _ => Id.refEvent_any _ W)
 obtain ⟨⟨p1, p2, rfl, hj⟩, hb⟩ := h
 exact ⟨⟨p1, p2, rfl, rGood_any (fun b hb' => hb'.elim (fun h => Nat.lt_of_lt_of_le (hOA W hW b h) hb.size) fun h => h.2) (sz_deep hz.cont) hj⟩, hb⟩
structure RedI (O : Nat → Prop) (c : J) (ks : List ByteArray) (W3 : World) (cb N0 k : Nat) (pk : Option Addr) (nk ck : Nat) (pl : Option Addr) (nl cl : Nat) (wr : World) : Prop where
 blk : wr.heap[cb]? = some (.cells #[.int .i64 5, .int .i64 0, .string ⟨#[]⟩, .slice pk nk ck, .slice pl nl cl] 25 (0, 0))
 isj : isJ (fun b => O b ∨ (N0 ≤ b ∧ b < wr.heap.size)) wr (keptT (ks.take k) c) [.int .i64 5, .int .i64 0, .string ⟨#[]⟩, .slice pk nk ck, .slice pl nl cl]
 pkn : pk = none → ck = 0
 pln : pl = none → cl = 0
 nkl : nk ≤ k
 nll : nl ≤ k
 keep : Keep (OneP cb) W3 wr
theorem kept_take {c : J} {ks : List ByteArray} {k : Nat} (hk : k < ks.length) : keptT (ks.take (k + 1)) c = match getT c (ks.getD k nix) with | none => keptT (ks.take k) c | some v => .mk 5 0 nix ((keptT (ks.take k) c).keys ++ [ks.getD k nix]) ((keptT (ks.take k) c).list ++ [v]) := by
 unfold keptT
 rw [List.take_succ_eq_append_getElem hk, List.filter_append, List.filterMap_append, List.getD_eq_getElem?_getD, List.getElem?_eq_getElem hk]
 dsimp only [Option.getD_some]
 cases hg : getT c ks[k] with
 | none => simp [hg]
 | some v => simp [hg, J.keys, J.list]
theorem there_of {w : World} {b t o n : Nat} {cs : List Value} (h : w.heap[b]? = some (.cells cs.toArray t (0, 0))) (hn : o + n ≤ cs.length) : w.there b o n := fun j hj => by
 refine ⟨?_, fzP h _⟩
 have hlt : o + j < cs.toArray.size := by simp; omega
 rw [cellP h (o + j) _ (Array.getElem?_eq_getElem hlt)]
 rfl
theorem one_five (k i : Int) (t : ByteArray) (p : Option Addr) (n c : Nat) (q : Option Addr) (m d : Nat) : (#[.int .i64 k, .int .i64 i, .string t, .slice p n c, .slice q m d] : Array Value).all (·.oneCell') = true := all_oneCell_toArray (cs := [.int .i64 k, .int .i64 i, .string t, .slice p n c, .slice q m d]) fun v hv => by
 simp only [List.mem_cons, List.not_mem_nil, or_false] at hv
 rcases hv with rfl | rfl | rfl | rfl | rfl <;> rfl
theorem set_five {w : World} {b t : Nat} {cs vs : List Value} (h : w.heap[b]? = some (.cells cs.toArray t (0, 0))) (hl : cs.length = vs.length) : (w.setCells b 0 vs).heap[b]? = some (.cells vs.toArray t (0, 0)) := by
 have := setCells_mid b t vs [] cs [] w (by simpa using h) hl
 simpa using this
theorem rRedact_any {O : Nat → Prop} {w : World} {e : Ev} {p : Pt} (h : IsE O w e p) (hO : ∀ b, O b → b < w.heap.size) (hz : SzE e) (hr : e.room.size ≤ 1000000) (hu : e.sender.size ≤ 1000000) (hs : shapedE e = true) :
    Calls Tryz.prog 8 #[valE e p] w fun x w' => (∃ q, x = .returned (valE (redT e) q) ∧ IsE (fun b => O b ∨ (w.heap.size ≤ b ∧ b < w'.heap.size)) w' (redT e) q) ∧ Below w.heap.size w w' := by
 obtain ⟨W0, hW0⟩ : ∃ W0, W0 = (w.alloc (.cells (cellsE e p).toArray 29)).alloc (.cells (cellsE Ev.zero Pt.zero).toArray 29) := ⟨_, rfl⟩
 have hb0 : Below w.heap.size w W0 := by rw [hW0]; exact ((Below.refl _ _).alloc (Nat.le_refl _) _).alloc (by simp) _
 have hs0 : W0.heap.size = w.heap.size + 2 := by rw [hW0]; simp
 have hX0 : W0.heap[w.heap.size]? = some (.cells (cellsE e p).toArray 29 (0, 0)) := by
  rw [hW0]
  exact (((Below.refl _ (w.alloc (.cells (cellsE e p).toArray 29))).alloc (Nat.le_refl _) _).block _ (by simp)).trans (newP _)
 have hXR : W0.heap[w.heap.size + 1]? = some (.cells (cellsE Ev.zero Pt.zero).toArray 29 (0, 0)) := by
  rw [hW0, show w.heap.size + 1 = (w.alloc (.cells (cellsE e p).toArray 29)).heap.size by simp]
  exact newP _
 have hV := isV_new h hO hb0 hX0
 have HV : Hid (∀ X, Below W0.heap.size W0 X → IsV X w.heap.size e p) := fun X hX => hV.below hX
 have HLD : Hid (∀ X, Below W0.heap.size W0 X → (Instr.loadAt 29 (.pointer (some ⟨w.heap.size, 0, none⟩))).run Tryz.prog X = .ok (.agg (cellsE e p).toArray) X) := fun X hX => run_loadAt_mid X w.heap.size 0 29 (cellsE e p) _ (HV.out X hX).rangeE Tryz.underlying29 rfl infoE
 have hFi := rFits_any e p W0 hV.ev (fun _ h => h) hz hr hu
 rw [hs] at hFi
 have HKY : Hid (∀ X, Calls Tryz.prog 28 #[.string e.typ] X fun x w' => (∃ q c, x = .returned (.slice q (keysT e.typ).length c) ∧ RdK (fun b => X.heap.size ≤ b ∧ b < w'.heap.size) w' q c (keysT e.typ)) ∧ Below X.heap.size X w') := fun X => rkeys6_any e.typ X
 have HSZ : Hid (szJ 12 e.content = true) := hz.cont
 have HCE : Hid (isJ O w e.content [.int .i64 e.content.kind, .int .i64 e.content.int, .string e.content.text, .slice p.pk e.content.keys.length p.ck, .slice p.pl e.content.list.length p.cl]) := h.cont
 have HPV : Hid (RdK O w p.pp p.cp e.prev) := h.prev
 have HAU : Hid (RdK O w p.pa p.ca e.auth) := h.auth
 have HSG : Hid (RdS O w p.ps p.cs e.sigs) := h.sigs
 have HRE : Hid (redT e = { e with content := ordR (keptT (keysT e.typ) e.content) }) := by show _ = _; unfold redT; rw [if_pos hs]
 have HKL : Hid ((keysT e.typ).length ≤ 9 ∧ ∀ k ∈ keysT e.typ, k.size ≤ 100) := keys_len e.typ
 have hB0 : Below W0.heap.size W0 W0 := Below.refl _ _
 clear h hz hV
 unfold valE at hFi ⊢
 generalize hks : keysT e.typ = ks at HKY HRE HKL
 clear hks
 go_enter Tryz.func8, Tryz.ntmps8
 go_upto_region 1 with fail
 change Code.wp _ _ _ _ ((w.alloc (.cells (cellsE e p).toArray 29)).alloc (.cells (cellsE Ev.zero Pt.zero).toArray 29))
 rw [← hW0]
 clear hW0
 go_upto_region 3 with (first
  | (refine wpList_load_midg (by kernel_rfl) 29 _ rfl w.heap.size 0 rfl (cellsE e p) (HLD.out _ hB0) ?_)
  | (go_at_call 5; refine hFi.mono ?_; rintro x w1 ⟨rfl, hb1⟩))
 have et := (HV.out _ hb1).typ
 go_upto_region 5 with (go_at_call 28; refine (HKY.out _).mono ?_; rintro x w2 ⟨⟨kq, kc, rfl, hkr⟩, hb2⟩)
 obtain ⟨W3, hW3⟩ : ∃ W3, W3 = w2.alloc (.cells #[.int .i64 5, .int .i64 0, .string ⟨#[]⟩, .slice none 0 0, .slice none 0 0] 25) := ⟨_, rfl⟩
 rw [← hW3]
 have hb3 : Below w2.heap.size w2 W3 := by rw [hW3]; exact (Below.refl _ _).alloc (Nat.le_refl _) _
 have hX3 : W3.heap[w2.heap.size]? = some (.cells #[.int .i64 5, .int .i64 0, .string ⟨#[]⟩, .slice none 0 0, .slice none 0 0] 25 (0, 0)) := by rw [hW3]; exact newP _
 have hs3 : W3.heap.size = w2.heap.size + 1 := by rw [hW3]; simp
 have hB2 := belowP hb1 hb2
 have hB3 := belowP hB2 hb3
 have hs2 : w.heap.size + 2 ≤ w2.heap.size := by rw [← hs0]; exact hB2.size
 obtain ⟨cb, hcb⟩ : ∃ cb, cb = w2.heap.size := ⟨_, rfl⟩
 rw [← hcb] at hX3 hs3 hs2
 have HKP : Hid (∀ X, Keep (OneP cb) W3 X → IsV X w.heap.size e p ∧ X.heap[w.heap.size + 1]? = some (.cells (cellsE Ev.zero Pt.zero).toArray 29 (0, 0)) ∧ RdK (· < cb) X kq kc ks ∧ Below w.heap.size w X) := fun X hX => by
  have hb3' := hB3
  have hV3 := HV.out W3 hB3
  have k1 : ∀ b, b < w.heap.size → X.heap[b]? = W3.heap[b]? := fun b hb => hX.block b (by omega) (fun h => by have : b = cb := h; omega)
  refine ⟨⟨(hX.block _ (by omega) (fun h => by have : w.heap.size = cb := h; omega)).trans hV3.blk, ?_⟩, ?_, ?_, ?_⟩
  · have hbX : Below w.heap.size w X := ⟨hX.os.trans (belowP hb0 hB3).os, hX.tape.trans (belowP hb0 hB3).tape, hX.output.trans (belowP hb0 hB3).output, Nat.le_trans (belowP hb0 hB3).size hX.size, fun b hb => (k1 b hb).trans ((belowP hb0 hB3).block b hb)⟩
    exact ⟨HCE.out.carry fun b hb => ⟨Nat.lt_of_lt_of_le (hO b hb) hbX.size, hbX.block b (hO b hb)⟩, HPV.out.carry fun b hb => ⟨Nat.lt_of_lt_of_le (hO b hb) hbX.size, hbX.block b (hO b hb)⟩, HAU.out.carry fun b hb => ⟨Nat.lt_of_lt_of_le (hO b hb) hbX.size, hbX.block b (hO b hb)⟩, HSG.out.carry fun b hb => ⟨Nat.lt_of_lt_of_le (hO b hb) hbX.size, hbX.block b (hO b hb)⟩⟩
  · exact (hX.block _ (by omega) (fun h => by have : w.heap.size + 1 = cb := h; omega)).trans ((hB3.block _ (objP_lt hXR)).trans hXR)
  · exact hkr.carry fun b hb => ⟨by have := hb.2; omega, (hX.block b (by have := hb.2; omega) (fun h => by have : b = cb := h; have := hb.2; omega)).trans (hb3.block b hb.2)⟩
  · exact ⟨hX.os.trans (belowP hb0 hB3).os, hX.tape.trans (belowP hb0 hB3).tape, hX.output.trans (belowP hb0 hB3).output, Nat.le_trans (belowP hb0 hB3).size hX.size, fun b hb => (k1 b hb).trans ((belowP hb0 hB3).block b hb)⟩
 rw [show (Value.pointer (some ⟨w2.heap.size, 0, none⟩)) = .pointer (some ⟨cb, 0, none⟩) by rw [hcb]]
 have hcap : ks.length ≤ kc := hkr.1
 have hk9 : ks.length ≤ 9 := HKL.out.1
 have HI0 : Hid (RedI O e.content ks W3 cb W3.heap.size 0 none 0 0 none 0 0 W3) := ⟨hX3, (show isJ _ _ (J.mk 5 0 nix [] []) _ from by unfold isJ; exact ⟨none, 0, none, 0, rfl, RdK.nil _ _, Nat.le_refl _, by unfold isJs; trivial⟩), fun _ => rfl, fun _ => rfl, Nat.le_refl _, Nat.le_refl _, Keep.refl _ _⟩
 clear hkr hb1 hb2 hb3 hB2 hX0 hXR hX3 hW3 hcb et HV HLD HKY
 go_wp2
 go_loopw [5] (fun i wr => ∃ k pk nk ck pl nl cl, k ≤ ks.length ∧ i = .int .i64 (k : Nat) ∧ Hid (RedI O e.content ks W3 cb W3.heap.size k pk nk ck pl nl cl wr)) (fun i _ => ks.length - (intOf i).toNat)
 case atStart => exact ⟨0, none, 0, 0, none, 0, 0, Nat.zero_le _, rfl, HI0⟩
 case round =>
  obtain ⟨k, pk, nk, ck, pl, nl, cl, hk, rfl, HRI⟩ := hrel
  by_cases hlt : k < ks.length
  · have hki : (k : Int) < (ks.length : Int) := by omega
    obtain ⟨hV, _, hkr, hbw⟩ := HKP.out wr HRI.out.keep
    obtain ⟨a, rfl, hab, hca⟩ := hkr.2 k hlt
    have HX : Hid (∀ X, Below wr.heap.size wr X → IsV X w.heap.size e p ∧ X.cell? (a.add k) = some (.string (ks.getD k nix)) ∧ X.cell? ⟨cb, 0, none⟩ = some (.int .i64 5)) := fun X hX => ⟨hV.below hX, (World.cell?_of_block (a := a.add k) (hX.block _ (by rw [show (a.add k).block = a.block by obtain ⟨ab, ao, asub⟩ := a; unfold Addr.add; split <;> rfl]; have := HRI.out.keep.size; omega))).trans hca, (World.cell?_of_block (a := ⟨cb, 0, none⟩) (hX.block _ (objP_lt HRI.out.blk))).trans (cellP HRI.out.blk 0 _ rfl)⟩
    have HNX := (show Hid _ from kept_take (c := e.content) hlt)
    have HG0 : Hid (∀ X, Below wr.heap.size wr X → Calls Tryz.prog 29 #[.agg #[.int .i64 e.content.kind, .int .i64 e.content.int, .string e.content.text, .slice p.pk e.content.keys.length p.ck, .slice p.pl e.content.list.length p.cl], .string (ks.getD k nix)] X fun x w' => UnderT O w' (getT e.content (ks.getD k nix)) x ∧ Below X.heap.size X w') := fun X hX => get_any (O := O) (HCE.out.carry fun b hb => ⟨hb, (hX.block b (Nat.lt_of_lt_of_le (hO b hb) hbw.size)).trans (hbw.block b (hO b hb))⟩) (fun b hb => Nat.lt_of_lt_of_le (hO b hb) (belowP hbw hX).size) (szP_keys HSZ.out) (ks.getD k nix)
    have HKS : Hid ((ks.getD k nix).size ≤ 100) := HKL.out.2 _ (by rw [List.getD_eq_getElem?_getD, List.getElem?_eq_getElem hlt]; exact List.getElem_mem hlt)
    generalize ks.getD k nix = key at HX HNX HG0 HKS
    generalize hgt : getT e.content key = gt at HG0 HNX
    clear hV hkr hca hgt
    cases gt with
    | none =>
     have HG : Hid (∀ X, Below wr.heap.size wr X → Calls Tryz.prog 29 #[.agg #[.int .i64 e.content.kind, .int .i64 e.content.int, .string e.content.text, .slice p.pk e.content.keys.length p.ck, .slice p.pl e.content.list.length p.cl], .string key] X fun x w' => x = .returned (.tuple #[.agg #[.int .i64 0, .int .i64 0, .string ⟨#[]⟩, .slice none 0 0, .slice none 0 0], .bool false]) ∧ Below X.heap.size X w') := HG0
     have HDONE : Hid (∀ X, Below wr.heap.size wr X → RedI O e.content ks W3 cb W3.heap.size (k + 1) pk nk ck pl nl cl X) := fun X hX => by
      have r := HRI.out
      refine ⟨(hX.block _ (objP_lt r.blk)).trans r.blk, ?_, r.pkn, r.pln, Nat.le_succ_of_le r.nkl, Nat.le_succ_of_le r.nll, r.keep.then (Keep.of_below hX)⟩
      rw [HNX.out]
      exact r.isj.carry fun b hb => by
       have hlt : b < wr.heap.size := hb.elim (fun h => Nat.lt_of_lt_of_le (hO b h) hbw.size) (fun h => h.2)
       exact ⟨hb.elim .inl (fun h => .inr ⟨h.1, Nat.lt_of_lt_of_le h.2 hX.size⟩), hX.block b hlt⟩
     clear HG0 HNX
     go_upto_region 8 with fail
     refine wp_region_in (by kernel_rfl) (fun w' => Below wr.heap.size wr w') ?_
     change wpIn _ _ _ _ _ _ _ _ (World.drew _)
     have hD : Below wr.heap.size wr wr.drew := (Below.refl _ _).drew
     refine wpIn_tk (i := 0) (d := some 23) rfl ?_
     refine wpIn_take (i := 1) (d := (some 24)) (v := (.agg #[.int .i64 e.content.kind, .int .i64 e.content.int, .string e.content.text, .slice p.pk e.content.keys.length p.ck, .slice p.pl e.content.list.length p.cl])) (a' := ?aqn1) rfl rfl (by kernel_rfl) (by kernel_rfl) (by kernel_rfl) (fun _ _ _ h => h) (Or.inl ⟨by rfl, ?yqn1⟩) ?fqn1 ?_
     case yqn1 => exact fun wq hq => exec_loadR rfl rfl ((HX.out wq hq).1.runJ)
     case fqn1 => (go_frame; rfl)
     refine wpIn_tk (i := 2) (d := some 25) rfl ?_
     refine wpIn_tk (i := 3) (d := some 26) rfl ?_
     refine wpIn_tk (i := 4) (d := some 27) rfl ?_
     refine wpIn_tp (i := 5) (d := some 28) rfl (by (intro wq hq; have zf := (HX.out wq hq).2.1; go_simp; first | done | with_reducible rfl)) ?_
     refine wpIn_pair (i := 6) (j := 10) hD (by kernel_rfl) rfl rfl (by rfl) (by rfl) ?_ ?_
     · intro K hK
       go_simp
       go_wp2_with (go_at_call 29; refine (HG.out _ hD).mono ?_; rintro x w5 ⟨rfl, hbw5⟩)
       have hD5 := belowP hD hbw5
       refine wpIn_tk (i := 7) (d := some 22) rfl ?_
       refine wpIn_tk (i := 8) (d := some 30) rfl ?_
       refine wpIn_tk (i := 9) (d := some 31) rfl ?_
       refine wpIn_do (i := 10) hD5 (by kernel_rfl) rfl (by rfl) ?_
       intro K hK
       go_simp
       go_wp2
       have hD6 : Below wr.heap.size wr _ := hD5.alloc hD5.size (.cells #[.int .i64 0, .int .i64 0, .string ⟨#[]⟩, .slice none 0 0, .slice none 0 0] 25)
       refine wpIn_do (i := 11) hD6 (by kernel_rfl) rfl (by rfl) ?_
       intro K hK
       go_simp
       go_wp2
       have hD7 : Below wr.heap.size wr _ := hD5.alloc hD5.size (.cells #[.int .i64 0, .int .i64 0, .string ⟨#[]⟩, .slice none 0 0, .slice none 0 0] 25)
       refine wpIn_tk (i := 12) (d := some 7) rfl ?_
       refine wpIn_done hD7 (by kernel_rfl) ?_ _
       go_wp2
       go_roundw
       case rel => exact ⟨k + 1, pk, nk, ck, pl, nl, cl, hlt, by go_num, HDONE.out _ hD7⟩
       case measure => simp [intOf]; omega
     · intro K hK
       go_simp
       go_wp2
       have hD4 : Below wr.heap.size wr _ := ((Below.refl _ wr).alloc (Nat.le_refl _) (.cells #[.int .i64 0, .int .i64 0, .string ⟨#[]⟩, .slice none 0 0, .slice none 0 0] 25)).drew
       have hX4 : (wr.alloc (.cells #[.int .i64 0, .int .i64 0, .string ⟨#[]⟩, .slice none 0 0, .slice none 0 0] 25)).drew.heap[wr.heap.size]? = some (.cells #[.int .i64 0, .int .i64 0, .string ⟨#[]⟩, .slice none 0 0, .slice none 0 0] 25 (0, 0)) := newP (w := wr) _
       generalize (wr.alloc (.cells #[.int .i64 0, .int .i64 0, .string ⟨#[]⟩, .slice none 0 0, .slice none 0 0] 25)).drew = w4 at hD4 hX4 ⊢
       refine wpIn_do (i := 6) hD4 (by kernel_rfl) rfl (by rfl) ?_
       intro K hK
       go_simp
       go_wp2_with (go_at_call 29; refine (HG.out _ hD4).mono ?_; rintro x w5 ⟨rfl, hbw5⟩)
       have hD5 := belowP hD4 hbw5
       have hX5 := (hbw5.block _ (objP_lt hX4)).trans hX4
       refine wpIn_tk (i := 7) (d := some 22) rfl ?_
       refine wpIn_tk (i := 8) (d := some 30) rfl ?_
       refine wpIn_tk (i := 9) (d := some 31) rfl ?_
       refine wpIn_do (i := 11) hD5 (by kernel_rfl) rfl (by rfl) ?_
       intro K hK
       refine wp_store_mid 25 _ _ rfl wr.heap.size 0 #[.int .i64 0, .int .i64 0, .string ⟨#[]⟩, .slice none 0 0, .slice none 0 0] rfl rfl (there_of hX5 (by show 0 + 5 ≤ 5; decide)) infoJ5 (one_five _ _ _ _ _ _ _ _ _) (hK _ _ ?_)
       have hX6 : (w5.setCells wr.heap.size 0 [.int .i64 0, .int .i64 0, .string ⟨#[]⟩, .slice none 0 0, .slice none 0 0]).heap[wr.heap.size]? = some (.cells #[.int .i64 0, .int .i64 0, .string ⟨#[]⟩, .slice none 0 0, .slice none 0 0] 25 (0, 0)) := set_five hX5 rfl
       have hk6 : Keep (OneP wr.heap.size) w5 (w5.setCells wr.heap.size 0 [.int .i64 0, .int .i64 0, .string ⟨#[]⟩, .slice none 0 0, .slice none 0 0]) := setCells_keep _ _ _ _
       have hD6 : Below wr.heap.size wr (w5.setCells wr.heap.size 0 [.int .i64 0, .int .i64 0, .string ⟨#[]⟩, .slice none 0 0, .slice none 0 0]) := hD5.trans (hk6.below hD5.size fun q hq h => by have : q = wr.heap.size := h; omega)
       change wpIn _ _ _ _ _ _ _ _ (w5.setCells wr.heap.size 0 [.int .i64 0, .int .i64 0, .string ⟨#[]⟩, .slice none 0 0, .slice none 0 0])
       generalize w5.setCells wr.heap.size 0 [.int .i64 0, .int .i64 0, .string ⟨#[]⟩, .slice none 0 0, .slice none 0 0] = w6 at hX6 hk6 hD6 ⊢
       refine wpIn_tk (i := 12) (d := some 7) rfl ?_
       refine wpIn_done hD6 (by kernel_rfl) ?_ _
       go_wp2
       go_roundw
       case rel => exact ⟨k + 1, pk, nk, ck, pl, nl, cl, hlt, by go_num, HDONE.out _ hD6⟩
       case measure => simp [intOf]; omega
    | some v =>
     have HG : Hid (∀ X, Below wr.heap.size wr X → Calls Tryz.prog 29 #[.agg #[.int .i64 e.content.kind, .int .i64 e.content.int, .string e.content.text, .slice p.pk e.content.keys.length p.ck, .slice p.pl e.content.list.length p.cl], .string key] X fun x w' => (∃ vk vi vt vpk vnk vck vpl vnl vcl, x = .returned (.tuple #[.agg #[.int .i64 vk, .int .i64 vi, .string vt, .slice vpk vnk vck, .slice vpl vnl vcl], .bool true]) ∧ isJ O w' v [.int .i64 vk, .int .i64 vi, .string vt, .slice vpk vnk vck, .slice vpl vnl vcl]) ∧ Below X.heap.size X w') := HG0
     clear HG0
     go_upto_region 8 with fail
     refine wp_region_in (by kernel_rfl) (fun w' => Below wr.heap.size wr w') ?_
     change wpIn _ _ _ _ _ _ _ _ (World.drew _)
     have hD : Below wr.heap.size wr wr.drew := (Below.refl _ _).drew
     refine wpIn_tk (i := 0) (d := some 23) rfl ?_
     refine wpIn_take (i := 1) (d := (some 24)) (v := (.agg #[.int .i64 e.content.kind, .int .i64 e.content.int, .string e.content.text, .slice p.pk e.content.keys.length p.ck, .slice p.pl e.content.list.length p.cl])) (a' := ?aqs1) rfl rfl (by kernel_rfl) (by kernel_rfl) (by kernel_rfl) (fun _ _ _ h => h) (Or.inl ⟨by rfl, ?yqs1⟩) ?fqs1 ?_
     case yqs1 => exact fun wq hq => exec_loadR rfl rfl ((HX.out wq hq).1.runJ)
     case fqs1 => (go_frame; rfl)
     refine wpIn_tk (i := 2) (d := some 25) rfl ?_
     refine wpIn_tk (i := 3) (d := some 26) rfl ?_
     refine wpIn_tk (i := 4) (d := some 27) rfl ?_
     refine wpIn_tp (i := 5) (d := some 28) rfl (by (intro wq hq; have zf := (HX.out wq hq).2.1; go_simp; first | done | with_reducible rfl)) ?_
     refine wpIn_pair (i := 6) (j := 10) hD (by kernel_rfl) rfl rfl (by rfl) (by rfl) ?_ ?_
     · intro K hK
       go_simp
       go_wp2_with (go_at_call 29; refine (HG.out _ hD).mono ?_; rintro x w5 ⟨⟨vk, vi, vt, vpk, vnk, vck, vpl, vnl, vcl, rfl, hjv⟩, hbw5⟩)
       have hD5 := belowP hD hbw5
       refine wpIn_tk (i := 7) (d := some 22) rfl ?_
       refine wpIn_tk (i := 8) (d := some 30) rfl ?_
       refine wpIn_tk (i := 9) (d := some 31) rfl ?_
       refine wpIn_do (i := 10) hD5 (by kernel_rfl) rfl (by rfl) ?_
       intro K hK
       go_simp
       go_wp2
       have hD6 : Below wr.heap.size wr _ := hD5.alloc hD5.size (.cells #[.int .i64 0, .int .i64 0, .string ⟨#[]⟩, .slice none 0 0, .slice none 0 0] 25)
       refine wpIn_do (i := 11) hD6 (by kernel_rfl) rfl (by rfl) ?_
       intro K hK
       go_simp
       go_wp2
       have hD7 : Below wr.heap.size wr _ := hD5.alloc hD5.size (.cells #[.int .i64 vk, .int .i64 vi, .string vt, .slice vpk vnk vck, .slice vpl vnl vcl] 25)
       refine wpIn_tk (i := 12) (d := some 7) rfl ?_
       refine wpIn_done hD7 (by kernel_rfl) ?_ _
       have HX6 : Hid ((w5.alloc (.cells #[.int .i64 vk, .int .i64 vi, .string vt, .slice vpk vnk vck, .slice vpl vnl vcl] 25)).heap[w5.heap.size]? = some (.cells #[.int .i64 vk, .int .i64 vi, .string vt, .slice vpk vnk vck, .slice vpl vnl vcl] 25 (0, 0))) := (newP _)
       have HJV : Hid (isJ O (w5.alloc (.cells #[.int .i64 vk, .int .i64 vi, .string vt, .slice vpk vnk vck, .slice vpl vnl vcl] 25)) v [.int .i64 vk, .int .i64 vi, .string vt, .slice vpk vnk vck, .slice vpl vnl vcl]) := hjv.carry fun b hb => ⟨hb, ((Below.refl _ w5).alloc (Nat.le_refl _) _).block b (Nat.lt_of_lt_of_le (hO b hb) (Nat.le_trans hbw.size hD5.size))⟩
       have HD6 : Hid (Below wr.heap.size wr (w5.alloc (.cells #[.int .i64 vk, .int .i64 vi, .string vt, .slice vpk vnk vck, .slice vpl vnl vcl] 25))) := hD7
       obtain ⟨b6, hb6⟩ : ∃ b6, b6 = w5.heap.size := ⟨_, rfl⟩
       have hb6l : wr.heap.size ≤ b6 := by rw [hb6]; exact hD5.size
       rw [← hb6] at HX6 ⊢
       generalize (w5.alloc (.cells #[.int .i64 vk, .int .i64 vi, .string vt, .slice vpk vnk vck, .slice vpl vnl vcl] 25)) = W6 at HX6 HJV HD6 ⊢
       have hc6 := HD6.out.size
       have hkb := HRI.out.blk
       have hq3 := HRI.out.keep.size
       have HK6 : Hid (∀ X, Keep (OneP cb) W6 X → X.rangeAt b6 0 [.int .i64 vk, .int .i64 vi, .string vt, .slice vpk vnk vck, .slice vpl vnl vcl] ∧ X.cell? (a.add k) = some (.string key)) := fun X hX => by
        have hca := (HX.out W6 HD6.out).2.1
        have ebl : (a.add k).block = a.block := by obtain ⟨ab, ao, asub⟩ := a; unfold Addr.add; split <;> rfl
        exact ⟨range_of ((hX.block _ (objP_lt HX6.out) (fun h => by have : b6 = cb := h; omega)).trans HX6.out), (hX.cell (p := a.add k) (by rw [ebl]; omega) (fun h => by have : (a.add k).block = cb := h; rw [ebl] at this; omega)).trans hca⟩
       have HK7 : Hid (∀ X, Below W6.heap.size W6 X → X.heap[cb]? = some (.cells #[.int .i64 5, .int .i64 0, .string ⟨#[]⟩, .slice pk nk ck, .slice pl nl cl] 25 (0, 0))) := fun X hX => ((belowP HD6.out hX).block _ (objP_lt hkb)).trans hkb
       have HPUT : Hid (∀ X, Below W6.heap.size W6 X → Calls Tryz.prog 30 #[.agg #[.int .i64 5, .int .i64 0, .string ⟨#[]⟩, .slice pk nk ck, .slice pl nl cl], .string key, .agg #[.int .i64 vk, .int .i64 vi, .string vt, .slice vpk vnk vck, .slice vpl vnl vcl]] X fun x w' => (∃ b1 c1 b2 c2, x = .returned (.agg #[.int .i64 5, .int .i64 0, .string ⟨#[]⟩, .slice (some ⟨b1, 0, none⟩) (nk + 1) c1, .slice (some ⟨b2, 0, none⟩) (nl + 1) c2]) ∧ isJ (fun b => (O b ∨ (W3.heap.size ≤ b ∧ b < W6.heap.size)) ∨ New X w' b) w' (.mk 5 0 nix ((keptT (ks.take k) e.content).keys ++ [key]) ((keptT (ks.take k) e.content).list ++ [v])) [.int .i64 5, .int .i64 0, .string ⟨#[]⟩, .slice (some ⟨b1, 0, none⟩) (nk + 1) c1, .slice (some ⟨b2, 0, none⟩) (nl + 1) c2]) ∧ Below X.heap.size X w') := fun X hX => by
        have r := HRI.out
        have h1 := r.nkl
        have h2 := r.nll
        have hbX := belowP HD6.out hX
        exact rPut_any (O := fun b => O b ∨ (W3.heap.size ≤ b ∧ b < W6.heap.size)) key (fun b hb => hb.elim (fun h => Nat.lt_of_lt_of_le (hO b h) (belowP hbw hbX).size) (fun h => Nat.lt_of_lt_of_le h.2 hX.size)) (r.isj.carry fun b hb => ⟨hb.elim .inl (fun h => .inr ⟨h.1, Nat.lt_of_lt_of_le h.2 hc6⟩), hbX.block b (hb.elim (fun h => Nat.lt_of_lt_of_le (hO b h) hbw.size) (fun h => h.2))⟩) (HJV.out.carry fun b hb => ⟨.inl hb, hX.block b (Nat.lt_of_lt_of_le (hO b hb) (Nat.le_trans hbw.size hc6))⟩) r.pkn r.pln (by omega) (by omega)
       clear hb6 hkb
       go_upto_region 10 with fail
       refine wp_region_in (by kernel_rfl) (fun w' => Keep (OneP cb) W6 w') ?_
       change wpIn _ _ _ _ _ _ _ _ (World.drew _)
       have hE : Below W6.heap.size W6 W6.drew := (Below.refl _ _).drew
       refine wpIn_tk (i := 1) (d := some 34) rfl ?_
       refine wpIn_tk (i := 2) (d := some 35) rfl ?_
       refine wpIn_tk (i := 3) (d := some 36) rfl ?_
       refine wpIn_tp (i := 4) (d := some 37) rfl (by (intro wq hq; have zf := (HK6.out wq hq).2; go_simp; first | done | with_reducible rfl)) ?_
       refine wpIn_take (i := 5) (d := (some 38)) (v := (.agg #[.int .i64 vk, .int .i64 vi, .string vt, .slice vpk vnk vck, .slice vpl vnl vcl])) (a' := ?aqscp5) rfl rfl (by kernel_rfl) (by kernel_rfl) (by kernel_rfl) (fun _ _ _ h => h) (Or.inl ⟨by rfl, ?yqscp5⟩) ?fqscp5 ?_
       case yqscp5 => exact fun wq hq => exec_loadR rfl rfl (run_loadAt_mid wq b6 0 25 [.int .i64 vk, .int .i64 vi, .string vt, .slice vpk vnk vck, .slice vpl vnl vcl] _ (HK6.out wq hq).1 Tryz.underlying25 rfl infoJ5)
       case fqscp5 => (go_frame; rfl)
       refine wpIn_do (i := 0) (Keep.of_below hE) (by kernel_rfl) rfl (by rfl) ?_
       intro K hK
       refine wp_load_mid 25 _ rfl cb 0 rfl [.int .i64 5, .int .i64 0, .string ⟨#[]⟩, .slice pk nk ck, .slice pl nl cl] _ (range_of (HK7.out _ hE)) Tryz.underlying25 rfl infoJ5 (hK _ _ ?_)
       refine wpIn_do (i := 6) (Keep.of_below hE) (by kernel_rfl) rfl (by rfl) ?_
       intro K hK
       go_simp
       go_wp2_with (go_at_call 30; refine (HPUT.out _ hE).mono ?_; rintro x w8 ⟨⟨b1, c1, b2, c2, rfl, hj8⟩, hbw8⟩)
       have hE8 := belowP hE hbw8
       have hX8 := HK7.out w8 hE8
       refine wpIn_do (i := 7) (Keep.of_below hE8) (by kernel_rfl) rfl (by rfl) ?_
       intro K hK
       refine wp_store_mid 25 _ _ rfl cb 0 #[.int .i64 5, .int .i64 0, .string ⟨#[]⟩, .slice (some ⟨b1, 0, none⟩) (nk + 1) c1, .slice (some ⟨b2, 0, none⟩) (nl + 1) c2] rfl rfl (there_of hX8 (by show 0 + 5 ≤ 5; decide)) infoJ5 (one_five _ _ _ _ _ _ _ _ _) (hK _ _ ?_)
       have hX9 : (w8.setCells cb 0 [.int .i64 5, .int .i64 0, .string ⟨#[]⟩, .slice (some ⟨b1, 0, none⟩) (nk + 1) c1, .slice (some ⟨b2, 0, none⟩) (nl + 1) c2]).heap[cb]? = some (.cells #[.int .i64 5, .int .i64 0, .string ⟨#[]⟩, .slice (some ⟨b1, 0, none⟩) (nk + 1) c1, .slice (some ⟨b2, 0, none⟩) (nl + 1) c2] 25 (0, 0)) := set_five hX8 rfl
       have hk9 : Keep (OneP cb) w8 (w8.setCells cb 0 [.int .i64 5, .int .i64 0, .string ⟨#[]⟩, .slice (some ⟨b1, 0, none⟩) (nk + 1) c1, .slice (some ⟨b2, 0, none⟩) (nl + 1) c2]) := setCells_keep _ _ _ _
       change wpIn _ _ _ _ _ _ _ _ (w8.setCells cb 0 [.int .i64 5, .int .i64 0, .string ⟨#[]⟩, .slice (some ⟨b1, 0, none⟩) (nk + 1) c1, .slice (some ⟨b2, 0, none⟩) (nl + 1) c2])
       generalize w8.setCells cb 0 [.int .i64 5, .int .i64 0, .string ⟨#[]⟩, .slice (some ⟨b1, 0, none⟩) (nk + 1) c1, .slice (some ⟨b2, 0, none⟩) (nl + 1) c2] = w9 at hX9 hk9 ⊢
       have HRI9 : Hid (RedI O e.content ks W3 cb W3.heap.size (k + 1) (some ⟨b1, 0, none⟩) (nk + 1) c1 (some ⟨b2, 0, none⟩) (nl + 1) c2 w9) := by
        have r := HRI.out
        have q1 := hbw.size
        have q2 := hE8.size
        have q3 := hk9.size
        have q4 := r.keep.size
        have q5 : (World.drew W6).heap.size = W6.heap.size := rfl
        refine ⟨hX9, ?_, (fun h => by cases h), (fun h => by cases h), Nat.succ_le_succ r.nkl, Nat.succ_le_succ r.nll, (r.keep.then (Keep.of_below (belowP HD6.out hE8))).then hk9⟩
        rw [HNX.out]
        exact hj8.carry fun b hb => by
         have hne : b ≠ cb := fun h => by
          rcases hb with (hb | hb) | hb
          · have := hO b hb; omega
          · have := hb.1; omega
          · have := hb.1; rw [q5] at this; omega
         have hlt8 : b < w8.heap.size := by
          rcases hb with (hb | hb) | hb
          · have := hO b hb; omega
          · have := hb.2; omega
          · exact hb.2
         refine ⟨?_, hk9.block b hlt8 hne⟩
         rcases hb with (hb | hb) | hb
         · exact .inl hb
         · exact .inr ⟨hb.1, by omega⟩
         · have := hb.1; rw [q5] at this; exact .inr ⟨by omega, by omega⟩
       refine wpIn_done ((Keep.of_below hE8).then hk9) (by kernel_rfl) ?_ _
       go_wp2
       go_roundw
       case rel => exact ⟨k + 1, some ⟨b1, 0, none⟩, nk + 1, c1, some ⟨b2, 0, none⟩, nl + 1, c2, hlt, by go_num, HRI9⟩
       case measure => simp [intOf]; omega
     · intro K hK
       go_simp
       go_wp2
       have hD4 : Below wr.heap.size wr _ := ((Below.refl _ wr).alloc (Nat.le_refl _) (.cells #[.int .i64 0, .int .i64 0, .string ⟨#[]⟩, .slice none 0 0, .slice none 0 0] 25)).drew
       have hX4 : (wr.alloc (.cells #[.int .i64 0, .int .i64 0, .string ⟨#[]⟩, .slice none 0 0, .slice none 0 0] 25)).drew.heap[wr.heap.size]? = some (.cells #[.int .i64 0, .int .i64 0, .string ⟨#[]⟩, .slice none 0 0, .slice none 0 0] 25 (0, 0)) := newP (w := wr) _
       generalize (wr.alloc (.cells #[.int .i64 0, .int .i64 0, .string ⟨#[]⟩, .slice none 0 0, .slice none 0 0] 25)).drew = w4 at hD4 hX4 ⊢
       refine wpIn_do (i := 6) hD4 (by kernel_rfl) rfl (by rfl) ?_
       intro K hK
       go_simp
       go_wp2_with (go_at_call 29; refine (HG.out _ hD4).mono ?_; rintro x w5 ⟨⟨vk, vi, vt, vpk, vnk, vck, vpl, vnl, vcl, rfl, hjv⟩, hbw5⟩)
       have hD5 := belowP hD4 hbw5
       have hX5 := (hbw5.block _ (objP_lt hX4)).trans hX4
       refine wpIn_tk (i := 7) (d := some 22) rfl ?_
       refine wpIn_tk (i := 8) (d := some 30) rfl ?_
       refine wpIn_tk (i := 9) (d := some 31) rfl ?_
       refine wpIn_do (i := 11) hD5 (by kernel_rfl) rfl (by rfl) ?_
       intro K hK
       refine wp_store_mid 25 _ _ rfl wr.heap.size 0 #[.int .i64 vk, .int .i64 vi, .string vt, .slice vpk vnk vck, .slice vpl vnl vcl] rfl rfl (there_of hX5 (by show 0 + 5 ≤ 5; decide)) infoJ5 (one_five _ _ _ _ _ _ _ _ _) (hK _ _ ?_)
       have hX6 : (w5.setCells wr.heap.size 0 [.int .i64 vk, .int .i64 vi, .string vt, .slice vpk vnk vck, .slice vpl vnl vcl]).heap[wr.heap.size]? = some (.cells #[.int .i64 vk, .int .i64 vi, .string vt, .slice vpk vnk vck, .slice vpl vnl vcl] 25 (0, 0)) := set_five hX5 rfl
       have hk6 : Keep (OneP wr.heap.size) w5 (w5.setCells wr.heap.size 0 [.int .i64 vk, .int .i64 vi, .string vt, .slice vpk vnk vck, .slice vpl vnl vcl]) := setCells_keep _ _ _ _
       have hD6 : Below wr.heap.size wr (w5.setCells wr.heap.size 0 [.int .i64 vk, .int .i64 vi, .string vt, .slice vpk vnk vck, .slice vpl vnl vcl]) := hD5.trans (hk6.below hD5.size fun q hq h => by have : q = wr.heap.size := h; omega)
       change wpIn _ _ _ _ _ _ _ _ (w5.setCells wr.heap.size 0 [.int .i64 vk, .int .i64 vi, .string vt, .slice vpk vnk vck, .slice vpl vnl vcl])
       generalize w5.setCells wr.heap.size 0 [.int .i64 vk, .int .i64 vi, .string vt, .slice vpk vnk vck, .slice vpl vnl vcl] = w6 at hX6 hk6 hD6 ⊢
       refine wpIn_tk (i := 12) (d := some 7) rfl ?_
       refine wpIn_done hD6 (by kernel_rfl) ?_ _
       have HX6 : Hid (w6.heap[wr.heap.size]? = some (.cells #[.int .i64 vk, .int .i64 vi, .string vt, .slice vpk vnk vck, .slice vpl vnl vcl] 25 (0, 0))) := hX6
       have HJV : Hid (isJ O w6 v [.int .i64 vk, .int .i64 vi, .string vt, .slice vpk vnk vck, .slice vpl vnl vcl]) := hjv.carry fun b hb => ⟨hb, hk6.block b (Nat.lt_of_lt_of_le (hO b hb) (Nat.le_trans hbw.size hD5.size)) (fun h => by have : b = wr.heap.size := h; have := hO b hb; have := hbw.size; omega)⟩
       have HD6 : Hid (Below wr.heap.size wr w6) := hD6
       obtain ⟨b6, hb6⟩ : ∃ b6, b6 = wr.heap.size := ⟨_, rfl⟩
       have hb6l : wr.heap.size ≤ b6 := by rw [hb6]; exact (Nat.le_refl _)
       rw [← hb6] at HX6 ⊢
       generalize w6 = W6 at HX6 HJV HD6 ⊢
       have hc6 := HD6.out.size
       have hkb := HRI.out.blk
       have hq3 := HRI.out.keep.size
       have HK6 : Hid (∀ X, Keep (OneP cb) W6 X → X.rangeAt b6 0 [.int .i64 vk, .int .i64 vi, .string vt, .slice vpk vnk vck, .slice vpl vnl vcl] ∧ X.cell? (a.add k) = some (.string key)) := fun X hX => by
        have hca := (HX.out W6 HD6.out).2.1
        have ebl : (a.add k).block = a.block := by obtain ⟨ab, ao, asub⟩ := a; unfold Addr.add; split <;> rfl
        exact ⟨range_of ((hX.block _ (objP_lt HX6.out) (fun h => by have : b6 = cb := h; omega)).trans HX6.out), (hX.cell (p := a.add k) (by rw [ebl]; omega) (fun h => by have : (a.add k).block = cb := h; rw [ebl] at this; omega)).trans hca⟩
       have HK7 : Hid (∀ X, Below W6.heap.size W6 X → X.heap[cb]? = some (.cells #[.int .i64 5, .int .i64 0, .string ⟨#[]⟩, .slice pk nk ck, .slice pl nl cl] 25 (0, 0))) := fun X hX => ((belowP HD6.out hX).block _ (objP_lt hkb)).trans hkb
       have HPUT : Hid (∀ X, Below W6.heap.size W6 X → Calls Tryz.prog 30 #[.agg #[.int .i64 5, .int .i64 0, .string ⟨#[]⟩, .slice pk nk ck, .slice pl nl cl], .string key, .agg #[.int .i64 vk, .int .i64 vi, .string vt, .slice vpk vnk vck, .slice vpl vnl vcl]] X fun x w' => (∃ b1 c1 b2 c2, x = .returned (.agg #[.int .i64 5, .int .i64 0, .string ⟨#[]⟩, .slice (some ⟨b1, 0, none⟩) (nk + 1) c1, .slice (some ⟨b2, 0, none⟩) (nl + 1) c2]) ∧ isJ (fun b => (O b ∨ (W3.heap.size ≤ b ∧ b < W6.heap.size)) ∨ New X w' b) w' (.mk 5 0 nix ((keptT (ks.take k) e.content).keys ++ [key]) ((keptT (ks.take k) e.content).list ++ [v])) [.int .i64 5, .int .i64 0, .string ⟨#[]⟩, .slice (some ⟨b1, 0, none⟩) (nk + 1) c1, .slice (some ⟨b2, 0, none⟩) (nl + 1) c2]) ∧ Below X.heap.size X w') := fun X hX => by
        have r := HRI.out
        have h1 := r.nkl
        have h2 := r.nll
        have hbX := belowP HD6.out hX
        exact rPut_any (O := fun b => O b ∨ (W3.heap.size ≤ b ∧ b < W6.heap.size)) key (fun b hb => hb.elim (fun h => Nat.lt_of_lt_of_le (hO b h) (belowP hbw hbX).size) (fun h => Nat.lt_of_lt_of_le h.2 hX.size)) (r.isj.carry fun b hb => ⟨hb.elim .inl (fun h => .inr ⟨h.1, Nat.lt_of_lt_of_le h.2 hc6⟩), hbX.block b (hb.elim (fun h => Nat.lt_of_lt_of_le (hO b h) hbw.size) (fun h => h.2))⟩) (HJV.out.carry fun b hb => ⟨.inl hb, hX.block b (Nat.lt_of_lt_of_le (hO b hb) (Nat.le_trans hbw.size hc6))⟩) r.pkn r.pln (by omega) (by omega)
       clear hb6 hkb
       go_upto_region 10 with fail
       refine wp_region_in (by kernel_rfl) (fun w' => Keep (OneP cb) W6 w') ?_
       change wpIn _ _ _ _ _ _ _ _ (World.drew _)
       have hE : Below W6.heap.size W6 W6.drew := (Below.refl _ _).drew
       refine wpIn_tk (i := 1) (d := some 34) rfl ?_
       refine wpIn_tk (i := 2) (d := some 35) rfl ?_
       refine wpIn_tk (i := 3) (d := some 36) rfl ?_
       refine wpIn_tp (i := 4) (d := some 37) rfl (by (intro wq hq; have zf := (HK6.out wq hq).2; go_simp; first | done | with_reducible rfl)) ?_
       refine wpIn_take (i := 5) (d := (some 38)) (v := (.agg #[.int .i64 vk, .int .i64 vi, .string vt, .slice vpk vnk vck, .slice vpl vnl vcl])) (a' := ?aqsap5) rfl rfl (by kernel_rfl) (by kernel_rfl) (by kernel_rfl) (fun _ _ _ h => h) (Or.inl ⟨by rfl, ?yqsap5⟩) ?fqsap5 ?_
       case yqsap5 => exact fun wq hq => exec_loadR rfl rfl (run_loadAt_mid wq b6 0 25 [.int .i64 vk, .int .i64 vi, .string vt, .slice vpk vnk vck, .slice vpl vnl vcl] _ (HK6.out wq hq).1 Tryz.underlying25 rfl infoJ5)
       case fqsap5 => (go_frame; rfl)
       refine wpIn_do (i := 0) (Keep.of_below hE) (by kernel_rfl) rfl (by rfl) ?_
       intro K hK
       refine wp_load_mid 25 _ rfl cb 0 rfl [.int .i64 5, .int .i64 0, .string ⟨#[]⟩, .slice pk nk ck, .slice pl nl cl] _ (range_of (HK7.out _ hE)) Tryz.underlying25 rfl infoJ5 (hK _ _ ?_)
       refine wpIn_do (i := 6) (Keep.of_below hE) (by kernel_rfl) rfl (by rfl) ?_
       intro K hK
       go_simp
       go_wp2_with (go_at_call 30; refine (HPUT.out _ hE).mono ?_; rintro x w8 ⟨⟨b1, c1, b2, c2, rfl, hj8⟩, hbw8⟩)
       have hE8 := belowP hE hbw8
       have hX8 := HK7.out w8 hE8
       refine wpIn_do (i := 7) (Keep.of_below hE8) (by kernel_rfl) rfl (by rfl) ?_
       intro K hK
       refine wp_store_mid 25 _ _ rfl cb 0 #[.int .i64 5, .int .i64 0, .string ⟨#[]⟩, .slice (some ⟨b1, 0, none⟩) (nk + 1) c1, .slice (some ⟨b2, 0, none⟩) (nl + 1) c2] rfl rfl (there_of hX8 (by show 0 + 5 ≤ 5; decide)) infoJ5 (one_five _ _ _ _ _ _ _ _ _) (hK _ _ ?_)
       have hX9 : (w8.setCells cb 0 [.int .i64 5, .int .i64 0, .string ⟨#[]⟩, .slice (some ⟨b1, 0, none⟩) (nk + 1) c1, .slice (some ⟨b2, 0, none⟩) (nl + 1) c2]).heap[cb]? = some (.cells #[.int .i64 5, .int .i64 0, .string ⟨#[]⟩, .slice (some ⟨b1, 0, none⟩) (nk + 1) c1, .slice (some ⟨b2, 0, none⟩) (nl + 1) c2] 25 (0, 0)) := set_five hX8 rfl
       have hk9 : Keep (OneP cb) w8 (w8.setCells cb 0 [.int .i64 5, .int .i64 0, .string ⟨#[]⟩, .slice (some ⟨b1, 0, none⟩) (nk + 1) c1, .slice (some ⟨b2, 0, none⟩) (nl + 1) c2]) := setCells_keep _ _ _ _
       change wpIn _ _ _ _ _ _ _ _ (w8.setCells cb 0 [.int .i64 5, .int .i64 0, .string ⟨#[]⟩, .slice (some ⟨b1, 0, none⟩) (nk + 1) c1, .slice (some ⟨b2, 0, none⟩) (nl + 1) c2])
       generalize w8.setCells cb 0 [.int .i64 5, .int .i64 0, .string ⟨#[]⟩, .slice (some ⟨b1, 0, none⟩) (nk + 1) c1, .slice (some ⟨b2, 0, none⟩) (nl + 1) c2] = w9 at hX9 hk9 ⊢
       have HRI9 : Hid (RedI O e.content ks W3 cb W3.heap.size (k + 1) (some ⟨b1, 0, none⟩) (nk + 1) c1 (some ⟨b2, 0, none⟩) (nl + 1) c2 w9) := by
        have r := HRI.out
        have q1 := hbw.size
        have q2 := hE8.size
        have q3 := hk9.size
        have q4 := r.keep.size
        have q5 : (World.drew W6).heap.size = W6.heap.size := rfl
        refine ⟨hX9, ?_, (fun h => by cases h), (fun h => by cases h), Nat.succ_le_succ r.nkl, Nat.succ_le_succ r.nll, (r.keep.then (Keep.of_below (belowP HD6.out hE8))).then hk9⟩
        rw [HNX.out]
        exact hj8.carry fun b hb => by
         have hne : b ≠ cb := fun h => by
          rcases hb with (hb | hb) | hb
          · have := hO b hb; omega
          · have := hb.1; omega
          · have := hb.1; rw [q5] at this; omega
         have hlt8 : b < w8.heap.size := by
          rcases hb with (hb | hb) | hb
          · have := hO b hb; omega
          · have := hb.2; omega
          · exact hb.2
         refine ⟨?_, hk9.block b hlt8 hne⟩
         rcases hb with (hb | hb) | hb
         · exact .inl hb
         · exact .inr ⟨hb.1, by omega⟩
         · have := hb.1; rw [q5] at this; exact .inr ⟨by omega, by omega⟩
       refine wpIn_done ((Keep.of_below hE8).then hk9) (by kernel_rfl) ?_ _
       go_wp2
       go_roundw
       case rel => exact ⟨k + 1, some ⟨b1, 0, none⟩, nk + 1, c1, some ⟨b2, 0, none⟩, nl + 1, c2, hlt, by go_num, HRI9⟩
       case measure => simp [intOf]; omega
  · obtain rfl : k = ks.length := by omega
    obtain ⟨hV, hXR, _, hbw⟩ := HKP.out wr HRI.out.keep
    have r := HRI.out
    have hisj := r.isj
    rw [List.take_length] at hisj
    have hszk : szJ 12 (keptT ks e.content) = true := red_szJ (d := 11) HSZ.out (by omega) (fun k hk => Nat.le_trans (HKL.out.2 k hk) (by decide))
    have hOr := rOrder_new (w := wr) (O := fun b => O b ∨ (W3.heap.size ≤ b ∧ b < wr.heap.size)) (fun x hx => hx.elim (fun h => Nat.lt_of_lt_of_le (hO x h) hbw.size) (fun h => h.2)) hszk hisj
    have HRG := (show Hid (wr.rangeAt cb 0 [.int .i64 5, .int .i64 0, .string ⟨#[]⟩, .slice pk nk ck, .slice pl nl cl]) from range_of r.blk)
    have hXE := hV.blk
    have hcs : W3.heap.size ≤ wr.heap.size := r.keep.size
    clear r hszk hisj
    obtain ⟨j, hj⟩ : ∃ j, ordR (keptT ks e.content) = j := ⟨_, rfl⟩
    rw [hj] at hOr HRE
    clear hj
    obtain ⟨jk, ji, jt, jks, jl⟩ := j
    go_upto_region 11 with fail
    go_upto_region 12 with (first
     | (refine wpList_load_mid rfl 25 _ rfl cb 0 rfl [.int .i64 5, .int .i64 0, .string ⟨#[]⟩, .slice pk nk ck, .slice pl nl cl] _ HRG.out Tryz.underlying25 rfl infoJ5 ?_)
     | (go_at_call 31; refine hOr.mono ?_; rintro x w7 ⟨⟨kr, ir, tr, pr, nr, cr, qr, mr, dr, rfl, hjr⟩, hb7⟩; have hX7 := (hb7.block _ (objP_lt hXE)).trans hXE)
     | (refine wpList_store_to rfl 25 _ _ rfl w.heap.size 5 #[.int .i64 kr, .int .i64 ir, .string tr, .slice pr nr cr, .slice qr mr dr] rfl rfl (there_of hX7 (by show 5 + 5 ≤ 16; decide)) infoJ5 (one_five _ _ _ _ _ _ _ _ _) _ rfl ?_))
    obtain ⟨rfl, rfl, rfl, rfl, rfl, hkk, hll, hjs⟩ := isJP_parts hjr
    obtain ⟨W8, hW8⟩ : ∃ W8, W8 = w7.setCells w.heap.size 5 [.int .i64 kr, .int .i64 ir, .string tr, .slice pr jks.length cr, .slice qr jl.length dr] := ⟨_, rfl⟩
    change Code.wp _ _ _ _ (w7.setCells w.heap.size 5 [.int .i64 kr, .int .i64 ir, .string tr, .slice pr jks.length cr, .slice qr jl.length dr])
    rw [← hW8]
    obtain ⟨e2, he2⟩ : ∃ e2 : Ev, e2 = { e with content := .mk kr ir tr jks jl } := ⟨_, rfl⟩
    obtain ⟨p2, hp2⟩ : ∃ p2 : Pt, p2 = { p with pk := pr, ck := cr, pl := qr, cl := dr } := ⟨_, rfl⟩
    have hX8 : W8.heap[w.heap.size]? = some (.cells (cellsE e2 p2).toArray 29 (0, 0)) := by
     rw [hW8, he2, hp2]
     exact setCells_mid w.heap.size 29 [.int .i64 kr, .int .i64 ir, .string tr, .slice pr jks.length cr, .slice qr jl.length dr] [.string e.room, .string e.typ, .string e.sender, .bool e.st, .string e.key] [.int .i64 e.content.kind, .int .i64 e.content.int, .string e.content.text, .slice p.pk e.content.keys.length p.ck, .slice p.pl e.content.list.length p.cl] [.slice p.pp e.prev.length p.cp, .slice p.pa e.auth.length p.ca, .int .i64 e.depth, .int .i64 e.ts, .string e.hash, .slice p.ps e.sigs.length p.cs] w7 hX7 rfl
    have hk8 : Keep (OneP w.heap.size) w7 W8 := by rw [hW8]; exact setCells_keep _ _ _ _
    have hXR8 : W8.heap[w.heap.size + 1]? = some (.cells (cellsE Ev.zero Pt.zero).toArray 29 (0, 0)) := (hk8.block _ (by have := hb7.size; omega) (fun h => by have : w.heap.size + 1 = w.heap.size := h; omega)).trans ((hb7.block _ (objP_lt hXR)).trans hXR)
    have hbw7 : Below w.heap.size w w7 := belowP hbw hb7
    have hbw8 : Below w.heap.size w W8 := ⟨hk8.os.trans hbw7.os, hk8.tape.trans hbw7.tape, hk8.output.trans hbw7.output, Nat.le_trans hbw7.size hk8.size, fun b hb => (hk8.block b (Nat.lt_of_lt_of_le hb hbw7.size) (fun h => by have : b = w.heap.size := h; omega)).trans (hbw7.block b hb)⟩
    have HEND : Hid (∀ X, Keep (OneP (w.heap.size + 1)) W8 X → IsE (fun b => O b ∨ (w.heap.size ≤ b ∧ b < X.heap.size)) X e2 p2 ∧ Below w.heap.size w X) := fun X hX => by
     have hsz8 := hk8.size
     have hszX := hX.size
     have hs7 := hb7.size
     have hbX : Below w.heap.size w X := ⟨hX.os.trans hbw8.os, hX.tape.trans hbw8.tape, hX.output.trans hbw8.output, Nat.le_trans hbw8.size hX.size, fun b hb => (hX.block b (Nat.lt_of_lt_of_le hb hbw8.size) (fun h => by have : b = w.heap.size + 1 := h; omega)).trans (hbw8.block b hb)⟩
     have hc : ∀ b, O b → (O b ∨ (w.heap.size ≤ b ∧ b < X.heap.size)) ∧ X.heap[b]? = w.heap[b]? := fun b hb => ⟨.inl hb, hbX.block b (hO b hb)⟩
     refine ⟨?_, hbX⟩
     rw [he2, hp2]
     refine ⟨?_, HPV.out.carry hc, HAU.out.carry hc, HSG.out.carry hc⟩
     exact hjr.carry fun b hb => by
      rcases hb with (hb | hb) | hb
      · exact ⟨.inl hb, ((hX.block b (Nat.lt_of_lt_of_le (hO b hb) hbw8.size) (fun h => by have : b = w.heap.size + 1 := h; have := hO b hb; omega)).trans (hk8.block b (Nat.lt_of_lt_of_le (hO b hb) hbw7.size) (fun h => by have : b = w.heap.size := h; have := hO b hb; omega)))⟩
      · exact ⟨.inr ⟨by omega, by omega⟩, ((hX.block b (by omega) (fun h => by have : b = w.heap.size + 1 := h; omega)).trans (hk8.block b (by omega) (fun h => by have : b = w.heap.size := h; omega)))⟩
      · exact ⟨.inr ⟨by omega, by omega⟩, ((hX.block b (by omega) (fun h => by have : b = w.heap.size + 1 := h; omega)).trans (hk8.block b (by omega) (fun h => by have : b = w.heap.size := h; omega)))⟩
    have HRD : Hid (redT e = e2) := by show _ = _; rw [HRE.out, he2]
    have HR8 := (show Hid (W8.rangeAt w.heap.size 0 (cellsE e2 p2)) from range_of hX8)
    clear hjr hkk hll hjs hX8 hX7 hXE hW8 he2 hp2 HRG hOr
    go_wp2_with (first
     | (refine wpList_load_mid rfl 29 _ rfl w.heap.size 0 rfl (cellsE e2 p2) _ HR8.out Tryz.underlying29 rfl infoE ?_)
     | (refine wpList_store_row rfl 29 _ _ rfl (w.heap.size + 1) 29 _ (cellsE e2 p2).toArray rfl rfl hXR8 infoE rfl (one_E _ _) ?_))
    refine bodyPost_ret (resultsP_cell rfl _ _ _ rfl (loadE_at (range_of (setRow_heap _ _ _ _ _ _ hXR8)))) rfl ?_
    obtain ⟨h1, h2⟩ := HEND.out _ (keep_setRow W8 (w.heap.size + 1) (cellsE e2 p2).toArray)
    rw [HRD.out]
    exact ⟨⟨p2, rfl, h1⟩, h2⟩
end Go.Proofs.YtnngalkdjgjmbaaGreat

/-
  Whether an event is well shaped but for its length: some of the ways.
  Whether an event is well shaped but for its length: some of the ways.
  Whether an event is well shaped but for its length: some of the ways.
  Whether an event is well shaped but for its length: some of the ways.
  Whether an event is well shaped but for its length: by a contract.
  What is decoded is of letters: the texts.
  Names are plain letters.
-/
import Derived.Test.YtldegjjaknelgaaGreatDoorAY23
set_option maxRecDepth 100000
set_option maxHeartbeats 16000000
namespace Go.Proofs.YtldegjjaknelgaaGreatDoor
open Go.RowKit
theorem shaped_p5 (room typ sender : ByteArray) (st : Bool) (key : ByteArray) (k i : Int) (t : ByteArray) (ks : List ByteArray) (l : List J) (prev auth : List ByteArray) (depth ts : Int) (hash : ByteArray) (sigs : List (ByteArray × ByteArray)) (pk : Option Addr) (ck : Nat) (pl : Option Addr) (cl : Nat) (pp : Option Addr) (cp : Nat) (pa : Option Addr) (ca : Nat) (ps : Option Addr) (cs : Nat) (w : World) (X : ShC room typ sender st key k i t ks l prev auth depth ts hash sigs pk ck pl cl pp cp pa ca ps cs w) (e0 : placedE ⟨room, typ, sender, st, key, ⟨k, i, t, ks, l⟩, prev, auth, depth, ts, hash, sigs⟩ = true) (e1 : keyedE ⟨room, typ, sender, st, key, ⟨k, i, t, ks, l⟩, prev, auth, depth, ts, hash, sigs⟩ = true) (e2 : filledE ⟨k, i, t, ks, l⟩ = true) (e3 : namedE 20 prev = true) (e4 : namedE 10 auth = true) (e5 : withinE depth 1099511627776 = false) :
    Calls Tryz.prog 77 #[.agg #[.string room, .string typ, .string sender, .bool st, .string key, .int .i64 k, .int .i64 i, .string t, .slice pk ks.length ck, .slice pl l.length cl, .slice pp prev.length cp, .slice pa auth.length ca, .int .i64 depth, .int .i64 ts, .string hash, .slice ps sigs.length cs]] w fun x w' => x = .returned (.bool (shapedE ⟨room, typ, sender, st, key, ⟨k, i, t, ks, l⟩, prev, auth, depth, ts, hash, sigs⟩)) ∧ Below w.heap.size w w' := by
 have HS : Hid (shapedE ⟨room, typ, sender, st, key, ⟨k, i, t, ks, l⟩, prev, auth, depth, ts, hash, sigs⟩ = false) := by
  show _ = _
  unfold shapedE
  simp only [e0, e1, e2, e3, e4, e5]
  simp
 have H0 := X.h0 _ (Below.refl _ _)
 rw [e0] at H0
 have H1 := X.h1
 rw [e1] at H1
 have H2 := X.h2
 rw [e2] at H2
 have H3 := X.h3
 rw [e3] at H3
 have H4 := X.h4
 rw [e4] at H4
 have H5 := X.h5
 rw [e5] at H5
 have HC := X.cells
 have HBA : Hid (Below w.heap.size w (w.alloc (.cells #[.string room, .string typ, .string sender, .bool st, .string key, .int .i64 k, .int .i64 i, .string t, .slice pk ks.length ck, .slice pl l.length cl, .slice pp prev.length cp, .slice pa auth.length ca, .int .i64 depth, .int .i64 ts, .string hash, .slice ps sigs.length cs] 28))) := X.below
 have G1 : Hid _ := H1
 have G2 : Hid _ := H2
 have G3 : Hid _ := H3
 have G4 : Hid _ := H4
 have G5 : Hid _ := H5
 have GC : Hid _ := HC
 clear X HC e0 e1 e2 e3 e4 e5 H1 H2 H3 H4 H5
 go_enter Tryz.func77, Tryz.ntmps77
 go_wp2_with (first
  | (go_at_call 107; refine k5.mono ?_; rintro x w5 ⟨rfl, hb5⟩
     have g5 := below_in g4 hb5)
  | (go_at_call 106; refine k4.mono ?_; rintro x w4 ⟨rfl, hb4⟩
     have g4 := below_in g3 hb4
     have k5 := G5.out w4 g4
     have c4_12 := GC.out w4 g4 12 _ rfl)
  | (go_at_call 106; refine k3.mono ?_; rintro x w3 ⟨rfl, hb3⟩
     have g3 := below_in g2 hb3
     have k4 := G4.out w3 g3
     have c3_11 := GC.out w3 g3 11 _ rfl)
  | (go_at_call 105; refine k2.mono ?_; rintro x w2 ⟨rfl, hb2⟩
     have g2 := below_in g1 hb2
     have k3 := G3.out w2 g2
     have c2_10 := GC.out w2 g2 10 _ rfl)
  | (go_at_call 104; refine k1.mono ?_; rintro x w1 ⟨rfl, hb1⟩
     have g1 := below_in g0 hb1
     have k2 := G2.out w1 g1
     have c1_5 := GC.out w1 g1 5 _ rfl
     have c1_6 := GC.out w1 g1 6 _ rfl
     have c1_7 := GC.out w1 g1 7 _ rfl
     have c1_8 := GC.out w1 g1 8 _ rfl
     have c1_9 := GC.out w1 g1 9 _ rfl)
  | (go_at_call 103; refine H0.mono ?_; rintro x w0 ⟨rfl, hb0⟩
     have g0 := hb0
     have k1 := G1.out w0 g0
     have c0_0 := GC.out w0 g0 0 _ rfl
     have c0_1 := GC.out w0 g0 1 _ rfl
     have c0_2 := GC.out w0 g0 2 _ rfl
     have c0_3 := GC.out w0 g0 3 _ rfl
     have c0_4 := GC.out w0 g0 4 _ rfl
     have c0_5 := GC.out w0 g0 5 _ rfl
     have c0_6 := GC.out w0 g0 6 _ rfl
     have c0_7 := GC.out w0 g0 7 _ rfl
     have c0_8 := GC.out w0 g0 8 _ rfl
     have c0_9 := GC.out w0 g0 9 _ rfl
     have c0_10 := GC.out w0 g0 10 _ rfl
     have c0_11 := GC.out w0 g0 11 _ rfl
     have c0_12 := GC.out w0 g0 12 _ rfl
     have c0_13 := GC.out w0 g0 13 _ rfl
     have c0_14 := GC.out w0 g0 14 _ rfl
     have c0_15 := GC.out w0 g0 15 _ rfl))
 go_ret
 exact ⟨ret_bool HS.out.symm, below_in HBA.out g5⟩
theorem shaped_p6 (room typ sender : ByteArray) (st : Bool) (key : ByteArray) (k i : Int) (t : ByteArray) (ks : List ByteArray) (l : List J) (prev auth : List ByteArray) (depth ts : Int) (hash : ByteArray) (sigs : List (ByteArray × ByteArray)) (pk : Option Addr) (ck : Nat) (pl : Option Addr) (cl : Nat) (pp : Option Addr) (cp : Nat) (pa : Option Addr) (ca : Nat) (ps : Option Addr) (cs : Nat) (w : World) (X : ShC room typ sender st key k i t ks l prev auth depth ts hash sigs pk ck pl cl pp cp pa ca ps cs w) (e0 : placedE ⟨room, typ, sender, st, key, ⟨k, i, t, ks, l⟩, prev, auth, depth, ts, hash, sigs⟩ = true) (e1 : keyedE ⟨room, typ, sender, st, key, ⟨k, i, t, ks, l⟩, prev, auth, depth, ts, hash, sigs⟩ = true) (e2 : filledE ⟨k, i, t, ks, l⟩ = true) (e3 : namedE 20 prev = true) (e4 : namedE 10 auth = true) (e5 : withinE depth 1099511627776 = true) (e6 : withinE ts maxInt = false) :
    Calls Tryz.prog 77 #[.agg #[.string room, .string typ, .string sender, .bool st, .string key, .int .i64 k, .int .i64 i, .string t, .slice pk ks.length ck, .slice pl l.length cl, .slice pp prev.length cp, .slice pa auth.length ca, .int .i64 depth, .int .i64 ts, .string hash, .slice ps sigs.length cs]] w fun x w' => x = .returned (.bool (shapedE ⟨room, typ, sender, st, key, ⟨k, i, t, ks, l⟩, prev, auth, depth, ts, hash, sigs⟩)) ∧ Below w.heap.size w w' := by
 have HS : Hid (shapedE ⟨room, typ, sender, st, key, ⟨k, i, t, ks, l⟩, prev, auth, depth, ts, hash, sigs⟩ = false) := by
  show _ = _
  unfold shapedE
  simp only [e0, e1, e2, e3, e4, e5, e6]
  simp
 have H0 := X.h0 _ (Below.refl _ _)
 rw [e0] at H0
 have H1 := X.h1
 rw [e1] at H1
 have H2 := X.h2
 rw [e2] at H2
 have H3 := X.h3
 rw [e3] at H3
 have H4 := X.h4
 rw [e4] at H4
 have H5 := X.h5
 rw [e5] at H5
 have H6 := X.h6
 rw [e6] at H6
 have HC := X.cells
 have HBA : Hid (Below w.heap.size w (w.alloc (.cells #[.string room, .string typ, .string sender, .bool st, .string key, .int .i64 k, .int .i64 i, .string t, .slice pk ks.length ck, .slice pl l.length cl, .slice pp prev.length cp, .slice pa auth.length ca, .int .i64 depth, .int .i64 ts, .string hash, .slice ps sigs.length cs] 28))) := X.below
 have G1 : Hid _ := H1
 have G2 : Hid _ := H2
 have G3 : Hid _ := H3
 have G4 : Hid _ := H4
 have G5 : Hid _ := H5
 have G6 : Hid _ := H6
 have GC : Hid _ := HC
 clear X HC e0 e1 e2 e3 e4 e5 e6 H1 H2 H3 H4 H5 H6
 go_enter Tryz.func77, Tryz.ntmps77
 go_wp2_with (first
  | (go_at_call 107; refine k6.mono ?_; rintro x w6 ⟨rfl, hb6⟩
     have g6 := below_in g5 hb6)
  | (go_at_call 107; refine k5.mono ?_; rintro x w5 ⟨rfl, hb5⟩
     have g5 := below_in g4 hb5
     have k6 := G6.out w5 g5
     have c5_13 := GC.out w5 g5 13 _ rfl)
  | (go_at_call 106; refine k4.mono ?_; rintro x w4 ⟨rfl, hb4⟩
     have g4 := below_in g3 hb4
     have k5 := G5.out w4 g4
     have c4_12 := GC.out w4 g4 12 _ rfl)
  | (go_at_call 106; refine k3.mono ?_; rintro x w3 ⟨rfl, hb3⟩
     have g3 := below_in g2 hb3
     have k4 := G4.out w3 g3
     have c3_11 := GC.out w3 g3 11 _ rfl)
  | (go_at_call 105; refine k2.mono ?_; rintro x w2 ⟨rfl, hb2⟩
     have g2 := below_in g1 hb2
     have k3 := G3.out w2 g2
     have c2_10 := GC.out w2 g2 10 _ rfl)
  | (go_at_call 104; refine k1.mono ?_; rintro x w1 ⟨rfl, hb1⟩
     have g1 := below_in g0 hb1
     have k2 := G2.out w1 g1
     have c1_5 := GC.out w1 g1 5 _ rfl
     have c1_6 := GC.out w1 g1 6 _ rfl
     have c1_7 := GC.out w1 g1 7 _ rfl
     have c1_8 := GC.out w1 g1 8 _ rfl
     have c1_9 := GC.out w1 g1 9 _ rfl)
  | (go_at_call 103; refine H0.mono ?_; rintro x w0 ⟨rfl, hb0⟩
     have g0 := hb0
     have k1 := G1.out w0 g0
     have c0_0 := GC.out w0 g0 0 _ rfl
     have c0_1 := GC.out w0 g0 1 _ rfl
     have c0_2 := GC.out w0 g0 2 _ rfl
     have c0_3 := GC.out w0 g0 3 _ rfl
     have c0_4 := GC.out w0 g0 4 _ rfl
     have c0_5 := GC.out w0 g0 5 _ rfl
     have c0_6 := GC.out w0 g0 6 _ rfl
     have c0_7 := GC.out w0 g0 7 _ rfl
     have c0_8 := GC.out w0 g0 8 _ rfl
     have c0_9 := GC.out w0 g0 9 _ rfl
     have c0_10 := GC.out w0 g0 10 _ rfl
     have c0_11 := GC.out w0 g0 11 _ rfl
     have c0_12 := GC.out w0 g0 12 _ rfl
     have c0_13 := GC.out w0 g0 13 _ rfl
     have c0_14 := GC.out w0 g0 14 _ rfl
     have c0_15 := GC.out w0 g0 15 _ rfl))
 go_ret
 exact ⟨ret_bool HS.out.symm, below_in HBA.out g6⟩
theorem shaped_p7 (room typ sender : ByteArray) (st : Bool) (key : ByteArray) (k i : Int) (t : ByteArray) (ks : List ByteArray) (l : List J) (prev auth : List ByteArray) (depth ts : Int) (sigs : List (ByteArray × ByteArray)) (pk : Option Addr) (ck : Nat) (pl : Option Addr) (cl : Nat) (pp : Option Addr) (cp : Nat) (pa : Option Addr) (ca : Nat) (ps : Option Addr) (cs : Nat) (w : World) (X : ShC room typ sender st key k i t ks l prev auth depth ts ⟨#[]⟩ sigs pk ck pl cl pp cp pa ca ps cs w) (e0 : placedE ⟨room, typ, sender, st, key, ⟨k, i, t, ks, l⟩, prev, auth, depth, ts, ⟨#[]⟩, sigs⟩ = true) (e1 : keyedE ⟨room, typ, sender, st, key, ⟨k, i, t, ks, l⟩, prev, auth, depth, ts, ⟨#[]⟩, sigs⟩ = true) (e2 : filledE ⟨k, i, t, ks, l⟩ = true) (e3 : namedE 20 prev = true) (e4 : namedE 10 auth = true) (e5 : withinE depth 1099511627776 = true) (e6 : withinE ts maxInt = true) (e8 : signedE sigs = false) :
    Calls Tryz.prog 77 #[.agg #[.string room, .string typ, .string sender, .bool st, .string key, .int .i64 k, .int .i64 i, .string t, .slice pk ks.length ck, .slice pl l.length cl, .slice pp prev.length cp, .slice pa auth.length ca, .int .i64 depth, .int .i64 ts, .string ⟨#[]⟩, .slice ps sigs.length cs]] w fun x w' => x = .returned (.bool (shapedE ⟨room, typ, sender, st, key, ⟨k, i, t, ks, l⟩, prev, auth, depth, ts, ⟨#[]⟩, sigs⟩)) ∧ Below w.heap.size w w' := by
 have HS : Hid (shapedE ⟨room, typ, sender, st, key, ⟨k, i, t, ks, l⟩, prev, auth, depth, ts, ⟨#[]⟩, sigs⟩ = false) := by
  show _ = _
  unfold shapedE
  simp only [e0, e1, e2, e3, e4, e5, e6, e8]
  simp
 have H0 := X.h0 _ (Below.refl _ _)
 rw [e0] at H0
 have H1 := X.h1
 rw [e1] at H1
 have H2 := X.h2
 rw [e2] at H2
 have H3 := X.h3
 rw [e3] at H3
 have H4 := X.h4
 rw [e4] at H4
 have H5 := X.h5
 rw [e5] at H5
 have H6 := X.h6
 rw [e6] at H6
 have H8 := X.h8
 rw [e8] at H8
 have HC := X.cells
 have HBA : Hid (Below w.heap.size w (w.alloc (.cells #[.string room, .string typ, .string sender, .bool st, .string key, .int .i64 k, .int .i64 i, .string t, .slice pk ks.length ck, .slice pl l.length cl, .slice pp prev.length cp, .slice pa auth.length ca, .int .i64 depth, .int .i64 ts, .string ⟨#[]⟩, .slice ps sigs.length cs] 28))) := X.below
 have G1 : Hid _ := H1
 have G2 : Hid _ := H2
 have G3 : Hid _ := H3
 have G4 : Hid _ := H4
 have G5 : Hid _ := H5
 have G6 : Hid _ := H6
 have G8 : Hid _ := H8
 have GC : Hid _ := HC
 clear X HC e0 e1 e2 e3 e4 e5 e6 e8 H1 H2 H3 H4 H5 H6 H8
 go_enter Tryz.func77, Tryz.ntmps77
 go_wp2_with (first
  | (go_at_call 109; refine k8.mono ?_; rintro x w8 ⟨rfl, hb8⟩
     have g8 := below_in g6 hb8)
  | (go_at_call 107; refine k6.mono ?_; rintro x w6 ⟨rfl, hb6⟩
     have g6 := below_in g5 hb6
     have k8 := G8.out w6 g6
     have c6_14 := GC.out w6 g6 14 _ rfl
     have c6_15 := GC.out w6 g6 15 _ rfl)
  | (go_at_call 107; refine k5.mono ?_; rintro x w5 ⟨rfl, hb5⟩
     have g5 := below_in g4 hb5
     have k6 := G6.out w5 g5
     have c5_13 := GC.out w5 g5 13 _ rfl)
  | (go_at_call 106; refine k4.mono ?_; rintro x w4 ⟨rfl, hb4⟩
     have g4 := below_in g3 hb4
     have k5 := G5.out w4 g4
     have c4_12 := GC.out w4 g4 12 _ rfl)
  | (go_at_call 106; refine k3.mono ?_; rintro x w3 ⟨rfl, hb3⟩
     have g3 := below_in g2 hb3
     have k4 := G4.out w3 g3
     have c3_11 := GC.out w3 g3 11 _ rfl)
  | (go_at_call 105; refine k2.mono ?_; rintro x w2 ⟨rfl, hb2⟩
     have g2 := below_in g1 hb2
     have k3 := G3.out w2 g2
     have c2_10 := GC.out w2 g2 10 _ rfl)
  | (go_at_call 104; refine k1.mono ?_; rintro x w1 ⟨rfl, hb1⟩
     have g1 := below_in g0 hb1
     have k2 := G2.out w1 g1
     have c1_5 := GC.out w1 g1 5 _ rfl
     have c1_6 := GC.out w1 g1 6 _ rfl
     have c1_7 := GC.out w1 g1 7 _ rfl
     have c1_8 := GC.out w1 g1 8 _ rfl
     have c1_9 := GC.out w1 g1 9 _ rfl)
  | (go_at_call 103; refine H0.mono ?_; rintro x w0 ⟨rfl, hb0⟩
     have g0 := hb0
     have k1 := G1.out w0 g0
     have c0_0 := GC.out w0 g0 0 _ rfl
     have c0_1 := GC.out w0 g0 1 _ rfl
     have c0_2 := GC.out w0 g0 2 _ rfl
     have c0_3 := GC.out w0 g0 3 _ rfl
     have c0_4 := GC.out w0 g0 4 _ rfl
     have c0_5 := GC.out w0 g0 5 _ rfl
     have c0_6 := GC.out w0 g0 6 _ rfl
     have c0_7 := GC.out w0 g0 7 _ rfl
     have c0_8 := GC.out w0 g0 8 _ rfl
     have c0_9 := GC.out w0 g0 9 _ rfl
     have c0_10 := GC.out w0 g0 10 _ rfl
     have c0_11 := GC.out w0 g0 11 _ rfl
     have c0_12 := GC.out w0 g0 12 _ rfl
     have c0_13 := GC.out w0 g0 13 _ rfl
     have c0_14 := GC.out w0 g0 14 _ rfl
     have c0_15 := GC.out w0 g0 15 _ rfl))
 go_ret
 exact ⟨ret_bool HS.out.symm, below_in HBA.out g8⟩
theorem shaped_p8 (room typ sender : ByteArray) (st : Bool) (key : ByteArray) (k i : Int) (t : ByteArray) (ks : List ByteArray) (l : List J) (prev auth : List ByteArray) (depth ts : Int) (sigs : List (ByteArray × ByteArray)) (pk : Option Addr) (ck : Nat) (pl : Option Addr) (cl : Nat) (pp : Option Addr) (cp : Nat) (pa : Option Addr) (ca : Nat) (ps : Option Addr) (cs : Nat) (w : World) (X : ShC room typ sender st key k i t ks l prev auth depth ts ⟨#[]⟩ sigs pk ck pl cl pp cp pa ca ps cs w) (e0 : placedE ⟨room, typ, sender, st, key, ⟨k, i, t, ks, l⟩, prev, auth, depth, ts, ⟨#[]⟩, sigs⟩ = true) (e1 : keyedE ⟨room, typ, sender, st, key, ⟨k, i, t, ks, l⟩, prev, auth, depth, ts, ⟨#[]⟩, sigs⟩ = true) (e2 : filledE ⟨k, i, t, ks, l⟩ = true) (e3 : namedE 20 prev = true) (e4 : namedE 10 auth = true) (e5 : withinE depth 1099511627776 = true) (e6 : withinE ts maxInt = true) (e8 : signedE sigs = true) :
    Calls Tryz.prog 77 #[.agg #[.string room, .string typ, .string sender, .bool st, .string key, .int .i64 k, .int .i64 i, .string t, .slice pk ks.length ck, .slice pl l.length cl, .slice pp prev.length cp, .slice pa auth.length ca, .int .i64 depth, .int .i64 ts, .string ⟨#[]⟩, .slice ps sigs.length cs]] w fun x w' => x = .returned (.bool (shapedE ⟨room, typ, sender, st, key, ⟨k, i, t, ks, l⟩, prev, auth, depth, ts, ⟨#[]⟩, sigs⟩)) ∧ Below w.heap.size w w' := by
 have HS : Hid (shapedE ⟨room, typ, sender, st, key, ⟨k, i, t, ks, l⟩, prev, auth, depth, ts, ⟨#[]⟩, sigs⟩ = true) := by
  show _ = _
  unfold shapedE
  simp only [e0, e1, e2, e3, e4, e5, e6, e8]
  simp
  exact Or.inl rfl
 have H0 := X.h0 _ (Below.refl _ _)
 rw [e0] at H0
 have H1 := X.h1
 rw [e1] at H1
 have H2 := X.h2
 rw [e2] at H2
 have H3 := X.h3
 rw [e3] at H3
 have H4 := X.h4
 rw [e4] at H4
 have H5 := X.h5
 rw [e5] at H5
 have H6 := X.h6
 rw [e6] at H6
 have H8 := X.h8
 rw [e8] at H8
 have HC := X.cells
 have HBA : Hid (Below w.heap.size w (w.alloc (.cells #[.string room, .string typ, .string sender, .bool st, .string key, .int .i64 k, .int .i64 i, .string t, .slice pk ks.length ck, .slice pl l.length cl, .slice pp prev.length cp, .slice pa auth.length ca, .int .i64 depth, .int .i64 ts, .string ⟨#[]⟩, .slice ps sigs.length cs] 28))) := X.below
 have G1 : Hid _ := H1
 have G2 : Hid _ := H2
 have G3 : Hid _ := H3
 have G4 : Hid _ := H4
 have G5 : Hid _ := H5
 have G6 : Hid _ := H6
 have G8 : Hid _ := H8
 have GC : Hid _ := HC
 clear X HC e0 e1 e2 e3 e4 e5 e6 e8 H1 H2 H3 H4 H5 H6 H8
 go_enter Tryz.func77, Tryz.ntmps77
 go_wp2_with (first
  | (go_at_call 109; refine k8.mono ?_; rintro x w8 ⟨rfl, hb8⟩
     have g8 := below_in g6 hb8)
  | (go_at_call 107; refine k6.mono ?_; rintro x w6 ⟨rfl, hb6⟩
     have g6 := below_in g5 hb6
     have k8 := G8.out w6 g6
     have c6_14 := GC.out w6 g6 14 _ rfl
     have c6_15 := GC.out w6 g6 15 _ rfl)
  | (go_at_call 107; refine k5.mono ?_; rintro x w5 ⟨rfl, hb5⟩
     have g5 := below_in g4 hb5
     have k6 := G6.out w5 g5
     have c5_13 := GC.out w5 g5 13 _ rfl)
  | (go_at_call 106; refine k4.mono ?_; rintro x w4 ⟨rfl, hb4⟩
     have g4 := below_in g3 hb4
     have k5 := G5.out w4 g4
     have c4_12 := GC.out w4 g4 12 _ rfl)
  | (go_at_call 106; refine k3.mono ?_; rintro x w3 ⟨rfl, hb3⟩
     have g3 := below_in g2 hb3
     have k4 := G4.out w3 g3
     have c3_11 := GC.out w3 g3 11 _ rfl)
  | (go_at_call 105; refine k2.mono ?_; rintro x w2 ⟨rfl, hb2⟩
     have g2 := below_in g1 hb2
     have k3 := G3.out w2 g2
     have c2_10 := GC.out w2 g2 10 _ rfl)
  | (go_at_call 104; refine k1.mono ?_; rintro x w1 ⟨rfl, hb1⟩
     have g1 := below_in g0 hb1
     have k2 := G2.out w1 g1
     have c1_5 := GC.out w1 g1 5 _ rfl
     have c1_6 := GC.out w1 g1 6 _ rfl
     have c1_7 := GC.out w1 g1 7 _ rfl
     have c1_8 := GC.out w1 g1 8 _ rfl
     have c1_9 := GC.out w1 g1 9 _ rfl)
  | (go_at_call 103; refine H0.mono ?_; rintro x w0 ⟨rfl, hb0⟩
     have g0 := hb0
     have k1 := G1.out w0 g0
     have c0_0 := GC.out w0 g0 0 _ rfl
     have c0_1 := GC.out w0 g0 1 _ rfl
     have c0_2 := GC.out w0 g0 2 _ rfl
     have c0_3 := GC.out w0 g0 3 _ rfl
     have c0_4 := GC.out w0 g0 4 _ rfl
     have c0_5 := GC.out w0 g0 5 _ rfl
     have c0_6 := GC.out w0 g0 6 _ rfl
     have c0_7 := GC.out w0 g0 7 _ rfl
     have c0_8 := GC.out w0 g0 8 _ rfl
     have c0_9 := GC.out w0 g0 9 _ rfl
     have c0_10 := GC.out w0 g0 10 _ rfl
     have c0_11 := GC.out w0 g0 11 _ rfl
     have c0_12 := GC.out w0 g0 12 _ rfl
     have c0_13 := GC.out w0 g0 13 _ rfl
     have c0_14 := GC.out w0 g0 14 _ rfl
     have c0_15 := GC.out w0 g0 15 _ rfl))
 go_ret
 exact ⟨ret_bool HS.out.symm, below_in HBA.out g8⟩
theorem shaped_p9 (room typ sender : ByteArray) (st : Bool) (key : ByteArray) (k i : Int) (t : ByteArray) (ks : List ByteArray) (l : List J) (prev auth : List ByteArray) (depth ts : Int) (hash : ByteArray) (sigs : List (ByteArray × ByteArray)) (pk : Option Addr) (ck : Nat) (pl : Option Addr) (cl : Nat) (pp : Option Addr) (cp : Nat) (pa : Option Addr) (ca : Nat) (ps : Option Addr) (cs : Nat) (w : World) (X : ShC room typ sender st key k i t ks l prev auth depth ts hash sigs pk ck pl cl pp cp pa ca ps cs w) (hh : hash.toList.isEmpty = false) (hz0 : hash.size ≠ 0) (e0 : placedE ⟨room, typ, sender, st, key, ⟨k, i, t, ks, l⟩, prev, auth, depth, ts, hash, sigs⟩ = true) (e1 : keyedE ⟨room, typ, sender, st, key, ⟨k, i, t, ks, l⟩, prev, auth, depth, ts, hash, sigs⟩ = true) (e2 : filledE ⟨k, i, t, ks, l⟩ = true) (e3 : namedE 20 prev = true) (e4 : namedE 10 auth = true) (e5 : withinE depth 1099511627776 = true) (e6 : withinE ts maxInt = true) (e7 : digestE hash = false) :
    Calls Tryz.prog 77 #[.agg #[.string room, .string typ, .string sender, .bool st, .string key, .int .i64 k, .int .i64 i, .string t, .slice pk ks.length ck, .slice pl l.length cl, .slice pp prev.length cp, .slice pa auth.length ca, .int .i64 depth, .int .i64 ts, .string hash, .slice ps sigs.length cs]] w fun x w' => x = .returned (.bool (shapedE ⟨room, typ, sender, st, key, ⟨k, i, t, ks, l⟩, prev, auth, depth, ts, hash, sigs⟩)) ∧ Below w.heap.size w w' := by
 have HS : Hid (shapedE ⟨room, typ, sender, st, key, ⟨k, i, t, ks, l⟩, prev, auth, depth, ts, hash, sigs⟩ = false) := by
  show _ = _
  unfold shapedE
  simp only [e0, e1, e2, e3, e4, e5, e6, e7]
  simp [hz0]
 have H0 := X.h0 _ (Below.refl _ _)
 rw [e0] at H0
 have H1 := X.h1
 rw [e1] at H1
 have H2 := X.h2
 rw [e2] at H2
 have H3 := X.h3
 rw [e3] at H3
 have H4 := X.h4
 rw [e4] at H4
 have H5 := X.h5
 rw [e5] at H5
 have H6 := X.h6
 rw [e6] at H6
 have H7 := X.h7
 rw [e7] at H7
 have HC := X.cells
 have HBA : Hid (Below w.heap.size w (w.alloc (.cells #[.string room, .string typ, .string sender, .bool st, .string key, .int .i64 k, .int .i64 i, .string t, .slice pk ks.length ck, .slice pl l.length cl, .slice pp prev.length cp, .slice pa auth.length ca, .int .i64 depth, .int .i64 ts, .string hash, .slice ps sigs.length cs] 28))) := X.below
 have G1 : Hid _ := H1
 have G2 : Hid _ := H2
 have G3 : Hid _ := H3
 have G4 : Hid _ := H4
 have G5 : Hid _ := H5
 have G6 : Hid _ := H6
 have G7 : Hid _ := H7
 have GC : Hid _ := HC
 clear X HC e0 e1 e2 e3 e4 e5 e6 e7 H1 H2 H3 H4 H5 H6 H7
 clear hz0
 go_enter Tryz.func77, Tryz.ntmps77
 go_wp2_with (first
  | (go_at_call 108; refine k7.mono ?_; rintro x w7 ⟨rfl, hb7⟩
     have g7 := below_in g6 hb7
     have c7_15 := GC.out w7 g7 15 _ rfl)
  | (go_at_call 107; refine k6.mono ?_; rintro x w6 ⟨rfl, hb6⟩
     have g6 := below_in g5 hb6
     have k7 := G7.out w6 g6
     have c6_14 := GC.out w6 g6 14 _ rfl
     have c6_15 := GC.out w6 g6 15 _ rfl)
  | (go_at_call 107; refine k5.mono ?_; rintro x w5 ⟨rfl, hb5⟩
     have g5 := below_in g4 hb5
     have k6 := G6.out w5 g5
     have c5_13 := GC.out w5 g5 13 _ rfl)
  | (go_at_call 106; refine k4.mono ?_; rintro x w4 ⟨rfl, hb4⟩
     have g4 := below_in g3 hb4
     have k5 := G5.out w4 g4
     have c4_12 := GC.out w4 g4 12 _ rfl)
  | (go_at_call 106; refine k3.mono ?_; rintro x w3 ⟨rfl, hb3⟩
     have g3 := below_in g2 hb3
     have k4 := G4.out w3 g3
     have c3_11 := GC.out w3 g3 11 _ rfl)
  | (go_at_call 105; refine k2.mono ?_; rintro x w2 ⟨rfl, hb2⟩
     have g2 := below_in g1 hb2
     have k3 := G3.out w2 g2
     have c2_10 := GC.out w2 g2 10 _ rfl)
  | (go_at_call 104; refine k1.mono ?_; rintro x w1 ⟨rfl, hb1⟩
     have g1 := below_in g0 hb1
     have k2 := G2.out w1 g1
     have c1_5 := GC.out w1 g1 5 _ rfl
     have c1_6 := GC.out w1 g1 6 _ rfl
     have c1_7 := GC.out w1 g1 7 _ rfl
     have c1_8 := GC.out w1 g1 8 _ rfl
     have c1_9 := GC.out w1 g1 9 _ rfl)
  | (go_at_call 103; refine H0.mono ?_; rintro x w0 ⟨rfl, hb0⟩
     have g0 := hb0
     have k1 := G1.out w0 g0
     have c0_0 := GC.out w0 g0 0 _ rfl
     have c0_1 := GC.out w0 g0 1 _ rfl
     have c0_2 := GC.out w0 g0 2 _ rfl
     have c0_3 := GC.out w0 g0 3 _ rfl
     have c0_4 := GC.out w0 g0 4 _ rfl
     have c0_5 := GC.out w0 g0 5 _ rfl
     have c0_6 := GC.out w0 g0 6 _ rfl
     have c0_7 := GC.out w0 g0 7 _ rfl
     have c0_8 := GC.out w0 g0 8 _ rfl
     have c0_9 := GC.out w0 g0 9 _ rfl
     have c0_10 := GC.out w0 g0 10 _ rfl
     have c0_11 := GC.out w0 g0 11 _ rfl
     have c0_12 := GC.out w0 g0 12 _ rfl
     have c0_13 := GC.out w0 g0 13 _ rfl
     have c0_14 := GC.out w0 g0 14 _ rfl
     have c0_15 := GC.out w0 g0 15 _ rfl))
 go_ret
 exact ⟨ret_bool HS.out.symm, below_in HBA.out g7⟩
theorem shaped_p10 (room typ sender : ByteArray) (st : Bool) (key : ByteArray) (k i : Int) (t : ByteArray) (ks : List ByteArray) (l : List J) (prev auth : List ByteArray) (depth ts : Int) (hash : ByteArray) (sigs : List (ByteArray × ByteArray)) (pk : Option Addr) (ck : Nat) (pl : Option Addr) (cl : Nat) (pp : Option Addr) (cp : Nat) (pa : Option Addr) (ca : Nat) (ps : Option Addr) (cs : Nat) (w : World) (X : ShC room typ sender st key k i t ks l prev auth depth ts hash sigs pk ck pl cl pp cp pa ca ps cs w) (hh : hash.toList.isEmpty = false) (hz0 : hash.size ≠ 0) (e0 : placedE ⟨room, typ, sender, st, key, ⟨k, i, t, ks, l⟩, prev, auth, depth, ts, hash, sigs⟩ = true) (e1 : keyedE ⟨room, typ, sender, st, key, ⟨k, i, t, ks, l⟩, prev, auth, depth, ts, hash, sigs⟩ = true) (e2 : filledE ⟨k, i, t, ks, l⟩ = true) (e3 : namedE 20 prev = true) (e4 : namedE 10 auth = true) (e5 : withinE depth 1099511627776 = true) (e6 : withinE ts maxInt = true) (e7 : digestE hash = true) (e8 : signedE sigs = false) :
    Calls Tryz.prog 77 #[.agg #[.string room, .string typ, .string sender, .bool st, .string key, .int .i64 k, .int .i64 i, .string t, .slice pk ks.length ck, .slice pl l.length cl, .slice pp prev.length cp, .slice pa auth.length ca, .int .i64 depth, .int .i64 ts, .string hash, .slice ps sigs.length cs]] w fun x w' => x = .returned (.bool (shapedE ⟨room, typ, sender, st, key, ⟨k, i, t, ks, l⟩, prev, auth, depth, ts, hash, sigs⟩)) ∧ Below w.heap.size w w' := by
 have HS : Hid (shapedE ⟨room, typ, sender, st, key, ⟨k, i, t, ks, l⟩, prev, auth, depth, ts, hash, sigs⟩ = false) := by
  show _ = _
  unfold shapedE
  simp only [e0, e1, e2, e3, e4, e5, e6, e7, e8]
  simp [hz0]
 have H0 := X.h0 _ (Below.refl _ _)
 rw [e0] at H0
 have H1 := X.h1
 rw [e1] at H1
 have H2 := X.h2
 rw [e2] at H2
 have H3 := X.h3
 rw [e3] at H3
 have H4 := X.h4
 rw [e4] at H4
 have H5 := X.h5
 rw [e5] at H5
 have H6 := X.h6
 rw [e6] at H6
 have H7 := X.h7
 rw [e7] at H7
 have H8 := X.h8
 rw [e8] at H8
 have HC := X.cells
 have HBA : Hid (Below w.heap.size w (w.alloc (.cells #[.string room, .string typ, .string sender, .bool st, .string key, .int .i64 k, .int .i64 i, .string t, .slice pk ks.length ck, .slice pl l.length cl, .slice pp prev.length cp, .slice pa auth.length ca, .int .i64 depth, .int .i64 ts, .string hash, .slice ps sigs.length cs] 28))) := X.below
 have G1 : Hid _ := H1
 have G2 : Hid _ := H2
 have G3 : Hid _ := H3
 have G4 : Hid _ := H4
 have G5 : Hid _ := H5
 have G6 : Hid _ := H6
 have G7 : Hid _ := H7
 have G8 : Hid _ := H8
 have GC : Hid _ := HC
 clear X HC e0 e1 e2 e3 e4 e5 e6 e7 e8 H1 H2 H3 H4 H5 H6 H7 H8
 clear hz0
 go_enter Tryz.func77, Tryz.ntmps77
 go_wp2_with (first
  | (go_at_call 109; refine k8.mono ?_; rintro x w8 ⟨rfl, hb8⟩
     have g8 := below_in g7 hb8)
  | (go_at_call 108; refine k7.mono ?_; rintro x w7 ⟨rfl, hb7⟩
     have g7 := below_in g6 hb7
     have k8 := G8.out w7 g7
     have c7_15 := GC.out w7 g7 15 _ rfl)
  | (go_at_call 107; refine k6.mono ?_; rintro x w6 ⟨rfl, hb6⟩
     have g6 := below_in g5 hb6
     have k7 := G7.out w6 g6
     have c6_14 := GC.out w6 g6 14 _ rfl
     have c6_15 := GC.out w6 g6 15 _ rfl)
  | (go_at_call 107; refine k5.mono ?_; rintro x w5 ⟨rfl, hb5⟩
     have g5 := below_in g4 hb5
     have k6 := G6.out w5 g5
     have c5_13 := GC.out w5 g5 13 _ rfl)
  | (go_at_call 106; refine k4.mono ?_; rintro x w4 ⟨rfl, hb4⟩
     have g4 := below_in g3 hb4
     have k5 := G5.out w4 g4
     have c4_12 := GC.out w4 g4 12 _ rfl)
  | (go_at_call 106; refine k3.mono ?_; rintro x w3 ⟨rfl, hb3⟩
     have g3 := below_in g2 hb3
     have k4 := G4.out w3 g3
     have c3_11 := GC.out w3 g3 11 _ rfl)
  | (go_at_call 105; refine k2.mono ?_; rintro x w2 ⟨rfl, hb2⟩
     have g2 := below_in g1 hb2
     have k3 := G3.out w2 g2
     have c2_10 := GC.out w2 g2 10 _ rfl)
  | (go_at_call 104; refine k1.mono ?_; rintro x w1 ⟨rfl, hb1⟩
     have g1 := below_in g0 hb1
     have k2 := G2.out w1 g1
     have c1_5 := GC.out w1 g1 5 _ rfl
     have c1_6 := GC.out w1 g1 6 _ rfl
     have c1_7 := GC.out w1 g1 7 _ rfl
     have c1_8 := GC.out w1 g1 8 _ rfl
     have c1_9 := GC.out w1 g1 9 _ rfl)
  | (go_at_call 103; refine H0.mono ?_; rintro x w0 ⟨rfl, hb0⟩
     have g0 := hb0
     have k1 := G1.out w0 g0
     have c0_0 := GC.out w0 g0 0 _ rfl
     have c0_1 := GC.out w0 g0 1 _ rfl
     have c0_2 := GC.out w0 g0 2 _ rfl
     have c0_3 := GC.out w0 g0 3 _ rfl
     have c0_4 := GC.out w0 g0 4 _ rfl
     have c0_5 := GC.out w0 g0 5 _ rfl
     have c0_6 := GC.out w0 g0 6 _ rfl
     have c0_7 := GC.out w0 g0 7 _ rfl
     have c0_8 := GC.out w0 g0 8 _ rfl
     have c0_9 := GC.out w0 g0 9 _ rfl
     have c0_10 := GC.out w0 g0 10 _ rfl
     have c0_11 := GC.out w0 g0 11 _ rfl
     have c0_12 := GC.out w0 g0 12 _ rfl
     have c0_13 := GC.out w0 g0 13 _ rfl
     have c0_14 := GC.out w0 g0 14 _ rfl
     have c0_15 := GC.out w0 g0 15 _ rfl))
 go_ret
 exact ⟨ret_bool HS.out.symm, below_in HBA.out g8⟩
theorem shaped_p11 (room typ sender : ByteArray) (st : Bool) (key : ByteArray) (k i : Int) (t : ByteArray) (ks : List ByteArray) (l : List J) (prev auth : List ByteArray) (depth ts : Int) (hash : ByteArray) (sigs : List (ByteArray × ByteArray)) (pk : Option Addr) (ck : Nat) (pl : Option Addr) (cl : Nat) (pp : Option Addr) (cp : Nat) (pa : Option Addr) (ca : Nat) (ps : Option Addr) (cs : Nat) (w : World) (X : ShC room typ sender st key k i t ks l prev auth depth ts hash sigs pk ck pl cl pp cp pa ca ps cs w) (hh : hash.toList.isEmpty = false) (hz0 : hash.size ≠ 0) (e0 : placedE ⟨room, typ, sender, st, key, ⟨k, i, t, ks, l⟩, prev, auth, depth, ts, hash, sigs⟩ = true) (e1 : keyedE ⟨room, typ, sender, st, key, ⟨k, i, t, ks, l⟩, prev, auth, depth, ts, hash, sigs⟩ = true) (e2 : filledE ⟨k, i, t, ks, l⟩ = true) (e3 : namedE 20 prev = true) (e4 : namedE 10 auth = true) (e5 : withinE depth 1099511627776 = true) (e6 : withinE ts maxInt = true) (e7 : digestE hash = true) (e8 : signedE sigs = true) :
    Calls Tryz.prog 77 #[.agg #[.string room, .string typ, .string sender, .bool st, .string key, .int .i64 k, .int .i64 i, .string t, .slice pk ks.length ck, .slice pl l.length cl, .slice pp prev.length cp, .slice pa auth.length ca, .int .i64 depth, .int .i64 ts, .string hash, .slice ps sigs.length cs]] w fun x w' => x = .returned (.bool (shapedE ⟨room, typ, sender, st, key, ⟨k, i, t, ks, l⟩, prev, auth, depth, ts, hash, sigs⟩)) ∧ Below w.heap.size w w' := by
 have HS : Hid (shapedE ⟨room, typ, sender, st, key, ⟨k, i, t, ks, l⟩, prev, auth, depth, ts, hash, sigs⟩ = true) := by
  show _ = _
  unfold shapedE
  simp only [e0, e1, e2, e3, e4, e5, e6, e7, e8]
  simp [hz0]
 have H0 := X.h0 _ (Below.refl _ _)
 rw [e0] at H0
 have H1 := X.h1
 rw [e1] at H1
 have H2 := X.h2
 rw [e2] at H2
 have H3 := X.h3
 rw [e3] at H3
 have H4 := X.h4
 rw [e4] at H4
 have H5 := X.h5
 rw [e5] at H5
 have H6 := X.h6
 rw [e6] at H6
 have H7 := X.h7
 rw [e7] at H7
 have H8 := X.h8
 rw [e8] at H8
 have HC := X.cells
 have HBA : Hid (Below w.heap.size w (w.alloc (.cells #[.string room, .string typ, .string sender, .bool st, .string key, .int .i64 k, .int .i64 i, .string t, .slice pk ks.length ck, .slice pl l.length cl, .slice pp prev.length cp, .slice pa auth.length ca, .int .i64 depth, .int .i64 ts, .string hash, .slice ps sigs.length cs] 28))) := X.below
 have G1 : Hid _ := H1
 have G2 : Hid _ := H2
 have G3 : Hid _ := H3
 have G4 : Hid _ := H4
 have G5 : Hid _ := H5
 have G6 : Hid _ := H6
 have G7 : Hid _ := H7
 have G8 : Hid _ := H8
 have GC : Hid _ := HC
 clear X HC e0 e1 e2 e3 e4 e5 e6 e7 e8 H1 H2 H3 H4 H5 H6 H7 H8
 clear hz0
 go_enter Tryz.func77, Tryz.ntmps77
 go_wp2_with (first
  | (go_at_call 109; refine k8.mono ?_; rintro x w8 ⟨rfl, hb8⟩
     have g8 := below_in g7 hb8)
  | (go_at_call 108; refine k7.mono ?_; rintro x w7 ⟨rfl, hb7⟩
     have g7 := below_in g6 hb7
     have k8 := G8.out w7 g7
     have c7_15 := GC.out w7 g7 15 _ rfl)
  | (go_at_call 107; refine k6.mono ?_; rintro x w6 ⟨rfl, hb6⟩
     have g6 := below_in g5 hb6
     have k7 := G7.out w6 g6
     have c6_14 := GC.out w6 g6 14 _ rfl
     have c6_15 := GC.out w6 g6 15 _ rfl)
  | (go_at_call 107; refine k5.mono ?_; rintro x w5 ⟨rfl, hb5⟩
     have g5 := below_in g4 hb5
     have k6 := G6.out w5 g5
     have c5_13 := GC.out w5 g5 13 _ rfl)
  | (go_at_call 106; refine k4.mono ?_; rintro x w4 ⟨rfl, hb4⟩
     have g4 := below_in g3 hb4
     have k5 := G5.out w4 g4
     have c4_12 := GC.out w4 g4 12 _ rfl)
  | (go_at_call 106; refine k3.mono ?_; rintro x w3 ⟨rfl, hb3⟩
     have g3 := below_in g2 hb3
     have k4 := G4.out w3 g3
     have c3_11 := GC.out w3 g3 11 _ rfl)
  | (go_at_call 105; refine k2.mono ?_; rintro x w2 ⟨rfl, hb2⟩
     have g2 := below_in g1 hb2
     have k3 := G3.out w2 g2
     have c2_10 := GC.out w2 g2 10 _ rfl)
  | (go_at_call 104; refine k1.mono ?_; rintro x w1 ⟨rfl, hb1⟩
     have g1 := below_in g0 hb1
     have k2 := G2.out w1 g1
     have c1_5 := GC.out w1 g1 5 _ rfl
     have c1_6 := GC.out w1 g1 6 _ rfl
     have c1_7 := GC.out w1 g1 7 _ rfl
     have c1_8 := GC.out w1 g1 8 _ rfl
     have c1_9 := GC.out w1 g1 9 _ rfl)
  | (go_at_call 103; refine H0.mono ?_; rintro x w0 ⟨rfl, hb0⟩
     have g0 := hb0
     have k1 := G1.out w0 g0
     have c0_0 := GC.out w0 g0 0 _ rfl
     have c0_1 := GC.out w0 g0 1 _ rfl
     have c0_2 := GC.out w0 g0 2 _ rfl
     have c0_3 := GC.out w0 g0 3 _ rfl
     have c0_4 := GC.out w0 g0 4 _ rfl
     have c0_5 := GC.out w0 g0 5 _ rfl
     have c0_6 := GC.out w0 g0 6 _ rfl
     have c0_7 := GC.out w0 g0 7 _ rfl
     have c0_8 := GC.out w0 g0 8 _ rfl
     have c0_9 := GC.out w0 g0 9 _ rfl
     have c0_10 := GC.out w0 g0 10 _ rfl
     have c0_11 := GC.out w0 g0 11 _ rfl
     have c0_12 := GC.out w0 g0 12 _ rfl
     have c0_13 := GC.out w0 g0 13 _ rfl
     have c0_14 := GC.out w0 g0 14 _ rfl
     have c0_15 := GC.out w0 g0 15 _ rfl))
 go_ret
 exact ⟨ret_bool HS.out.symm, below_in HBA.out g8⟩
theorem shaped_cells {O : Nat → Prop} (room typ sender : ByteArray) (st : Bool) (key : ByteArray) (k i : Int) (t : ByteArray) (ks : List ByteArray) (l : List J) (prev auth : List ByteArray) (depth ts : Int) (hash : ByteArray) (sigs : List (ByteArray × ByteArray)) (pk : Option Addr) (ck : Nat) (pl : Option Addr) (cl : Nat) (pp : Option Addr) (cp : Nat) (pa : Option Addr) (ca : Nat) (ps : Option Addr) (cs : Nat) (w : World)
    (hE : IsE O w ⟨room, typ, sender, st, key, ⟨k, i, t, ks, l⟩, prev, auth, depth, ts, hash, sigs⟩ ⟨pk, ck, pl, cl, pp, cp, pa, ca, ps, cs⟩) (hO : ∀ k, O k → k < w.heap.size) (hz : SzE ⟨room, typ, sender, st, key, ⟨k, i, t, ks, l⟩, prev, auth, depth, ts, hash, sigs⟩) (hT : Tabs w) :
    Calls Tryz.prog 77 #[.agg #[.string room, .string typ, .string sender, .bool st, .string key, .int .i64 k, .int .i64 i, .string t, .slice pk ks.length ck, .slice pl l.length cl, .slice pp prev.length cp, .slice pa auth.length ca, .int .i64 depth, .int .i64 ts, .string hash, .slice ps sigs.length cs]] w fun x w' => x = .returned (.bool (shapedE ⟨room, typ, sender, st, key, ⟨k, i, t, ks, l⟩, prev, auth, depth, ts, hash, sigs⟩)) ∧ Below w.heap.size w w' := by
 have hbA : Below w.heap.size w (w.alloc (.cells #[.string room, .string typ, .string sender, .bool st, .string key, .int .i64 k, .int .i64 i, .string t, .slice pk ks.length ck, .slice pl l.length cl, .slice pp prev.length cp, .slice pa auth.length ca, .int .i64 depth, .int .i64 ts, .string hash, .slice ps sigs.length cs] 28)) := (Below.refl _ _).alloc (Nat.le_refl _) _
 have hEA : ∀ W, Below (w.alloc (.cells #[.string room, .string typ, .string sender, .bool st, .string key, .int .i64 k, .int .i64 i, .string t, .slice pk ks.length ck, .slice pl l.length cl, .slice pp prev.length cp, .slice pa auth.length ca, .int .i64 depth, .int .i64 ts, .string hash, .slice ps sigs.length cs] 28)).heap.size (w.alloc (.cells #[.string room, .string typ, .string sender, .bool st, .string key, .int .i64 k, .int .i64 i, .string t, .slice pk ks.length ck, .slice pl l.length cl, .slice pp prev.length cp, .slice pa auth.length ca, .int .i64 depth, .int .i64 ts, .string hash, .slice ps sigs.length cs] 28)) W → IsE O W ⟨room, typ, sender, st, key, ⟨k, i, t, ks, l⟩, prev, auth, depth, ts, hash, sigs⟩ ⟨pk, ck, pl, cl, pp, cp, pa, ca, ps, cs⟩ := fun W hW => hE.below hO (below_in hbA hW)
 have hOA : ∀ W, Below (w.alloc (.cells #[.string room, .string typ, .string sender, .bool st, .string key, .int .i64 k, .int .i64 i, .string t, .slice pk ks.length ck, .slice pl l.length cl, .slice pp prev.length cp, .slice pa auth.length ca, .int .i64 depth, .int .i64 ts, .string hash, .slice ps sigs.length cs] 28)).heap.size (w.alloc (.cells #[.string room, .string typ, .string sender, .bool st, .string key, .int .i64 k, .int .i64 i, .string t, .slice pk ks.length ck, .slice pl l.length cl, .slice pp prev.length cp, .slice pa auth.length ca, .int .i64 depth, .int .i64 ts, .string hash, .slice ps sigs.length cs] 28)) W → ∀ k, O k → k < W.heap.size := fun W hW k hk => Nat.lt_of_lt_of_le (hO k hk) (below_in hbA hW).size
 have X : ShC room typ sender st key k i t ks l prev auth depth ts hash sigs pk ck pl cl pp cp pa ca ps cs w := {
  cells := fun W hW j v hj => cell_row ((hW.block _ (by simp)).trans (heap_alloc_new _ _)) j v hj
  below := hbA
  h0 := fun W hW => placed_any ⟨room, typ, sender, st, key, ⟨k, i, t, ks, l⟩, prev, auth, depth, ts, hash, sigs⟩ ⟨pk, ck, pl, cl, pp, cp, pa, ca, ps, cs⟩ W hz.room hz.sender hz.typ
  h1 := fun W hW => keyed_any ⟨room, typ, sender, st, key, ⟨k, i, t, ks, l⟩, prev, auth, depth, ts, hash, sigs⟩ ⟨pk, ck, pl, cl, pp, cp, pa, ca, ps, cs⟩ W hz.key ((hT.below (below_in hbA hW)).utf)
  h2 := fun W hW => filled_any (hOA W hW) hz.cont ((hEA W hW).cont)
  h3 := fun W hW => named_any 20 (hEA W hW).prev (hOA W hW) hz.prev hz.prevs
  h4 := fun W hW => named_any 10 (hEA W hW).auth (hOA W hW) hz.auth hz.auths
  h5 := fun W hW => (within_any depth 1099511627776 W).mono fun x w2 h => ⟨h.1, h.2 ▸ Below.refl _ _⟩
  h6 := fun W hW => (within_any ts maxInt W).mono fun x w2 h => ⟨h.1, h.2 ▸ Below.refl _ _⟩
  h7 := fun W hW => digest_any hash W hz.hash
  h8 := fun W hW => signed_any (hEA W hW).sigs (hOA W hW) hz.sigs hz.sigss }
 cases e0 : placedE ⟨room, typ, sender, st, key, ⟨k, i, t, ks, l⟩, prev, auth, depth, ts, hash, sigs⟩ with
 | false => exact shaped_p0 room typ sender st key k i t ks l prev auth depth ts hash sigs pk ck pl cl pp cp pa ca ps cs w X e0
 | true =>
  cases e1 : keyedE ⟨room, typ, sender, st, key, ⟨k, i, t, ks, l⟩, prev, auth, depth, ts, hash, sigs⟩ with
  | false => exact shaped_p1 room typ sender st key k i t ks l prev auth depth ts hash sigs pk ck pl cl pp cp pa ca ps cs w X e0 e1
  | true =>
   cases e2 : filledE ⟨k, i, t, ks, l⟩ with
   | false => exact shaped_p2 room typ sender st key k i t ks l prev auth depth ts hash sigs pk ck pl cl pp cp pa ca ps cs w X e0 e1 e2
   | true =>
    cases e3 : namedE 20 prev with
    | false => exact shaped_p3 room typ sender st key k i t ks l prev auth depth ts hash sigs pk ck pl cl pp cp pa ca ps cs w X e0 e1 e2 e3
    | true =>
     cases e4 : namedE 10 auth with
     | false => exact shaped_p4 room typ sender st key k i t ks l prev auth depth ts hash sigs pk ck pl cl pp cp pa ca ps cs w X e0 e1 e2 e3 e4
     | true =>
      cases e5 : withinE depth 1099511627776 with
      | false => exact shaped_p5 room typ sender st key k i t ks l prev auth depth ts hash sigs pk ck pl cl pp cp pa ca ps cs w X e0 e1 e2 e3 e4 e5
      | true =>
       cases e6 : withinE ts maxInt with
       | false => exact shaped_p6 room typ sender st key k i t ks l prev auth depth ts hash sigs pk ck pl cl pp cp pa ca ps cs w X e0 e1 e2 e3 e4 e5 e6
       | true =>
        by_cases hh : hash.size = 0
        · have hhn : hash = ⟨#[]⟩ := by
            obtain ⟨d⟩ := hash
            exact congrArg ByteArray.mk (Array.eq_empty_of_size_eq_zero hh)
          subst hhn
          cases e8 : signedE sigs with
          | false => exact shaped_p7 room typ sender st key k i t ks l prev auth depth ts sigs pk ck pl cl pp cp pa ca ps cs w X e0 e1 e2 e3 e4 e5 e6 e8
          | true => exact shaped_p8 room typ sender st key k i t ks l prev auth depth ts sigs pk ck pl cl pp cp pa ca ps cs w X e0 e1 e2 e3 e4 e5 e6 e8
        · have hhe : hash.toList.isEmpty = false := by rw [nilS]; exact decide_eq_false hh
          cases e7 : digestE hash with
          | false => exact shaped_p9 room typ sender st key k i t ks l prev auth depth ts hash sigs pk ck pl cl pp cp pa ca ps cs w X hhe hh e0 e1 e2 e3 e4 e5 e6 e7
          | true =>
           cases e8 : signedE sigs with
           | false => exact shaped_p10 room typ sender st key k i t ks l prev auth depth ts hash sigs pk ck pl cl pp cp pa ca ps cs w X hhe hh e0 e1 e2 e3 e4 e5 e6 e7 e8
           | true => exact shaped_p11 room typ sender st key k i t ks l prev auth depth ts hash sigs pk ck pl cl pp cp pa ca ps cs w X hhe hh e0 e1 e2 e3 e4 e5 e6 e7 e8
theorem shaped_any {O : Nat → Prop} (e : Ev) (p : Pt) (w : World) (hE : IsE O w e p) (hO : ∀ k, O k → k < w.heap.size) (hz : SzE e) (hT : Tabs w) :
    Calls Tryz.prog 77 #[valE e p] w fun x w' => x = .returned (.bool (shapedE e)) ∧ Below w.heap.size w w' := by
 obtain ⟨room, typ, sender, st, key, ⟨k, i, t, ks, l⟩, prev, auth, depth, ts, hash, sigs⟩ := e
 obtain ⟨pk, ck, pl, cl, pp, cp, pa, ca, ps, cs⟩ := p
 exact shaped_cells room typ sender st key k i t ks l prev auth depth ts hash sigs pk ck pl cl pp cp pa ca ps cs w hE hO hz hT
theorem told_any {O : Nat → Prop} (e : Ev) (p : Pt) (w : World) (hE : IsE O w e p) (hO : ∀ k, O k → k < w.heap.size) (hz : SzE e) :
    Calls Tryz.prog 79 #[valE e p] w fun x w' => (∃ pk nk ck pl nl cl, x = .returned (.agg #[.int .i64 5, .int .i64 0, .string nix, .slice pk nk ck, .slice pl nl cl]) ∧ isJ (fun k => O k ∨ New w w' k) w' (toldJ e) [.int .i64 5, .int .i64 0, .string nix, .slice pk nk ck, .slice pl nl cl]) ∧ Below w.heap.size w w' := by
 obtain ⟨room, typ, sender, st, key, ⟨k, i, t, ks, l⟩, prev, auth, depth, ts, hash, sigs⟩ := e
 obtain ⟨pk, ck, pl, cl, pp, cp, pa, ca, ps, cs⟩ := p
 cases st with
 | true => exact told_true room typ sender key k i t ks l prev auth depth ts hash sigs pk ck pl cl pp cp pa ca ps cs w hE hO hz.prev hz.auth hz.sigs
 | false => exact told_false room typ sender key k i t ks l prev auth depth ts hash sigs pk ck pl cl pp cp pa ca ps cs w hE hO hz.prev hz.auth hz.sigs
theorem pure_stray {l : List Int} (h : Pure l) : stray l = none := by
 have := h l [] 0 (by simp) (Fair.end (by omega))
 exact this l.length
theorem ascii_letters {s : ByteArray} (h : ∀ c ∈ ints s, 0 ≤ c ∧ c < 128) : letters s = true := by
 unfold letters
 rw [pure_stray (Pure.ascii h)]
 rfl
theorem small_lt {c : Int} (h : Id.small c = true) : 0 ≤ c ∧ c < 128 := by
 unfold Id.small at h
 simp at h
 omega
theorem ints_id (s : ByteArray) : Id.ints s = ints s := rfl
theorem okText_lt {k : Int → Bool} {m : Int} {s : ByteArray} (hk : ∀ c, k c = true → 0 ≤ c ∧ c < 128) (h : Id.okText k m s = true) : ∀ c ∈ ints s, 0 ≤ c ∧ c < 128 := by
 unfold Id.okText at h
 rw [Bool.and_eq_true, List.all_eq_true] at h
 exact fun c hc => hk c (h.2 c hc)
theorem srv_lt {s : ByteArray} (h : Id.srv s = true) : ∀ c ∈ ints s, 0 ≤ c ∧ c < 128 := okText_lt (fun c hc => by
 unfold Id.kSrv at hc
 rw [Bool.or_eq_true] at hc
 rcases hc with hc | hc
 · exact small_lt hc
 · have := of_decide_eq_true hc; omega) h
theorem loc_lt {s : ByteArray} (h : Id.loc s = true) : ∀ c ∈ ints s, 0 ≤ c ∧ c < 128 := okText_lt (fun c hc => by
 unfold Id.kLoc at hc
 rw [Bool.or_eq_true, Bool.or_eq_true] at hc
 rcases hc with (hc | hc) | hc
 · exact small_lt hc
 · have := of_decide_eq_true hc; omega
 · have := of_decide_eq_true hc; omega) h
theorem typ_lt {s : ByteArray} (h : Id.typ s = true) : ∀ c ∈ ints s, 0 ≤ c ∧ c < 128 := okText_lt (fun c hc => by
 unfold Id.kTyp at hc
 rw [Bool.or_eq_true] at hc
 rcases hc with hc | hc
 · exact small_lt hc
 · have := of_decide_eq_true hc; omega) h
theorem ints_cut (s : ByteArray) (a b : Nat) (_hb : b ≤ s.size) : ints (s.extract a b) = ((ints s).drop a).take (b - a) := by
 unfold ints
 simp [List.map_take, List.map_drop, List.extract]
theorem parts_lt {c : Int} {s : ByteArray} (hc : 0 ≤ c ∧ c < 128) (h : (Id.parts c s).2.2 = true) : ∀ x ∈ ints s, 0 ≤ x ∧ x < 128 := by
 unfold Id.parts at h
 split at h
 · rename_i hh
   obtain ⟨h0, h1, h2, h3, h4⟩ := hh
   rw [ints_id] at h1 h2 h3 h4
   have e3 := loc_lt h3
   have e4 := srv_lt h4
   rw [ints_cut _ _ _ (by omega), Nat.add_sub_cancel] at e3
   rw [ints_extract] at e4
   intro x hx
   have hl : 0 < (ints s).length := by rw [ints_length]; exact h0
   have hs : ints s = (ints s).getD 0 0 :: (ints s).drop 1 := by
    cases hi : ints s with
    | nil => rw [hi] at hl; simp at hl
    | cons a r => simp
   rw [hs] at hx
   rcases List.mem_cons.1 hx with hx | hx
   · rw [hx, h1]; exact hc
   · rw [← List.take_append_drop (List.findIdx (fun x => x == 58) ((ints s).drop 1)) ((ints s).drop 1)] at hx
     rcases List.mem_append.1 hx with hx | hx
     · exact e3 x hx
     · have hf : List.findIdx (fun x => x == 58) ((ints s).drop 1) < ((ints s).drop 1).length := by
         rw [List.length_drop, ints_length]; omega
       rw [List.drop_eq_getElem_cons hf] at hx
       rcases List.mem_cons.1 hx with hx | hx
       · have := List.findIdx_getElem (w := hf)
         rw [← hx] at this
         have := of_decide_eq_true (by simpa using this : decide (x = 58) = true)
         omega
       · refine e4 x ?_
         rw [List.drop_drop] at hx
         rw [show List.findIdx (fun x => x == 58) ((ints s).drop 1) + 2 = 1 + (List.findIdx (fun x => x == 58) ((ints s).drop 1) + 1) by omega]
         exact hx
 · cases h
end Go.Proofs.YtldegjjaknelgaaGreatDoor

/-
  Whether an event is well shaped but for its length, and its bytes: by contracts.
  Whether an event is well shaped but for its length: some of the ways.
  Whether an event is well shaped but for its length: some of the ways.
  Whether an event is well shaped but for its length: some of the ways.
  Whether an event is well shaped but for its length: some of the ways.
  Whether an event is well shaped but for its length: some of the ways.
-/
import Derived.Test.YtldegjjaknelgaaGreatDoorAW18
set_option maxRecDepth 100000
set_option maxHeartbeats 16000000
namespace Go.Proofs.YtldegjjaknelgaaGreatDoor
open Go.RowKit
structure Tabs (w : World) : Prop where
 pow : Tab w.heap.size w
 utf : UTab w.heap.size w
theorem Tabs.below {w w' : World} (h : Tabs w) (hb : Below w.heap.size w w') : Tabs w' := ⟨fun w2 h2 => h.pow w2 (below_in hb h2), h.utf.below hb⟩
structure ShC (room typ sender : ByteArray) (st : Bool) (key : ByteArray) (k i : Int) (t : ByteArray) (ks : List ByteArray) (l : List J) (prev auth : List ByteArray) (depth ts : Int) (hash : ByteArray) (sigs : List (ByteArray × ByteArray)) (pk : Option Addr) (ck : Nat) (pl : Option Addr) (cl : Nat) (pp : Option Addr) (cp : Nat) (pa : Option Addr) (ca : Nat) (ps : Option Addr) (cs : Nat) (w : World) : Prop where
 cells : ∀ W, Below (w.alloc (.cells #[.string room, .string typ, .string sender, .bool st, .string key, .int .i64 k, .int .i64 i, .string t, .slice pk ks.length ck, .slice pl l.length cl, .slice pp prev.length cp, .slice pa auth.length ca, .int .i64 depth, .int .i64 ts, .string hash, .slice ps sigs.length cs] 28)).heap.size (w.alloc (.cells #[.string room, .string typ, .string sender, .bool st, .string key, .int .i64 k, .int .i64 i, .string t, .slice pk ks.length ck, .slice pl l.length cl, .slice pp prev.length cp, .slice pa auth.length ca, .int .i64 depth, .int .i64 ts, .string hash, .slice ps sigs.length cs] 28)) W → ∀ j v, [.string room, .string typ, .string sender, .bool st, .string key, .int .i64 k, .int .i64 i, .string t, .slice pk ks.length ck, .slice pl l.length cl, .slice pp prev.length cp, .slice pa auth.length ca, .int .i64 depth, .int .i64 ts, .string hash, .slice ps sigs.length cs][j]? = some v → W.cell? ⟨w.heap.size, j, none⟩ = some v
 below : Below w.heap.size w (w.alloc (.cells #[.string room, .string typ, .string sender, .bool st, .string key, .int .i64 k, .int .i64 i, .string t, .slice pk ks.length ck, .slice pl l.length cl, .slice pp prev.length cp, .slice pa auth.length ca, .int .i64 depth, .int .i64 ts, .string hash, .slice ps sigs.length cs] 28))
 h0 : ∀ W, Below (w.alloc (.cells #[.string room, .string typ, .string sender, .bool st, .string key, .int .i64 k, .int .i64 i, .string t, .slice pk ks.length ck, .slice pl l.length cl, .slice pp prev.length cp, .slice pa auth.length ca, .int .i64 depth, .int .i64 ts, .string hash, .slice ps sigs.length cs] 28)).heap.size (w.alloc (.cells #[.string room, .string typ, .string sender, .bool st, .string key, .int .i64 k, .int .i64 i, .string t, .slice pk ks.length ck, .slice pl l.length cl, .slice pp prev.length cp, .slice pa auth.length ca, .int .i64 depth, .int .i64 ts, .string hash, .slice ps sigs.length cs] 28)) W → Calls Tryz.prog 103 #[.agg #[.string room, .string typ, .string sender, .bool st, .string key, .int .i64 k, .int .i64 i, .string t, .slice pk ks.length ck, .slice pl l.length cl, .slice pp prev.length cp, .slice pa auth.length ca, .int .i64 depth, .int .i64 ts, .string hash, .slice ps sigs.length cs]] W fun x w' => x = .returned (.bool (placedE ⟨room, typ, sender, st, key, ⟨k, i, t, ks, l⟩, prev, auth, depth, ts, hash, sigs⟩)) ∧ Below W.heap.size W w'
 h1 : ∀ W, Below (w.alloc (.cells #[.string room, .string typ, .string sender, .bool st, .string key, .int .i64 k, .int .i64 i, .string t, .slice pk ks.length ck, .slice pl l.length cl, .slice pp prev.length cp, .slice pa auth.length ca, .int .i64 depth, .int .i64 ts, .string hash, .slice ps sigs.length cs] 28)).heap.size (w.alloc (.cells #[.string room, .string typ, .string sender, .bool st, .string key, .int .i64 k, .int .i64 i, .string t, .slice pk ks.length ck, .slice pl l.length cl, .slice pp prev.length cp, .slice pa auth.length ca, .int .i64 depth, .int .i64 ts, .string hash, .slice ps sigs.length cs] 28)) W → Calls Tryz.prog 104 #[.agg #[.string room, .string typ, .string sender, .bool st, .string key, .int .i64 k, .int .i64 i, .string t, .slice pk ks.length ck, .slice pl l.length cl, .slice pp prev.length cp, .slice pa auth.length ca, .int .i64 depth, .int .i64 ts, .string hash, .slice ps sigs.length cs]] W fun x w' => x = .returned (.bool (keyedE ⟨room, typ, sender, st, key, ⟨k, i, t, ks, l⟩, prev, auth, depth, ts, hash, sigs⟩)) ∧ Below W.heap.size W w'
 h2 : ∀ W, Below (w.alloc (.cells #[.string room, .string typ, .string sender, .bool st, .string key, .int .i64 k, .int .i64 i, .string t, .slice pk ks.length ck, .slice pl l.length cl, .slice pp prev.length cp, .slice pa auth.length ca, .int .i64 depth, .int .i64 ts, .string hash, .slice ps sigs.length cs] 28)).heap.size (w.alloc (.cells #[.string room, .string typ, .string sender, .bool st, .string key, .int .i64 k, .int .i64 i, .string t, .slice pk ks.length ck, .slice pl l.length cl, .slice pp prev.length cp, .slice pa auth.length ca, .int .i64 depth, .int .i64 ts, .string hash, .slice ps sigs.length cs] 28)) W → Calls Tryz.prog 105 #[.agg #[.int .i64 k, .int .i64 i, .string t, .slice pk ks.length ck, .slice pl l.length cl]] W fun x w' => x = .returned (.bool (filledE ⟨k, i, t, ks, l⟩)) ∧ Below W.heap.size W w'
 h3 : ∀ W, Below (w.alloc (.cells #[.string room, .string typ, .string sender, .bool st, .string key, .int .i64 k, .int .i64 i, .string t, .slice pk ks.length ck, .slice pl l.length cl, .slice pp prev.length cp, .slice pa auth.length ca, .int .i64 depth, .int .i64 ts, .string hash, .slice ps sigs.length cs] 28)).heap.size (w.alloc (.cells #[.string room, .string typ, .string sender, .bool st, .string key, .int .i64 k, .int .i64 i, .string t, .slice pk ks.length ck, .slice pl l.length cl, .slice pp prev.length cp, .slice pa auth.length ca, .int .i64 depth, .int .i64 ts, .string hash, .slice ps sigs.length cs] 28)) W → Calls Tryz.prog 106 #[.slice pp prev.length cp, .int .i64 20] W fun x w' => x = .returned (.bool (namedE 20 prev)) ∧ Below W.heap.size W w'
 h4 : ∀ W, Below (w.alloc (.cells #[.string room, .string typ, .string sender, .bool st, .string key, .int .i64 k, .int .i64 i, .string t, .slice pk ks.length ck, .slice pl l.length cl, .slice pp prev.length cp, .slice pa auth.length ca, .int .i64 depth, .int .i64 ts, .string hash, .slice ps sigs.length cs] 28)).heap.size (w.alloc (.cells #[.string room, .string typ, .string sender, .bool st, .string key, .int .i64 k, .int .i64 i, .string t, .slice pk ks.length ck, .slice pl l.length cl, .slice pp prev.length cp, .slice pa auth.length ca, .int .i64 depth, .int .i64 ts, .string hash, .slice ps sigs.length cs] 28)) W → Calls Tryz.prog 106 #[.slice pa auth.length ca, .int .i64 10] W fun x w' => x = .returned (.bool (namedE 10 auth)) ∧ Below W.heap.size W w'
 h5 : ∀ W, Below (w.alloc (.cells #[.string room, .string typ, .string sender, .bool st, .string key, .int .i64 k, .int .i64 i, .string t, .slice pk ks.length ck, .slice pl l.length cl, .slice pp prev.length cp, .slice pa auth.length ca, .int .i64 depth, .int .i64 ts, .string hash, .slice ps sigs.length cs] 28)).heap.size (w.alloc (.cells #[.string room, .string typ, .string sender, .bool st, .string key, .int .i64 k, .int .i64 i, .string t, .slice pk ks.length ck, .slice pl l.length cl, .slice pp prev.length cp, .slice pa auth.length ca, .int .i64 depth, .int .i64 ts, .string hash, .slice ps sigs.length cs] 28)) W → Calls Tryz.prog 107 #[.int .i64 depth, .int .i64 1099511627776] W fun x w' => x = .returned (.bool (withinE depth 1099511627776)) ∧ Below W.heap.size W w'
 h6 : ∀ W, Below (w.alloc (.cells #[.string room, .string typ, .string sender, .bool st, .string key, .int .i64 k, .int .i64 i, .string t, .slice pk ks.length ck, .slice pl l.length cl, .slice pp prev.length cp, .slice pa auth.length ca, .int .i64 depth, .int .i64 ts, .string hash, .slice ps sigs.length cs] 28)).heap.size (w.alloc (.cells #[.string room, .string typ, .string sender, .bool st, .string key, .int .i64 k, .int .i64 i, .string t, .slice pk ks.length ck, .slice pl l.length cl, .slice pp prev.length cp, .slice pa auth.length ca, .int .i64 depth, .int .i64 ts, .string hash, .slice ps sigs.length cs] 28)) W → Calls Tryz.prog 107 #[.int .i64 ts, .int .i64 9007199254740991] W fun x w' => x = .returned (.bool (withinE ts maxInt)) ∧ Below W.heap.size W w'
 h7 : ∀ W, Below (w.alloc (.cells #[.string room, .string typ, .string sender, .bool st, .string key, .int .i64 k, .int .i64 i, .string t, .slice pk ks.length ck, .slice pl l.length cl, .slice pp prev.length cp, .slice pa auth.length ca, .int .i64 depth, .int .i64 ts, .string hash, .slice ps sigs.length cs] 28)).heap.size (w.alloc (.cells #[.string room, .string typ, .string sender, .bool st, .string key, .int .i64 k, .int .i64 i, .string t, .slice pk ks.length ck, .slice pl l.length cl, .slice pp prev.length cp, .slice pa auth.length ca, .int .i64 depth, .int .i64 ts, .string hash, .slice ps sigs.length cs] 28)) W → Calls Tryz.prog 108 #[.string hash] W fun x w' => x = .returned (.bool (digestE hash)) ∧ Below W.heap.size W w'
 h8 : ∀ W, Below (w.alloc (.cells #[.string room, .string typ, .string sender, .bool st, .string key, .int .i64 k, .int .i64 i, .string t, .slice pk ks.length ck, .slice pl l.length cl, .slice pp prev.length cp, .slice pa auth.length ca, .int .i64 depth, .int .i64 ts, .string hash, .slice ps sigs.length cs] 28)).heap.size (w.alloc (.cells #[.string room, .string typ, .string sender, .bool st, .string key, .int .i64 k, .int .i64 i, .string t, .slice pk ks.length ck, .slice pl l.length cl, .slice pp prev.length cp, .slice pa auth.length ca, .int .i64 depth, .int .i64 ts, .string hash, .slice ps sigs.length cs] 28)) W → Calls Tryz.prog 109 #[.slice ps sigs.length cs] W fun x w' => x = .returned (.bool (signedE sigs)) ∧ Below W.heap.size W w'
theorem shaped_p0 (room typ sender : ByteArray) (st : Bool) (key : ByteArray) (k i : Int) (t : ByteArray) (ks : List ByteArray) (l : List J) (prev auth : List ByteArray) (depth ts : Int) (hash : ByteArray) (sigs : List (ByteArray × ByteArray)) (pk : Option Addr) (ck : Nat) (pl : Option Addr) (cl : Nat) (pp : Option Addr) (cp : Nat) (pa : Option Addr) (ca : Nat) (ps : Option Addr) (cs : Nat) (w : World) (X : ShC room typ sender st key k i t ks l prev auth depth ts hash sigs pk ck pl cl pp cp pa ca ps cs w) (e0 : placedE ⟨room, typ, sender, st, key, ⟨k, i, t, ks, l⟩, prev, auth, depth, ts, hash, sigs⟩ = false) :
    Calls Tryz.prog 77 #[.agg #[.string room, .string typ, .string sender, .bool st, .string key, .int .i64 k, .int .i64 i, .string t, .slice pk ks.length ck, .slice pl l.length cl, .slice pp prev.length cp, .slice pa auth.length ca, .int .i64 depth, .int .i64 ts, .string hash, .slice ps sigs.length cs]] w fun x w' => x = .returned (.bool (shapedE ⟨room, typ, sender, st, key, ⟨k, i, t, ks, l⟩, prev, auth, depth, ts, hash, sigs⟩)) ∧ Below w.heap.size w w' := by
 have HS : Hid (shapedE ⟨room, typ, sender, st, key, ⟨k, i, t, ks, l⟩, prev, auth, depth, ts, hash, sigs⟩ = false) := by
  show _ = _
  unfold shapedE
  simp only [e0]
  simp
 have H0 := X.h0 _ (Below.refl _ _)
 rw [e0] at H0
 have HC := X.cells
 have HBA : Hid (Below w.heap.size w (w.alloc (.cells #[.string room, .string typ, .string sender, .bool st, .string key, .int .i64 k, .int .i64 i, .string t, .slice pk ks.length ck, .slice pl l.length cl, .slice pp prev.length cp, .slice pa auth.length ca, .int .i64 depth, .int .i64 ts, .string hash, .slice ps sigs.length cs] 28))) := X.below
 have GC : Hid _ := HC
 clear X HC e0
 go_enter Tryz.func77, Tryz.ntmps77
 go_wp2_with (first
  | (go_at_call 103; refine H0.mono ?_; rintro x w0 ⟨rfl, hb0⟩
     have g0 := hb0))
 go_ret
 exact ⟨ret_bool HS.out.symm, below_in HBA.out g0⟩
theorem shaped_p1 (room typ sender : ByteArray) (st : Bool) (key : ByteArray) (k i : Int) (t : ByteArray) (ks : List ByteArray) (l : List J) (prev auth : List ByteArray) (depth ts : Int) (hash : ByteArray) (sigs : List (ByteArray × ByteArray)) (pk : Option Addr) (ck : Nat) (pl : Option Addr) (cl : Nat) (pp : Option Addr) (cp : Nat) (pa : Option Addr) (ca : Nat) (ps : Option Addr) (cs : Nat) (w : World) (X : ShC room typ sender st key k i t ks l prev auth depth ts hash sigs pk ck pl cl pp cp pa ca ps cs w) (e0 : placedE ⟨room, typ, sender, st, key, ⟨k, i, t, ks, l⟩, prev, auth, depth, ts, hash, sigs⟩ = true) (e1 : keyedE ⟨room, typ, sender, st, key, ⟨k, i, t, ks, l⟩, prev, auth, depth, ts, hash, sigs⟩ = false) :
    Calls Tryz.prog 77 #[.agg #[.string room, .string typ, .string sender, .bool st, .string key, .int .i64 k, .int .i64 i, .string t, .slice pk ks.length ck, .slice pl l.length cl, .slice pp prev.length cp, .slice pa auth.length ca, .int .i64 depth, .int .i64 ts, .string hash, .slice ps sigs.length cs]] w fun x w' => x = .returned (.bool (shapedE ⟨room, typ, sender, st, key, ⟨k, i, t, ks, l⟩, prev, auth, depth, ts, hash, sigs⟩)) ∧ Below w.heap.size w w' := by
 have HS : Hid (shapedE ⟨room, typ, sender, st, key, ⟨k, i, t, ks, l⟩, prev, auth, depth, ts, hash, sigs⟩ = false) := by
  show _ = _
  unfold shapedE
  simp only [e0, e1]
  simp
 have H0 := X.h0 _ (Below.refl _ _)
 rw [e0] at H0
 have H1 := X.h1
 rw [e1] at H1
 have HC := X.cells
 have HBA : Hid (Below w.heap.size w (w.alloc (.cells #[.string room, .string typ, .string sender, .bool st, .string key, .int .i64 k, .int .i64 i, .string t, .slice pk ks.length ck, .slice pl l.length cl, .slice pp prev.length cp, .slice pa auth.length ca, .int .i64 depth, .int .i64 ts, .string hash, .slice ps sigs.length cs] 28))) := X.below
 have G1 : Hid _ := H1
 have GC : Hid _ := HC
 clear X HC e0 e1 H1
 go_enter Tryz.func77, Tryz.ntmps77
 go_wp2_with (first
  | (go_at_call 104; refine k1.mono ?_; rintro x w1 ⟨rfl, hb1⟩
     have g1 := below_in g0 hb1)
  | (go_at_call 103; refine H0.mono ?_; rintro x w0 ⟨rfl, hb0⟩
     have g0 := hb0
     have k1 := G1.out w0 g0
     have c0_0 := GC.out w0 g0 0 _ rfl
     have c0_1 := GC.out w0 g0 1 _ rfl
     have c0_2 := GC.out w0 g0 2 _ rfl
     have c0_3 := GC.out w0 g0 3 _ rfl
     have c0_4 := GC.out w0 g0 4 _ rfl
     have c0_5 := GC.out w0 g0 5 _ rfl
     have c0_6 := GC.out w0 g0 6 _ rfl
     have c0_7 := GC.out w0 g0 7 _ rfl
     have c0_8 := GC.out w0 g0 8 _ rfl
     have c0_9 := GC.out w0 g0 9 _ rfl
     have c0_10 := GC.out w0 g0 10 _ rfl
     have c0_11 := GC.out w0 g0 11 _ rfl
     have c0_12 := GC.out w0 g0 12 _ rfl
     have c0_13 := GC.out w0 g0 13 _ rfl
     have c0_14 := GC.out w0 g0 14 _ rfl
     have c0_15 := GC.out w0 g0 15 _ rfl))
 go_ret
 exact ⟨ret_bool HS.out.symm, below_in HBA.out g1⟩
theorem shaped_p2 (room typ sender : ByteArray) (st : Bool) (key : ByteArray) (k i : Int) (t : ByteArray) (ks : List ByteArray) (l : List J) (prev auth : List ByteArray) (depth ts : Int) (hash : ByteArray) (sigs : List (ByteArray × ByteArray)) (pk : Option Addr) (ck : Nat) (pl : Option Addr) (cl : Nat) (pp : Option Addr) (cp : Nat) (pa : Option Addr) (ca : Nat) (ps : Option Addr) (cs : Nat) (w : World) (X : ShC room typ sender st key k i t ks l prev auth depth ts hash sigs pk ck pl cl pp cp pa ca ps cs w) (e0 : placedE ⟨room, typ, sender, st, key, ⟨k, i, t, ks, l⟩, prev, auth, depth, ts, hash, sigs⟩ = true) (e1 : keyedE ⟨room, typ, sender, st, key, ⟨k, i, t, ks, l⟩, prev, auth, depth, ts, hash, sigs⟩ = true) (e2 : filledE ⟨k, i, t, ks, l⟩ = false) :
    Calls Tryz.prog 77 #[.agg #[.string room, .string typ, .string sender, .bool st, .string key, .int .i64 k, .int .i64 i, .string t, .slice pk ks.length ck, .slice pl l.length cl, .slice pp prev.length cp, .slice pa auth.length ca, .int .i64 depth, .int .i64 ts, .string hash, .slice ps sigs.length cs]] w fun x w' => x = .returned (.bool (shapedE ⟨room, typ, sender, st, key, ⟨k, i, t, ks, l⟩, prev, auth, depth, ts, hash, sigs⟩)) ∧ Below w.heap.size w w' := by
 have HS : Hid (shapedE ⟨room, typ, sender, st, key, ⟨k, i, t, ks, l⟩, prev, auth, depth, ts, hash, sigs⟩ = false) := by
  show _ = _
  unfold shapedE
  simp only [e0, e1, e2]
  simp
 have H0 := X.h0 _ (Below.refl _ _)
 rw [e0] at H0
 have H1 := X.h1
 rw [e1] at H1
 have H2 := X.h2
 rw [e2] at H2
 have HC := X.cells
 have HBA : Hid (Below w.heap.size w (w.alloc (.cells #[.string room, .string typ, .string sender, .bool st, .string key, .int .i64 k, .int .i64 i, .string t, .slice pk ks.length ck, .slice pl l.length cl, .slice pp prev.length cp, .slice pa auth.length ca, .int .i64 depth, .int .i64 ts, .string hash, .slice ps sigs.length cs] 28))) := X.below
 have G1 : Hid _ := H1
 have G2 : Hid _ := H2
 have GC : Hid _ := HC
 clear X HC e0 e1 e2 H1 H2
 go_enter Tryz.func77, Tryz.ntmps77
 go_wp2_with (first
  | (go_at_call 105; refine k2.mono ?_; rintro x w2 ⟨rfl, hb2⟩
     have g2 := below_in g1 hb2)
  | (go_at_call 104; refine k1.mono ?_; rintro x w1 ⟨rfl, hb1⟩
     have g1 := below_in g0 hb1
     have k2 := G2.out w1 g1
     have c1_5 := GC.out w1 g1 5 _ rfl
     have c1_6 := GC.out w1 g1 6 _ rfl
     have c1_7 := GC.out w1 g1 7 _ rfl
     have c1_8 := GC.out w1 g1 8 _ rfl
     have c1_9 := GC.out w1 g1 9 _ rfl)
  | (go_at_call 103; refine H0.mono ?_; rintro x w0 ⟨rfl, hb0⟩
     have g0 := hb0
     have k1 := G1.out w0 g0
     have c0_0 := GC.out w0 g0 0 _ rfl
     have c0_1 := GC.out w0 g0 1 _ rfl
     have c0_2 := GC.out w0 g0 2 _ rfl
     have c0_3 := GC.out w0 g0 3 _ rfl
     have c0_4 := GC.out w0 g0 4 _ rfl
     have c0_5 := GC.out w0 g0 5 _ rfl
     have c0_6 := GC.out w0 g0 6 _ rfl
     have c0_7 := GC.out w0 g0 7 _ rfl
     have c0_8 := GC.out w0 g0 8 _ rfl
     have c0_9 := GC.out w0 g0 9 _ rfl
     have c0_10 := GC.out w0 g0 10 _ rfl
     have c0_11 := GC.out w0 g0 11 _ rfl
     have c0_12 := GC.out w0 g0 12 _ rfl
     have c0_13 := GC.out w0 g0 13 _ rfl
     have c0_14 := GC.out w0 g0 14 _ rfl
     have c0_15 := GC.out w0 g0 15 _ rfl))
 go_ret
 exact ⟨ret_bool HS.out.symm, below_in HBA.out g2⟩
theorem shaped_p3 (room typ sender : ByteArray) (st : Bool) (key : ByteArray) (k i : Int) (t : ByteArray) (ks : List ByteArray) (l : List J) (prev auth : List ByteArray) (depth ts : Int) (hash : ByteArray) (sigs : List (ByteArray × ByteArray)) (pk : Option Addr) (ck : Nat) (pl : Option Addr) (cl : Nat) (pp : Option Addr) (cp : Nat) (pa : Option Addr) (ca : Nat) (ps : Option Addr) (cs : Nat) (w : World) (X : ShC room typ sender st key k i t ks l prev auth depth ts hash sigs pk ck pl cl pp cp pa ca ps cs w) (e0 : placedE ⟨room, typ, sender, st, key, ⟨k, i, t, ks, l⟩, prev, auth, depth, ts, hash, sigs⟩ = true) (e1 : keyedE ⟨room, typ, sender, st, key, ⟨k, i, t, ks, l⟩, prev, auth, depth, ts, hash, sigs⟩ = true) (e2 : filledE ⟨k, i, t, ks, l⟩ = true) (e3 : namedE 20 prev = false) :
    Calls Tryz.prog 77 #[.agg #[.string room, .string typ, .string sender, .bool st, .string key, .int .i64 k, .int .i64 i, .string t, .slice pk ks.length ck, .slice pl l.length cl, .slice pp prev.length cp, .slice pa auth.length ca, .int .i64 depth, .int .i64 ts, .string hash, .slice ps sigs.length cs]] w fun x w' => x = .returned (.bool (shapedE ⟨room, typ, sender, st, key, ⟨k, i, t, ks, l⟩, prev, auth, depth, ts, hash, sigs⟩)) ∧ Below w.heap.size w w' := by
 have HS : Hid (shapedE ⟨room, typ, sender, st, key, ⟨k, i, t, ks, l⟩, prev, auth, depth, ts, hash, sigs⟩ = false) := by
  show _ = _
  unfold shapedE
  simp only [e0, e1, e2, e3]
  simp
 have H0 := X.h0 _ (Below.refl _ _)
 rw [e0] at H0
 have H1 := X.h1
 rw [e1] at H1
 have H2 := X.h2
 rw [e2] at H2
 have H3 := X.h3
 rw [e3] at H3
 have HC := X.cells
 have HBA : Hid (Below w.heap.size w (w.alloc (.cells #[.string room, .string typ, .string sender, .bool st, .string key, .int .i64 k, .int .i64 i, .string t, .slice pk ks.length ck, .slice pl l.length cl, .slice pp prev.length cp, .slice pa auth.length ca, .int .i64 depth, .int .i64 ts, .string hash, .slice ps sigs.length cs] 28))) := X.below
 have G1 : Hid _ := H1
 have G2 : Hid _ := H2
 have G3 : Hid _ := H3
 have GC : Hid _ := HC
 clear X HC e0 e1 e2 e3 H1 H2 H3
 go_enter Tryz.func77, Tryz.ntmps77
 go_wp2_with (first
  | (go_at_call 106; refine k3.mono ?_; rintro x w3 ⟨rfl, hb3⟩
     have g3 := below_in g2 hb3)
  | (go_at_call 105; refine k2.mono ?_; rintro x w2 ⟨rfl, hb2⟩
     have g2 := below_in g1 hb2
     have k3 := G3.out w2 g2
     have c2_10 := GC.out w2 g2 10 _ rfl)
  | (go_at_call 104; refine k1.mono ?_; rintro x w1 ⟨rfl, hb1⟩
     have g1 := below_in g0 hb1
     have k2 := G2.out w1 g1
     have c1_5 := GC.out w1 g1 5 _ rfl
     have c1_6 := GC.out w1 g1 6 _ rfl
     have c1_7 := GC.out w1 g1 7 _ rfl
     have c1_8 := GC.out w1 g1 8 _ rfl
     have c1_9 := GC.out w1 g1 9 _ rfl)
  | (go_at_call 103; refine H0.mono ?_; rintro x w0 ⟨rfl, hb0⟩
     have g0 := hb0
     have k1 := G1.out w0 g0
     have c0_0 := GC.out w0 g0 0 _ rfl
     have c0_1 := GC.out w0 g0 1 _ rfl
     have c0_2 := GC.out w0 g0 2 _ rfl
     have c0_3 := GC.out w0 g0 3 _ rfl
     have c0_4 := GC.out w0 g0 4 _ rfl
     have c0_5 := GC.out w0 g0 5 _ rfl
     have c0_6 := GC.out w0 g0 6 _ rfl
     have c0_7 := GC.out w0 g0 7 _ rfl
     have c0_8 := GC.out w0 g0 8 _ rfl
     have c0_9 := GC.out w0 g0 9 _ rfl
     have c0_10 := GC.out w0 g0 10 _ rfl
     have c0_11 := GC.out w0 g0 11 _ rfl
     have c0_12 := GC.out w0 g0 12 _ rfl
     have c0_13 := GC.out w0 g0 13 _ rfl
     have c0_14 := GC.out w0 g0 14 _ rfl
     have c0_15 := GC.out w0 g0 15 _ rfl))
 go_ret
 exact ⟨ret_bool HS.out.symm, below_in HBA.out g3⟩
theorem shaped_p4 (room typ sender : ByteArray) (st : Bool) (key : ByteArray) (k i : Int) (t : ByteArray) (ks : List ByteArray) (l : List J) (prev auth : List ByteArray) (depth ts : Int) (hash : ByteArray) (sigs : List (ByteArray × ByteArray)) (pk : Option Addr) (ck : Nat) (pl : Option Addr) (cl : Nat) (pp : Option Addr) (cp : Nat) (pa : Option Addr) (ca : Nat) (ps : Option Addr) (cs : Nat) (w : World) (X : ShC room typ sender st key k i t ks l prev auth depth ts hash sigs pk ck pl cl pp cp pa ca ps cs w) (e0 : placedE ⟨room, typ, sender, st, key, ⟨k, i, t, ks, l⟩, prev, auth, depth, ts, hash, sigs⟩ = true) (e1 : keyedE ⟨room, typ, sender, st, key, ⟨k, i, t, ks, l⟩, prev, auth, depth, ts, hash, sigs⟩ = true) (e2 : filledE ⟨k, i, t, ks, l⟩ = true) (e3 : namedE 20 prev = true) (e4 : namedE 10 auth = false) :
    Calls Tryz.prog 77 #[.agg #[.string room, .string typ, .string sender, .bool st, .string key, .int .i64 k, .int .i64 i, .string t, .slice pk ks.length ck, .slice pl l.length cl, .slice pp prev.length cp, .slice pa auth.length ca, .int .i64 depth, .int .i64 ts, .string hash, .slice ps sigs.length cs]] w fun x w' => x = .returned (.bool (shapedE ⟨room, typ, sender, st, key, ⟨k, i, t, ks, l⟩, prev, auth, depth, ts, hash, sigs⟩)) ∧ Below w.heap.size w w' := by
 have HS : Hid (shapedE ⟨room, typ, sender, st, key, ⟨k, i, t, ks, l⟩, prev, auth, depth, ts, hash, sigs⟩ = false) := by
  show _ = _
  unfold shapedE
  simp only [e0, e1, e2, e3, e4]
  simp
 have H0 := X.h0 _ (Below.refl _ _)
 rw [e0] at H0
 have H1 := X.h1
 rw [e1] at H1
 have H2 := X.h2
 rw [e2] at H2
 have H3 := X.h3
 rw [e3] at H3
 have H4 := X.h4
 rw [e4] at H4
 have HC := X.cells
 have HBA : Hid (Below w.heap.size w (w.alloc (.cells #[.string room, .string typ, .string sender, .bool st, .string key, .int .i64 k, .int .i64 i, .string t, .slice pk ks.length ck, .slice pl l.length cl, .slice pp prev.length cp, .slice pa auth.length ca, .int .i64 depth, .int .i64 ts, .string hash, .slice ps sigs.length cs] 28))) := X.below
 have G1 : Hid _ := H1
 have G2 : Hid _ := H2
 have G3 : Hid _ := H3
 have G4 : Hid _ := H4
 have GC : Hid _ := HC
 clear X HC e0 e1 e2 e3 e4 H1 H2 H3 H4
 go_enter Tryz.func77, Tryz.ntmps77
 go_wp2_with (first
  | (go_at_call 106; refine k4.mono ?_; rintro x w4 ⟨rfl, hb4⟩
     have g4 := below_in g3 hb4)
  | (go_at_call 106; refine k3.mono ?_; rintro x w3 ⟨rfl, hb3⟩
     have g3 := below_in g2 hb3
     have k4 := G4.out w3 g3
     have c3_11 := GC.out w3 g3 11 _ rfl)
  | (go_at_call 105; refine k2.mono ?_; rintro x w2 ⟨rfl, hb2⟩
     have g2 := below_in g1 hb2
     have k3 := G3.out w2 g2
     have c2_10 := GC.out w2 g2 10 _ rfl)
  | (go_at_call 104; refine k1.mono ?_; rintro x w1 ⟨rfl, hb1⟩
     have g1 := below_in g0 hb1
     have k2 := G2.out w1 g1
     have c1_5 := GC.out w1 g1 5 _ rfl
     have c1_6 := GC.out w1 g1 6 _ rfl
     have c1_7 := GC.out w1 g1 7 _ rfl
     have c1_8 := GC.out w1 g1 8 _ rfl
     have c1_9 := GC.out w1 g1 9 _ rfl)
  | (go_at_call 103; refine H0.mono ?_; rintro x w0 ⟨rfl, hb0⟩
     have g0 := hb0
     have k1 := G1.out w0 g0
     have c0_0 := GC.out w0 g0 0 _ rfl
     have c0_1 := GC.out w0 g0 1 _ rfl
     have c0_2 := GC.out w0 g0 2 _ rfl
     have c0_3 := GC.out w0 g0 3 _ rfl
     have c0_4 := GC.out w0 g0 4 _ rfl
     have c0_5 := GC.out w0 g0 5 _ rfl
     have c0_6 := GC.out w0 g0 6 _ rfl
     have c0_7 := GC.out w0 g0 7 _ rfl
     have c0_8 := GC.out w0 g0 8 _ rfl
     have c0_9 := GC.out w0 g0 9 _ rfl
     have c0_10 := GC.out w0 g0 10 _ rfl
     have c0_11 := GC.out w0 g0 11 _ rfl
     have c0_12 := GC.out w0 g0 12 _ rfl
     have c0_13 := GC.out w0 g0 13 _ rfl
     have c0_14 := GC.out w0 g0 14 _ rfl
     have c0_15 := GC.out w0 g0 15 _ rfl))
 go_ret
 exact ⟨ret_bool HS.out.symm, below_in HBA.out g4⟩
theorem shaped_p5 (room typ sender : ByteArray) (st : Bool) (key : ByteArray) (k i : Int) (t : ByteArray) (ks : List ByteArray) (l : List J) (prev auth : List ByteArray) (depth ts : Int) (hash : ByteArray) (sigs : List (ByteArray × ByteArray)) (pk : Option Addr) (ck : Nat) (pl : Option Addr) (cl : Nat) (pp : Option Addr) (cp : Nat) (pa : Option Addr) (ca : Nat) (ps : Option Addr) (cs : Nat) (w : World) (X : ShC room typ sender st key k i t ks l prev auth depth ts hash sigs pk ck pl cl pp cp pa ca ps cs w) (e0 : placedE ⟨room, typ, sender, st, key, ⟨k, i, t, ks, l⟩, prev, auth, depth, ts, hash, sigs⟩ = true) (e1 : keyedE ⟨room, typ, sender, st, key, ⟨k, i, t, ks, l⟩, prev, auth, depth, ts, hash, sigs⟩ = true) (e2 : filledE ⟨k, i, t, ks, l⟩ = true) (e3 : namedE 20 prev = true) (e4 : namedE 10 auth = true) (e5 : withinE depth 1099511627776 = false) :
    Calls Tryz.prog 77 #[.agg #[.string room, .string typ, .string sender, .bool st, .string key, .int .i64 k, .int .i64 i, .string t, .slice pk ks.length ck, .slice pl l.length cl, .slice pp prev.length cp, .slice pa auth.length ca, .int .i64 depth, .int .i64 ts, .string hash, .slice ps sigs.length cs]] w fun x w' => x = .returned (.bool (shapedE ⟨room, typ, sender, st, key, ⟨k, i, t, ks, l⟩, prev, auth, depth, ts, hash, sigs⟩)) ∧ Below w.heap.size w w' := by
 have HS : Hid (shapedE ⟨room, typ, sender, st, key, ⟨k, i, t, ks, l⟩, prev, auth, depth, ts, hash, sigs⟩ = false) := by
  show _ = _
  unfold shapedE
  simp only [e0, e1, e2, e3, e4, e5]
  simp
 have H0 := X.h0 _ (Below.refl _ _)
 rw [e0] at H0
 have H1 := X.h1
 rw [e1] at H1
 have H2 := X.h2
 rw [e2] at H2
 have H3 := X.h3
 rw [e3] at H3
 have H4 := X.h4
 rw [e4] at H4
 have H5 := X.h5
 rw [e5] at H5
 have HC := X.cells
 have HBA : Hid (Below w.heap.size w (w.alloc (.cells #[.string room, .string typ, .string sender, .bool st, .string key, .int .i64 k, .int .i64 i, .string t, .slice pk ks.length ck, .slice pl l.length cl, .slice pp prev.length cp, .slice pa auth.length ca, .int .i64 depth, .int .i64 ts, .string hash, .slice ps sigs.length cs] 28))) := X.below
 have G1 : Hid _ := H1
 have G2 : Hid _ := H2
 have G3 : Hid _ := H3
 have G4 : Hid _ := H4
 have G5 : Hid _ := H5
 have GC : Hid _ := HC
 clear X HC e0 e1 e2 e3 e4 e5 H1 H2 H3 H4 H5
 go_enter Tryz.func77, Tryz.ntmps77
 go_wp2_with (first
  | (go_at_call 107; refine k5.mono ?_; rintro x w5 ⟨rfl, hb5⟩
     have g5 := below_in g4 hb5)
  | (go_at_call 106; refine k4.mono ?_; rintro x w4 ⟨rfl, hb4⟩
     have g4 := below_in g3 hb4
     have k5 := G5.out w4 g4
     have c4_12 := GC.out w4 g4 12 _ rfl)
  | (go_at_call 106; refine k3.mono ?_; rintro x w3 ⟨rfl, hb3⟩
     have g3 := below_in g2 hb3
     have k4 := G4.out w3 g3
     have c3_11 := GC.out w3 g3 11 _ rfl)
  | (go_at_call 105; refine k2.mono ?_; rintro x w2 ⟨rfl, hb2⟩
     have g2 := below_in g1 hb2
     have k3 := G3.out w2 g2
     have c2_10 := GC.out w2 g2 10 _ rfl)
  | (go_at_call 104; refine k1.mono ?_; rintro x w1 ⟨rfl, hb1⟩
     have g1 := below_in g0 hb1
     have k2 := G2.out w1 g1
     have c1_5 := GC.out w1 g1 5 _ rfl
     have c1_6 := GC.out w1 g1 6 _ rfl
     have c1_7 := GC.out w1 g1 7 _ rfl
     have c1_8 := GC.out w1 g1 8 _ rfl
     have c1_9 := GC.out w1 g1 9 _ rfl)
  | (go_at_call 103; refine H0.mono ?_; rintro x w0 ⟨rfl, hb0⟩
     have g0 := hb0
     have k1 := G1.out w0 g0
     have c0_0 := GC.out w0 g0 0 _ rfl
     have c0_1 := GC.out w0 g0 1 _ rfl
     have c0_2 := GC.out w0 g0 2 _ rfl
     have c0_3 := GC.out w0 g0 3 _ rfl
     have c0_4 := GC.out w0 g0 4 _ rfl
     have c0_5 := GC.out w0 g0 5 _ rfl
     have c0_6 := GC.out w0 g0 6 _ rfl
     have c0_7 := GC.out w0 g0 7 _ rfl
     have c0_8 := GC.out w0 g0 8 _ rfl
     have c0_9 := GC.out w0 g0 9 _ rfl
     have c0_10 := GC.out w0 g0 10 _ rfl
     have c0_11 := GC.out w0 g0 11 _ rfl
     have c0_12 := GC.out w0 g0 12 _ rfl
     have c0_13 := GC.out w0 g0 13 _ rfl
     have c0_14 := GC.out w0 g0 14 _ rfl
     have c0_15 := GC.out w0 g0 15 _ rfl))
 go_ret
 exact ⟨ret_bool HS.out.symm, below_in HBA.out g5⟩
theorem shaped_p6 (room typ sender : ByteArray) (st : Bool) (key : ByteArray) (k i : Int) (t : ByteArray) (ks : List ByteArray) (l : List J) (prev auth : List ByteArray) (depth ts : Int) (hash : ByteArray) (sigs : List (ByteArray × ByteArray)) (pk : Option Addr) (ck : Nat) (pl : Option Addr) (cl : Nat) (pp : Option Addr) (cp : Nat) (pa : Option Addr) (ca : Nat) (ps : Option Addr) (cs : Nat) (w : World) (X : ShC room typ sender st key k i t ks l prev auth depth ts hash sigs pk ck pl cl pp cp pa ca ps cs w) (e0 : placedE ⟨room, typ, sender, st, key, ⟨k, i, t, ks, l⟩, prev, auth, depth, ts, hash, sigs⟩ = true) (e1 : keyedE ⟨room, typ, sender, st, key, ⟨k, i, t, ks, l⟩, prev, auth, depth, ts, hash, sigs⟩ = true) (e2 : filledE ⟨k, i, t, ks, l⟩ = true) (e3 : namedE 20 prev = true) (e4 : namedE 10 auth = true) (e5 : withinE depth 1099511627776 = true) (e6 : withinE ts maxInt = false) :
    Calls Tryz.prog 77 #[.agg #[.string room, .string typ, .string sender, .bool st, .string key, .int .i64 k, .int .i64 i, .string t, .slice pk ks.length ck, .slice pl l.length cl, .slice pp prev.length cp, .slice pa auth.length ca, .int .i64 depth, .int .i64 ts, .string hash, .slice ps sigs.length cs]] w fun x w' => x = .returned (.bool (shapedE ⟨room, typ, sender, st, key, ⟨k, i, t, ks, l⟩, prev, auth, depth, ts, hash, sigs⟩)) ∧ Below w.heap.size w w' := by
 have HS : Hid (shapedE ⟨room, typ, sender, st, key, ⟨k, i, t, ks, l⟩, prev, auth, depth, ts, hash, sigs⟩ = false) := by
  show _ = _
  unfold shapedE
  simp only [e0, e1, e2, e3, e4, e5, e6]
  simp
 have H0 := X.h0 _ (Below.refl _ _)
 rw [e0] at H0
 have H1 := X.h1
 rw [e1] at H1
 have H2 := X.h2
 rw [e2] at H2
 have H3 := X.h3
 rw [e3] at H3
 have H4 := X.h4
 rw [e4] at H4
 have H5 := X.h5
 rw [e5] at H5
 have H6 := X.h6
 rw [e6] at H6
 have HC := X.cells
 have HBA : Hid (Below w.heap.size w (w.alloc (.cells #[.string room, .string typ, .string sender, .bool st, .string key, .int .i64 k, .int .i64 i, .string t, .slice pk ks.length ck, .slice pl l.length cl, .slice pp prev.length cp, .slice pa auth.length ca, .int .i64 depth, .int .i64 ts, .string hash, .slice ps sigs.length cs] 28))) := X.below
 have G1 : Hid _ := H1
 have G2 : Hid _ := H2
 have G3 : Hid _ := H3
 have G4 : Hid _ := H4
 have G5 : Hid _ := H5
 have G6 : Hid _ := H6
 have GC : Hid _ := HC
 clear X HC e0 e1 e2 e3 e4 e5 e6 H1 H2 H3 H4 H5 H6
 go_enter Tryz.func77, Tryz.ntmps77
 go_wp2_with (first
  | (go_at_call 107; refine k6.mono ?_; rintro x w6 ⟨rfl, hb6⟩
     have g6 := below_in g5 hb6)
  | (go_at_call 107; refine k5.mono ?_; rintro x w5 ⟨rfl, hb5⟩
     have g5 := below_in g4 hb5
     have k6 := G6.out w5 g5
     have c5_13 := GC.out w5 g5 13 _ rfl)
  | (go_at_call 106; refine k4.mono ?_; rintro x w4 ⟨rfl, hb4⟩
     have g4 := below_in g3 hb4
     have k5 := G5.out w4 g4
     have c4_12 := GC.out w4 g4 12 _ rfl)
  | (go_at_call 106; refine k3.mono ?_; rintro x w3 ⟨rfl, hb3⟩
     have g3 := below_in g2 hb3
     have k4 := G4.out w3 g3
     have c3_11 := GC.out w3 g3 11 _ rfl)
  | (go_at_call 105; refine k2.mono ?_; rintro x w2 ⟨rfl, hb2⟩
     have g2 := below_in g1 hb2
     have k3 := G3.out w2 g2
     have c2_10 := GC.out w2 g2 10 _ rfl)
  | (go_at_call 104; refine k1.mono ?_; rintro x w1 ⟨rfl, hb1⟩
     have g1 := below_in g0 hb1
     have k2 := G2.out w1 g1
     have c1_5 := GC.out w1 g1 5 _ rfl
     have c1_6 := GC.out w1 g1 6 _ rfl
     have c1_7 := GC.out w1 g1 7 _ rfl
     have c1_8 := GC.out w1 g1 8 _ rfl
     have c1_9 := GC.out w1 g1 9 _ rfl)
  | (go_at_call 103; refine H0.mono ?_; rintro x w0 ⟨rfl, hb0⟩
     have g0 := hb0
     have k1 := G1.out w0 g0
     have c0_0 := GC.out w0 g0 0 _ rfl
     have c0_1 := GC.out w0 g0 1 _ rfl
     have c0_2 := GC.out w0 g0 2 _ rfl
     have c0_3 := GC.out w0 g0 3 _ rfl
     have c0_4 := GC.out w0 g0 4 _ rfl
     have c0_5 := GC.out w0 g0 5 _ rfl
     have c0_6 := GC.out w0 g0 6 _ rfl
     have c0_7 := GC.out w0 g0 7 _ rfl
     have c0_8 := GC.out w0 g0 8 _ rfl
     have c0_9 := GC.out w0 g0 9 _ rfl
     have c0_10 := GC.out w0 g0 10 _ rfl
     have c0_11 := GC.out w0 g0 11 _ rfl
     have c0_12 := GC.out w0 g0 12 _ rfl
     have c0_13 := GC.out w0 g0 13 _ rfl
     have c0_14 := GC.out w0 g0 14 _ rfl
     have c0_15 := GC.out w0 g0 15 _ rfl))
 go_ret
 exact ⟨ret_bool HS.out.symm, below_in HBA.out g6⟩
theorem shaped_p7 (room typ sender : ByteArray) (st : Bool) (key : ByteArray) (k i : Int) (t : ByteArray) (ks : List ByteArray) (l : List J) (prev auth : List ByteArray) (depth ts : Int) (sigs : List (ByteArray × ByteArray)) (pk : Option Addr) (ck : Nat) (pl : Option Addr) (cl : Nat) (pp : Option Addr) (cp : Nat) (pa : Option Addr) (ca : Nat) (ps : Option Addr) (cs : Nat) (w : World) (X : ShC room typ sender st key k i t ks l prev auth depth ts ⟨#[]⟩ sigs pk ck pl cl pp cp pa ca ps cs w) (e0 : placedE ⟨room, typ, sender, st, key, ⟨k, i, t, ks, l⟩, prev, auth, depth, ts, ⟨#[]⟩, sigs⟩ = true) (e1 : keyedE ⟨room, typ, sender, st, key, ⟨k, i, t, ks, l⟩, prev, auth, depth, ts, ⟨#[]⟩, sigs⟩ = true) (e2 : filledE ⟨k, i, t, ks, l⟩ = true) (e3 : namedE 20 prev = true) (e4 : namedE 10 auth = true) (e5 : withinE depth 1099511627776 = true) (e6 : withinE ts maxInt = true) (e8 : signedE sigs = false) :
    Calls Tryz.prog 77 #[.agg #[.string room, .string typ, .string sender, .bool st, .string key, .int .i64 k, .int .i64 i, .string t, .slice pk ks.length ck, .slice pl l.length cl, .slice pp prev.length cp, .slice pa auth.length ca, .int .i64 depth, .int .i64 ts, .string ⟨#[]⟩, .slice ps sigs.length cs]] w fun x w' => x = .returned (.bool (shapedE ⟨room, typ, sender, st, key, ⟨k, i, t, ks, l⟩, prev, auth, depth, ts, ⟨#[]⟩, sigs⟩)) ∧ Below w.heap.size w w' := by
 have HS : Hid (shapedE ⟨room, typ, sender, st, key, ⟨k, i, t, ks, l⟩, prev, auth, depth, ts, ⟨#[]⟩, sigs⟩ = false) := by
  show _ = _
  unfold shapedE
  simp only [e0, e1, e2, e3, e4, e5, e6, e8]
  simp
 have H0 := X.h0 _ (Below.refl _ _)
 rw [e0] at H0
 have H1 := X.h1
 rw [e1] at H1
 have H2 := X.h2
 rw [e2] at H2
 have H3 := X.h3
 rw [e3] at H3
 have H4 := X.h4
 rw [e4] at H4
 have H5 := X.h5
 rw [e5] at H5
 have H6 := X.h6
 rw [e6] at H6
 have H8 := X.h8
 rw [e8] at H8
 have HC := X.cells
 have HBA : Hid (Below w.heap.size w (w.alloc (.cells #[.string room, .string typ, .string sender, .bool st, .string key, .int .i64 k, .int .i64 i, .string t, .slice pk ks.length ck, .slice pl l.length cl, .slice pp prev.length cp, .slice pa auth.length ca, .int .i64 depth, .int .i64 ts, .string ⟨#[]⟩, .slice ps sigs.length cs] 28))) := X.below
 have G1 : Hid _ := H1
 have G2 : Hid _ := H2
 have G3 : Hid _ := H3
 have G4 : Hid _ := H4
 have G5 : Hid _ := H5
 have G6 : Hid _ := H6
 have G8 : Hid _ := H8
 have GC : Hid _ := HC
 clear X HC e0 e1 e2 e3 e4 e5 e6 e8 H1 H2 H3 H4 H5 H6 H8
 go_enter Tryz.func77, Tryz.ntmps77
 go_wp2_with (first
  | (go_at_call 109; refine k8.mono ?_; rintro x w8 ⟨rfl, hb8⟩
     have g8 := below_in g6 hb8)
  | (go_at_call 107; refine k6.mono ?_; rintro x w6 ⟨rfl, hb6⟩
     have g6 := below_in g5 hb6
     have k8 := G8.out w6 g6
     have c6_14 := GC.out w6 g6 14 _ rfl
     have c6_15 := GC.out w6 g6 15 _ rfl)
  | (go_at_call 107; refine k5.mono ?_; rintro x w5 ⟨rfl, hb5⟩
     have g5 := below_in g4 hb5
     have k6 := G6.out w5 g5
     have c5_13 := GC.out w5 g5 13 _ rfl)
  | (go_at_call 106; refine k4.mono ?_; rintro x w4 ⟨rfl, hb4⟩
     have g4 := below_in g3 hb4
     have k5 := G5.out w4 g4
     have c4_12 := GC.out w4 g4 12 _ rfl)
  | (go_at_call 106; refine k3.mono ?_; rintro x w3 ⟨rfl, hb3⟩
     have g3 := below_in g2 hb3
     have k4 := G4.out w3 g3
     have c3_11 := GC.out w3 g3 11 _ rfl)
  | (go_at_call 105; refine k2.mono ?_; rintro x w2 ⟨rfl, hb2⟩
     have g2 := below_in g1 hb2
     have k3 := G3.out w2 g2
     have c2_10 := GC.out w2 g2 10 _ rfl)
  | (go_at_call 104; refine k1.mono ?_; rintro x w1 ⟨rfl, hb1⟩
     have g1 := below_in g0 hb1
     have k2 := G2.out w1 g1
     have c1_5 := GC.out w1 g1 5 _ rfl
     have c1_6 := GC.out w1 g1 6 _ rfl
     have c1_7 := GC.out w1 g1 7 _ rfl
     have c1_8 := GC.out w1 g1 8 _ rfl
     have c1_9 := GC.out w1 g1 9 _ rfl)
  | (go_at_call 103; refine H0.mono ?_; rintro x w0 ⟨rfl, hb0⟩
     have g0 := hb0
     have k1 := G1.out w0 g0
     have c0_0 := GC.out w0 g0 0 _ rfl
     have c0_1 := GC.out w0 g0 1 _ rfl
     have c0_2 := GC.out w0 g0 2 _ rfl
     have c0_3 := GC.out w0 g0 3 _ rfl
     have c0_4 := GC.out w0 g0 4 _ rfl
     have c0_5 := GC.out w0 g0 5 _ rfl
     have c0_6 := GC.out w0 g0 6 _ rfl
     have c0_7 := GC.out w0 g0 7 _ rfl
     have c0_8 := GC.out w0 g0 8 _ rfl
     have c0_9 := GC.out w0 g0 9 _ rfl
     have c0_10 := GC.out w0 g0 10 _ rfl
     have c0_11 := GC.out w0 g0 11 _ rfl
     have c0_12 := GC.out w0 g0 12 _ rfl
     have c0_13 := GC.out w0 g0 13 _ rfl
     have c0_14 := GC.out w0 g0 14 _ rfl
     have c0_15 := GC.out w0 g0 15 _ rfl))
 go_ret
 exact ⟨ret_bool HS.out.symm, below_in HBA.out g8⟩
theorem shaped_p8 (room typ sender : ByteArray) (st : Bool) (key : ByteArray) (k i : Int) (t : ByteArray) (ks : List ByteArray) (l : List J) (prev auth : List ByteArray) (depth ts : Int) (sigs : List (ByteArray × ByteArray)) (pk : Option Addr) (ck : Nat) (pl : Option Addr) (cl : Nat) (pp : Option Addr) (cp : Nat) (pa : Option Addr) (ca : Nat) (ps : Option Addr) (cs : Nat) (w : World) (X : ShC room typ sender st key k i t ks l prev auth depth ts ⟨#[]⟩ sigs pk ck pl cl pp cp pa ca ps cs w) (e0 : placedE ⟨room, typ, sender, st, key, ⟨k, i, t, ks, l⟩, prev, auth, depth, ts, ⟨#[]⟩, sigs⟩ = true) (e1 : keyedE ⟨room, typ, sender, st, key, ⟨k, i, t, ks, l⟩, prev, auth, depth, ts, ⟨#[]⟩, sigs⟩ = true) (e2 : filledE ⟨k, i, t, ks, l⟩ = true) (e3 : namedE 20 prev = true) (e4 : namedE 10 auth = true) (e5 : withinE depth 1099511627776 = true) (e6 : withinE ts maxInt = true) (e8 : signedE sigs = true) :
    Calls Tryz.prog 77 #[.agg #[.string room, .string typ, .string sender, .bool st, .string key, .int .i64 k, .int .i64 i, .string t, .slice pk ks.length ck, .slice pl l.length cl, .slice pp prev.length cp, .slice pa auth.length ca, .int .i64 depth, .int .i64 ts, .string ⟨#[]⟩, .slice ps sigs.length cs]] w fun x w' => x = .returned (.bool (shapedE ⟨room, typ, sender, st, key, ⟨k, i, t, ks, l⟩, prev, auth, depth, ts, ⟨#[]⟩, sigs⟩)) ∧ Below w.heap.size w w' := by
 have HS : Hid (shapedE ⟨room, typ, sender, st, key, ⟨k, i, t, ks, l⟩, prev, auth, depth, ts, ⟨#[]⟩, sigs⟩ = true) := by
  show _ = _
  unfold shapedE
  simp only [e0, e1, e2, e3, e4, e5, e6, e8]
  simp
  exact Or.inl rfl
 have H0 := X.h0 _ (Below.refl _ _)
 rw [e0] at H0
 have H1 := X.h1
 rw [e1] at H1
 have H2 := X.h2
 rw [e2] at H2
 have H3 := X.h3
 rw [e3] at H3
 have H4 := X.h4
 rw [e4] at H4
 have H5 := X.h5
 rw [e5] at H5
 have H6 := X.h6
 rw [e6] at H6
 have H8 := X.h8
 rw [e8] at H8
 have HC := X.cells
 have HBA : Hid (Below w.heap.size w (w.alloc (.cells #[.string room, .string typ, .string sender, .bool st, .string key, .int .i64 k, .int .i64 i, .string t, .slice pk ks.length ck, .slice pl l.length cl, .slice pp prev.length cp, .slice pa auth.length ca, .int .i64 depth, .int .i64 ts, .string ⟨#[]⟩, .slice ps sigs.length cs] 28))) := X.below
 have G1 : Hid _ := H1
 have G2 : Hid _ := H2
 have G3 : Hid _ := H3
 have G4 : Hid _ := H4
 have G5 : Hid _ := H5
 have G6 : Hid _ := H6
 have G8 : Hid _ := H8
 have GC : Hid _ := HC
 clear X HC e0 e1 e2 e3 e4 e5 e6 e8 H1 H2 H3 H4 H5 H6 H8
 go_enter Tryz.func77, Tryz.ntmps77
 go_wp2_with (first
  | (go_at_call 109; refine k8.mono ?_; rintro x w8 ⟨rfl, hb8⟩
     have g8 := below_in g6 hb8)
  | (go_at_call 107; refine k6.mono ?_; rintro x w6 ⟨rfl, hb6⟩
     have g6 := below_in g5 hb6
     have k8 := G8.out w6 g6
     have c6_14 := GC.out w6 g6 14 _ rfl
     have c6_15 := GC.out w6 g6 15 _ rfl)
  | (go_at_call 107; refine k5.mono ?_; rintro x w5 ⟨rfl, hb5⟩
     have g5 := below_in g4 hb5
     have k6 := G6.out w5 g5
     have c5_13 := GC.out w5 g5 13 _ rfl)
  | (go_at_call 106; refine k4.mono ?_; rintro x w4 ⟨rfl, hb4⟩
     have g4 := below_in g3 hb4
     have k5 := G5.out w4 g4
     have c4_12 := GC.out w4 g4 12 _ rfl)
  | (go_at_call 106; refine k3.mono ?_; rintro x w3 ⟨rfl, hb3⟩
     have g3 := below_in g2 hb3
     have k4 := G4.out w3 g3
     have c3_11 := GC.out w3 g3 11 _ rfl)
  | (go_at_call 105; refine k2.mono ?_; rintro x w2 ⟨rfl, hb2⟩
     have g2 := below_in g1 hb2
     have k3 := G3.out w2 g2
     have c2_10 := GC.out w2 g2 10 _ rfl)
  | (go_at_call 104; refine k1.mono ?_; rintro x w1 ⟨rfl, hb1⟩
     have g1 := below_in g0 hb1
     have k2 := G2.out w1 g1
     have c1_5 := GC.out w1 g1 5 _ rfl
     have c1_6 := GC.out w1 g1 6 _ rfl
     have c1_7 := GC.out w1 g1 7 _ rfl
     have c1_8 := GC.out w1 g1 8 _ rfl
     have c1_9 := GC.out w1 g1 9 _ rfl)
  | (go_at_call 103; refine H0.mono ?_; rintro x w0 ⟨rfl, hb0⟩
     have g0 := hb0
     have k1 := G1.out w0 g0
     have c0_0 := GC.out w0 g0 0 _ rfl
     have c0_1 := GC.out w0 g0 1 _ rfl
     have c0_2 := GC.out w0 g0 2 _ rfl
     have c0_3 := GC.out w0 g0 3 _ rfl
     have c0_4 := GC.out w0 g0 4 _ rfl
     have c0_5 := GC.out w0 g0 5 _ rfl
     have c0_6 := GC.out w0 g0 6 _ rfl
     have c0_7 := GC.out w0 g0 7 _ rfl
     have c0_8 := GC.out w0 g0 8 _ rfl
     have c0_9 := GC.out w0 g0 9 _ rfl
     have c0_10 := GC.out w0 g0 10 _ rfl
     have c0_11 := GC.out w0 g0 11 _ rfl
     have c0_12 := GC.out w0 g0 12 _ rfl
     have c0_13 := GC.out w0 g0 13 _ rfl
     have c0_14 := GC.out w0 g0 14 _ rfl
     have c0_15 := GC.out w0 g0 15 _ rfl))
 go_ret
 exact ⟨ret_bool HS.out.symm, below_in HBA.out g8⟩
theorem shaped_p9 (room typ sender : ByteArray) (st : Bool) (key : ByteArray) (k i : Int) (t : ByteArray) (ks : List ByteArray) (l : List J) (prev auth : List ByteArray) (depth ts : Int) (hash : ByteArray) (sigs : List (ByteArray × ByteArray)) (pk : Option Addr) (ck : Nat) (pl : Option Addr) (cl : Nat) (pp : Option Addr) (cp : Nat) (pa : Option Addr) (ca : Nat) (ps : Option Addr) (cs : Nat) (w : World) (X : ShC room typ sender st key k i t ks l prev auth depth ts hash sigs pk ck pl cl pp cp pa ca ps cs w) (hh : hash.toList.isEmpty = false) (hz0 : hash.size ≠ 0) (e0 : placedE ⟨room, typ, sender, st, key, ⟨k, i, t, ks, l⟩, prev, auth, depth, ts, hash, sigs⟩ = true) (e1 : keyedE ⟨room, typ, sender, st, key, ⟨k, i, t, ks, l⟩, prev, auth, depth, ts, hash, sigs⟩ = true) (e2 : filledE ⟨k, i, t, ks, l⟩ = true) (e3 : namedE 20 prev = true) (e4 : namedE 10 auth = true) (e5 : withinE depth 1099511627776 = true) (e6 : withinE ts maxInt = true) (e7 : digestE hash = false) :
    Calls Tryz.prog 77 #[.agg #[.string room, .string typ, .string sender, .bool st, .string key, .int .i64 k, .int .i64 i, .string t, .slice pk ks.length ck, .slice pl l.length cl, .slice pp prev.length cp, .slice pa auth.length ca, .int .i64 depth, .int .i64 ts, .string hash, .slice ps sigs.length cs]] w fun x w' => x = .returned (.bool (shapedE ⟨room, typ, sender, st, key, ⟨k, i, t, ks, l⟩, prev, auth, depth, ts, hash, sigs⟩)) ∧ Below w.heap.size w w' := by
 have HS : Hid (shapedE ⟨room, typ, sender, st, key, ⟨k, i, t, ks, l⟩, prev, auth, depth, ts, hash, sigs⟩ = false) := by
  show _ = _
  unfold shapedE
  simp only [e0, e1, e2, e3, e4, e5, e6, e7]
  simp [hz0]
 have H0 := X.h0 _ (Below.refl _ _)
 rw [e0] at H0
 have H1 := X.h1
 rw [e1] at H1
 have H2 := X.h2
 rw [e2] at H2
 have H3 := X.h3
 rw [e3] at H3
 have H4 := X.h4
 rw [e4] at H4
 have H5 := X.h5
 rw [e5] at H5
 have H6 := X.h6
 rw [e6] at H6
 have H7 := X.h7
 rw [e7] at H7
 have HC := X.cells
 have HBA : Hid (Below w.heap.size w (w.alloc (.cells #[.string room, .string typ, .string sender, .bool st, .string key, .int .i64 k, .int .i64 i, .string t, .slice pk ks.length ck, .slice pl l.length cl, .slice pp prev.length cp, .slice pa auth.length ca, .int .i64 depth, .int .i64 ts, .string hash, .slice ps sigs.length cs] 28))) := X.below
 have G1 : Hid _ := H1
 have G2 : Hid _ := H2
 have G3 : Hid _ := H3
 have G4 : Hid _ := H4
 have G5 : Hid _ := H5
 have G6 : Hid _ := H6
 have G7 : Hid _ := H7
 have GC : Hid _ := HC
 clear X HC e0 e1 e2 e3 e4 e5 e6 e7 H1 H2 H3 H4 H5 H6 H7
 clear hz0
 go_enter Tryz.func77, Tryz.ntmps77
 go_wp2_with (first
  | (go_at_call 108; refine k7.mono ?_; rintro x w7 ⟨rfl, hb7⟩
     have g7 := below_in g6 hb7
     have c7_15 := GC.out w7 g7 15 _ rfl)
  | (go_at_call 107; refine k6.mono ?_; rintro x w6 ⟨rfl, hb6⟩
     have g6 := below_in g5 hb6
     have k7 := G7.out w6 g6
     have c6_14 := GC.out w6 g6 14 _ rfl
     have c6_15 := GC.out w6 g6 15 _ rfl)
  | (go_at_call 107; refine k5.mono ?_; rintro x w5 ⟨rfl, hb5⟩
     have g5 := below_in g4 hb5
     have k6 := G6.out w5 g5
     have c5_13 := GC.out w5 g5 13 _ rfl)
  | (go_at_call 106; refine k4.mono ?_; rintro x w4 ⟨rfl, hb4⟩
     have g4 := below_in g3 hb4
     have k5 := G5.out w4 g4
     have c4_12 := GC.out w4 g4 12 _ rfl)
  | (go_at_call 106; refine k3.mono ?_; rintro x w3 ⟨rfl, hb3⟩
     have g3 := below_in g2 hb3
     have k4 := G4.out w3 g3
     have c3_11 := GC.out w3 g3 11 _ rfl)
  | (go_at_call 105; refine k2.mono ?_; rintro x w2 ⟨rfl, hb2⟩
     have g2 := below_in g1 hb2
     have k3 := G3.out w2 g2
     have c2_10 := GC.out w2 g2 10 _ rfl)
  | (go_at_call 104; refine k1.mono ?_; rintro x w1 ⟨rfl, hb1⟩
     have g1 := below_in g0 hb1
     have k2 := G2.out w1 g1
     have c1_5 := GC.out w1 g1 5 _ rfl
     have c1_6 := GC.out w1 g1 6 _ rfl
     have c1_7 := GC.out w1 g1 7 _ rfl
     have c1_8 := GC.out w1 g1 8 _ rfl
     have c1_9 := GC.out w1 g1 9 _ rfl)
  | (go_at_call 103; refine H0.mono ?_; rintro x w0 ⟨rfl, hb0⟩
     have g0 := hb0
     have k1 := G1.out w0 g0
     have c0_0 := GC.out w0 g0 0 _ rfl
     have c0_1 := GC.out w0 g0 1 _ rfl
     have c0_2 := GC.out w0 g0 2 _ rfl
     have c0_3 := GC.out w0 g0 3 _ rfl
     have c0_4 := GC.out w0 g0 4 _ rfl
     have c0_5 := GC.out w0 g0 5 _ rfl
     have c0_6 := GC.out w0 g0 6 _ rfl
     have c0_7 := GC.out w0 g0 7 _ rfl
     have c0_8 := GC.out w0 g0 8 _ rfl
     have c0_9 := GC.out w0 g0 9 _ rfl
     have c0_10 := GC.out w0 g0 10 _ rfl
     have c0_11 := GC.out w0 g0 11 _ rfl
     have c0_12 := GC.out w0 g0 12 _ rfl
     have c0_13 := GC.out w0 g0 13 _ rfl
     have c0_14 := GC.out w0 g0 14 _ rfl
     have c0_15 := GC.out w0 g0 15 _ rfl))
 go_ret
 exact ⟨ret_bool HS.out.symm, below_in HBA.out g7⟩
theorem shaped_p10 (room typ sender : ByteArray) (st : Bool) (key : ByteArray) (k i : Int) (t : ByteArray) (ks : List ByteArray) (l : List J) (prev auth : List ByteArray) (depth ts : Int) (hash : ByteArray) (sigs : List (ByteArray × ByteArray)) (pk : Option Addr) (ck : Nat) (pl : Option Addr) (cl : Nat) (pp : Option Addr) (cp : Nat) (pa : Option Addr) (ca : Nat) (ps : Option Addr) (cs : Nat) (w : World) (X : ShC room typ sender st key k i t ks l prev auth depth ts hash sigs pk ck pl cl pp cp pa ca ps cs w) (hh : hash.toList.isEmpty = false) (hz0 : hash.size ≠ 0) (e0 : placedE ⟨room, typ, sender, st, key, ⟨k, i, t, ks, l⟩, prev, auth, depth, ts, hash, sigs⟩ = true) (e1 : keyedE ⟨room, typ, sender, st, key, ⟨k, i, t, ks, l⟩, prev, auth, depth, ts, hash, sigs⟩ = true) (e2 : filledE ⟨k, i, t, ks, l⟩ = true) (e3 : namedE 20 prev = true) (e4 : namedE 10 auth = true) (e5 : withinE depth 1099511627776 = true) (e6 : withinE ts maxInt = true) (e7 : digestE hash = true) (e8 : signedE sigs = false) :
    Calls Tryz.prog 77 #[.agg #[.string room, .string typ, .string sender, .bool st, .string key, .int .i64 k, .int .i64 i, .string t, .slice pk ks.length ck, .slice pl l.length cl, .slice pp prev.length cp, .slice pa auth.length ca, .int .i64 depth, .int .i64 ts, .string hash, .slice ps sigs.length cs]] w fun x w' => x = .returned (.bool (shapedE ⟨room, typ, sender, st, key, ⟨k, i, t, ks, l⟩, prev, auth, depth, ts, hash, sigs⟩)) ∧ Below w.heap.size w w' := by
 have HS : Hid (shapedE ⟨room, typ, sender, st, key, ⟨k, i, t, ks, l⟩, prev, auth, depth, ts, hash, sigs⟩ = false) := by
  show _ = _
  unfold shapedE
  simp only [e0, e1, e2, e3, e4, e5, e6, e7, e8]
  simp [hz0]
 have H0 := X.h0 _ (Below.refl _ _)
 rw [e0] at H0
 have H1 := X.h1
 rw [e1] at H1
 have H2 := X.h2
 rw [e2] at H2
 have H3 := X.h3
 rw [e3] at H3
 have H4 := X.h4
 rw [e4] at H4
 have H5 := X.h5
 rw [e5] at H5
 have H6 := X.h6
 rw [e6] at H6
 have H7 := X.h7
 rw [e7] at H7
 have H8 := X.h8
 rw [e8] at H8
 have HC := X.cells
 have HBA : Hid (Below w.heap.size w (w.alloc (.cells #[.string room, .string typ, .string sender, .bool st, .string key, .int .i64 k, .int .i64 i, .string t, .slice pk ks.length ck, .slice pl l.length cl, .slice pp prev.length cp, .slice pa auth.length ca, .int .i64 depth, .int .i64 ts, .string hash, .slice ps sigs.length cs] 28))) := X.below
 have G1 : Hid _ := H1
 have G2 : Hid _ := H2
 have G3 : Hid _ := H3
 have G4 : Hid _ := H4
 have G5 : Hid _ := H5
 have G6 : Hid _ := H6
 have G7 : Hid _ := H7
 have G8 : Hid _ := H8
 have GC : Hid _ := HC
 clear X HC e0 e1 e2 e3 e4 e5 e6 e7 e8 H1 H2 H3 H4 H5 H6 H7 H8
 clear hz0
 go_enter Tryz.func77, Tryz.ntmps77
 go_wp2_with (first
  | (go_at_call 109; refine k8.mono ?_; rintro x w8 ⟨rfl, hb8⟩
     have g8 := below_in g7 hb8)
  | (go_at_call 108; refine k7.mono ?_; rintro x w7 ⟨rfl, hb7⟩
     have g7 := below_in g6 hb7
     have k8 := G8.out w7 g7
     have c7_15 := GC.out w7 g7 15 _ rfl)
  | (go_at_call 107; refine k6.mono ?_; rintro x w6 ⟨rfl, hb6⟩
     have g6 := below_in g5 hb6
     have k7 := G7.out w6 g6
     have c6_14 := GC.out w6 g6 14 _ rfl
     have c6_15 := GC.out w6 g6 15 _ rfl)
  | (go_at_call 107; refine k5.mono ?_; rintro x w5 ⟨rfl, hb5⟩
     have g5 := below_in g4 hb5
     have k6 := G6.out w5 g5
     have c5_13 := GC.out w5 g5 13 _ rfl)
  | (go_at_call 106; refine k4.mono ?_; rintro x w4 ⟨rfl, hb4⟩
     have g4 := below_in g3 hb4
     have k5 := G5.out w4 g4
     have c4_12 := GC.out w4 g4 12 _ rfl)
  | (go_at_call 106; refine k3.mono ?_; rintro x w3 ⟨rfl, hb3⟩
     have g3 := below_in g2 hb3
     have k4 := G4.out w3 g3
     have c3_11 := GC.out w3 g3 11 _ rfl)
  | (go_at_call 105; refine k2.mono ?_; rintro x w2 ⟨rfl, hb2⟩
     have g2 := below_in g1 hb2
     have k3 := G3.out w2 g2
     have c2_10 := GC.out w2 g2 10 _ rfl)
  | (go_at_call 104; refine k1.mono ?_; rintro x w1 ⟨rfl, hb1⟩
     have g1 := below_in g0 hb1
     have k2 := G2.out w1 g1
     have c1_5 := GC.out w1 g1 5 _ rfl
     have c1_6 := GC.out w1 g1 6 _ rfl
     have c1_7 := GC.out w1 g1 7 _ rfl
     have c1_8 := GC.out w1 g1 8 _ rfl
     have c1_9 := GC.out w1 g1 9 _ rfl)
  | (go_at_call 103; refine H0.mono ?_; rintro x w0 ⟨rfl, hb0⟩
     have g0 := hb0
     have k1 := G1.out w0 g0
     have c0_0 := GC.out w0 g0 0 _ rfl
     have c0_1 := GC.out w0 g0 1 _ rfl
     have c0_2 := GC.out w0 g0 2 _ rfl
     have c0_3 := GC.out w0 g0 3 _ rfl
     have c0_4 := GC.out w0 g0 4 _ rfl
     have c0_5 := GC.out w0 g0 5 _ rfl
     have c0_6 := GC.out w0 g0 6 _ rfl
     have c0_7 := GC.out w0 g0 7 _ rfl
     have c0_8 := GC.out w0 g0 8 _ rfl
     have c0_9 := GC.out w0 g0 9 _ rfl
     have c0_10 := GC.out w0 g0 10 _ rfl
     have c0_11 := GC.out w0 g0 11 _ rfl
     have c0_12 := GC.out w0 g0 12 _ rfl
     have c0_13 := GC.out w0 g0 13 _ rfl
     have c0_14 := GC.out w0 g0 14 _ rfl
     have c0_15 := GC.out w0 g0 15 _ rfl))
 go_ret
 exact ⟨ret_bool HS.out.symm, below_in HBA.out g8⟩
end Go.Proofs.YtldegjjaknelgaaGreatDoor

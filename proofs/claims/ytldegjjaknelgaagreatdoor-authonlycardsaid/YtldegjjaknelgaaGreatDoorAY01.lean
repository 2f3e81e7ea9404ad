/-
  Texts as numbers, rows of bytes as they are read, and what a call returns: general parts.
  What bytes of JSON say, as plain functions on lists of bytes.
  Worlds that keep all but some blocks; values of JSON as they lie in memory.
  Letters of a text, byte by byte: which stands where, and the first byte that is no letter's.
  Which values are good, how they are put in order, and which bytes they have: as plain functions.
  Keys that rise, and values in order.
  A region that draws its order: what only reads, in every world of a class that the region does not leave, may be taken first.
  The letters of bytes and the bytes of letters, as plain functions on lists of integers: what base.Encode and base.Decode tell.
  The small functions of base, by their contracts.
-/
import Derived.WalkKit
import Derived.WalkSpells
import Derived.WalkLawsBesides
import Derived.Laws.BytesArg
import Derived.Lib.Strings
import Derived.Lib.RuneBytes
import Derived.Lib.Bytealg
import Derived.Laws.RangeAny
import Derived.Lib.ItoaNum
import Derived.Orders
import Derived.Tactics2
import Derived.Laws.BitsLemmas
import Derived.Test.YtldegjjaknelgaaGreatDoorRows
set_option maxRecDepth 100000
set_option maxHeartbeats 16000000
namespace Go.Proofs.YtldegjjaknelgaaGreatDoor
open Go.RowKit
def ints (s : ByteArray) : List Int := s.data.toList.map fun c => (c.toNat : Int)
theorem ints_length (s : ByteArray) : (ints s).length = s.size := by simp [ints]
theorem ints_getD (s : ByteArray) (k : Nat) (h : k < s.size) : (ints s).getD k 0 = (s[k].toNat : Int) := by
 have h' : k < s.data.toList.length := by simpa using h
 simp only [ints, List.getD_eq_getElem?_getD, List.getElem?_map, List.getElem?_eq_getElem h', Option.map_some, Option.getD_some]
 rfl
theorem ints_extract (s : ByteArray) (k : Nat) : ints (s.extract k s.size) = (ints s).drop k := by
 simp only [ints, ByteArray.data_extract, Array.toList_extract, List.extract_eq_take_drop, List.map_take, List.map_drop]
 rw [List.take_of_length_le]
 have : (List.drop k (List.map (fun c : UInt8 => (c.toNat : Int)) s.data.toList)).length = s.size - k := by simp
 omega
theorem ints_str (l : List Int) (h : ∀ x ∈ l, 0 ≤ x ∧ x ≤ 255) : ints (strOfNums l) = l := by
 simp only [ints, strOfNums, List.map_map]
 conv => rhs; rw [← List.map_id l]
 refine List.map_congr_left fun x hx => ?_
 have := h x hx
 simp only [Function.comp, id_eq]
 have hx : x.toNat < 256 := by omega
 rw [UInt8.toNat_ofNat_of_lt' hx]
 omega
theorem str_ints (s : ByteArray) : strOfNums (ints s) = s := by
 cases s with
 | mk d =>
  simp only [ints, strOfNums, List.map_map]
  have e : ((fun n : Int => UInt8.ofNat n.toNat) ∘ fun c : UInt8 => (c.toNat : Int)) = id := by
   funext c
   simp
  rw [e, List.map_id]
theorem str_size (l : List Int) : (strOfNums l).size = l.length := by
 show (strOfNums l).data.size = _
 simp [strOfNums]
theorem ret_bool {a b : Bool} (h : a = b) : Ending.returned (.bool a) = .returned (.bool b) := by rw [h]
theorem ret_str {a b : ByteArray} (h : a = b) : Ending.returned (.string a) = .returned (.string b) := by rw [h]
theorem add_block (a : Addr) (m : Nat) : (a.add m).block = a.block := by unfold Addr.add; split <;> rfl
theorem cell_row {w : World} {g t : Nat} {fr : Nat × Nat} {cur : List Value} (h : w.heap[g]? = some (.cells cur.toArray t fr)) (j : Nat) (v : Value) (hj : cur[j]? = some v) : w.cell? ⟨g, j, none⟩ = some v := by
 simp [World.cell?, h, hj]
theorem own_base {w : World} {B e size n : Nat} {v : Value} {xs : List Value} (h : w.ownsRow B e size v n xs) : ∀ k, v.ownBlock = some k → B ≤ k := by
 intro k hk
 rcases h.2 with ⟨rfl, _⟩ | ⟨g, cap, cur, rfl, hg, _⟩
 · cases hk
 · cases hk; exact hg
end Go.Proofs.YtldegjjaknelgaaGreatDoor
namespace Go.Proofs.YtldegjjaknelgaaGreatDoor
inductive J where
 | mk (kind int : Int) (text : ByteArray) (keys : List ByteArray) (list : List J)
def nix : ByteArray := ⟨#[]⟩
def J.zero : J := .mk 0 0 nix [] []
def J.kind : J → Int | .mk k _ _ _ _ => k
def J.int : J → Int | .mk _ i _ _ _ => i
def J.text : J → ByteArray | .mk _ _ t _ _ => t
def J.keys : J → List ByteArray | .mk _ _ _ ks _ => ks
def J.list : J → List J | .mk _ _ _ _ l => l
def byteAt (t : List Int) (i : Nat) : Int := t.getD i 0
def maxInt : Int := 9007199254740991
def lessB : List UInt8 → List UInt8 → Bool
 | [], [] => false
 | [], _ :: _ => true
 | _ :: _, [] => false
 | a :: x, b :: y => decide (a < b) || (decide (a = b) && lessB x y)
def putK (k : ByteArray) (v : J) : List (ByteArray × J) → List (ByteArray × J)
 | [] => [(k, v)]
 | q :: l => if lessB k.data.toList q.1.data.toList = true then (k, v) :: q :: l else q :: putK k v l
def sortK : List (ByteArray × J) → List (ByteArray × J)
 | [] => []
 | q :: l => putK q.1 q.2 (sortK l)
def mapOf (ks : List ByteArray) (l : List J) : J := .mk 5 0 nix ((sortK (ks.zip l)).map (·.1)) ((sortK (ks.zip l)).map (·.2))
theorem byteAt_lt {t : List Int} {p : Nat} (h : byteAt t p ≠ 0) : p < t.length := by
 unfold byteAt at h
 rcases Nat.lt_or_ge p t.length with h' | h'
 · exact h'
 · rw [List.getD_eq_getElem?_getD, List.getElem?_eq_none h'] at h; exact absurd rfl h
end Go.Proofs.YtldegjjaknelgaaGreatDoor
namespace Go.Proofs.YtldegjjaknelgaaGreatDoor
open Go.RowKit
structure Keep (S : Nat → Prop) (w w' : World) : Prop where
 os : w'.os = w.os
 tape : w'.tape = w.tape
 output : w'.output = w.output
 size : w.heap.size ≤ w'.heap.size
 block : ∀ k, k < w.heap.size → ¬ S k → w'.heap[k]? = w.heap[k]?
theorem Keep.refl (S : Nat → Prop) (w : World) : Keep S w w := ⟨rfl, rfl, rfl, Nat.le_refl _, fun _ _ _ => rfl⟩
theorem Keep.trans {S S' : Nat → Prop} {a b c : World} (h : Keep S a b) (k : Keep S' b c) (hS : ∀ i, i < a.heap.size → S' i → S i) : Keep S a c :=
 ⟨k.os.trans h.os, k.tape.trans h.tape, k.output.trans h.output, Nat.le_trans h.size k.size, fun i hi hn => (k.block i (Nat.lt_of_lt_of_le hi h.size) (fun h' => hn (hS i hi h'))).trans (h.block i hi hn)⟩
theorem Keep.then {S : Nat → Prop} {a b c : World} (h : Keep S a b) (k : Keep S b c) : Keep S a c := h.trans k fun _ _ h => h
theorem Keep.mono {S S' : Nat → Prop} {a b : World} (h : Keep S a b) (hS : ∀ i, i < a.heap.size → S i → S' i) : Keep S' a b :=
 ⟨h.os, h.tape, h.output, h.size, fun i hi hn => h.block i hi fun h' => hn (hS i hi h')⟩
theorem Keep.of_below {S : Nat → Prop} {a b : World} (h : Below a.heap.size a b) : Keep S a b := ⟨h.os, h.tape, h.output, h.size, fun k hk _ => h.block k hk⟩
theorem Keep.of_grown {S : Nat → Prop} {a b : World} {row : Option Nat} (h : a.grownBy b row) (hr : ∀ k, k < a.heap.size → row = some k → S k) : Keep S a b :=
 ⟨h.os, h.tape, h.output, h.size, fun k hk hn => h.block k hk fun e => hn (hr k hk e.symm)⟩
theorem Keep.below {S : Nat → Prop} {a b : World} (h : Keep S a b) {B : Nat} (hB : B ≤ a.heap.size) (hS : ∀ k, k < B → ¬ S k) : Below B a b :=
 ⟨h.os, h.tape, h.output, h.size, fun k hk => h.block k (Nat.lt_of_lt_of_le hk hB) (hS k hk)⟩
theorem Keep.cell {S : Nat → Prop} {a b : World} (h : Keep S a b) {p : Addr} (hp : p.block < a.heap.size) (hS : ¬ S p.block) : b.cell? p = a.cell? p := World.cell?_of_block (h.block _ hp hS)
theorem Keep.drew {S : Nat → Prop} {a b : World} (h : Keep S a b) : Keep S a b.drew := ⟨h.os, h.tape, h.output, h.size, h.block⟩
theorem Keep.drewN {S : Nat → Prop} {a b : World} (h : Keep S a b) (n : Nat) : Keep S a (b.drewN n) := ⟨h.os, h.tape, h.output, h.size, h.block⟩
theorem Keep.alloc {S : Nat → Prop} {a b : World} (h : Keep S a b) (o : Obj) : Keep S a (b.alloc o) :=
 h.trans (S' := fun _ => False) (Keep.of_below ((Below.refl _ _).alloc (Nat.le_refl _) o)) fun _ _ h => h.elim
theorem Keep.setCell {S : Nat → Prop} {a b : World} (h : Keep S a b) {p : Addr} (hp : p.block < a.heap.size → S p.block) (u : Value) : Keep S a (b.setCell p u) :=
 ⟨h.os, h.tape, h.output, by rw [show (b.setCell p u).heap.size = b.heap.size by simp]; exact h.size, fun k hk hn => by
  rw [Below.heap_setCell b p u k (fun e => hn (e ▸ hp (e ▸ hk)))]; exact h.block k hk hn⟩
theorem own_keep {S : Nat → Prop} {w w' : World} {B e size n : Nat} {v : Value} {xs : List Value} (h : w.ownsRow B e size v n xs) (hk : Keep S w w') (hS : ∀ k, v.ownBlock = some k → ¬ S k) : w'.ownsRow B e size v n xs := by
 refine ⟨h.1, ?_⟩
 rcases h.2 with hn | ⟨g, cap, cur, rfl, hg, hgg, rest⟩
 · exact .inl hn
 · exact .inr ⟨g, cap, cur, rfl, hg, by rw [hk.block g (Array.getElem?_eq_some_iff.1 hgg).1 (hS g rfl)]; exact hgg, rest⟩
def RdK (O : Nat → Prop) (w : World) (p : Option Addr) (c : Nat) (ks : List ByteArray) : Prop :=
 ks.length ≤ c ∧ ∀ j, j < ks.length → ∃ a, p = some a ∧ O a.block ∧ w.cell? (a.add j) = some (.string (ks.getD j nix))
theorem RdK.nil (O : Nat → Prop) (w : World) : RdK O w none 0 [] := ⟨Nat.le_refl _, fun j hj => absurd hj (by simp)⟩
theorem RdK.carry {O O' : Nat → Prop} {w w' : World} {p : Option Addr} {c : Nat} {ks : List ByteArray} (h : RdK O w p c ks) (hO : ∀ k, O k → O' k ∧ w'.heap[k]? = w.heap[k]?) : RdK O' w' p c ks :=
 ⟨h.1, fun j hj => by
  obtain ⟨a, ha, hB, hc⟩ := h.2 j hj
  exact ⟨a, ha, (hO _ hB).1, (World.cell?_of_block (by rw [add_block]; exact (hO _ hB).2)).trans hc⟩⟩
mutual
def isJ (O : Nat → Prop) (w : World) : J → List Value → Prop
 | .mk k i t ks l, cs => ∃ pk ck pl cl, cs = [.int .i64 k, .int .i64 i, .string t, .slice pk ks.length ck, .slice pl l.length cl] ∧ RdK O w pk ck ks ∧ l.length ≤ cl ∧ isJs O w pl 0 l
def isJs (O : Nat → Prop) (w : World) (p : Option Addr) : Nat → List J → Prop
 | _, [] => True
 | n, j :: r => (∃ b o cs, p = some ⟨b, o, none⟩ ∧ O b ∧ (∀ i v, cs[i]? = some v → w.cell? ⟨b, o + n * 5 + i, none⟩ = some v) ∧ isJ O w j cs) ∧ isJs O w p (n + 1) r
end
mutual
theorem isJ.carry {O O' : Nat → Prop} {w w' : World} (hO : ∀ k, O k → O' k ∧ w'.heap[k]? = w.heap[k]?) : ∀ (j : J) (cs : List Value), isJ O w j cs → isJ O' w' j cs
 | .mk k i t ks l, cs, h => by
  unfold isJ at h ⊢
  obtain ⟨pk, ck, pl, cl, e, h1, h2, h3⟩ := h
  exact ⟨pk, ck, pl, cl, e, h1.carry hO, h2, isJs.carry hO pl 0 l h3⟩
theorem isJs.carry {O O' : Nat → Prop} {w w' : World} (hO : ∀ k, O k → O' k ∧ w'.heap[k]? = w.heap[k]?) (p : Option Addr) : ∀ (n : Nat) (l : List J), isJs O w p n l → isJs O' w' p n l
 | _, [], _ => by unfold isJs; trivial
 | n, j :: r, h => by
  unfold isJs at h ⊢
  obtain ⟨⟨b, o, cs, ha, hB, hc, hj⟩, hr⟩ := h
  exact ⟨⟨b, o, cs, ha, (hO _ hB).1, fun i v hi => (World.cell?_of_block (a := ⟨b, o + n * 5 + i, none⟩) (hO _ hB).2).trans (hc i v hi), isJ.carry hO j cs hj⟩, isJs.carry hO p (n + 1) r hr⟩
end
theorem isJs.at {O : Nat → Prop} {w : World} {p : Option Addr} : ∀ (l : List J) (n i : Nat), isJs O w p n l → i < l.length →
    ∃ b o cs, p = some ⟨b, o, none⟩ ∧ O b ∧ (∀ m v, cs[m]? = some v → w.cell? ⟨b, o + (n + i) * 5 + m, none⟩ = some v) ∧ isJ O w (l.getD i J.zero) cs
 | [], _, _, _, hi => absurd hi (by simp)
 | j :: r, n, 0, h, _ => by
  unfold isJs at h
  simpa using h.1
 | j :: r, n, i + 1, h, hi => by
  unfold isJs at h
  have := isJs.at r (n + 1) i h.2 (by simpa using hi)
  rw [show n + 1 + i = n + (i + 1) by omega] at this
  simpa using this
def isRow (O : Nat → Prop) (w : World) : List J → List Value → Prop
 | [], xs => xs = []
 | j :: r, xs => ∃ cs ys, xs = cs ++ ys ∧ cs.length = 5 ∧ isJ O w j cs ∧ isRow O w r ys
theorem isRow.carry {O O' : Nat → Prop} {w w' : World} (hO : ∀ k, O k → O' k ∧ w'.heap[k]? = w.heap[k]?) : ∀ (l : List J) (xs : List Value), isRow O w l xs → isRow O' w' l xs
 | [], _, h => h
 | _ :: r, _, ⟨cs, ys, e, h5, hj, hr⟩ => ⟨cs, ys, e, h5, hj.carry hO, isRow.carry hO r ys hr⟩
theorem isRow.snoc {O : Nat → Prop} {w : World} {j : J} {cs : List Value} (h5 : cs.length = 5) (hj : isJ O w j cs) : ∀ (l : List J) (xs : List Value), isRow O w l xs → isRow O w (l ++ [j]) (xs ++ cs)
 | [], xs, h => by
  have h : xs = [] := h
  subst h
  exact ⟨cs, [], by simp, h5, hj, rfl⟩
 | i :: r, xs, ⟨ds, ys, e, h5', hi, hr⟩ => ⟨ds, ys ++ cs, by rw [e, List.append_assoc], h5', hi, isRow.snoc h5 hj r ys hr⟩
theorem isRow.isJs {O : Nat → Prop} {w : World} {b o : Nat} (ha : O b) : ∀ (l : List J) (xs : List Value) (n : Nat), isRow O w l xs → (∀ i v, xs[i]? = some v → w.cell? ⟨b, o + n * 5 + i, none⟩ = some v) → isJs O w (some ⟨b, o, none⟩) n l
 | [], _, _, _, _ => by unfold Go.Proofs.YtldegjjaknelgaaGreatDoor.isJs; trivial
 | j :: r, xs, n, ⟨cs, ys, e, h5, hj, hr⟩, hc => by
  unfold Go.Proofs.YtldegjjaknelgaaGreatDoor.isJs
  refine ⟨⟨b, o, cs, rfl, ha, fun i v hi => hc i v ?_, hj⟩, isRow.isJs ha r ys (n + 1) hr fun i v hi => ?_⟩
  · rw [e, List.getElem?_append_left (List.getElem?_eq_some_iff.1 hi).1]; exact hi
  · have := hc (5 + i) v (by rw [e, List.getElem?_append_right (by omega), h5]; simpa using hi)
    rw [show o + (n + 1) * 5 + i = o + n * 5 + (5 + i) by omega]
    exact this
theorem isJ.five {O : Nat → Prop} {w : World} {j : J} {cs : List Value} (h : isJ O w j cs) : cs.length = 5 := by
 cases j
 unfold isJ at h
 obtain ⟨_, _, _, _, rfl, _⟩ := h
 rfl
theorem isJ_zero (O : Nat → Prop) (w : World) : isJ O w J.zero [.int .i64 0, .int .i64 0, .string nix, .slice none 0 0, .slice none 0 0] := by
 unfold J.zero isJ
 exact ⟨none, 0, none, 0, rfl, RdK.nil _ _, Nat.le_refl _, by unfold isJs; trivial⟩
end Go.Proofs.YtldegjjaknelgaaGreatDoor
namespace Go.Proofs.YtldegjjaknelgaaGreatDoor
def contAt (t : List Int) (i : Nat) : Bool := decide (byteAt t i / 64 = 2)
def letterOk (c : Int) : Bool := (decide (c < 55296) || decide (57344 ≤ c)) && decide (c ≤ 1114111)
def runeAt (t : List Int) (p : Nat) : Int × Nat :=
 if byteAt t p < 128 then (byteAt t p, 1)
 else if (decide (byteAt t p / 32 = 6) && contAt t (p + 1)) = true then
  if 128 ≤ byteAt t p % 32 * 64 + byteAt t (p + 1) % 64 then (byteAt t p % 32 * 64 + byteAt t (p + 1) % 64, 2) else (0, 0)
 else if (decide (byteAt t p / 16 = 14) && contAt t (p + 1) && contAt t (p + 2)) = true then
  if (decide (2048 ≤ byteAt t p % 16 * 4096 + byteAt t (p + 1) % 64 * 64 + byteAt t (p + 2) % 64) && letterOk (byteAt t p % 16 * 4096 + byteAt t (p + 1) % 64 * 64 + byteAt t (p + 2) % 64)) = true
  then (byteAt t p % 16 * 4096 + byteAt t (p + 1) % 64 * 64 + byteAt t (p + 2) % 64, 3) else (0, 0)
 else if (decide (byteAt t p / 8 = 30) && contAt t (p + 1) && contAt t (p + 2) && contAt t (p + 3)) = true then
  if (decide (65536 ≤ byteAt t p % 8 * 262144 + byteAt t (p + 1) % 64 * 4096 + byteAt t (p + 2) % 64 * 64 + byteAt t (p + 3) % 64) && letterOk (byteAt t p % 8 * 262144 + byteAt t (p + 1) % 64 * 4096 + byteAt t (p + 2) % 64 * 64 + byteAt t (p + 3) % 64)) = true
  then (byteAt t p % 8 * 262144 + byteAt t (p + 1) % 64 * 4096 + byteAt t (p + 2) % 64 * 64 + byteAt t (p + 3) % 64, 4) else (0, 0)
 else (0, 0)
def strayL (t : List Int) : Nat → Nat → Option Nat
 | 0, _ => none
 | m + 1, p => if p < t.length then (if (runeAt t p).2 = 0 then some p else strayL t m (p + (runeAt t p).2)) else none
def stray (t : List Int) : Option Nat := strayL t t.length 0
theorem get_byte (s : ByteArray) (i : Nat) : ((s.get! i).toNat : Int) = byteAt (ints s) i := by
 unfold byteAt
 by_cases h : i < s.size
 · rw [ints_getD s i h]
   have : s.get! i = s[i] := by simp [ByteArray.get!, getElem!_pos, h]; rfl
   rw [this]
 · rw [List.getD_eq_getElem?_getD, List.getElem?_eq_none (by rw [ints_length]; omega)]
   have : s.get! i = 0 := by
    have hd : ¬ i < s.data.size := h
    show s.data[i]! = 0
    rw [getElem!_neg s.data i hd]; rfl
   rw [this]; rfl
theorem byte_bd (s : ByteArray) (i : Nat) : 0 ≤ byteAt (ints s) i ∧ byteAt (ints s) i ≤ 255 := by
 rw [← get_byte]
 have := (s.get! i).toNat_lt
 omega
theorem byte_past (s : ByteArray) (i : Nat) (h : s.size ≤ i) : byteAt (ints s) i = 0 := by
 unfold byteAt
 rw [List.getD_eq_getElem?_getD, List.getElem?_eq_none (by rw [ints_length]; omega)]
 rfl
theorem cont_eq (s : ByteArray) (i : Nat) : (decide (i < s.size) && ((s.get! i).toNat / 64 == 2)) = contAt (ints s) i := by
 unfold contAt
 have h1 := get_byte s i
 by_cases h : i < s.size
 · rw [decide_eq_true h, Bool.true_and, Bool.eq_iff_iff]
   simp
   omega
 · rw [decide_eq_false h, byte_past s i (by omega)]
   rfl
theorem valid_eq (c : Nat) : Utf8.valid c = letterOk c := by
 unfold Utf8.valid letterOk
 rw [Bool.eq_iff_iff]
 simp
 omega
theorem decode_rune (s : ByteArray) (p : Nat) : Utf8.decode s p = if (runeAt (ints s) p).2 = 0 then (65533, 1) else ((runeAt (ints s) p).1.toNat, (runeAt (ints s) p).2) := by
 have g0 := get_byte s p
 have g1 := get_byte s (p + 1)
 have g2 := get_byte s (p + 2)
 have g3 := get_byte s (p + 3)
 have e1 := cont_eq s (p + 1)
 have e2 := cont_eq s (p + 2)
 have e3 := cont_eq s (p + 3)
 unfold Utf8.decode runeAt
 simp only [Nat.add_zero]
 rw [e1, e2, e3]
 obtain ⟨b0, h0⟩ : ∃ b, (s.get! p).toNat = b := ⟨_, rfl⟩
 obtain ⟨b1, h1⟩ : ∃ b, (s.get! (p + 1)).toNat = b := ⟨_, rfl⟩
 obtain ⟨b2, h2⟩ : ∃ b, (s.get! (p + 2)).toNat = b := ⟨_, rfl⟩
 obtain ⟨b3, h3⟩ : ∃ b, (s.get! (p + 3)).toNat = b := ⟨_, rfl⟩
 simp only [h0, h1, h2, h3] at g0 g1 g2 g3 ⊢
 rw [← g0, ← g1, ← g2, ← g3]
 generalize contAt (ints s) (p + 1) = k1
 generalize contAt (ints s) (p + 2) = k2
 generalize contAt (ints s) (p + 3) = k3
 have f1 : (b0 / 32 == 6) = decide ((b0 : Int) / 32 = 6) := by rw [Bool.eq_iff_iff]; simp; omega
 have f2 : (b0 / 16 == 14) = decide ((b0 : Int) / 16 = 14) := by rw [Bool.eq_iff_iff]; simp; omega
 have f3 : (b0 / 8 == 30) = decide ((b0 : Int) / 8 = 30) := by rw [Bool.eq_iff_iff]; simp; omega
 rw [f1, f2, f3]
 by_cases c0 : b0 < 128
 · have c0' : (b0 : Int) < 128 := by omega
   rw [if_pos c0, if_pos c0']
   simp
 have c0' : ¬ (b0 : Int) < 128 := by omega
 rw [if_neg c0, if_neg c0']
 by_cases c1 : (decide ((b0 : Int) / 32 = 6) && k1) = true
 · rw [if_pos c1, if_pos c1]
   by_cases c2 : 128 ≤ b0 % 32 * 64 + b1 % 64
   · have c2' : (128 : Int) ≤ (b0 : Int) % 32 * 64 + (b1 : Int) % 64 := by omega
     rw [if_pos c2, if_pos c2']
     simp
     omega
   · have c2' : ¬ (128 : Int) ≤ (b0 : Int) % 32 * 64 + (b1 : Int) % 64 := by omega
     rw [if_neg c2, if_neg c2']
     rfl
 rw [if_neg c1, if_neg c1]
 by_cases c3 : (decide ((b0 : Int) / 16 = 14) && k1 && k2) = true
 · rw [if_pos c3, if_pos c3]
   have ec : ((b0 % 16 * 4096 + b1 % 64 * 64 + b2 % 64 : Nat) : Int) = (b0 : Int) % 16 * 4096 + (b1 : Int) % 64 * 64 + (b2 : Int) % 64 := by omega
   rw [← ec]
   generalize b0 % 16 * 4096 + b1 % 64 * 64 + b2 % 64 = c
   by_cases c4 : 2048 ≤ c
   · rw [valid_eq c]
     have c4' : (2048 : Int) ≤ c := by omega
     rw [show decide (c ≥ 2048) = true from decide_eq_true c4, decide_eq_true c4', Bool.true_and]
     split
     · simp
     · rfl
   · have c4' : ¬ (2048 : Int) ≤ c := by omega
     rw [show decide (c ≥ 2048) = false from decide_eq_false c4, decide_eq_false c4']
     rfl
 rw [if_neg c3, if_neg c3]
 by_cases c5 : (decide ((b0 : Int) / 8 = 30) && k1 && k2 && k3) = true
 · rw [if_pos c5, if_pos c5]
   have ec : ((b0 % 8 * 262144 + b1 % 64 * 4096 + b2 % 64 * 64 + b3 % 64 : Nat) : Int) = (b0 : Int) % 8 * 262144 + (b1 : Int) % 64 * 4096 + (b2 : Int) % 64 * 64 + (b3 : Int) % 64 := by omega
   rw [← ec]
   generalize b0 % 8 * 262144 + b1 % 64 * 4096 + b2 % 64 * 64 + b3 % 64 = c
   by_cases c4 : 65536 ≤ c
   · rw [valid_eq c]
     have c4' : (65536 : Int) ≤ c := by omega
     rw [show decide (c ≥ 65536) = true from decide_eq_true c4, decide_eq_true c4', Bool.true_and]
     split
     · simp
     · rfl
   · have c4' : ¬ (65536 : Int) ≤ c := by omega
     rw [show decide (c ≥ 65536) = false from decide_eq_false c4, decide_eq_false c4']
     rfl
 rw [if_neg c5, if_neg c5]
 rfl
theorem rune_width (t : List Int) (p : Nat) : (runeAt t p).2 ≤ 4 := by
 unfold runeAt
 repeat' split
 all_goals simp
theorem rune_fffd (t : List Int) (p : Nat) (h0 : byteAt t p = 239) (h1 : byteAt t (p + 1) = 191) (h2 : byteAt t (p + 2) = 189) : runeAt t p = (65533, 3) := by
 unfold runeAt contAt
 rw [h0, h1, h2, if_neg (by decide), if_neg (by decide), if_pos (by decide), if_pos (by decide)]
 rfl
theorem rune_is (t : List Int) (p : Nat) (hb : ∀ i, 0 ≤ byteAt t i ∧ byteAt t i ≤ 255) (h : (runeAt t p).2 ≠ 0) (hr : (runeAt t p).1 = 65533) : byteAt t p = 239 ∧ byteAt t (p + 1) = 191 ∧ byteAt t (p + 2) = 189 := by
 have q0 := hb p
 have q1 := hb (p + 1)
 have q2 := hb (p + 2)
 have q3 := hb (p + 3)
 unfold runeAt contAt at h hr
 generalize byteAt t p = b0 at *
 generalize byteAt t (p + 1) = b1 at *
 generalize byteAt t (p + 2) = b2 at *
 generalize byteAt t (p + 3) = b3 at *
 repeat' split at hr
 all_goals simp_all
 all_goals omega
def noKeyTwice : List ByteArray → Bool
 | [] => true
 | k :: r => !(r.any fun x => decide (x.data = k.data)) && noKeyTwice r
def letters (s : ByteArray) : Bool := (stray (ints s)).isNone
def bare : J → Bool
 | .mk k i t ks l => (decide (i = 0) || decide (k = 1) || decide (k = 2)) && (decide (t.size = 0) || decide (k = 3)) && (decide (ks.length = 0) || decide (k = 5)) && (decide (l.length = 0) || decide (k = 4) || decide (k = 5))
def goodJ : Nat → J → Bool
 | 0, _ => false
 | d + 1, .mk k i t ks l => bare (.mk k i t ks l) &&
  (if k = 0 then true
   else if k = 1 then decide (i = 0) || decide (i = 1)
   else if k = 2 then decide (-maxInt ≤ i) && decide (i ≤ maxInt)
   else if k = 3 then letters t
   else if k = 4 then l.all (goodJ d)
   else if k = 5 then decide (ks.length = l.length) && (ks.all letters && noKeyTwice ks) && l.all (goodJ d)
   else false)
mutual
def ord : J → J
 | .mk k i t ks l => if k = 5 then mapOf ks (ordL l) else .mk k i t [] (ordL l)
def ordL : List J → List J
 | [] => []
 | j :: r => ord j :: ordL r
end
def hexd (n : Int) : Int := if n < 10 then 48 + n else 87 + n
def escByte (c : Int) : List Int :=
 if c = 34 then [92, 34] else if c = 92 then [92, 92] else if c = 8 then [92, 98] else if c = 9 then [92, 116] else if c = 10 then [92, 110]
 else if c = 12 then [92, 102] else if c = 13 then [92, 114] else if c < 32 then [92, 117, 48, 48, hexd (c / 16), hexd (c % 16)] else [c]
def quote (t : List Int) : List Int := 34 :: (t.flatMap escByte ++ [34])
def numB (n : Int) : List Int := (Lib.itoa n).map fun c => (c.toNat : Int)
mutual
def enc' : J → List Int
 | .mk k i t ks l =>
  if k = 0 then [110, 117, 108, 108]
  else if k = 1 then (if i = 1 then [116, 114, 117, 101] else [102, 97, 108, 115, 101])
  else if k = 2 then numB i
  else if k = 3 then quote (ints t)
  else if k = 4 then 91 :: (encL true l ++ [93])
  else if k = 5 then 123 :: (encP true ks l ++ [125])
  else []
def encL (first : Bool) : List J → List Int
 | [] => []
 | j :: r => (if first then [] else [44]) ++ (enc' j ++ encL false r)
def encP (first : Bool) (ks : List ByteArray) : List J → List Int
 | [] => []
 | j :: r => (if first then [] else [44]) ++ (quote (ints (ks.headD nix)) ++ (58 :: (enc' j ++ encP false ks.tail r)))
end
def Put (o s o' : List Int) : Prop := ((o ++ s).length ≤ 16384 ∧ o' = o ++ s) ∨ (16384 < (o ++ s).length ∧ 16384 < o'.length)
theorem Put.nil (o : List Int) : Put o [] o := by
 unfold Put
 rw [List.append_nil]
 rcases Nat.lt_or_ge 16384 o.length with h | h
 · exact .inr ⟨h, h⟩
 · exact .inl ⟨h, rfl⟩
theorem Put.trans {o s o' s' o'' : List Int} (h : Put o s o') (h' : Put o' s' o'') : Put o (s ++ s') o'' := by
 unfold Put at h h' ⊢
 rw [← List.append_assoc]
 rcases h with ⟨h1, rfl⟩ | ⟨h1, h2⟩
 · exact h'
 · rcases h' with ⟨h3, rfl⟩ | ⟨_, h3⟩
   · right
     simp only [List.length_append] at h1 h3 ⊢
     omega
   · right
     simp only [List.length_append] at h1 ⊢
     exact ⟨by omega, h3⟩
theorem Put.one (o s : List Int) : Put o s (if 16384 < o.length then o else o ++ s) := by
 unfold Put
 split
 · rename_i h
   right
   simp only [List.length_append]
   exact ⟨by omega, h⟩
 · rcases Nat.lt_or_ge 16384 (o ++ s).length with h | h
   · exact .inr ⟨h, h⟩
   · exact .inl ⟨h, rfl⟩
theorem lessB_irrefl : ∀ x : List UInt8, lessB x x = false
 | [] => rfl
 | a :: x => by unfold lessB; rw [lessB_irrefl x]; simp
theorem lessB_trans : ∀ x y z : List UInt8, lessB x y = true → lessB y z = true → lessB x z = true
 | [], [], _, h, _ => by cases h
 | [], _ :: _, [], _, h => by cases h
 | [], _ :: _, _ :: _, _, _ => rfl
 | _ :: _, [], _, h, _ => by cases h
 | _ :: _, _ :: _, [], _, h => by cases h
 | a :: x, b :: y, c :: z, h, h' => by
  unfold lessB at h h' ⊢
  simp only [Bool.or_eq_true, Bool.and_eq_true, decide_eq_true_eq] at h h' ⊢
  rcases h with h | ⟨rfl, h⟩
  · rcases h' with h' | ⟨rfl, h'⟩
    · exact .inl (UInt8.lt_trans h h')
    · exact .inl h
  · rcases h' with h' | ⟨rfl, h'⟩
    · exact .inl h'
    · exact .inr ⟨rfl, lessB_trans x y z h h'⟩
theorem lessB_total : ∀ x y : List UInt8, x ≠ y → lessB x y = true ∨ lessB y x = true
 | [], [], h => absurd rfl h
 | [], _ :: _, _ => .inl rfl
 | _ :: _, [], _ => .inr rfl
 | a :: x, b :: y, h => by
  unfold lessB
  simp only [Bool.or_eq_true, Bool.and_eq_true, decide_eq_true_eq]
  rcases UInt8.lt_or_lt_of_ne (a := a) (b := b) |> fun f => (Classical.em (a = b)).imp id f with rfl | h' | h'
  · rcases lessB_total x y (fun e => h (by rw [e])) with h' | h'
    · exact .inl (.inr ⟨rfl, h'⟩)
    · exact .inr (.inr ⟨rfl, h'⟩)
  · exact .inl (.inl h')
  · exact .inr (.inl h')
def ltK (a b : ByteArray) : Bool := lessB a.data.toList b.data.toList
theorem ltK_irrefl (a : ByteArray) : ltK a a = false := lessB_irrefl _
theorem ltK_trans {a b c : ByteArray} (h : ltK a b = true) (h' : ltK b c = true) : ltK a c = true := lessB_trans _ _ _ h h'
theorem ltK_total {a b : ByteArray} (h : a ≠ b) : ltK a b = true ∨ ltK b a = true := by
 refine lessB_total _ _ fun e => h ?_
 cases a; cases b
 simp only at e
 rw [Array.toList_inj.1 e]
def rises : List ByteArray → Bool
 | [] => true
 | k :: r => r.all (ltK k) && rises r
mutual
def inOrd : J → Bool
 | .mk _ _ _ ks l => rises ks && inOrdL l
def inOrdL : List J → Bool
 | [] => true
 | j :: r => inOrd j && inOrdL r
end
theorem mem_putK {k : ByteArray} {v : J} {x : ByteArray × J} : ∀ (q : List (ByteArray × J)), x ∈ putK k v q ↔ x = (k, v) ∨ x ∈ q
 | [] => by simp [putK]
 | y :: q => by
  unfold putK
  split
  · simp
  · rw [List.mem_cons, mem_putK q, List.mem_cons]
    constructor
    · rintro (h | h | h)
      · exact .inr (.inl h)
      · exact .inl h
      · exact .inr (.inr h)
    · rintro (h | h | h)
      · exact .inr (.inl h)
      · exact .inl h
      · exact .inr (.inr h)
theorem mem_sortK {x : ByteArray × J} : ∀ (q : List (ByteArray × J)), x ∈ sortK q ↔ x ∈ q
 | [] => Iff.rfl
 | y :: q => by
  unfold sortK
  rw [mem_putK, mem_sortK q, List.mem_cons]
theorem putK_rises {k : ByteArray} {v : J} : ∀ (q : List (ByteArray × J)), rises (q.map (·.1)) = true → (∀ x ∈ q, x.1 ≠ k) → rises ((putK k v q).map (·.1)) = true
 | [], _, _ => rfl
 | y :: q, h, hn => by
  simp only [List.map_cons, rises, Bool.and_eq_true] at h
  unfold putK
  split
  · rename_i hl
    simp only [List.map_cons, rises, Bool.and_eq_true, List.all_cons]
    refine ⟨⟨hl, List.all_eq_true.2 fun z hz => ltK_trans hl (List.all_eq_true.1 h.1 z hz)⟩, h.1, h.2⟩
  · rename_i hl
    have hyk : ltK y.1 k = true := by
     rcases ltK_total (hn y (by simp)) with h' | h'
     · exact h'
     · exact absurd h' hl
    simp only [List.map_cons, rises, Bool.and_eq_true]
    refine ⟨List.all_eq_true.2 fun z hz => ?_, putK_rises q h.2 fun x hx => hn x (by simp [hx])⟩
    obtain ⟨x, hx, rfl⟩ := List.mem_map.1 hz
    rcases (mem_putK q).1 hx with rfl | hx
    · exact hyk
    · exact List.all_eq_true.1 h.1 _ (List.mem_map.2 ⟨x, hx, rfl⟩)
def apartK (q : List (ByteArray × J)) : Prop := q.Pairwise fun x y => x.1 ≠ y.1
theorem sortK_rises' : ∀ (q : List (ByteArray × J)), apartK q → rises ((sortK q).map (·.1)) = true
 | [], _ => rfl
 | y :: q, h => by
  unfold sortK
  have h' := List.pairwise_cons.1 h
  exact putK_rises _ (sortK_rises' q h'.2) fun x hx => (h'.1 x ((mem_sortK q).1 hx)).symm
theorem putK_length {k : ByteArray} {v : J} : ∀ (q : List (ByteArray × J)), (putK k v q).length = q.length + 1
 | [] => rfl
 | y :: q => by
  unfold putK
  split
  · rfl
  · simp [putK_length q]
theorem sortK_length : ∀ (q : List (ByteArray × J)), (sortK q).length = q.length
 | [] => rfl
 | y :: q => by unfold sortK; rw [putK_length, sortK_length q]; rfl
end Go.Proofs.YtldegjjaknelgaaGreatDoor
namespace Go.Proofs.YtldegjjaknelgaaGreatDoor
open Go
section
variable {P : Program} {ops : Array Oper} {Q : Exit → Act → World → Prop} {md : Region.Mode} {C : World → Prop}
theorem upon_late {x y : Oper} {v : Value} {a : Act} {K : Act → World → Prop} {r : Result Next} (hxy : ∀ d, x.dst = some d → y.dst ≠ some d)
    (hQ : ∀ c a w, Q (.panic c) (a.put x.dst v) w → Q (.panic c) a w) (R : Act → Prop) (hR : ∀ u, R (a.put y.dst u)) (hD : ∀ d u, R ({ a with defers := d :: a.defers }.put y.dst u))
    (h : y.upon P (a.put x.dst v) K Q r) : y.upon P a (fun a' w' => R a' ∧ K (a'.put x.dst v) w') Q r := by
 match r with
 | .ok (.value u) w' => exact ⟨hR u, (Act.put_comm a v u hxy) ▸ h⟩
 | .ok .skip w' => exact ⟨hR _, (Act.put_comm a v undef hxy) ▸ h⟩
 | .ok (.defer d) w' =>
  refine ⟨hD d _, ?_⟩
  rw [← Act.put_comm _ v undef hxy, ← Act.put_defers]
  exact h
 | .ok (.enter f args) w' =>
  refine Calls.mono h fun e w'' he => ?_
  match e with
  | .returned u => exact ⟨hR u, (Act.put_comm a v u hxy) ▸ he⟩
  | .panicked c => exact hQ _ _ _ he
  | .outgrown => exact he
 | .ok (.row row args) w' => exact Rows.mono h fun u w'' he => ⟨hR u, (Act.put_comm a v u hxy) ▸ he⟩
 | .halt (.panic u) w' => exact hQ _ _ _ h
 | .halt .blocked _ => exact h
 | .halt .waiting _ => exact h
 | .halt (.stuck _) _ => exact h
 | .halt (.unsupported _) _ => exact h
theorem wpOp_late {j : Nat} {x y : Oper} {v : Value} (hj : ops[j]? = some y) (hap : x.apart ops y = true) (hx : ∀ cs b, x.op ≠ .select cs b) (hy : ∀ cs b, y.op ≠ .select cs b)
    (hQ : ∀ c a w, Q (.panic c) (a.put x.dst v) w → Q (.panic c) a w) {K : Act → World → Prop} {a : Act} {w : World} (h : wpOp P ops Q j K (a.put x.dst v) w) :
    wpOp P ops Q j (fun a' w' => (execOp a'.eval x = execOp a.eval x ∧ Region.wanted x (yielded ops a'.tmps) = Region.wanted x (yielded ops a.tmps)) ∧ K (a'.put x.dst v) w') a w := by
 obtain ⟨h1, h2, h3⟩ := Oper.apart_spec hap
 have hR : ∀ u, execOp (a.put y.dst u).eval x = execOp a.eval x ∧ Region.wanted x (yielded ops (a.put y.dst u).tmps) = Region.wanted x (yielded ops a.tmps) :=
  fun u => ⟨execOp_put x hx a y.dst u h3, wanted_put x a y.dst u h3⟩
 have hD : ∀ (d : Deferred) u, execOp ({ a with defers := d :: a.defers }.put y.dst u : Act).eval x = execOp a.eval x ∧ Region.wanted x (yielded ops ({ a with defers := d :: a.defers }.put y.dst u : Act).tmps) = Region.wanted x (yielded ops a.tmps) :=
  fun d u => ⟨execOp_put x hx { a with defers := d :: a.defers } y.dst u h3, wanted_put x { a with defers := d :: a.defers } y.dst u h3⟩
 have e1 := wanted_put y a x.dst v h1
 have e2 := execOp_put y hy a x.dst v h1
 unfold wpOp at h ⊢
 simp only [hj] at h ⊢
 rw [e1] at h
 by_cases hw : Region.wanted y (yielded ops a.tmps) = true
 · rw [if_pos hw] at h ⊢
   rcases h with h | ⟨ha, hl⟩
   · left
     unfold Oper.wp at h ⊢
     rw [e2] at h
     exact upon_late h2 hQ (fun a' => execOp a'.eval x = execOp a.eval x ∧ Region.wanted x (yielded ops a'.tmps) = Region.wanted x (yielded ops a.tmps)) hR hD h
   · right
     unfold Oper.asks at ha ⊢
     rw [e2] at ha
     exact ⟨ha, hl⟩
 · rw [if_neg hw] at h ⊢
   exact ⟨hR _, (Act.put_comm a v undef h2) ▸ h⟩
def wpIn (P : Program) (md : Region.Mode) (ops : Array Oper) (Q : Exit → Act → World → Prop) (C : World → Prop) : Nat → Array Bool → Act → World → Prop
 | 0, listed, a, w => C w ∧ Region.ready md ops listed = [] ∧ Q .normal a w
 | n + 1, listed, a, w => C w ∧ (Region.ready md ops listed = [] → Q .normal a w) ∧ ∀ i ∈ Region.ready md ops listed, wpOp P ops Q i (wpIn P md ops Q C n (listed.setIfInBounds i true)) a w
theorem wpIn.any : ∀ {n : Nat} {listed : Array Bool} {a : Act} {w : World}, wpIn P md ops Q C n listed a w → wpAny P md ops Q n listed a w
 | 0, _, _, _, h => h.2
 | _ + 1, _, _, _, h => ⟨h.2.1, fun i hi => wpOp_mono (fun _ _ h' => wpIn.any h') (h.2.2 i hi)⟩
def Quiet (P : Program) (ops : Array Oper) (C : World → Prop) (o : Oper) (v : Value) (a : Act) : Prop :=
 (Region.wanted o (yielded ops a.tmps) = true ∧ ∀ w, C w → (execOp a.eval o).run P w = .ok (.value v) w) ∨ (Region.wanted o (yielded ops a.tmps) = false ∧ v = undef)
theorem Quiet.op {i : Nat} {o : Oper} {v : Value} {a : Act} (hi : ops[i]? = some o) (hy : Quiet P ops C o v a) {K : Act → World → Prop} {w : World} (hC : C w) (h : K (a.put o.dst v) w) : wpOp P ops Q i K a w := by
 unfold wpOp
 rw [hi]
 simp only
 rcases hy with ⟨hw, hv⟩ | ⟨hw, rfl⟩
 · rw [if_pos hw]
   left
   unfold Oper.wp
   rw [hv w hC]
   exact h
 · rw [if_neg (by rw [hw]; exact Bool.false_ne_true)]
   exact h
theorem wpIn_first {i : Nat} {o : Oper} {v : Value} (hi : ops[i]? = some o) (hs : Region.noSelect ops = true) (hQ : ∀ c a w, Q (.panic c) (a.put o.dst v) w → Q (.panic c) a w) :
    ∀ (n : Nat) (listed : Array Bool) (a : Act) (w : World),
     (∀ j y, ops[j]? = some y → j ≠ i → listed.getD j true = false → (∀ e ∈ y.after, Region.binds md e = true → e.on ≠ i) → o.apart ops y = true) →
     i ∈ Region.ready md ops listed → Quiet P ops C o v a → wpIn P md ops Q C n (listed.setIfInBounds i true) (a.put o.dst v) w → wpIn P md ops Q C (n + 1) listed a w := by
 intro n
 induction n with
 | zero =>
  intro listed a w _ hr hy H
  refine ⟨H.1, fun h => (by rw [h] at hr; cases hr), fun j hj => ?_⟩
  by_cases hji : j = i
  · subst hji; exact hy.op hi H.1 H
  · have h' := ready_mono hj hji
    rw [H.2.1] at h'
    cases h'
 | succ n ih =>
  intro listed a w hfree hr hy H
  refine ⟨H.1, fun h => (by rw [h] at hr; cases hr), fun j hj => ?_⟩
  by_cases hji : j = i
  · subst hji; exact hy.op hi H.1 H
  · obtain ⟨hjun, y, hoy, hall⟩ := mem_ready.1 hj
    have hnot : ∀ e ∈ y.after, Region.binds md e = true → e.on ≠ i := by
     intro e he hb heq
     have g1 := hall e he hb
     have g0 := (mem_ready.1 hr).1
     rw [heq] at g1
     by_cases hin : i < listed.size
     · simp [hin] at g0 g1
       rw [g0] at g1
       cases g1
     · simp [hin] at g1
    have h2 := wpOp_late hoy (hfree j y hoy hji hjun hnot) (fun cs b => Region.noSelect_spec hs i o cs b hi) (fun cs b => Region.noSelect_spec hs j y cs b hoy) hQ (H.2.2 j (ready_mono hj hji))
    refine wpOp_mono (fun a' w' h3 => ih (listed.setIfInBounds j true) a' w' ?_ (ready_mono hr (Ne.symm hji)) ?_ ?_) h2
    · intro k z hk hki hun hno
      refine hfree k z hk hki ?_ hno
      by_cases hjk : j = k
      · subst hjk; exact hjun
      · rw [getD_set_ne true hjk] at hun; exact hun
    · unfold Quiet at hy ⊢
      rw [h3.1.1, h3.1.2]
      exact hy
    · rw [Array.setIfInBounds_comm _ _ hji]
      exact h3.2
theorem wpIn_take {i : Nat} {o : Oper} {v : Value} {d : Option Tmp} {n : Nat} {listed : Array Bool} {a a' : Act} {w : World} (hi : ops[i]? = some o) (hd : o.dst = d)
    (hs : Region.noSelect ops = true) (hf : Region.free md ops listed i = true) (hr : (Region.ready md ops listed).contains i = true)
    (hQ : ∀ c a w, Q (.panic c) (a.put d v) w → Q (.panic c) a w) (hy : Quiet P ops C o v a) (ha : a.put d v = a')
    (h : wpIn P md ops Q C n (listed.setIfInBounds i true) a' w) : wpIn P md ops Q C (n + 1) listed a w := by
 subst hd ha
 exact wpIn_first hi hs hQ n listed a w (Region.free_spec hi hf) (by simpa using hr) hy h
theorem wpIn_tk {i : Nat} {o : Oper} {v : Value} {d : Option Tmp} {n : Nat} {listed : Array Bool} {a a' : Act} {w : World} (hi : ops[i]? = some o)
    (h : wpIn P md ops Q C n (listed.setIfInBounds i true) a' w) (hd : o.dst = d := by rfl) (hw : Region.wanted o (yielded ops a.tmps) = true := by rfl) (hy : ∀ w, C w → (execOp a.eval o).run P w = .ok (.value v) w := by (intro wq hq; go_simp; first | done | with_reducible rfl)) (ha : a.put d v = a' := by (go_frame; rfl))
    (hs : Region.noSelect ops = true := by kernel_rfl) (hf : Region.free md ops listed i = true := by kernel_rfl) (hr : (Region.ready md ops listed).contains i = true := by kernel_rfl)
    (hQ : ∀ c a w, Q (.panic c) (a.put d v) w → Q (.panic c) a w := by exact fun _ _ _ h => h) : wpIn P md ops Q C (n + 1) listed a w :=
 wpIn_take hi hd hs hf hr hQ (Or.inl ⟨hw, hy⟩) ha h
theorem wpIn_tp {i : Nat} {o : Oper} {v : Value} {d : Option Tmp} {n : Nat} {listed : Array Bool} {a a' : Act} {w : World} (hi : ops[i]? = some o)
    (hy : ∀ w, C w → (execOp a.eval o).run P w = .ok (.value v) w) (h : wpIn P md ops Q C n (listed.setIfInBounds i true) a' w)
    (ha : a.put d v = a' := by (go_frame; rfl)) (hd : o.dst = d := by rfl) (hw : Region.wanted o (yielded ops a.tmps) = true := by rfl)
    (hs : Region.noSelect ops = true := by kernel_rfl) (hf : Region.free md ops listed i = true := by kernel_rfl) (hr : (Region.ready md ops listed).contains i = true := by kernel_rfl)
    (hQ : ∀ c a w, Q (.panic c) (a.put d v) w → Q (.panic c) a w := by exact fun _ _ _ h => h) : wpIn P md ops Q C (n + 1) listed a w :=
 wpIn_take hi hd hs hf hr hQ (Or.inl ⟨hw, hy⟩) ha h
theorem wpIn_only {i : Nat} {n : Nat} {listed : Array Bool} {a : Act} {w : World} (hC : C w) (hr : Region.ready md ops listed = [i])
    (h : wpOp P ops Q i (wpIn P md ops Q C n (listed.setIfInBounds i true)) a w) : wpIn P md ops Q C (n + 1) listed a w :=
 ⟨hC, fun h0 => (by rw [hr] at h0; cases h0), fun j hj => by rw [hr] at hj; rw [List.mem_singleton.1 hj]; exact h⟩
theorem wpIn_do {i : Nat} {o : Oper} {n : Nat} {listed : Array Bool} {a : Act} {w : World} (hC : C w) (hr : Region.ready md ops listed = [i]) (hi : ops[i]? = some o) (hw : Region.wanted o (yielded ops a.tmps) = true)
    (h : ∀ K' : Act → World → Prop, (∀ a w, wpIn P md ops Q C n (listed.setIfInBounds i true) a w → K' a w) → Oper.wp P o a w K' Q) : wpIn P md ops Q C (n + 1) listed a w := by
 refine wpIn_only hC hr ?_
 unfold wpOp
 rw [hi]
 simp only
 rw [if_pos hw]
 exact .inl (h _ fun _ _ h' => h')
theorem wpIn_done {listed : Array Bool} {a : Act} {w : World} (hC : C w) (hr : Region.ready md ops listed = []) (h : Q .normal a w) : ∀ n, wpIn P md ops Q C n listed a w
 | 0 => ⟨hC, hr, h⟩
 | _ + 1 => ⟨hC, fun _ => h, fun i hi => by rw [hr] at hi; cases hi⟩
theorem wp_region_in {id : Nat} {a : Act} {w : World} (hm : P.follows .mixedOrders = true) (C : World → Prop)
    (h : wpIn P .any ops Q C ops.size (Array.replicate ops.size false) a { w with drawn := w.drawn + 1 }) : (Code.region id ops true).wp P Q a w :=
 wp_region_any hm h.any
end
end Go.Proofs.YtldegjjaknelgaaGreatDoor
namespace Go.Proofs.YtldegjjaknelgaaGreatDoor.Id
def num (c : Int) : Int :=
 if 65 ≤ c ∧ c ≤ 90 then c - 65 else if 97 ≤ c ∧ c ≤ 122 then c - 71 else if 48 ≤ c ∧ c ≤ 57 then c + 4
 else if c = 43 then 62 else if c = 47 then 63 else -1
def num0 (c : Int) : Int := if 0 ≤ num c then num c else 0
def isLet (c : Int) : Bool := decide (0 ≤ num c)
theorem num_hi (c : Int) : num c ≤ 63 := by unfold num; repeat' split
                                            all_goals omega
theorem num0_lo (c : Int) : 0 ≤ num0 c := by unfold num0; split <;> omega
theorem num0_hi (c : Int) : num0 c ≤ 63 := by have := num_hi c; unfold num0; split <;> omega
def byts (n : Int) : Int := if n ≤ 1 then 0 else n - 1
theorem byts_bd (n : Int) (h1 : n ≤ 4) : 0 ≤ byts n ∧ byts n ≤ 3 := by unfold byts; split <;> omega
def ints (s : ByteArray) : List Int := s.data.toList.map fun c => (c.toNat : Int)
theorem ints_length (s : ByteArray) : (ints s).length = s.size := by simp [ints]
theorem ints_getD (s : ByteArray) (k : Nat) (h : k < s.size) : (ints s).getD k 0 = (s[k].toNat : Int) := by
 have h' : k < s.data.toList.length := by simpa using h
 simp only [ints, List.getD_eq_getElem?_getD, List.getElem?_map, List.getElem?_eq_getElem h', Option.map_some, Option.getD_some]
 rfl
theorem ints_bd (s : ByteArray) : ∀ x ∈ ints s, 0 ≤ x ∧ x ≤ 255 := by
 intro x hx
 simp only [ints, List.mem_map] at hx
 obtain ⟨c, _, rfl⟩ := hx
 have := c.toNat_lt
 omega
theorem ints_extract (s : ByteArray) (k : Nat) : ints (s.extract k s.size) = (ints s).drop k := by
 simp only [ints, ByteArray.data_extract, Array.toList_extract, List.extract_eq_take_drop, List.map_take, List.map_drop]
 rw [List.take_of_length_le]
 have : (List.drop k (List.map (fun c : UInt8 => (c.toNat : Int)) s.data.toList)).length = s.size - k := by simp
 omega
def spar (zs : List Int) : Int :=
 if zs.length % 4 = 2 then num0 (zs.getD (zs.length - 1) 0) % 16 else if zs.length % 4 = 3 then num0 (zs.getD (zs.length - 1) 0) % 4 else 0
def good (zs : List Int) : Nat := (zs.takeWhile isLet).length
def flt (zs : List Int) : Int × Int :=
 if good zs < zs.length then (20, good zs) else if zs.length % 4 = 1 then (22, zs.length) else if spar zs ≠ 0 then (21, zs.length - 1) else (0, 0)
theorem flt_ok (zs : List Int) (h : (flt zs).1 = 0) : good zs = zs.length ∧ zs.length % 4 ≠ 1 ∧ spar zs = 0 := by
 have hl : good zs ≤ zs.length := (List.takeWhile_sublist _).length_le
 unfold flt at h
 split at h
 · simp at h
 split at h
 · simp at h
 split at h
 · simp at h
 · exact ⟨by omega, by assumption, by simp_all⟩
theorem good_at (zs : List Int) (k : Nat) (hk : k < zs.length) (h : ∀ j, j < k → isLet (zs.getD j 0) = true) (hb : isLet (zs.getD k 0) = false) : good zs = k := by
 induction zs generalizing k with
 | nil => simp at hk
 | cons z r ih =>
  cases k with
  | zero => simp at hb; simp [good, hb]
  | succ k =>
   have h0 := h 0 (by omega)
   simp at h0
   have := ih k (by simpa using hk) (fun j hj => by have := h (j + 1) (by omega); simpa using this) (by simpa using hb)
   simp only [good, List.takeWhile_cons, h0, if_true, List.length_cons] at this ⊢
   omega
theorem good_all (zs : List Int) (h : ∀ j, j < zs.length → isLet (zs.getD j 0) = true) : good zs = zs.length := by
 induction zs with
 | nil => rfl
 | cons z r ih =>
  have h0 := h 0 (by simp)
  simp at h0
  have := ih (fun j hj => by have := h (j + 1) (by simpa using hj); simpa using this)
  simp only [good, List.takeWhile_cons, h0, if_true, List.length_cons] at this ⊢
  omega
def dec : List Int → List Int
 | [] => []
 | [_] => []
 | [a, b] => [num0 a * 4 + num0 b / 16]
 | [a, b, c] => [num0 a * 4 + num0 b / 16, num0 b % 16 * 16 + num0 c / 4]
 | a :: b :: c :: d :: r => (num0 a * 4 + num0 b / 16) :: (num0 b % 16 * 16 + num0 c / 4) :: (num0 c % 4 * 64 + num0 d) :: dec r
theorem dec_step (rs : List Int) (m : Nat) (a b c d : Int) (hm1 : 1 ≤ m) (hm : m + 1 = min rs.length 4) (ha : rs.getD 0 0 = a) (hb : rs.getD 1 0 = b) (hc : rs.getD 2 0 = c) (hd : rs.getD 3 0 = d) :
    dec rs = [num0 a * 4 + num0 b / 16, num0 b % 16 * 16 + num0 c / 4, num0 c % 4 * 64 + num0 d].take m ++ dec (rs.drop (m + 1)) := by
 match rs with
 | [] => simp at hm
 | [_] => simp at hm; omega
 | [x, y] => simp at ha hb hc hd hm; subst ha hb hc hd hm; simp [dec]
 | [x, y, z] => simp at ha hb hc hd hm; subst ha hb hc hd hm; simp [dec]
 | x :: y :: z :: u :: r =>
  simp at ha hb hc hd
  have hm3 : m = 3 := by simp at hm; omega
  subst ha hb hc hd hm3
  simp [dec]
theorem dec_length (zs : List Int) : ((dec zs).length : Int) = (zs.length : Int) / 4 * 3 + byts ((zs.length : Int) % 4) := by
 induction zs using dec.induct with
 | case1 => rfl
 | case2 a => simp [dec, byts]
 | case3 a b => simp [dec, byts]
 | case4 a b c => simp [dec, byts]
 | case5 a b c d r ih =>
  simp only [dec, List.length_cons, byts] at ih ⊢
  repeat' split at ih
  all_goals repeat' split
  all_goals omega
theorem dec_pos (zs : List Int) (h : zs.length % 4 ≠ 1) : 0 < (dec zs).length ↔ 0 < zs.length := by
 have h1 := dec_length zs
 unfold byts at h1
 split at h1 <;> omega
end Go.Proofs.YtldegjjaknelgaaGreatDoor.Id
namespace Go.Proofs.YtldegjjaknelgaaGreatDoor.Id
open Go.RowKit
theorem ret_int {k : IntKind} {a b : Int} (h : a = b) : Ending.returned (.int k a) = .returned (.int k b) := by rw [h]
theorem ret_num {a b : Int} {p q : Bool} (h : a = b) (hp : p = q) : Ending.returned (.tuple #[.int .u32 a, .bool p]) = .returned (.tuple #[.int .u32 b, .bool q]) := by rw [h, hp]
theorem bytesOf_any (n : Int) (w : World) (h0 : 0 ≤ n) (h1 : n ≤ 4) :
    Calls Tryz.prog 174 #[.int .i64 n] w fun e w' => e = .returned (.int .i64 (byts n)) ∧ w = w' := by
 go_enter Tryz.func174, Tryz.ntmps174
 go_wp2
 all_goals
  go_ret
  exact ⟨ret_int (by unfold byts; split <;> omega), rfl⟩
theorem bytesOf_pos (m : Int) (w : World) (h0 : 1 ≤ m) (h1 : m ≤ 3) :
    Calls Tryz.prog 174 #[.int .i64 (m + 1)] w fun e w' => e = .returned (.int .i64 m) ∧ w = w' := by
 have h := bytesOf_any (m + 1) w (by omega) (by omega)
 have e : byts (m + 1) = m := by unfold byts; rw [if_neg (by omega)]; omega
 rw [e] at h
 exact h
theorem numW (c : Int) (n : Int) (b : Bool) (h : num c = if b then n else -1) (h0 : 0 ≤ n) (hz : b = false → n = 0) : n = num0 c ∧ b = isLet c := by
 cases b
 · simp [num0, isLet, h, hz rfl]
 · simp [num0, isLet, h, h0]
theorem number_any (c : Int) (w : World) (h0 : 0 ≤ c) (h1 : c ≤ 255) :
    Calls Tryz.prog 187 #[.int .u8 c] w fun e w' => e = .returned (.tuple #[.int .u32 (num0 c), .bool (isLet c)]) ∧ w = w' := by
 by_cases e43 : c = 43
 · subst e43
   go_enter Tryz.func187, Tryz.ntmps187
   go_wp2
   go_ret2
   exact ⟨rfl, rfl⟩
 by_cases e47 : c = 47
 · subst e47
   go_enter Tryz.func187, Tryz.ntmps187
   go_wp2
   go_ret2
   exact ⟨rfl, rfl⟩
 go_enter Tryz.func187, Tryz.ntmps187
 go_wp2
 all_goals
  go_ret2
  refine ⟨(fun h => ret_num h.1 h.2) (numW c _ _ (by unfold num; repeat' split
                                                     all_goals first | omega | (simp_all; done) | (simp_all; omega)) (by first | omega | simp) (by simp)), rfl⟩
end Go.Proofs.YtldegjjaknelgaaGreatDoor.Id

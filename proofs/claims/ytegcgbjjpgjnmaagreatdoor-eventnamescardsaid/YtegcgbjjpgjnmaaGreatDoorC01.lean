/-
  Texts as numbers, rows of bytes as they are read, and what a call returns: general parts.
  What bytes of JSON say, as plain functions on lists of bytes.
  Letters of a text, byte by byte: which stands where, and the first byte that is no letter's.
  Which values are good, how they are put in order, and which bytes they have: as plain functions.
  Keys that rise, and values in order.
  Worlds that keep all but some blocks; values of JSON as they lie in memory.
  Rows of bytes of the call's own: one byte more, and as a text.
-/
import Derived.WalkKit
import Derived.WalkSpells
import Derived.WalkLawsBesides
import Derived.Laws.BytesArg
import Derived.Lib.Strings
import Derived.Lib.RuneBytes
import Derived.Lib.Bytealg
import Derived.Laws.RangeAny
import Derived.Lib.ItoaNum
import Derived.Test.YtegcgbjjpgjnmaaGreatDoorRows
import Derived.Laws.AppendOwnNone
set_option maxRecDepth 100000
set_option maxHeartbeats 16000000
namespace Go.Proofs.YtegcgbjjpgjnmaaGreatDoor
open Go.RowKit
def ints (s : ByteArray) : List Int := s.data.toList.map fun c => (c.toNat : Int)
theorem ints_length (s : ByteArray) : (ints s).length = s.size := by simp [ints]
theorem ints_getD (s : ByteArray) (k : Nat) (h : k < s.size) : (ints s).getD k 0 = (s[k].toNat : Int) := by
 have h' : k < s.data.toList.length := by simpa using h
 simp only [ints, List.getD_eq_getElem?_getD, List.getElem?_map, List.getElem?_eq_getElem h', Option.map_some, Option.getD_some]
 rfl
theorem ints_bd (s : ByteArray) : ∀ x ∈ ints s, 0 ≤ x ∧ x ≤ 255 := by
 intro x hx
 simp only [ints, List.mem_map] at hx
 obtain ⟨c, _, rfl⟩ := hx
 have := c.toNat_lt
 omega
theorem ints_extract (s : ByteArray) (k : Nat) : ints (s.extract k s.size) = (ints s).drop k := by
 simp only [ints, ByteArray.data_extract, Array.toList_extract, List.extract_eq_take_drop, List.map_take, List.map_drop]
 rw [List.take_of_length_le]
 have : (List.drop k (List.map (fun c : UInt8 => (c.toNat : Int)) s.data.toList)).length = s.size - k := by simp
 omega
theorem ints_str (l : List Int) (h : ∀ x ∈ l, 0 ≤ x ∧ x ≤ 255) : ints (strOfNums l) = l := by
 simp only [ints, strOfNums, List.map_map]
 conv => rhs; rw [← List.map_id l]
 refine List.map_congr_left fun x hx => ?_
 have := h x hx
 simp only [Function.comp, id_eq]
 have hx : x.toNat < 256 := by omega
 rw [UInt8.toNat_ofNat_of_lt' hx]
 omega
theorem str_ints (s : ByteArray) : strOfNums (ints s) = s := by
 cases s with
 | mk d =>
  simp only [ints, strOfNums, List.map_map]
  have e : ((fun n : Int => UInt8.ofNat n.toNat) ∘ fun c : UInt8 => (c.toNat : Int)) = id := by
   funext c
   simp
  rw [e, List.map_id]
theorem str_size (l : List Int) : (strOfNums l).size = l.length := by
 show (strOfNums l).data.size = _
 simp [strOfNums]
theorem ret_int {k : IntKind} {a b : Int} (h : a = b) : Ending.returned (.int k a) = .returned (.int k b) := by rw [h]
theorem ret_bool {a b : Bool} (h : a = b) : Ending.returned (.bool a) = .returned (.bool b) := by rw [h]
theorem ret_str {a b : ByteArray} (h : a = b) : Ending.returned (.string a) = .returned (.string b) := by rw [h]
def Rd (B : Nat) (w : World) (p : Option Addr) (c : Nat) (rs : List Int) : Prop :=
 rs.length ≤ c ∧ (∀ x ∈ rs, 0 ≤ x ∧ x ≤ 255) ∧ ∀ j, j < rs.length → ∃ a, p = some a ∧ a.block < B ∧ w.cell? (a.add j) = some (.int .u8 (rs.getD j 0))
theorem add_block (a : Addr) (m : Nat) : (a.add m).block = a.block := by unfold Addr.add; split <;> rfl
theorem cell_row {w : World} {g t : Nat} {fr : Nat × Nat} {cur : List Value} (h : w.heap[g]? = some (.cells cur.toArray t fr)) (j : Nat) (v : Value) (hj : cur[j]? = some v) : w.cell? ⟨g, j, none⟩ = some v := by
 simp [World.cell?, h, hj]
theorem own_base {w : World} {B e size n : Nat} {v : Value} {xs : List Value} (h : w.ownsRow B e size v n xs) : ∀ k, v.ownBlock = some k → B ≤ k := by
 intro k hk
 rcases h.2 with ⟨rfl, _⟩ | ⟨g, cap, cur, rfl, hg, _⟩
 · cases hk
 · cases hk; exact hg
end Go.Proofs.YtegcgbjjpgjnmaaGreatDoor
namespace Go.Proofs.YtegcgbjjpgjnmaaGreatDoor
inductive J where
 | mk (kind int : Int) (text : ByteArray) (keys : List ByteArray) (list : List J)
def nix : ByteArray := ⟨#[]⟩
def J.zero : J := .mk 0 0 nix [] []
def J.kind : J → Int | .mk k _ _ _ _ => k
def J.int : J → Int | .mk _ i _ _ _ => i
def J.text : J → ByteArray | .mk _ _ t _ _ => t
def J.keys : J → List ByteArray | .mk _ _ _ ks _ => ks
def J.list : J → List J | .mk _ _ _ _ l => l
inductive Res (α : Type) where
 | ok (v : α) (p : Nat)
 | bad (e : Int) (at' : Nat)
def Res.bind {α β : Type} : Res α → (α → Nat → Res β) → Res β
 | .ok v p, f => f v p
 | .bad e a, _ => .bad e a
def byteAt (t : List Int) (i : Nat) : Int := t.getD i 0
def isBlank (c : Int) : Bool := decide (c = 32) || decide (c = 9) || decide (c = 10) || decide (c = 13)
def isDig (c : Int) : Bool := decide (48 ≤ c) && decide (c ≤ 57)
def begins (c : Int) : Bool := decide (c = 91) || decide (c = 123) || decide (c = 34) || decide (c = 110) || decide (c = 116) || decide (c = 102) || decide (c = 45) || isDig c
def blanks (t : List Int) (p : Nat) : Nat := p + ((t.drop p).takeWhile isBlank).length
def must (t : List Int) (c : Int) (p : Nat) : Res Unit := if byteAt t p = c then .ok () (p + 1) else .bad 11 p
def word (t : List Int) : List Int → Nat → Res Unit
 | [], p => .ok () p
 | c :: r, p => (must t c p).bind fun _ q => word t r q
def maxInt : Int := 9007199254740991
def digs (l : List Int) : Int := l.foldl (fun n c => if n ≤ maxInt then n * 10 + (c - 48) else n) 0
def digits (t : List Int) (p : Nat) : Int × Nat := if byteAt t p = 48 then (0, p + 1) else (digs ((t.drop p).takeWhile isDig), p + ((t.drop p).takeWhile isDig).length)
def number (t : List Int) (p : Nat) : Res J :=
 if isDig (byteAt t (if byteAt t p = 45 then p + 1 else p)) = true then
  let d := digits t (if byteAt t p = 45 then p + 1 else p)
  let c := byteAt t d.2
  if maxInt < d.1 ∨ c = 46 ∨ c = 101 ∨ c = 69 then .bad 15 p else .ok (.mk 2 (if byteAt t p = 45 then -d.1 else d.1) nix [] []) d.2
 else .bad 11 (if byteAt t p = 45 then p + 1 else p)
def hexDig (c : Int) : Option Int :=
 if isDig c = true then some (c - 48) else if 97 ≤ c ∧ c ≤ 102 then some (c - 97 + 10) else if 65 ≤ c ∧ c ≤ 70 then some (c - 65 + 10) else none
def hexL (t : List Int) (i : Nat) : Nat → Nat → Int → Int × Nat
 | 0, k, n => (n, k)
 | m + 1, k, n => match hexDig (byteAt t (i + k)) with
  | none => (n, k)
  | some d => hexL t i m (k + 1) (n * 16 + d)
def hexAt (t : List Int) (i : Nat) : Int × Nat := hexL t i 4 0 0
def lowAt (t : List Int) (i : Nat) : Option Int :=
 if byteAt t i = 92 ∧ byteAt t (i + 1) = 117 then
  if (hexAt t (i + 2)).2 = 4 ∧ 56320 ≤ (hexAt t (i + 2)).1 ∧ (hexAt t (i + 2)).1 ≤ 57343 then some (hexAt t (i + 2)).1 else none
 else none
def coded (t : List Int) (p : Nat) : Res Int :=
 if (hexAt t (p + 2)).2 < 4 then .bad 11 (p + 2 + (hexAt t (p + 2)).2)
 else if (hexAt t (p + 2)).1 < 55296 ∨ 57343 < (hexAt t (p + 2)).1 then .ok (hexAt t (p + 2)).1 (p + 6)
 else if 56320 ≤ (hexAt t (p + 2)).1 then .bad 11 p
 else match lowAt t (p + 6) with
  | none => .bad 11 p
  | some l => .ok (65536 + ((hexAt t (p + 2)).1 - 55296) * 1024 + (l - 56320)) (p + 12)
def escape (t : List Int) (p : Nat) : Res Int :=
 let c := byteAt t (p + 1)
 if c = 34 ∨ c = 92 ∨ c = 47 then .ok c (p + 2)
 else if c = 98 then .ok 8 (p + 2)
 else if c = 102 then .ok 12 (p + 2)
 else if c = 110 then .ok 10 (p + 2)
 else if c = 114 then .ok 13 (p + 2)
 else if c = 116 then .ok 9 (p + 2)
 else if c = 117 then coded t p
 else .bad 11 (p + 1)
def quoL (t : List Int) : Nat → Nat → List Int → Res (List Int)
 | 0, _, _ => .bad 99 0
 | m + 1, p, out =>
  if byteAt t p = 34 then .ok out (p + 1)
  else if byteAt t p = 92 then (escape t p).bind fun l q => quoL t m q (out ++ Lib.encodeRuneZ l)
  else if byteAt t p < 32 then .bad 11 p
  else quoL t m (p + 1) (out ++ [byteAt t p])
def quoted (t : List Int) (p : Nat) : Res (List Int) := quoL t (t.length + 1) (p + 1) []
def keyAt (t : List Int) (stood : List ByteArray) (p : Nat) : Res ByteArray :=
 if byteAt t p = 34 then
  (quoted t p).bind fun s q =>
   if stood.any (fun k => decide (k.data = (strOfNums s).data)) = true then .bad 14 p
   else (must t 58 (blanks t q)).bind fun _ r => .ok (strOfNums s) (blanks t r)
 else .bad 11 p
def lessB : List UInt8 → List UInt8 → Bool
 | [], [] => false
 | [], _ :: _ => true
 | _ :: _, [] => false
 | a :: x, b :: y => decide (a < b) || (decide (a = b) && lessB x y)
def putK (k : ByteArray) (v : J) : List (ByteArray × J) → List (ByteArray × J)
 | [] => [(k, v)]
 | q :: l => if lessB k.data.toList q.1.data.toList = true then (k, v) :: q :: l else q :: putK k v l
def sortK : List (ByteArray × J) → List (ByteArray × J)
 | [] => []
 | q :: l => putK q.1 q.2 (sortK l)
def mapOf (ks : List ByteArray) (l : List J) : J := .mk 5 0 nix ((sortK (ks.zip l)).map (·.1)) ((sortK (ks.zip l)).map (·.2))
def listL (t : List Int) (f : Nat → Res J) : Nat → Nat → List J → Res J
 | 0, _, _ => .bad 99 0
 | m + 1, p, acc => (f (blanks t p)).bind fun v q =>
  if byteAt t (blanks t q) = 93 then .ok (.mk 4 0 nix [] (acc ++ [v])) (blanks t q + 1)
  else if byteAt t (blanks t q) = 44 then listL t f m (blanks t q + 1) (acc ++ [v])
  else .bad 11 (blanks t q)
def pairsL (t : List Int) (f : Nat → Res J) : Nat → Nat → List ByteArray → List J → Res J
 | 0, _, _, _ => .bad 99 0
 | m + 1, p, ks, acc => (keyAt t ks (blanks t p)).bind fun s q => (f q).bind fun v r =>
  if byteAt t (blanks t r) = 125 then .ok (mapOf (ks ++ [s]) (acc ++ [v])) (blanks t r + 1)
  else if byteAt t (blanks t r) = 44 then pairsL t f m (blanks t r + 1) (ks ++ [s]) (acc ++ [v])
  else .bad 11 (blanks t r)
def listAt (t : List Int) (f : Nat → Res J) (p : Nat) : Res J :=
 if byteAt t (blanks t (p + 1)) = 93 then .ok (.mk 4 0 nix [] []) (blanks t (p + 1) + 1) else listL t f (t.length + 1) (blanks t (p + 1)) []
def pairsAt (t : List Int) (f : Nat → Res J) (p : Nat) : Res J :=
 if byteAt t (blanks t (p + 1)) = 125 then .ok (.mk 5 0 nix [] []) (blanks t (p + 1) + 1) else pairsL t f (t.length + 1) (blanks t (p + 1)) [] []
def value (t : List Int) : Nat → Nat → Res J
 | 0, p => if begins (byteAt t p) = true then .bad 12 p else .bad 11 p
 | d + 1, p =>
  if begins (byteAt t p) = true then
   if byteAt t p = 110 then (word t [110, 117, 108, 108] p).bind fun _ q => .ok (.mk 0 0 nix [] []) q
   else if byteAt t p = 116 then (word t [116, 114, 117, 101] p).bind fun _ q => .ok (.mk 1 1 nix [] []) q
   else if byteAt t p = 102 then (word t [102, 97, 108, 115, 101] p).bind fun _ q => .ok (.mk 1 0 nix [] []) q
   else if byteAt t p = 34 then (quoted t p).bind fun s q => .ok (.mk 3 0 (strOfNums s) [] []) q
   else if byteAt t p = 91 then listAt t (value t d) p
   else if byteAt t p = 123 then pairsAt t (value t d) p
   else number t p
  else .bad 11 p
def whole (t : List Int) : Res J :=
 (value t 12 (blanks t 0)).bind fun j q => if blanks t q < t.length then .bad 16 (blanks t q) else .ok j (blanks t q)
def Adv {α : Type} (t : List Int) (p : Nat) : Res α → Prop
 | .ok _ q => p < q ∧ q ≤ t.length
 | .bad _ a => a ≤ t.length
theorem byteAt_lt {t : List Int} {p : Nat} (h : byteAt t p ≠ 0) : p < t.length := by
 unfold byteAt at h
 rcases Nat.lt_or_ge p t.length with h' | h'
 · exact h'
 · rw [List.getD_eq_getElem?_getD, List.getElem?_eq_none h'] at h; exact absurd rfl h
theorem blanks_ge (t : List Int) (p : Nat) : p ≤ blanks t p := by unfold blanks; omega
theorem blanks_le {t : List Int} {p : Nat} (h : p ≤ t.length) : blanks t p ≤ t.length := by
 unfold blanks
 have := (List.takeWhile_sublist isBlank (l := t.drop p)).length_le
 simp at this
 omega
theorem must_adv {t : List Int} {c : Int} {p : Nat} (hc : c ≠ 0) (hp : p ≤ t.length) : Adv t p (must t c p) := by
 unfold must
 split
 · rename_i h; exact ⟨by omega, byteAt_lt (h ▸ hc)⟩
 · exact hp
theorem bind_adv {α β : Type} {t : List Int} {p : Nat} {r : Res α} {f : α → Nat → Res β} (h : Adv t p r) (hf : ∀ v q, p < q → q ≤ t.length → Adv t q (f v q) ∨ (∃ v', f v q = .ok v' q)) : Adv t p (r.bind f) := by
 cases r with
 | bad e a => exact h
 | ok v q =>
  rcases hf v q h.1 h.2 with h' | ⟨v', h'⟩
  · show Adv t p (f v q)
    cases hr : f v q with
    | bad e a => rw [hr] at h'; exact h'
    | ok v2 q2 => rw [hr] at h'; exact ⟨Nat.lt_trans h.1 h'.1, h'.2⟩
  · show Adv t p (f v q)
    rw [h']; exact h
def contAt (t : List Int) (i : Nat) : Bool := decide (byteAt t i / 64 = 2)
def letterOk (c : Int) : Bool := (decide (c < 55296) || decide (57344 ≤ c)) && decide (c ≤ 1114111)
def runeAt (t : List Int) (p : Nat) : Int × Nat :=
 if byteAt t p < 128 then (byteAt t p, 1)
 else if (decide (byteAt t p / 32 = 6) && contAt t (p + 1)) = true then
  if 128 ≤ byteAt t p % 32 * 64 + byteAt t (p + 1) % 64 then (byteAt t p % 32 * 64 + byteAt t (p + 1) % 64, 2) else (0, 0)
 else if (decide (byteAt t p / 16 = 14) && contAt t (p + 1) && contAt t (p + 2)) = true then
  if (decide (2048 ≤ byteAt t p % 16 * 4096 + byteAt t (p + 1) % 64 * 64 + byteAt t (p + 2) % 64) && letterOk (byteAt t p % 16 * 4096 + byteAt t (p + 1) % 64 * 64 + byteAt t (p + 2) % 64)) = true
  then (byteAt t p % 16 * 4096 + byteAt t (p + 1) % 64 * 64 + byteAt t (p + 2) % 64, 3) else (0, 0)
 else if (decide (byteAt t p / 8 = 30) && contAt t (p + 1) && contAt t (p + 2) && contAt t (p + 3)) = true then
  if (decide (65536 ≤ byteAt t p % 8 * 262144 + byteAt t (p + 1) % 64 * 4096 + byteAt t (p + 2) % 64 * 64 + byteAt t (p + 3) % 64) && letterOk (byteAt t p % 8 * 262144 + byteAt t (p + 1) % 64 * 4096 + byteAt t (p + 2) % 64 * 64 + byteAt t (p + 3) % 64)) = true
  then (byteAt t p % 8 * 262144 + byteAt t (p + 1) % 64 * 4096 + byteAt t (p + 2) % 64 * 64 + byteAt t (p + 3) % 64, 4) else (0, 0)
 else (0, 0)
def strayL (t : List Int) : Nat → Nat → Option Nat
 | 0, _ => none
 | m + 1, p => if p < t.length then (if (runeAt t p).2 = 0 then some p else strayL t m (p + (runeAt t p).2)) else none
def stray (t : List Int) : Option Nat := strayL t t.length 0
theorem get_byte (s : ByteArray) (i : Nat) : ((s.get! i).toNat : Int) = byteAt (ints s) i := by
 unfold byteAt
 by_cases h : i < s.size
 · rw [ints_getD s i h]
   have : s.get! i = s[i] := by simp [ByteArray.get!, getElem!_pos, h]; rfl
   rw [this]
 · rw [List.getD_eq_getElem?_getD, List.getElem?_eq_none (by rw [ints_length]; omega)]
   have : s.get! i = 0 := by
    have hd : ¬ i < s.data.size := h
    show s.data[i]! = 0
    rw [getElem!_neg s.data i hd]; rfl
   rw [this]; rfl
theorem byte_bd (s : ByteArray) (i : Nat) : 0 ≤ byteAt (ints s) i ∧ byteAt (ints s) i ≤ 255 := by
 rw [← get_byte]
 have := (s.get! i).toNat_lt
 omega
theorem byte_past (s : ByteArray) (i : Nat) (h : s.size ≤ i) : byteAt (ints s) i = 0 := by
 unfold byteAt
 rw [List.getD_eq_getElem?_getD, List.getElem?_eq_none (by rw [ints_length]; omega)]
 rfl
theorem cont_eq (s : ByteArray) (i : Nat) : (decide (i < s.size) && ((s.get! i).toNat / 64 == 2)) = contAt (ints s) i := by
 unfold contAt
 have h1 := get_byte s i
 by_cases h : i < s.size
 · rw [decide_eq_true h, Bool.true_and, Bool.eq_iff_iff]
   simp
   omega
 · rw [decide_eq_false h, byte_past s i (by omega)]
   rfl
theorem valid_eq (c : Nat) : Utf8.valid c = letterOk c := by
 unfold Utf8.valid letterOk
 rw [Bool.eq_iff_iff]
 simp
 omega
theorem decode_rune (s : ByteArray) (p : Nat) : Utf8.decode s p = if (runeAt (ints s) p).2 = 0 then (65533, 1) else ((runeAt (ints s) p).1.toNat, (runeAt (ints s) p).2) := by
 have g0 := get_byte s p
 have g1 := get_byte s (p + 1)
 have g2 := get_byte s (p + 2)
 have g3 := get_byte s (p + 3)
 have e1 := cont_eq s (p + 1)
 have e2 := cont_eq s (p + 2)
 have e3 := cont_eq s (p + 3)
 unfold Utf8.decode runeAt
 simp only [Nat.add_zero]
 rw [e1, e2, e3]
 obtain ⟨b0, h0⟩ : ∃ b, (s.get! p).toNat = b := ⟨_, rfl⟩
 obtain ⟨b1, h1⟩ : ∃ b, (s.get! (p + 1)).toNat = b := ⟨_, rfl⟩
 obtain ⟨b2, h2⟩ : ∃ b, (s.get! (p + 2)).toNat = b := ⟨_, rfl⟩
 obtain ⟨b3, h3⟩ : ∃ b, (s.get! (p + 3)).toNat = b := ⟨_, rfl⟩
 simp only [h0, h1, h2, h3] at g0 g1 g2 g3 ⊢
 rw [← g0, ← g1, ← g2, ← g3]
 generalize contAt (ints s) (p + 1) = k1
 generalize contAt (ints s) (p + 2) = k2
 generalize contAt (ints s) (p + 3) = k3
 have f1 : (b0 / 32 == 6) = decide ((b0 : Int) / 32 = 6) := by rw [Bool.eq_iff_iff]; simp; omega
 have f2 : (b0 / 16 == 14) = decide ((b0 : Int) / 16 = 14) := by rw [Bool.eq_iff_iff]; simp; omega
 have f3 : (b0 / 8 == 30) = decide ((b0 : Int) / 8 = 30) := by rw [Bool.eq_iff_iff]; simp; omega
 rw [f1, f2, f3]
 by_cases c0 : b0 < 128
 · have c0' : (b0 : Int) < 128 := by omega
   rw [if_pos c0, if_pos c0']
   simp
 have c0' : ¬ (b0 : Int) < 128 := by omega
 rw [if_neg c0, if_neg c0']
 by_cases c1 : (decide ((b0 : Int) / 32 = 6) && k1) = true
 · rw [if_pos c1, if_pos c1]
   by_cases c2 : 128 ≤ b0 % 32 * 64 + b1 % 64
   · have c2' : (128 : Int) ≤ (b0 : Int) % 32 * 64 + (b1 : Int) % 64 := by omega
     rw [if_pos c2, if_pos c2']
     simp
     omega
   · have c2' : ¬ (128 : Int) ≤ (b0 : Int) % 32 * 64 + (b1 : Int) % 64 := by omega
     rw [if_neg c2, if_neg c2']
     rfl
 rw [if_neg c1, if_neg c1]
 by_cases c3 : (decide ((b0 : Int) / 16 = 14) && k1 && k2) = true
 · rw [if_pos c3, if_pos c3]
   have ec : ((b0 % 16 * 4096 + b1 % 64 * 64 + b2 % 64 : Nat) : Int) = (b0 : Int) % 16 * 4096 + (b1 : Int) % 64 * 64 + (b2 : Int) % 64 := by omega
   rw [← ec]
   generalize b0 % 16 * 4096 + b1 % 64 * 64 + b2 % 64 = c
   by_cases c4 : 2048 ≤ c
   · rw [valid_eq c]
     have c4' : (2048 : Int) ≤ c := by omega
     rw [show decide (c ≥ 2048) = true from decide_eq_true c4, decide_eq_true c4', Bool.true_and]
     split
     · simp
     · rfl
   · have c4' : ¬ (2048 : Int) ≤ c := by omega
     rw [show decide (c ≥ 2048) = false from decide_eq_false c4, decide_eq_false c4']
     rfl
 rw [if_neg c3, if_neg c3]
 by_cases c5 : (decide ((b0 : Int) / 8 = 30) && k1 && k2 && k3) = true
 · rw [if_pos c5, if_pos c5]
   have ec : ((b0 % 8 * 262144 + b1 % 64 * 4096 + b2 % 64 * 64 + b3 % 64 : Nat) : Int) = (b0 : Int) % 8 * 262144 + (b1 : Int) % 64 * 4096 + (b2 : Int) % 64 * 64 + (b3 : Int) % 64 := by omega
   rw [← ec]
   generalize b0 % 8 * 262144 + b1 % 64 * 4096 + b2 % 64 * 64 + b3 % 64 = c
   by_cases c4 : 65536 ≤ c
   · rw [valid_eq c]
     have c4' : (65536 : Int) ≤ c := by omega
     rw [show decide (c ≥ 65536) = true from decide_eq_true c4, decide_eq_true c4', Bool.true_and]
     split
     · simp
     · rfl
   · have c4' : ¬ (65536 : Int) ≤ c := by omega
     rw [show decide (c ≥ 65536) = false from decide_eq_false c4, decide_eq_false c4']
     rfl
 rw [if_neg c5, if_neg c5]
 rfl
theorem rune_width (t : List Int) (p : Nat) : (runeAt t p).2 ≤ 4 := by
 unfold runeAt
 repeat' split
 all_goals simp
theorem rune_fffd (t : List Int) (p : Nat) (h0 : byteAt t p = 239) (h1 : byteAt t (p + 1) = 191) (h2 : byteAt t (p + 2) = 189) : runeAt t p = (65533, 3) := by
 unfold runeAt contAt
 rw [h0, h1, h2, if_neg (by decide), if_neg (by decide), if_pos (by decide), if_pos (by decide)]
 rfl
theorem rune_is (t : List Int) (p : Nat) (hb : ∀ i, 0 ≤ byteAt t i ∧ byteAt t i ≤ 255) (h : (runeAt t p).2 ≠ 0) (hr : (runeAt t p).1 = 65533) : byteAt t p = 239 ∧ byteAt t (p + 1) = 191 ∧ byteAt t (p + 2) = 189 := by
 have q0 := hb p
 have q1 := hb (p + 1)
 have q2 := hb (p + 2)
 have q3 := hb (p + 3)
 unfold runeAt contAt at h hr
 generalize byteAt t p = b0 at *
 generalize byteAt t (p + 1) = b1 at *
 generalize byteAt t (p + 2) = b2 at *
 generalize byteAt t (p + 3) = b3 at *
 repeat' split at hr
 all_goals simp_all
 all_goals omega
def noKeyTwice : List ByteArray → Bool
 | [] => true
 | k :: r => !(r.any fun x => decide (x.data = k.data)) && noKeyTwice r
def letters (s : ByteArray) : Bool := (stray (ints s)).isNone
def bare : J → Bool
 | .mk k i t ks l => (decide (i = 0) || decide (k = 1) || decide (k = 2)) && (decide (t.size = 0) || decide (k = 3)) && (decide (ks.length = 0) || decide (k = 5)) && (decide (l.length = 0) || decide (k = 4) || decide (k = 5))
def goodJ : Nat → J → Bool
 | 0, _ => false
 | d + 1, .mk k i t ks l => bare (.mk k i t ks l) &&
  (if k = 0 then true
   else if k = 1 then decide (i = 0) || decide (i = 1)
   else if k = 2 then decide (-maxInt ≤ i) && decide (i ≤ maxInt)
   else if k = 3 then letters t
   else if k = 4 then l.all (goodJ d)
   else if k = 5 then decide (ks.length = l.length) && (ks.all letters && noKeyTwice ks) && l.all (goodJ d)
   else false)
mutual
def ord : J → J
 | .mk k i t ks l => if k = 5 then mapOf ks (ordL l) else .mk k i t [] (ordL l)
def ordL : List J → List J
 | [] => []
 | j :: r => ord j :: ordL r
end
def hexd (n : Int) : Int := if n < 10 then 48 + n else 87 + n
def escByte (c : Int) : List Int :=
 if c = 34 then [92, 34] else if c = 92 then [92, 92] else if c = 8 then [92, 98] else if c = 9 then [92, 116] else if c = 10 then [92, 110]
 else if c = 12 then [92, 102] else if c = 13 then [92, 114] else if c < 32 then [92, 117, 48, 48, hexd (c / 16), hexd (c % 16)] else [c]
def quote (t : List Int) : List Int := 34 :: (t.flatMap escByte ++ [34])
def numB (n : Int) : List Int := (Lib.itoa n).map fun c => (c.toNat : Int)
mutual
def enc' : J → List Int
 | .mk k i t ks l =>
  if k = 0 then [110, 117, 108, 108]
  else if k = 1 then (if i = 1 then [116, 114, 117, 101] else [102, 97, 108, 115, 101])
  else if k = 2 then numB i
  else if k = 3 then quote (ints t)
  else if k = 4 then 91 :: (encL true l ++ [93])
  else if k = 5 then 123 :: (encP true ks l ++ [125])
  else []
def encL (first : Bool) : List J → List Int
 | [] => []
 | j :: r => (if first then [] else [44]) ++ (enc' j ++ encL false r)
def encP (first : Bool) (ks : List ByteArray) : List J → List Int
 | [] => []
 | j :: r => (if first then [] else [44]) ++ (quote (ints (ks.headD nix)) ++ (58 :: (enc' j ++ encP false ks.tail r)))
end
def Put (o s o' : List Int) : Prop := ((o ++ s).length ≤ 16384 ∧ o' = o ++ s) ∨ (16384 < (o ++ s).length ∧ 16384 < o'.length)
theorem Put.nil (o : List Int) : Put o [] o := by
 unfold Put
 rw [List.append_nil]
 rcases Nat.lt_or_ge 16384 o.length with h | h
 · exact .inr ⟨h, h⟩
 · exact .inl ⟨h, rfl⟩
theorem Put.trans {o s o' s' o'' : List Int} (h : Put o s o') (h' : Put o' s' o'') : Put o (s ++ s') o'' := by
 unfold Put at h h' ⊢
 rw [← List.append_assoc]
 rcases h with ⟨h1, rfl⟩ | ⟨h1, h2⟩
 · exact h'
 · rcases h' with ⟨h3, rfl⟩ | ⟨_, h3⟩
   · right
     simp only [List.length_append] at h1 h3 ⊢
     omega
   · right
     simp only [List.length_append] at h1 ⊢
     exact ⟨by omega, h3⟩
theorem Put.one (o s : List Int) : Put o s (if 16384 < o.length then o else o ++ s) := by
 unfold Put
 split
 · rename_i h
   right
   simp only [List.length_append]
   exact ⟨by omega, h⟩
 · rcases Nat.lt_or_ge 16384 (o ++ s).length with h | h
   · exact .inr ⟨h, h⟩
   · exact .inl ⟨h, rfl⟩
theorem lessB_irrefl : ∀ x : List UInt8, lessB x x = false
 | [] => rfl
 | a :: x => by unfold lessB; rw [lessB_irrefl x]; simp
theorem lessB_trans : ∀ x y z : List UInt8, lessB x y = true → lessB y z = true → lessB x z = true
 | [], [], _, h, _ => by cases h
 | [], _ :: _, [], _, h => by cases h
 | [], _ :: _, _ :: _, _, _ => rfl
 | _ :: _, [], _, h, _ => by cases h
 | _ :: _, _ :: _, [], _, h => by cases h
 | a :: x, b :: y, c :: z, h, h' => by
  unfold lessB at h h' ⊢
  simp only [Bool.or_eq_true, Bool.and_eq_true, decide_eq_true_eq] at h h' ⊢
  rcases h with h | ⟨rfl, h⟩
  · rcases h' with h' | ⟨rfl, h'⟩
    · exact .inl (UInt8.lt_trans h h')
    · exact .inl h
  · rcases h' with h' | ⟨rfl, h'⟩
    · exact .inl h'
    · exact .inr ⟨rfl, lessB_trans x y z h h'⟩
theorem lessB_total : ∀ x y : List UInt8, x ≠ y → lessB x y = true ∨ lessB y x = true
 | [], [], h => absurd rfl h
 | [], _ :: _, _ => .inl rfl
 | _ :: _, [], _ => .inr rfl
 | a :: x, b :: y, h => by
  unfold lessB
  simp only [Bool.or_eq_true, Bool.and_eq_true, decide_eq_true_eq]
  rcases UInt8.lt_or_lt_of_ne (a := a) (b := b) |> fun f => (Classical.em (a = b)).imp id f with rfl | h' | h'
  · rcases lessB_total x y (fun e => h (by rw [e])) with h' | h'
    · exact .inl (.inr ⟨rfl, h'⟩)
    · exact .inr (.inr ⟨rfl, h'⟩)
  · exact .inl (.inl h')
  · exact .inr (.inl h')
def ltK (a b : ByteArray) : Bool := lessB a.data.toList b.data.toList
theorem ltK_irrefl (a : ByteArray) : ltK a a = false := lessB_irrefl _
theorem ltK_trans {a b c : ByteArray} (h : ltK a b = true) (h' : ltK b c = true) : ltK a c = true := lessB_trans _ _ _ h h'
theorem ltK_ne {a b : ByteArray} (h : ltK a b = true) : a ≠ b := by
 intro e; subst e; rw [ltK_irrefl] at h; cases h
theorem ltK_total {a b : ByteArray} (h : a ≠ b) : ltK a b = true ∨ ltK b a = true := by
 refine lessB_total _ _ fun e => h ?_
 cases a; cases b
 simp only at e
 rw [Array.toList_inj.1 e]
def rises : List ByteArray → Bool
 | [] => true
 | k :: r => r.all (ltK k) && rises r
theorem sortK_rises : ∀ (q : List (ByteArray × J)), rises (q.map (·.1)) = true → sortK q = q
 | [], _ => rfl
 | x :: q, h => by
  simp only [List.map_cons, rises, Bool.and_eq_true] at h
  unfold sortK
  rw [sortK_rises q h.2]
  cases q with
  | nil => rfl
  | cons y q =>
   have h1 := h.1
   simp only [List.map_cons, List.all_cons, Bool.and_eq_true] at h1
   have : lessB x.1.data.toList y.1.data.toList = true := h1.1
   unfold putK
   rw [if_pos this]
theorem mapOf_rises {ks : List ByteArray} {l : List J} (hl : ks.length = l.length) (h : rises ks = true) : mapOf ks l = .mk 5 0 nix ks l := by
 unfold mapOf
 have e : (ks.zip l).map (·.1) = ks := List.map_fst_zip (by omega)
 have e' : (ks.zip l).map (·.2) = l := List.map_snd_zip (by omega)
 rw [sortK_rises _ (by rw [e]; exact h), e, e']
mutual
def inOrd : J → Bool
 | .mk _ _ _ ks l => rises ks && inOrdL l
def inOrdL : List J → Bool
 | [] => true
 | j :: r => inOrd j && inOrdL r
end
theorem rises_app {ks : List ByteArray} {k : ByteArray} {r : List ByteArray} (h : rises (ks ++ k :: r) = true) : ∀ x ∈ ks, x ≠ k := by
 induction ks with
 | nil => intro x hx; cases hx
 | cons a ks ih =>
  simp only [List.cons_append, rises, Bool.and_eq_true] at h
  intro x hx
  rcases List.mem_cons.1 hx with rfl | hx
  · exact ltK_ne (List.all_eq_true.1 h.1 k (by simp))
  · exact ih h.2 x hx
theorem mem_putK {k : ByteArray} {v : J} {x : ByteArray × J} : ∀ (q : List (ByteArray × J)), x ∈ putK k v q ↔ x = (k, v) ∨ x ∈ q
 | [] => by simp [putK]
 | y :: q => by
  unfold putK
  split
  · simp
  · rw [List.mem_cons, mem_putK q, List.mem_cons]
    constructor
    · rintro (h | h | h)
      · exact .inr (.inl h)
      · exact .inl h
      · exact .inr (.inr h)
    · rintro (h | h | h)
      · exact .inr (.inl h)
      · exact .inl h
      · exact .inr (.inr h)
theorem mem_sortK {x : ByteArray × J} : ∀ (q : List (ByteArray × J)), x ∈ sortK q ↔ x ∈ q
 | [] => Iff.rfl
 | y :: q => by
  unfold sortK
  rw [mem_putK, mem_sortK q, List.mem_cons]
theorem putK_rises {k : ByteArray} {v : J} : ∀ (q : List (ByteArray × J)), rises (q.map (·.1)) = true → (∀ x ∈ q, x.1 ≠ k) → rises ((putK k v q).map (·.1)) = true
 | [], _, _ => rfl
 | y :: q, h, hn => by
  simp only [List.map_cons, rises, Bool.and_eq_true] at h
  unfold putK
  split
  · rename_i hl
    simp only [List.map_cons, rises, Bool.and_eq_true, List.all_cons]
    refine ⟨⟨hl, List.all_eq_true.2 fun z hz => ltK_trans hl (List.all_eq_true.1 h.1 z hz)⟩, h.1, h.2⟩
  · rename_i hl
    have hyk : ltK y.1 k = true := by
     rcases ltK_total (hn y (by simp)) with h' | h'
     · exact h'
     · exact absurd h' hl
    simp only [List.map_cons, rises, Bool.and_eq_true]
    refine ⟨List.all_eq_true.2 fun z hz => ?_, putK_rises q h.2 fun x hx => hn x (by simp [hx])⟩
    obtain ⟨x, hx, rfl⟩ := List.mem_map.1 hz
    rcases (mem_putK q).1 hx with rfl | hx
    · exact hyk
    · exact List.all_eq_true.1 h.1 _ (List.mem_map.2 ⟨x, hx, rfl⟩)
def apartK (q : List (ByteArray × J)) : Prop := q.Pairwise fun x y => x.1 ≠ y.1
theorem sortK_rises' : ∀ (q : List (ByteArray × J)), apartK q → rises ((sortK q).map (·.1)) = true
 | [], _ => rfl
 | y :: q, h => by
  unfold sortK
  have h' := List.pairwise_cons.1 h
  exact putK_rises _ (sortK_rises' q h'.2) fun x hx => (h'.1 x ((mem_sortK q).1 hx)).symm
theorem putK_length {k : ByteArray} {v : J} : ∀ (q : List (ByteArray × J)), (putK k v q).length = q.length + 1
 | [] => rfl
 | y :: q => by
  unfold putK
  split
  · rfl
  · simp [putK_length q]
theorem sortK_length : ∀ (q : List (ByteArray × J)), (sortK q).length = q.length
 | [] => rfl
 | y :: q => by unfold sortK; rw [putK_length, sortK_length q]; rfl
end Go.Proofs.YtegcgbjjpgjnmaaGreatDoor
namespace Go.Proofs.YtegcgbjjpgjnmaaGreatDoor
open Go.RowKit
structure Keep (S : Nat → Prop) (w w' : World) : Prop where
 os : w'.os = w.os
 tape : w'.tape = w.tape
 output : w'.output = w.output
 size : w.heap.size ≤ w'.heap.size
 block : ∀ k, k < w.heap.size → ¬ S k → w'.heap[k]? = w.heap[k]?
theorem Keep.refl (S : Nat → Prop) (w : World) : Keep S w w := ⟨rfl, rfl, rfl, Nat.le_refl _, fun _ _ _ => rfl⟩
theorem Keep.trans {S S' : Nat → Prop} {a b c : World} (h : Keep S a b) (k : Keep S' b c) (hS : ∀ i, i < a.heap.size → S' i → S i) : Keep S a c :=
 ⟨k.os.trans h.os, k.tape.trans h.tape, k.output.trans h.output, Nat.le_trans h.size k.size, fun i hi hn => (k.block i (Nat.lt_of_lt_of_le hi h.size) (fun h' => hn (hS i hi h'))).trans (h.block i hi hn)⟩
theorem Keep.then {S : Nat → Prop} {a b c : World} (h : Keep S a b) (k : Keep S b c) : Keep S a c := h.trans k fun _ _ h => h
theorem Keep.mono {S S' : Nat → Prop} {a b : World} (h : Keep S a b) (hS : ∀ i, i < a.heap.size → S i → S' i) : Keep S' a b :=
 ⟨h.os, h.tape, h.output, h.size, fun i hi hn => h.block i hi fun h' => hn (hS i hi h')⟩
theorem Keep.of_below {S : Nat → Prop} {a b : World} (h : Below a.heap.size a b) : Keep S a b := ⟨h.os, h.tape, h.output, h.size, fun k hk _ => h.block k hk⟩
theorem Keep.of_grown {S : Nat → Prop} {a b : World} {row : Option Nat} (h : a.grownBy b row) (hr : ∀ k, k < a.heap.size → row = some k → S k) : Keep S a b :=
 ⟨h.os, h.tape, h.output, h.size, fun k hk hn => h.block k hk fun e => hn (hr k hk e.symm)⟩
theorem Keep.below {S : Nat → Prop} {a b : World} (h : Keep S a b) {B : Nat} (hB : B ≤ a.heap.size) (hS : ∀ k, k < B → ¬ S k) : Below B a b :=
 ⟨h.os, h.tape, h.output, h.size, fun k hk => h.block k (Nat.lt_of_lt_of_le hk hB) (hS k hk)⟩
theorem Keep.cell {S : Nat → Prop} {a b : World} (h : Keep S a b) {p : Addr} (hp : p.block < a.heap.size) (hS : ¬ S p.block) : b.cell? p = a.cell? p := World.cell?_of_block (h.block _ hp hS)
theorem Keep.drew {S : Nat → Prop} {a b : World} (h : Keep S a b) : Keep S a b.drew := ⟨h.os, h.tape, h.output, h.size, h.block⟩
theorem Keep.drewN {S : Nat → Prop} {a b : World} (h : Keep S a b) (n : Nat) : Keep S a (b.drewN n) := ⟨h.os, h.tape, h.output, h.size, h.block⟩
theorem Keep.alloc {S : Nat → Prop} {a b : World} (h : Keep S a b) (o : Obj) : Keep S a (b.alloc o) :=
 h.trans (S' := fun _ => False) (Keep.of_below ((Below.refl _ _).alloc (Nat.le_refl _) o)) fun _ _ h => h.elim
theorem Keep.setCell {S : Nat → Prop} {a b : World} (h : Keep S a b) {p : Addr} (hp : p.block < a.heap.size → S p.block) (u : Value) : Keep S a (b.setCell p u) :=
 ⟨h.os, h.tape, h.output, by rw [show (b.setCell p u).heap.size = b.heap.size by simp]; exact h.size, fun k hk hn => by
  rw [Below.heap_setCell b p u k (fun e => hn (e ▸ hp (e ▸ hk)))]; exact h.block k hk hn⟩
theorem own_keep {S : Nat → Prop} {w w' : World} {B e size n : Nat} {v : Value} {xs : List Value} (h : w.ownsRow B e size v n xs) (hk : Keep S w w') (hS : ∀ k, v.ownBlock = some k → ¬ S k) : w'.ownsRow B e size v n xs := by
 refine ⟨h.1, ?_⟩
 rcases h.2 with hn | ⟨g, cap, cur, rfl, hg, hgg, rest⟩
 · exact .inl hn
 · exact .inr ⟨g, cap, cur, rfl, hg, by rw [hk.block g (Array.getElem?_eq_some_iff.1 hgg).1 (hS g rfl)]; exact hgg, rest⟩
def RdK (O : Nat → Prop) (w : World) (p : Option Addr) (c : Nat) (ks : List ByteArray) : Prop :=
 ks.length ≤ c ∧ ∀ j, j < ks.length → ∃ a, p = some a ∧ O a.block ∧ w.cell? (a.add j) = some (.string (ks.getD j nix))
theorem RdK.nil (O : Nat → Prop) (w : World) : RdK O w none 0 [] := ⟨Nat.le_refl _, fun j hj => absurd hj (by simp)⟩
theorem RdK.carry {O O' : Nat → Prop} {w w' : World} {p : Option Addr} {c : Nat} {ks : List ByteArray} (h : RdK O w p c ks) (hO : ∀ k, O k → O' k ∧ w'.heap[k]? = w.heap[k]?) : RdK O' w' p c ks :=
 ⟨h.1, fun j hj => by
  obtain ⟨a, ha, hB, hc⟩ := h.2 j hj
  exact ⟨a, ha, (hO _ hB).1, (World.cell?_of_block (by rw [add_block]; exact (hO _ hB).2)).trans hc⟩⟩
mutual
def isJ (O : Nat → Prop) (w : World) : J → List Value → Prop
 | .mk k i t ks l, cs => ∃ pk ck pl cl, cs = [.int .i64 k, .int .i64 i, .string t, .slice pk ks.length ck, .slice pl l.length cl] ∧ RdK O w pk ck ks ∧ l.length ≤ cl ∧ isJs O w pl 0 l
def isJs (O : Nat → Prop) (w : World) (p : Option Addr) : Nat → List J → Prop
 | _, [] => True
 | n, j :: r => (∃ b o cs, p = some ⟨b, o, none⟩ ∧ O b ∧ (∀ i v, cs[i]? = some v → w.cell? ⟨b, o + n * 5 + i, none⟩ = some v) ∧ isJ O w j cs) ∧ isJs O w p (n + 1) r
end
mutual
theorem isJ.carry {O O' : Nat → Prop} {w w' : World} (hO : ∀ k, O k → O' k ∧ w'.heap[k]? = w.heap[k]?) : ∀ (j : J) (cs : List Value), isJ O w j cs → isJ O' w' j cs
 | .mk k i t ks l, cs, h => by
  unfold isJ at h ⊢
  obtain ⟨pk, ck, pl, cl, e, h1, h2, h3⟩ := h
  exact ⟨pk, ck, pl, cl, e, h1.carry hO, h2, isJs.carry hO pl 0 l h3⟩
theorem isJs.carry {O O' : Nat → Prop} {w w' : World} (hO : ∀ k, O k → O' k ∧ w'.heap[k]? = w.heap[k]?) (p : Option Addr) : ∀ (n : Nat) (l : List J), isJs O w p n l → isJs O' w' p n l
 | _, [], _ => by unfold isJs; trivial
 | n, j :: r, h => by
  unfold isJs at h ⊢
  obtain ⟨⟨b, o, cs, ha, hB, hc, hj⟩, hr⟩ := h
  exact ⟨⟨b, o, cs, ha, (hO _ hB).1, fun i v hi => (World.cell?_of_block (a := ⟨b, o + n * 5 + i, none⟩) (hO _ hB).2).trans (hc i v hi), isJ.carry hO j cs hj⟩, isJs.carry hO p (n + 1) r hr⟩
end
theorem isJs.at {O : Nat → Prop} {w : World} {p : Option Addr} : ∀ (l : List J) (n i : Nat), isJs O w p n l → i < l.length →
    ∃ b o cs, p = some ⟨b, o, none⟩ ∧ O b ∧ (∀ m v, cs[m]? = some v → w.cell? ⟨b, o + (n + i) * 5 + m, none⟩ = some v) ∧ isJ O w (l.getD i J.zero) cs
 | [], _, _, _, hi => absurd hi (by simp)
 | j :: r, n, 0, h, _ => by
  unfold isJs at h
  simpa using h.1
 | j :: r, n, i + 1, h, hi => by
  unfold isJs at h
  have := isJs.at r (n + 1) i h.2 (by simpa using hi)
  rw [show n + 1 + i = n + (i + 1) by omega] at this
  simpa using this
def isRow (O : Nat → Prop) (w : World) : List J → List Value → Prop
 | [], xs => xs = []
 | j :: r, xs => ∃ cs ys, xs = cs ++ ys ∧ cs.length = 5 ∧ isJ O w j cs ∧ isRow O w r ys
theorem isRow.carry {O O' : Nat → Prop} {w w' : World} (hO : ∀ k, O k → O' k ∧ w'.heap[k]? = w.heap[k]?) : ∀ (l : List J) (xs : List Value), isRow O w l xs → isRow O' w' l xs
 | [], _, h => h
 | _ :: r, _, ⟨cs, ys, e, h5, hj, hr⟩ => ⟨cs, ys, e, h5, hj.carry hO, isRow.carry hO r ys hr⟩
theorem isRow.snoc {O : Nat → Prop} {w : World} {j : J} {cs : List Value} (h5 : cs.length = 5) (hj : isJ O w j cs) : ∀ (l : List J) (xs : List Value), isRow O w l xs → isRow O w (l ++ [j]) (xs ++ cs)
 | [], xs, h => by
  have h : xs = [] := h
  subst h
  exact ⟨cs, [], by simp, h5, hj, rfl⟩
 | i :: r, xs, ⟨ds, ys, e, h5', hi, hr⟩ => ⟨ds, ys ++ cs, by rw [e, List.append_assoc], h5', hi, isRow.snoc h5 hj r ys hr⟩
theorem isRow.isJs {O : Nat → Prop} {w : World} {b o : Nat} (ha : O b) : ∀ (l : List J) (xs : List Value) (n : Nat), isRow O w l xs → (∀ i v, xs[i]? = some v → w.cell? ⟨b, o + n * 5 + i, none⟩ = some v) → isJs O w (some ⟨b, o, none⟩) n l
 | [], _, _, _, _ => by unfold Go.Proofs.YtegcgbjjpgjnmaaGreatDoor.isJs; trivial
 | j :: r, xs, n, ⟨cs, ys, e, h5, hj, hr⟩, hc => by
  unfold Go.Proofs.YtegcgbjjpgjnmaaGreatDoor.isJs
  refine ⟨⟨b, o, cs, rfl, ha, fun i v hi => hc i v ?_, hj⟩, isRow.isJs ha r ys (n + 1) hr fun i v hi => ?_⟩
  · rw [e, List.getElem?_append_left (List.getElem?_eq_some_iff.1 hi).1]; exact hi
  · have := hc (5 + i) v (by rw [e, List.getElem?_append_right (by omega), h5]; simpa using hi)
    rw [show o + (n + 1) * 5 + i = o + n * 5 + (5 + i) by omega]
    exact this
theorem isJ.five {O : Nat → Prop} {w : World} {j : J} {cs : List Value} (h : isJ O w j cs) : cs.length = 5 := by
 cases j
 unfold isJ at h
 obtain ⟨_, _, _, _, rfl, _⟩ := h
 rfl
theorem isJ_zero (O : Nat → Prop) (w : World) : isJ O w J.zero [.int .i64 0, .int .i64 0, .string nix, .slice none 0 0, .slice none 0 0] := by
 unfold J.zero isJ
 exact ⟨none, 0, none, 0, rfl, RdK.nil _ _, Nat.le_refl _, by unfold isJs; trivial⟩
theorem Tryz.info5 : (Tryz.prog.info? 5).map (fun i => (i.zero, i.size, i.bytes)) = some (some (.int .u8 0), 1, 1) := by kernel_rfl
theorem wpList_push {w : World} {ops : Array Oper} {rest : List Oper} {o : Oper} {a : Act} {Q : Exit → Act → World → Prop} (hgd : o.guard = none) (s x : Operand) (t e : TypeId) (k : IntKind) (bytes : Nat)
    (ho : o.op = .call { callee := .builtin .append, args := #[s, x], argTypes := #[t, t] }) (ht : Tryz.prog.underlying t = some (.slice e))
    (hinfo : (Tryz.prog.info? e).map (fun i => (i.zero, i.size, i.bytes)) = some (some (.int k 0), 1, bytes)) (hby : bytes ≤ 8)
    (base : Nat) (v : Value) (L : List Int) (hs : a.eval s = v) (hown : w.ownsRow base e 1 v L.length (L.map (Value.int k)))
    (ad : Addr) (y : Int) (hx : a.eval x = .slice (some ad) 1 1) (hc : w.cell? ad = some (.int k y)) (hlen : L.length ≤ 1000000000) (hbase : base ≤ w.heap.size)
    (h : ∀ v' w', w'.ownsRow base e 1 v' (L ++ [y]).length ((L ++ [y]).map (Value.int k)) → w.grownBy w' v.ownBlock → wpList Tryz.prog ops Q rest (a.put o.dst v') w') : wpList Tryz.prog ops Q (o :: rest) a w := by
 obtain ⟨i0, hi, hz0, hz1, hz2⟩ := info_parts hinfo
 refine wpList_append_own w hgd s x t ho base e i0 (.int k 0) 1 bytes ht hi hz0 hz1 hz2 rfl (by decide) v L.length (L.map (Value.int k)) hs hown ad 1 1 [.int k y] hx rfl (fun j u hj => ?_) (fun u hu => ?_) (by unfold maxLen; omega) ?_ hbase ?_
 · match j, hj with
   | 0, hj => simp at hj; subst hj; simpa [Addr.add] using hc
 · simp at hu; subst hu; rfl
 · have : (L.length + 1) * bytes ≤ (L.length + 1) * 8 := Nat.mul_le_mul_left _ hby
   omega
 · intro v' w' hown' hgrow _
   exact h v' w' (by rw [List.length_append, List.map_append]; exact hown') hgrow
theorem own_string {w : World} {B : Nat} {v : Value} {xs : List Int} (h : w.ownsRow B 5 1 v xs.length (xs.map (Value.int .u8))) :
    (convert 40 9 v).run Tryz.prog w = .ok (.string (strOfNums xs)) w := by
 rcases h.2 with ⟨rfl, hn⟩ | ⟨g, cap, cur, rfl, hg, _⟩
 · obtain rfl : xs = [] := List.eq_nil_of_length_eq_zero hn
   exact run_convert_bytes_nil w 40 5 Tryz.underlying40 Tryz.underlying5 0 0 9 Tryz.underlying9
 · refine run_convert_bytes_arg w 40 5 Tryz.underlying40 Tryz.underlying5 g 0 xs.length cap xs rfl (fun i hi => ?_) 9 Tryz.underlying9
   rw [Nat.zero_add, h.cellAt i (by omega), List.getElem?_map, List.getElem?_eq_getElem hi, List.getD_eq_getElem?_getD, List.getElem?_eq_getElem hi]
   rfl
theorem own_ge {w : World} {B e size n : Nat} {v : Value} {xs : List Value} (h : w.ownsRow B e size v n xs) : ∀ k, v.ownBlock = some k → B ≤ k ∧ k < w.heap.size := by
 intro k hk
 rcases h.2 with ⟨rfl, _⟩ | ⟨g, cap, cur, rfl, hg, hgg, _⟩
 · cases hk
 · cases hk; exact ⟨hg, (Array.getElem?_eq_some_iff.1 hgg).1⟩
theorem Keep.grown {S : Nat → Prop} {a b c : World} {row : Option Nat} (h : Keep S a b) (hg : b.grownBy c row) (hr : ∀ k, row = some k → a.heap.size ≤ k) : Keep S a c :=
 h.trans (S' := fun k => row = some k) (Keep.of_grown hg fun _ _ e => e) fun i hi e => absurd (hr i e) (by omega)
end Go.Proofs.YtegcgbjjpgjnmaaGreatDoor

/-
  Texts as numbers, rows of bytes as they are read, and what a call returns: general parts.
  What bytes of JSON say, as plain functions on lists of bytes.
  A reader of JSON goes on, and never past the end.
  Worlds that keep all but some blocks; values of JSON as they lie in memory.
  Letters of a text, byte by byte: which stands where, and the first byte that is no letter's.
  Which values are good, how they are put in order, and which bytes they have: as plain functions.
  What is written as a text is read as it was.
  What is written as a number is read as it was.
  Keys that rise, and values in order.
  What is written as JSON is read as it was.
-/
import Derived.WalkKit
import Derived.WalkSpells
import Derived.WalkLawsBesides
import Derived.Laws.BytesArg
import Derived.Lib.Strings
import Derived.Lib.RuneBytes
import Derived.Lib.Bytealg
import Derived.Laws.RangeAny
import Derived.Lib.ItoaNum
namespace Go.Proofs.YtnmhpejnjaeecaaGreatDoor
open Go.RowKit

/-- The bytes of a text, as numbers. -/
def ints (s : ByteArray) : List Int := s.data.toList.map fun c => (c.toNat : Int)
theorem ints_length (s : ByteArray) : (ints s).length = s.size := by simp [ints]
theorem ints_getD (s : ByteArray) (k : Nat) (h : k < s.size) : (ints s).getD k 0 = (s[k].toNat : Int) := by
  have h' : k < s.data.toList.length := by simpa using h
  simp only [ints, List.getD_eq_getElem?_getD, List.getElem?_map, List.getElem?_eq_getElem h', Option.map_some, Option.getD_some]
  rfl
theorem ints_bd (s : ByteArray) : ∀ x ∈ ints s, 0 ≤ x ∧ x ≤ 255 := by
  intro x hx
  simp only [ints, List.mem_map] at hx
  obtain ⟨c, _, rfl⟩ := hx
  have := c.toNat_lt
  omega

theorem ints_extract (s : ByteArray) (k : Nat) : ints (s.extract k s.size) = (ints s).drop k := by
  simp only [ints, ByteArray.data_extract, Array.toList_extract, List.extract_eq_take_drop, List.map_take, List.map_drop]
  rw [List.take_of_length_le]
  have : (List.drop k (List.map (fun c : UInt8 => (c.toNat : Int)) s.data.toList)).length = s.size - k := by simp
  omega
theorem ints_str (l : List Int) (h : ∀ x ∈ l, 0 ≤ x ∧ x ≤ 255) : ints (strOfNums l) = l := by
  simp only [ints, strOfNums, List.map_map]
  conv => rhs; rw [← List.map_id l]
  refine List.map_congr_left fun x hx => ?_
  have := h x hx
  simp only [Function.comp, id_eq]
  have hx : x.toNat < 256 := by omega
  rw [UInt8.toNat_ofNat_of_lt' hx]
  omega
theorem str_ints (s : ByteArray) : strOfNums (ints s) = s := by
  cases s with
  | mk d =>
    simp only [ints, strOfNums, List.map_map]
    have e : ((fun n : Int => UInt8.ofNat n.toNat) ∘ fun c : UInt8 => (c.toNat : Int)) = id := by
      funext c
      simp
    rw [e, List.map_id]
theorem str_size (l : List Int) : (strOfNums l).size = l.length := by
  show (strOfNums l).data.size = _
  simp [strOfNums]
theorem str_append (a b : List Int) : strOfNums a ++ strOfNums b = strOfNums (a ++ b) := by
  apply ByteArray.ext
  rw [ByteArray.data_append]
  simp [strOfNums]

theorem ret_int {k : IntKind} {a b : Int} (h : a = b) : Ending.returned (.int k a) = .returned (.int k b) := by rw [h]
theorem ret_bool {a b : Bool} (h : a = b) : Ending.returned (.bool a) = .returned (.bool b) := by rw [h]
theorem ret_str {a b : ByteArray} (h : a = b) : Ending.returned (.string a) = .returned (.string b) := by rw [h]
/-- At p, with room for c, the bytes rs are read; they lie below block B. -/
def Rd (B : Nat) (w : World) (p : Option Addr) (c : Nat) (rs : List Int) : Prop :=
  rs.length ≤ c ∧ (∀ x ∈ rs, 0 ≤ x ∧ x ≤ 255) ∧ ∀ j, j < rs.length → ∃ a, p = some a ∧ a.block < B ∧ w.cell? (a.add j) = some (.int .u8 (rs.getD j 0))

theorem add_add (a : Addr) (m j : Nat) : (a.add m).add j = a.add (m + j) := by
  unfold Addr.add
  by_cases hm : m = 0
  · subst hm; simp
  · by_cases hj : j = 0
    · subst hj; simp [hm]
    · simp [hm, hj, Nat.add_assoc]
theorem add_block (a : Addr) (m : Nat) : (a.add m).block = a.block := by unfold Addr.add; split <;> rfl

theorem Rd.cut {B : Nat} {w : World} {p : Option Addr} {c : Nat} {rs : List Int} (h : Rd B w p c rs) (m : Nat) (hm : m ≤ rs.length) :
    ∃ p', sliced p m rs.length c 1 = .slice p' (rs.drop m).length (c - m) ∧ Rd B w p' (c - m) (rs.drop m) := by
  refine ⟨if c = m then p else p.map (·.add (m * 1)), by simp [sliced], by have := h.1; simp; omega, fun x hx => h.2.1 x (List.mem_of_mem_drop hx), fun j hj => ?_⟩
  simp only [List.length_drop] at hj
  obtain ⟨a, rfl, hb, hc⟩ := h.2.2 (m + j) (by omega)
  have h1 := h.1
  rw [if_neg (by omega)]
  refine ⟨a.add m, by simp, by rw [add_block]; exact hb, ?_⟩
  rw [add_add, hc]
  simp [List.getD_eq_getElem?_getD, List.getElem?_drop]

theorem Rd.carry {B : Nat} {w w' : World} {p : Option Addr} {c : Nat} {rs : List Int} (h : Rd B w p c rs) (hb : Below B w w') : Rd B w' p c rs :=
  ⟨h.1, h.2.1, fun j hj => by
    obtain ⟨a, ha, hB, hc⟩ := h.2.2 j hj
    exact ⟨a, ha, hB, (hb.cell (by rw [add_block]; exact hB)).trans hc⟩⟩

theorem u8_oneCell (l : List Int) : ∀ v ∈ l.map (Value.int .u8), v.oneCell' = true := by
  intro v hv
  simp only [List.mem_map] at hv
  obtain ⟨x, _, rfl⟩ := hv
  rfl
theorem getD_bd {rs : List Int} (h : ∀ x ∈ rs, 0 ≤ x ∧ x ≤ 255) (j : Nat) : 0 ≤ rs.getD j 0 ∧ rs.getD j 0 ≤ 255 := by
  rw [List.getD_eq_getElem?_getD]
  rcases Nat.lt_or_ge j rs.length with hj | hj
  · rw [List.getElem?_eq_getElem hj]; exact h _ (List.getElem_mem hj)
  · rw [List.getElem?_eq_none hj]; simp
theorem cell_row {w : World} {g t : Nat} {fr : Nat × Nat} {cur : List Value} (h : w.heap[g]? = some (.cells cur.toArray t fr)) (j : Nat) (v : Value) (hj : cur[j]? = some v) : w.cell? ⟨g, j, none⟩ = some v := by
  simp [World.cell?, h, hj]
theorem own_base {w : World} {B e size n : Nat} {v : Value} {xs : List Value} (h : w.ownsRow B e size v n xs) : ∀ k, v.ownBlock = some k → B ≤ k := by
  intro k hk
  rcases h.2 with ⟨rfl, _⟩ | ⟨g, cap, cur, rfl, hg, _⟩
  · cases hk
  · cases hk; exact hg

end Go.Proofs.YtnmhpejnjaeecaaGreatDoor
namespace Go.Proofs.YtnmhpejnjaeecaaGreatDoor

/-- A value of JSON. -/
inductive J where
  | mk (kind int : Int) (text : ByteArray) (keys : List ByteArray) (list : List J)
def nix : ByteArray := ⟨#[]⟩
def J.zero : J := .mk 0 0 nix [] []
def J.kind : J → Int | .mk k _ _ _ _ => k
def J.int : J → Int | .mk _ i _ _ _ => i
def J.text : J → ByteArray | .mk _ _ t _ _ => t
def J.keys : J → List ByteArray | .mk _ _ _ ks _ => ks
def J.list : J → List J | .mk _ _ _ _ l => l

/-- What a reader tells: a value and the place behind it, or an error and its place. -/
inductive Res (α : Type) where
  | ok (v : α) (p : Nat)
  | bad (e : Int) (at' : Nat)
def Res.bind {α β : Type} : Res α → (α → Nat → Res β) → Res β
  | .ok v p, f => f v p
  | .bad e a, _ => .bad e a

def byteAt (t : List Int) (i : Nat) : Int := t.getD i 0
def isBlank (c : Int) : Bool := decide (c = 32) || decide (c = 9) || decide (c = 10) || decide (c = 13)
def isDig (c : Int) : Bool := decide (48 ≤ c) && decide (c ≤ 57)
def begins (c : Int) : Bool := decide (c = 91) || decide (c = 123) || decide (c = 34) || decide (c = 110) || decide (c = 116) || decide (c = 102) || decide (c = 45) || isDig c
/-- The place behind blanks. -/
def blanks (t : List Int) (p : Nat) : Nat := p + ((t.drop p).takeWhile isBlank).length
def must (t : List Int) (c : Int) (p : Nat) : Res Unit := if byteAt t p = c then .ok () (p + 1) else .bad 11 p
def word (t : List Int) : List Int → Nat → Res Unit
  | [], p => .ok () p
  | c :: r, p => (must t c p).bind fun _ q => word t r q

def maxInt : Int := 9007199254740991
def digs (l : List Int) : Int := l.foldl (fun n c => if n ≤ maxInt then n * 10 + (c - 48) else n) 0
def digits (t : List Int) (p : Nat) : Int × Nat := if byteAt t p = 48 then (0, p + 1) else (digs ((t.drop p).takeWhile isDig), p + ((t.drop p).takeWhile isDig).length)
def number (t : List Int) (p : Nat) : Res J :=
  if isDig (byteAt t (if byteAt t p = 45 then p + 1 else p)) = true then
    let d := digits t (if byteAt t p = 45 then p + 1 else p)
    let c := byteAt t d.2
    if maxInt < d.1 ∨ c = 46 ∨ c = 101 ∨ c = 69 then .bad 15 p else .ok (.mk 2 (if byteAt t p = 45 then -d.1 else d.1) nix [] []) d.2
  else .bad 11 (if byteAt t p = 45 then p + 1 else p)

def hexDig (c : Int) : Option Int :=
  if isDig c = true then some (c - 48) else if 97 ≤ c ∧ c ≤ 102 then some (c - 97 + 10) else if 65 ≤ c ∧ c ≤ 70 then some (c - 65 + 10) else none
/-- The number that up to m more digits at place i + k say behind n, and how many there are in all. -/
def hexL (t : List Int) (i : Nat) : Nat → Nat → Int → Int × Nat
  | 0, k, n => (n, k)
  | m + 1, k, n => match hexDig (byteAt t (i + k)) with
    | none => (n, k)
    | some d => hexL t i m (k + 1) (n * 16 + d)
def hexAt (t : List Int) (i : Nat) : Int × Nat := hexL t i 4 0 0
def lowAt (t : List Int) (i : Nat) : Option Int :=
  if byteAt t i = 92 ∧ byteAt t (i + 1) = 117 then
    if (hexAt t (i + 2)).2 = 4 ∧ 56320 ≤ (hexAt t (i + 2)).1 ∧ (hexAt t (i + 2)).1 ≤ 57343 then some (hexAt t (i + 2)).1 else none
  else none
def coded (t : List Int) (p : Nat) : Res Int :=
  if (hexAt t (p + 2)).2 < 4 then .bad 11 (p + 2 + (hexAt t (p + 2)).2)
  else if (hexAt t (p + 2)).1 < 55296 ∨ 57343 < (hexAt t (p + 2)).1 then .ok (hexAt t (p + 2)).1 (p + 6)
  else if 56320 ≤ (hexAt t (p + 2)).1 then .bad 11 p
  else match lowAt t (p + 6) with
    | none => .bad 11 p
    | some l => .ok (65536 + ((hexAt t (p + 2)).1 - 55296) * 1024 + (l - 56320)) (p + 12)
def escape (t : List Int) (p : Nat) : Res Int :=
  let c := byteAt t (p + 1)
  if c = 34 ∨ c = 92 ∨ c = 47 then .ok c (p + 2)
  else if c = 98 then .ok 8 (p + 2)
  else if c = 102 then .ok 12 (p + 2)
  else if c = 110 then .ok 10 (p + 2)
  else if c = 114 then .ok 13 (p + 2)
  else if c = 116 then .ok 9 (p + 2)
  else if c = 117 then coded t p
  else .bad 11 (p + 1)
def quoL (t : List Int) : Nat → Nat → List Int → Res (List Int)
  | 0, _, _ => .bad 99 0
  | m + 1, p, out =>
    if byteAt t p = 34 then .ok out (p + 1)
    else if byteAt t p = 92 then (escape t p).bind fun l q => quoL t m q (out ++ Lib.encodeRuneZ l)
    else if byteAt t p < 32 then .bad 11 p
    else quoL t m (p + 1) (out ++ [byteAt t p])
def quoted (t : List Int) (p : Nat) : Res (List Int) := quoL t (t.length + 1) (p + 1) []
def keyAt (t : List Int) (stood : List ByteArray) (p : Nat) : Res ByteArray :=
  if byteAt t p = 34 then
    (quoted t p).bind fun s q =>
      if stood.any (fun k => decide (k.data = (strOfNums s).data)) = true then .bad 14 p
      else (must t 58 (blanks t q)).bind fun _ r => .ok (strOfNums s) (blanks t r)
  else .bad 11 p

/-- Bytes ahead of bytes: a beginning is less. -/
def lessB : List UInt8 → List UInt8 → Bool
  | [], [] => false
  | [], _ :: _ => true
  | _ :: _, [] => false
  | a :: x, b :: y => decide (a < b) || (decide (a = b) && lessB x y)
def putK (k : ByteArray) (v : J) : List (ByteArray × J) → List (ByteArray × J)
  | [] => [(k, v)]
  | q :: l => if lessB k.data.toList q.1.data.toList = true then (k, v) :: q :: l else q :: putK k v l
def sortK : List (ByteArray × J) → List (ByteArray × J)
  | [] => []
  | q :: l => putK q.1 q.2 (sortK l)
def mapOf (ks : List ByteArray) (l : List J) : J := .mk 5 0 nix ((sortK (ks.zip l)).map (·.1)) ((sortK (ks.zip l)).map (·.2))

def listL (t : List Int) (f : Nat → Res J) : Nat → Nat → List J → Res J
  | 0, _, _ => .bad 99 0
  | m + 1, p, acc => (f (blanks t p)).bind fun v q =>
    if byteAt t (blanks t q) = 93 then .ok (.mk 4 0 nix [] (acc ++ [v])) (blanks t q + 1)
    else if byteAt t (blanks t q) = 44 then listL t f m (blanks t q + 1) (acc ++ [v])
    else .bad 11 (blanks t q)
def pairsL (t : List Int) (f : Nat → Res J) : Nat → Nat → List ByteArray → List J → Res J
  | 0, _, _, _ => .bad 99 0
  | m + 1, p, ks, acc => (keyAt t ks (blanks t p)).bind fun s q => (f q).bind fun v r =>
    if byteAt t (blanks t r) = 125 then .ok (mapOf (ks ++ [s]) (acc ++ [v])) (blanks t r + 1)
    else if byteAt t (blanks t r) = 44 then pairsL t f m (blanks t r + 1) (ks ++ [s]) (acc ++ [v])
    else .bad 11 (blanks t r)
def listAt (t : List Int) (f : Nat → Res J) (p : Nat) : Res J :=
  if byteAt t (blanks t (p + 1)) = 93 then .ok (.mk 4 0 nix [] []) (blanks t (p + 1) + 1) else listL t f (t.length + 1) (blanks t (p + 1)) []
def pairsAt (t : List Int) (f : Nat → Res J) (p : Nat) : Res J :=
  if byteAt t (blanks t (p + 1)) = 125 then .ok (.mk 5 0 nix [] []) (blanks t (p + 1) + 1) else pairsL t f (t.length + 1) (blanks t (p + 1)) [] []
/-- A value that may be d deep. -/
def value (t : List Int) : Nat → Nat → Res J
  | 0, p => if begins (byteAt t p) = true then .bad 12 p else .bad 11 p
  | d + 1, p =>
    if begins (byteAt t p) = true then
      if byteAt t p = 110 then (word t [110, 117, 108, 108] p).bind fun _ q => .ok (.mk 0 0 nix [] []) q
      else if byteAt t p = 116 then (word t [116, 114, 117, 101] p).bind fun _ q => .ok (.mk 1 1 nix [] []) q
      else if byteAt t p = 102 then (word t [102, 97, 108, 115, 101] p).bind fun _ q => .ok (.mk 1 0 nix [] []) q
      else if byteAt t p = 34 then (quoted t p).bind fun s q => .ok (.mk 3 0 (strOfNums s) [] []) q
      else if byteAt t p = 91 then listAt t (value t d) p
      else if byteAt t p = 123 then pairsAt t (value t d) p
      else number t p
    else .bad 11 p
def whole (t : List Int) : Res J :=
  (value t 12 (blanks t 0)).bind fun j q => if blanks t q < t.length then .bad 16 (blanks t q) else .ok j (blanks t q)

/-- A reader that goes on, and never past the end. -/
def Adv {α : Type} (t : List Int) (p : Nat) : Res α → Prop
  | .ok _ q => p < q ∧ q ≤ t.length
  | .bad _ a => a ≤ t.length

theorem byteAt_lt {t : List Int} {p : Nat} (h : byteAt t p ≠ 0) : p < t.length := by
  unfold byteAt at h
  rcases Nat.lt_or_ge p t.length with h' | h'
  · exact h'
  · rw [List.getD_eq_getElem?_getD, List.getElem?_eq_none h'] at h; exact absurd rfl h
theorem blanks_ge (t : List Int) (p : Nat) : p ≤ blanks t p := by unfold blanks; omega
theorem blanks_le {t : List Int} {p : Nat} (h : p ≤ t.length) : blanks t p ≤ t.length := by
  unfold blanks
  have := (List.takeWhile_sublist isBlank (l := t.drop p)).length_le
  simp at this
  omega
theorem must_adv {t : List Int} {c : Int} {p : Nat} (hc : c ≠ 0) (hp : p ≤ t.length) : Adv t p (must t c p) := by
  unfold must
  split
  · rename_i h; exact ⟨by omega, byteAt_lt (h ▸ hc)⟩
  · exact hp
theorem bind_adv {α β : Type} {t : List Int} {p : Nat} {r : Res α} {f : α → Nat → Res β} (h : Adv t p r) (hf : ∀ v q, p < q → q ≤ t.length → Adv t q (f v q) ∨ (∃ v', f v q = .ok v' q)) : Adv t p (r.bind f) := by
  cases r with
  | bad e a => exact h
  | ok v q =>
    rcases hf v q h.1 h.2 with h' | ⟨v', h'⟩
    · show Adv t p (f v q)
      cases hr : f v q with
      | bad e a => rw [hr] at h'; exact h'
      | ok v2 q2 => rw [hr] at h'; exact ⟨Nat.lt_trans h.1 h'.1, h'.2⟩
    · show Adv t p (f v q)
      rw [h']; exact h
end Go.Proofs.YtnmhpejnjaeecaaGreatDoor
namespace Go.Proofs.YtnmhpejnjaeecaaGreatDoor

theorem word_adv {t : List Int} : ∀ (l : List Int) (p : Nat), (∀ c ∈ l, c ≠ 0) → l ≠ [] → p ≤ t.length → Adv t p (word t l p)
  | [], _, _, h, _ => absurd rfl h
  | [c], p, hc, _, hp => by
    unfold word
    refine bind_adv (must_adv (hc c (by simp)) hp) fun _ q _ _ => .inr ⟨(), ?_⟩
    rfl
  | c :: d :: r, p, hc, _, hp => by
    unfold word
    refine bind_adv (must_adv (hc c (by simp)) hp) fun _ q _ hq => .inl ?_
    exact word_adv (d :: r) q (fun x hx => hc x (by simp at hx ⊢; exact .inr hx)) (by simp) hq
theorem dig_ne {c : Int} (h : isDig c = true) : c ≠ 0 := by
  unfold isDig at h; simp at h; omega
theorem take_len (t : List Int) (p : Nat) (f : Int → Bool) (hp : p ≤ t.length) : p + ((t.drop p).takeWhile f).length ≤ t.length := by
  have := (List.takeWhile_sublist f (l := t.drop p)).length_le
  simp at this
  omega
theorem take_pos (t : List Int) (p : Nat) (f : Int → Bool) (hp : p < t.length) (hf : f (byteAt t p) = true) : 0 < ((t.drop p).takeWhile f).length := by
  have e : t.drop p = t[p] :: t.drop (p + 1) := List.drop_eq_getElem_cons hp
  have g : byteAt t p = t[p] := by unfold byteAt; rw [List.getD_eq_getElem?_getD, List.getElem?_eq_getElem hp]; rfl
  rw [e, List.takeWhile_cons, ← g, hf]
  simp
theorem digits_adv {t : List Int} {p : Nat} (h : isDig (byteAt t p) = true) : p < (digits t p).2 ∧ (digits t p).2 ≤ t.length := by
  have hp := byteAt_lt (dig_ne h)
  unfold digits
  split
  · exact ⟨by simp, hp⟩
  · have h1 := take_pos t p isDig hp h
    have h2 := take_len t p isDig (by omega)
    exact ⟨by simp only; omega, h2⟩
theorem number_adv {t : List Int} {p : Nat} (hp : p ≤ t.length) : Adv t p (number t p) := by
  unfold number
  have hq : p ≤ (if byteAt t p = 45 then p + 1 else p) ∧ (if byteAt t p = 45 then p + 1 else p) ≤ t.length := by
    split
    · rename_i h; exact ⟨by omega, byteAt_lt (by rw [h]; decide)⟩
    · exact ⟨Nat.le_refl _, hp⟩
  generalize (if byteAt t p = 45 then p + 1 else p) = q at hq ⊢
  by_cases h : isDig (byteAt t q) = true
  · rw [if_pos h]
    have := digits_adv h
    simp only
    split
    · exact hp
    · exact ⟨by omega, this.2⟩
  · rw [if_neg h]; exact hq.2
theorem hex_ne {c d : Int} (h : hexDig c = some d) : c ≠ 0 := by
  unfold hexDig isDig at h
  intro hc
  subst hc
  simp at h
theorem hexL_le (t : List Int) (i : Nat) : ∀ m k n, k ≤ (hexL t i m k n).2 ∧ (hexL t i m k n).2 ≤ k + m ∧ (i + k ≤ t.length → i + (hexL t i m k n).2 ≤ t.length)
  | 0, k, n => ⟨Nat.le_refl _, Nat.le_refl _, id⟩
  | m + 1, k, n => by
    unfold hexL
    split
    · exact ⟨Nat.le_refl _, by simp, id⟩
    · rename_i d hd
      have := hexL_le t i m (k + 1) (n * 16 + d)
      have hl := byteAt_lt (hex_ne hd)
      exact ⟨by omega, by omega, fun _ => this.2.2 (by omega)⟩
theorem coded_adv {t : List Int} {p : Nat} (hp : p + 2 ≤ t.length) : Adv t p (coded t p) := by
  unfold coded
  have h := hexL_le t (p + 2) 4 0 0
  have h4 := h.2.2 hp
  have e : hexAt t (p + 2) = hexL t (p + 2) 4 0 0 := rfl
  split
  · exact h4
  · split
    · exact ⟨by omega, by rw [e] at *; omega⟩
    · split
      · show p ≤ t.length; omega
      · split
        · show p ≤ t.length; omega
        · rename_i l hl
          unfold lowAt at hl
          split at hl
          · rename_i hc
            split at hl
            · rename_i hk
              have h' := hexL_le t (p + 6 + 2) 4 0 0
              have hu : p + 6 + 1 < t.length := byteAt_lt (by rw [hc.2]; decide)
              have h5 := h'.2.2 (by omega)
              have e' : hexAt t (p + 6 + 2) = hexL t (p + 6 + 2) 4 0 0 := rfl
              rw [e'] at hk
              exact ⟨by omega, by omega⟩
            · cases hl
          · cases hl
theorem escape_adv {t : List Int} {p : Nat} (hp : p < t.length) : Adv t p (escape t p) := by
  unfold escape
  have key : byteAt t (p + 1) ≠ 0 → p + 2 ≤ t.length := fun h => byteAt_lt h
  simp only
  split
  · rename_i h; exact ⟨by omega, key (by omega)⟩
  split
  · rename_i h; exact ⟨by omega, key (by omega)⟩
  split
  · rename_i h; exact ⟨by omega, key (by omega)⟩
  split
  · rename_i h; exact ⟨by omega, key (by omega)⟩
  split
  · rename_i h; exact ⟨by omega, key (by omega)⟩
  split
  · rename_i h; exact ⟨by omega, key (by omega)⟩
  split
  · rename_i h; exact coded_adv (key (by omega))
  · exact hp
theorem Adv.weak {α : Type} {t : List Int} {p q : Nat} {r : Res α} (h : Adv t q r) (hp : p ≤ q) : Adv t p r := by
  cases r with
  | ok v r => exact ⟨Nat.lt_of_le_of_lt hp h.1, h.2⟩
  | bad e a => exact h
theorem quoL_adv {t : List Int} : ∀ (m p : Nat) (out : List Int), p ≤ t.length → Adv t p (quoL t m p out)
  | 0, p, out, hp => Nat.zero_le _
  | m + 1, p, out, hp => by
    unfold quoL
    split
    · rename_i h; exact ⟨by omega, byteAt_lt (by rw [h]; decide)⟩
    split
    · rename_i h
      refine bind_adv (escape_adv (byteAt_lt (by rw [h]; decide))) fun l q _ hq => .inl ?_
      exact quoL_adv m q _ hq
    split
    · exact hp
    · exact (quoL_adv m (p + 1) _ (byteAt_lt (by omega))).weak (by omega)
theorem quoted_adv {t : List Int} {p : Nat} (hp : p < t.length) : Adv t p (quoted t p) :=
  (quoL_adv _ _ _ hp).weak (by omega)
theorem keyAt_adv {t : List Int} {ks : List ByteArray} {p : Nat} (hp : p ≤ t.length) : Adv t p (keyAt t ks p) := by
  unfold keyAt
  split
  · rename_i h
    refine bind_adv (quoted_adv (byteAt_lt (by rw [h]; decide))) fun s q _ hq => .inl ?_
    split
    · exact hp
    · have hb := blanks_ge t q
      refine Adv.weak ?_ hb
      refine bind_adv (must_adv (by decide) (blanks_le hq)) fun _ r h1 h2 => ?_
      rcases Nat.eq_or_lt_of_le (blanks_ge t r) with he | hlt
      · exact .inr ⟨_, by rw [← he]⟩
      · exact .inl ⟨hlt, blanks_le h2⟩
  · exact hp
theorem listL_adv {t : List Int} {f : Nat → Res J} (hf : ∀ p, p ≤ t.length → Adv t p (f p)) : ∀ (m p : Nat) (acc : List J), p ≤ t.length → Adv t p (listL t f m p acc)
  | 0, p, acc, hp => Nat.zero_le _
  | m + 1, p, acc, hp => by
    unfold listL
    refine Adv.weak ?_ (blanks_ge t p)
    refine bind_adv (hf _ (blanks_le hp)) fun v q h1 h2 => .inl ?_
    have hb := blanks_ge t q
    have hl := blanks_le h2
    split
    · rename_i h; exact ⟨by omega, byteAt_lt (by rw [h]; decide)⟩
    split
    · rename_i h
      have : blanks t q + 1 ≤ t.length := byteAt_lt (by rw [h]; decide)
      exact (listL_adv hf m _ _ this).weak (by omega)
    · exact hl
theorem pairsL_adv {t : List Int} {f : Nat → Res J} (hf : ∀ p, p ≤ t.length → Adv t p (f p)) : ∀ (m p : Nat) (ks : List ByteArray) (acc : List J), p ≤ t.length → Adv t p (pairsL t f m p ks acc)
  | 0, p, ks, acc, hp => Nat.zero_le _
  | m + 1, p, ks, acc, hp => by
    unfold pairsL
    refine Adv.weak ?_ (blanks_ge t p)
    refine bind_adv (keyAt_adv (blanks_le hp)) fun s q h1 h2 => .inl ?_
    refine bind_adv (hf q h2) fun v r h1 h2 => .inl ?_
    have hb := blanks_ge t r
    have hl := blanks_le h2
    split
    · rename_i h; exact ⟨by omega, byteAt_lt (by rw [h]; decide)⟩
    split
    · rename_i h
      have : blanks t r + 1 ≤ t.length := byteAt_lt (by rw [h]; decide)
      exact (pairsL_adv hf m _ _ _ this).weak (by omega)
    · exact hl
theorem listAt_adv {t : List Int} {f : Nat → Res J} (hf : ∀ p, p ≤ t.length → Adv t p (f p)) {p : Nat} (hp : p < t.length) : Adv t p (listAt t f p) := by
  unfold listAt
  have hb := blanks_ge t (p + 1)
  have hl := blanks_le (t := t) (p := p + 1) hp
  split
  · rename_i h; exact ⟨by omega, byteAt_lt (by rw [h]; decide)⟩
  · exact (listL_adv hf _ _ _ hl).weak (by omega)
theorem pairsAt_adv {t : List Int} {f : Nat → Res J} (hf : ∀ p, p ≤ t.length → Adv t p (f p)) {p : Nat} (hp : p < t.length) : Adv t p (pairsAt t f p) := by
  unfold pairsAt
  have hb := blanks_ge t (p + 1)
  have hl := blanks_le (t := t) (p := p + 1) hp
  split
  · rename_i h; exact ⟨by omega, byteAt_lt (by rw [h]; decide)⟩
  · exact (pairsL_adv hf _ _ _ _ hl).weak (by omega)
theorem value_adv (t : List Int) : ∀ (d p : Nat), p ≤ t.length → Adv t p (value t d p)
  | 0, p, hp => by
    unfold value
    split <;> exact hp
  | d + 1, p, hp => by
    unfold value
    split
    · split
      · exact bind_adv (word_adv _ _ (by decide) (by simp) hp) fun _ q _ _ => .inr ⟨_, rfl⟩
      split
      · exact bind_adv (word_adv _ _ (by decide) (by simp) hp) fun _ q _ _ => .inr ⟨_, rfl⟩
      split
      · exact bind_adv (word_adv _ _ (by decide) (by simp) hp) fun _ q _ _ => .inr ⟨_, rfl⟩
      split
      · rename_i h
        exact bind_adv (quoted_adv (byteAt_lt (by rw [h]; decide))) fun _ q _ _ => .inr ⟨_, rfl⟩
      split
      · rename_i h
        exact listAt_adv (fun q hq => value_adv t d q hq) (byteAt_lt (by rw [h]; decide))
      split
      · rename_i h
        exact pairsAt_adv (fun q hq => value_adv t d q hq) (byteAt_lt (by rw [h]; decide))
      · exact number_adv hp
    · exact hp
theorem whole_adv (t : List Int) : match whole t with | .ok _ _ => True | .bad _ a => a ≤ t.length := by
  unfold whole
  have := value_adv t 12 (blanks t 0) (blanks_le (Nat.zero_le _))
  cases h : value t 12 (blanks t 0) with
  | bad e a => rw [h] at this; exact this
  | ok j q =>
    rw [h] at this
    simp only [Res.bind]
    split
    · rename_i h'; split at h' <;> trivial
    · rename_i h'
      split at h'
      · cases h'; exact blanks_le this.2
      · cases h'
end Go.Proofs.YtnmhpejnjaeecaaGreatDoor
namespace Go.Proofs.YtnmhpejnjaeecaaGreatDoor
open Go.RowKit

/-- All that lay in w lies there still, but for the blocks S. -/
structure Keep (S : Nat → Prop) (w w' : World) : Prop where
  os : w'.os = w.os
  tape : w'.tape = w.tape
  output : w'.output = w.output
  size : w.heap.size ≤ w'.heap.size
  block : ∀ k, k < w.heap.size → ¬ S k → w'.heap[k]? = w.heap[k]?
theorem Keep.refl (S : Nat → Prop) (w : World) : Keep S w w := ⟨rfl, rfl, rfl, Nat.le_refl _, fun _ _ _ => rfl⟩
theorem Keep.trans {S S' : Nat → Prop} {a b c : World} (h : Keep S a b) (k : Keep S' b c) (hS : ∀ i, i < a.heap.size → S' i → S i) : Keep S a c :=
  ⟨k.os.trans h.os, k.tape.trans h.tape, k.output.trans h.output, Nat.le_trans h.size k.size, fun i hi hn => (k.block i (Nat.lt_of_lt_of_le hi h.size) (fun h' => hn (hS i hi h'))).trans (h.block i hi hn)⟩
theorem Keep.then {S : Nat → Prop} {a b c : World} (h : Keep S a b) (k : Keep S b c) : Keep S a c := h.trans k fun _ _ h => h
theorem Keep.mono {S S' : Nat → Prop} {a b : World} (h : Keep S a b) (hS : ∀ i, i < a.heap.size → S i → S' i) : Keep S' a b :=
  ⟨h.os, h.tape, h.output, h.size, fun i hi hn => h.block i hi fun h' => hn (hS i hi h')⟩
theorem Keep.of_below {S : Nat → Prop} {a b : World} (h : Below a.heap.size a b) : Keep S a b := ⟨h.os, h.tape, h.output, h.size, fun k hk _ => h.block k hk⟩
theorem Keep.of_grown {S : Nat → Prop} {a b : World} {row : Option Nat} (h : a.grownBy b row) (hr : ∀ k, k < a.heap.size → row = some k → S k) : Keep S a b :=
  ⟨h.os, h.tape, h.output, h.size, fun k hk hn => h.block k hk fun e => hn (hr k hk e.symm)⟩
theorem Keep.below {S : Nat → Prop} {a b : World} (h : Keep S a b) {B : Nat} (hB : B ≤ a.heap.size) (hS : ∀ k, k < B → ¬ S k) : Below B a b :=
  ⟨h.os, h.tape, h.output, h.size, fun k hk => h.block k (Nat.lt_of_lt_of_le hk hB) (hS k hk)⟩
theorem Keep.cell {S : Nat → Prop} {a b : World} (h : Keep S a b) {p : Addr} (hp : p.block < a.heap.size) (hS : ¬ S p.block) : b.cell? p = a.cell? p := World.cell?_of_block (h.block _ hp hS)
theorem Keep.drew {S : Nat → Prop} {a b : World} (h : Keep S a b) : Keep S a b.drew := ⟨h.os, h.tape, h.output, h.size, h.block⟩
theorem Keep.drewN {S : Nat → Prop} {a b : World} (h : Keep S a b) (n : Nat) : Keep S a (b.drewN n) := ⟨h.os, h.tape, h.output, h.size, h.block⟩
theorem Keep.alloc {S : Nat → Prop} {a b : World} (h : Keep S a b) (o : Obj) : Keep S a (b.alloc o) :=
  h.trans (S' := fun _ => False) (Keep.of_below ((Below.refl _ _).alloc (Nat.le_refl _) o)) fun _ _ h => h.elim
theorem Keep.setCell {S : Nat → Prop} {a b : World} (h : Keep S a b) {p : Addr} (hp : p.block < a.heap.size → S p.block) (u : Value) : Keep S a (b.setCell p u) :=
  ⟨h.os, h.tape, h.output, by rw [show (b.setCell p u).heap.size = b.heap.size by simp]; exact h.size, fun k hk hn => by
    rw [Below.heap_setCell b p u k (fun e => hn (e ▸ hp (e ▸ hk)))]; exact h.block k hk hn⟩
theorem own_keep {S : Nat → Prop} {w w' : World} {B e size n : Nat} {v : Value} {xs : List Value} (h : w.ownsRow B e size v n xs) (hk : Keep S w w') (hS : ∀ k, v.ownBlock = some k → ¬ S k) : w'.ownsRow B e size v n xs := by
  refine ⟨h.1, ?_⟩
  rcases h.2 with hn | ⟨g, cap, cur, rfl, hg, hgg, rest⟩
  · exact .inl hn
  · exact .inr ⟨g, cap, cur, rfl, hg, by rw [hk.block g (Array.getElem?_eq_some_iff.1 hgg).1 (hS g rfl)]; exact hgg, rest⟩

/-- At p, with room for c, the names ks are read; they lie in blocks that are in O. -/
def RdK (O : Nat → Prop) (w : World) (p : Option Addr) (c : Nat) (ks : List ByteArray) : Prop :=
  ks.length ≤ c ∧ ∀ j, j < ks.length → ∃ a, p = some a ∧ O a.block ∧ w.cell? (a.add j) = some (.string (ks.getD j nix))
theorem RdK.nil (O : Nat → Prop) (w : World) : RdK O w none 0 [] := ⟨Nat.le_refl _, fun j hj => absurd hj (by simp)⟩
theorem RdK.carry {O O' : Nat → Prop} {w w' : World} {p : Option Addr} {c : Nat} {ks : List ByteArray} (h : RdK O w p c ks) (hO : ∀ k, O k → O' k ∧ w'.heap[k]? = w.heap[k]?) : RdK O' w' p c ks :=
  ⟨h.1, fun j hj => by
    obtain ⟨a, ha, hB, hc⟩ := h.2 j hj
    exact ⟨a, ha, (hO _ hB).1, (World.cell?_of_block (by rw [add_block]; exact (hO _ hB).2)).trans hc⟩⟩
mutual
/-- The five cells cs are the value j; what it holds lies in blocks that are in O. -/
def isJ (O : Nat → Prop) (w : World) : J → List Value → Prop
  | .mk k i t ks l, cs => ∃ pk ck pl cl, cs = [.int .i64 k, .int .i64 i, .string t, .slice pk ks.length ck, .slice pl l.length cl] ∧ RdK O w pk ck ks ∧ l.length ≤ cl ∧ isJs O w pl 0 l
/-- From the place n on, the values l lie at p. -/
def isJs (O : Nat → Prop) (w : World) (p : Option Addr) : Nat → List J → Prop
  | _, [] => True
  | n, j :: r => (∃ b o cs, p = some ⟨b, o, none⟩ ∧ O b ∧ (∀ i v, cs[i]? = some v → w.cell? ⟨b, o + n * 5 + i, none⟩ = some v) ∧ isJ O w j cs) ∧ isJs O w p (n + 1) r
end
mutual
theorem isJ.carry {O O' : Nat → Prop} {w w' : World} (hO : ∀ k, O k → O' k ∧ w'.heap[k]? = w.heap[k]?) : ∀ (j : J) (cs : List Value), isJ O w j cs → isJ O' w' j cs
  | .mk k i t ks l, cs, h => by
    unfold isJ at h ⊢
    obtain ⟨pk, ck, pl, cl, e, h1, h2, h3⟩ := h
    exact ⟨pk, ck, pl, cl, e, h1.carry hO, h2, isJs.carry hO pl 0 l h3⟩
theorem isJs.carry {O O' : Nat → Prop} {w w' : World} (hO : ∀ k, O k → O' k ∧ w'.heap[k]? = w.heap[k]?) (p : Option Addr) : ∀ (n : Nat) (l : List J), isJs O w p n l → isJs O' w' p n l
  | _, [], _ => by unfold isJs; trivial
  | n, j :: r, h => by
    unfold isJs at h ⊢
    obtain ⟨⟨b, o, cs, ha, hB, hc, hj⟩, hr⟩ := h
    exact ⟨⟨b, o, cs, ha, (hO _ hB).1, fun i v hi => (World.cell?_of_block (a := ⟨b, o + n * 5 + i, none⟩) (hO _ hB).2).trans (hc i v hi), isJ.carry hO j cs hj⟩, isJs.carry hO p (n + 1) r hr⟩
end
theorem isJs.at {O : Nat → Prop} {w : World} {p : Option Addr} : ∀ (l : List J) (n i : Nat), isJs O w p n l → i < l.length →
    ∃ b o cs, p = some ⟨b, o, none⟩ ∧ O b ∧ (∀ m v, cs[m]? = some v → w.cell? ⟨b, o + (n + i) * 5 + m, none⟩ = some v) ∧ isJ O w (l.getD i J.zero) cs
  | [], _, _, _, hi => absurd hi (by simp)
  | j :: r, n, 0, h, _ => by
    unfold isJs at h
    simpa using h.1
  | j :: r, n, i + 1, h, hi => by
    unfold isJs at h
    have := isJs.at r (n + 1) i h.2 (by simpa using hi)
    rw [show n + 1 + i = n + (i + 1) by omega] at this
    simpa using this
/-- The cells of values, one behind the other. -/
def isRow (O : Nat → Prop) (w : World) : List J → List Value → Prop
  | [], xs => xs = []
  | j :: r, xs => ∃ cs ys, xs = cs ++ ys ∧ cs.length = 5 ∧ isJ O w j cs ∧ isRow O w r ys
theorem isRow.carry {O O' : Nat → Prop} {w w' : World} (hO : ∀ k, O k → O' k ∧ w'.heap[k]? = w.heap[k]?) : ∀ (l : List J) (xs : List Value), isRow O w l xs → isRow O' w' l xs
  | [], _, h => h
  | _ :: r, _, ⟨cs, ys, e, h5, hj, hr⟩ => ⟨cs, ys, e, h5, hj.carry hO, isRow.carry hO r ys hr⟩
theorem isRow.snoc {O : Nat → Prop} {w : World} {j : J} {cs : List Value} (h5 : cs.length = 5) (hj : isJ O w j cs) : ∀ (l : List J) (xs : List Value), isRow O w l xs → isRow O w (l ++ [j]) (xs ++ cs)
  | [], xs, h => by
    have h : xs = [] := h
    subst h
    exact ⟨cs, [], by simp, h5, hj, rfl⟩
  | i :: r, xs, ⟨ds, ys, e, h5', hi, hr⟩ => ⟨ds, ys ++ cs, by rw [e, List.append_assoc], h5', hi, isRow.snoc h5 hj r ys hr⟩
theorem isRow.length {O : Nat → Prop} {w : World} : ∀ (l : List J) (xs : List Value), isRow O w l xs → xs.length = l.length * 5
  | [], xs, h => by
    have h : xs = [] := h
    subst h; rfl
  | j :: r, xs, ⟨cs, ys, e, h5, _, hr⟩ => by
    have := isRow.length r ys hr
    rw [e, List.length_append, h5, this, List.length_cons]; omega
theorem isRow.isJs {O : Nat → Prop} {w : World} {b o : Nat} (ha : O b) : ∀ (l : List J) (xs : List Value) (n : Nat), isRow O w l xs → (∀ i v, xs[i]? = some v → w.cell? ⟨b, o + n * 5 + i, none⟩ = some v) → isJs O w (some ⟨b, o, none⟩) n l
  | [], _, _, _, _ => by unfold Go.Proofs.YtnmhpejnjaeecaaGreatDoor.isJs; trivial
  | j :: r, xs, n, ⟨cs, ys, e, h5, hj, hr⟩, hc => by
    unfold Go.Proofs.YtnmhpejnjaeecaaGreatDoor.isJs
    refine ⟨⟨b, o, cs, rfl, ha, fun i v hi => hc i v ?_, hj⟩, isRow.isJs ha r ys (n + 1) hr fun i v hi => ?_⟩
    · rw [e, List.getElem?_append_left (List.getElem?_eq_some_iff.1 hi).1]; exact hi
    · have := hc (5 + i) v (by rw [e, List.getElem?_append_right (by omega), h5]; simpa using hi)
      rw [show o + (n + 1) * 5 + i = o + n * 5 + (5 + i) by omega]
      exact this
theorem isJ.five {O : Nat → Prop} {w : World} {j : J} {cs : List Value} (h : isJ O w j cs) : cs.length = 5 := by
  cases j
  unfold isJ at h
  obtain ⟨_, _, _, _, rfl, _⟩ := h
  rfl
theorem isJ_zero (O : Nat → Prop) (w : World) : isJ O w J.zero [.int .i64 0, .int .i64 0, .string nix, .slice none 0 0, .slice none 0 0] := by
  unfold J.zero isJ
  exact ⟨none, 0, none, 0, rfl, RdK.nil _ _, Nat.le_refl _, by unfold isJs; trivial⟩
end Go.Proofs.YtnmhpejnjaeecaaGreatDoor
namespace Go.Proofs.YtnmhpejnjaeecaaGreatDoor

def contAt (t : List Int) (i : Nat) : Bool := decide (byteAt t i / 64 = 2)
def letterOk (c : Int) : Bool := (decide (c < 55296) || decide (57344 ≤ c)) && decide (c ≤ 1114111)
/-- The letter at a place, and how many bytes it has; none: there is none. -/
def runeAt (t : List Int) (p : Nat) : Int × Nat :=
  if byteAt t p < 128 then (byteAt t p, 1)
  else if (decide (byteAt t p / 32 = 6) && contAt t (p + 1)) = true then
    if 128 ≤ byteAt t p % 32 * 64 + byteAt t (p + 1) % 64 then (byteAt t p % 32 * 64 + byteAt t (p + 1) % 64, 2) else (0, 0)
  else if (decide (byteAt t p / 16 = 14) && contAt t (p + 1) && contAt t (p + 2)) = true then
    if (decide (2048 ≤ byteAt t p % 16 * 4096 + byteAt t (p + 1) % 64 * 64 + byteAt t (p + 2) % 64) && letterOk (byteAt t p % 16 * 4096 + byteAt t (p + 1) % 64 * 64 + byteAt t (p + 2) % 64)) = true
    then (byteAt t p % 16 * 4096 + byteAt t (p + 1) % 64 * 64 + byteAt t (p + 2) % 64, 3) else (0, 0)
  else if (decide (byteAt t p / 8 = 30) && contAt t (p + 1) && contAt t (p + 2) && contAt t (p + 3)) = true then
    if (decide (65536 ≤ byteAt t p % 8 * 262144 + byteAt t (p + 1) % 64 * 4096 + byteAt t (p + 2) % 64 * 64 + byteAt t (p + 3) % 64) && letterOk (byteAt t p % 8 * 262144 + byteAt t (p + 1) % 64 * 4096 + byteAt t (p + 2) % 64 * 64 + byteAt t (p + 3) % 64)) = true
    then (byteAt t p % 8 * 262144 + byteAt t (p + 1) % 64 * 4096 + byteAt t (p + 2) % 64 * 64 + byteAt t (p + 3) % 64, 4) else (0, 0)
  else (0, 0)
def strayL (t : List Int) : Nat → Nat → Option Nat
  | 0, _ => none
  | m + 1, p => if p < t.length then (if (runeAt t p).2 = 0 then some p else strayL t m (p + (runeAt t p).2)) else none
/-- The place of the first byte that is no letter's. -/
def stray (t : List Int) : Option Nat := strayL t t.length 0

theorem get_byte (s : ByteArray) (i : Nat) : ((s.get! i).toNat : Int) = byteAt (ints s) i := by
  unfold byteAt
  by_cases h : i < s.size
  · rw [ints_getD s i h]
    have : s.get! i = s[i] := by simp [ByteArray.get!, getElem!_pos, h]; rfl
    rw [this]
  · rw [List.getD_eq_getElem?_getD, List.getElem?_eq_none (by rw [ints_length]; omega)]
    have : s.get! i = 0 := by
      have hd : ¬ i < s.data.size := h
      show s.data[i]! = 0
      rw [getElem!_neg s.data i hd]; rfl
    rw [this]; rfl
theorem byte_bd (s : ByteArray) (i : Nat) : 0 ≤ byteAt (ints s) i ∧ byteAt (ints s) i ≤ 255 := by
  rw [← get_byte]
  have := (s.get! i).toNat_lt
  omega
theorem byte_past (s : ByteArray) (i : Nat) (h : s.size ≤ i) : byteAt (ints s) i = 0 := by
  unfold byteAt
  rw [List.getD_eq_getElem?_getD, List.getElem?_eq_none (by rw [ints_length]; omega)]
  rfl
theorem cont_eq (s : ByteArray) (i : Nat) : (decide (i < s.size) && ((s.get! i).toNat / 64 == 2)) = contAt (ints s) i := by
  unfold contAt
  have h1 := get_byte s i
  by_cases h : i < s.size
  · rw [decide_eq_true h, Bool.true_and, Bool.eq_iff_iff]
    simp
    omega
  · rw [decide_eq_false h, byte_past s i (by omega)]
    rfl
theorem valid_eq (c : Nat) : Utf8.valid c = letterOk c := by
  unfold Utf8.valid letterOk
  rw [Bool.eq_iff_iff]
  simp
  omega
set_option maxRecDepth 10000 in
/-- What the model tells of a letter. -/
theorem decode_rune (s : ByteArray) (p : Nat) : Utf8.decode s p = if (runeAt (ints s) p).2 = 0 then (65533, 1) else ((runeAt (ints s) p).1.toNat, (runeAt (ints s) p).2) := by
  have g0 := get_byte s p
  have g1 := get_byte s (p + 1)
  have g2 := get_byte s (p + 2)
  have g3 := get_byte s (p + 3)
  have e1 := cont_eq s (p + 1)
  have e2 := cont_eq s (p + 2)
  have e3 := cont_eq s (p + 3)
  unfold Utf8.decode runeAt
  simp only [Nat.add_zero]
  rw [e1, e2, e3]
  obtain ⟨b0, h0⟩ : ∃ b, (s.get! p).toNat = b := ⟨_, rfl⟩
  obtain ⟨b1, h1⟩ : ∃ b, (s.get! (p + 1)).toNat = b := ⟨_, rfl⟩
  obtain ⟨b2, h2⟩ : ∃ b, (s.get! (p + 2)).toNat = b := ⟨_, rfl⟩
  obtain ⟨b3, h3⟩ : ∃ b, (s.get! (p + 3)).toNat = b := ⟨_, rfl⟩
  simp only [h0, h1, h2, h3] at g0 g1 g2 g3 ⊢
  rw [← g0, ← g1, ← g2, ← g3]
  generalize contAt (ints s) (p + 1) = k1
  generalize contAt (ints s) (p + 2) = k2
  generalize contAt (ints s) (p + 3) = k3
  have f1 : (b0 / 32 == 6) = decide ((b0 : Int) / 32 = 6) := by rw [Bool.eq_iff_iff]; simp; omega
  have f2 : (b0 / 16 == 14) = decide ((b0 : Int) / 16 = 14) := by rw [Bool.eq_iff_iff]; simp; omega
  have f3 : (b0 / 8 == 30) = decide ((b0 : Int) / 8 = 30) := by rw [Bool.eq_iff_iff]; simp; omega
  rw [f1, f2, f3]
  by_cases c0 : b0 < 128
  · have c0' : (b0 : Int) < 128 := by omega
    rw [if_pos c0, if_pos c0']
    simp
  have c0' : ¬ (b0 : Int) < 128 := by omega
  rw [if_neg c0, if_neg c0']
  by_cases c1 : (decide ((b0 : Int) / 32 = 6) && k1) = true
  · rw [if_pos c1, if_pos c1]
    by_cases c2 : 128 ≤ b0 % 32 * 64 + b1 % 64
    · have c2' : (128 : Int) ≤ (b0 : Int) % 32 * 64 + (b1 : Int) % 64 := by omega
      rw [if_pos c2, if_pos c2']
      simp
      omega
    · have c2' : ¬ (128 : Int) ≤ (b0 : Int) % 32 * 64 + (b1 : Int) % 64 := by omega
      rw [if_neg c2, if_neg c2']
      rfl
  rw [if_neg c1, if_neg c1]
  by_cases c3 : (decide ((b0 : Int) / 16 = 14) && k1 && k2) = true
  · rw [if_pos c3, if_pos c3]
    have ec : ((b0 % 16 * 4096 + b1 % 64 * 64 + b2 % 64 : Nat) : Int) = (b0 : Int) % 16 * 4096 + (b1 : Int) % 64 * 64 + (b2 : Int) % 64 := by omega
    rw [← ec]
    generalize b0 % 16 * 4096 + b1 % 64 * 64 + b2 % 64 = c
    by_cases c4 : 2048 ≤ c
    · rw [valid_eq c]
      have c4' : (2048 : Int) ≤ c := by omega
      rw [show decide (c ≥ 2048) = true from decide_eq_true c4, decide_eq_true c4', Bool.true_and]
      split
      · simp
      · rfl
    · have c4' : ¬ (2048 : Int) ≤ c := by omega
      rw [show decide (c ≥ 2048) = false from decide_eq_false c4, decide_eq_false c4']
      rfl
  rw [if_neg c3, if_neg c3]
  by_cases c5 : (decide ((b0 : Int) / 8 = 30) && k1 && k2 && k3) = true
  · rw [if_pos c5, if_pos c5]
    have ec : ((b0 % 8 * 262144 + b1 % 64 * 4096 + b2 % 64 * 64 + b3 % 64 : Nat) : Int) = (b0 : Int) % 8 * 262144 + (b1 : Int) % 64 * 4096 + (b2 : Int) % 64 * 64 + (b3 : Int) % 64 := by omega
    rw [← ec]
    generalize b0 % 8 * 262144 + b1 % 64 * 4096 + b2 % 64 * 64 + b3 % 64 = c
    by_cases c4 : 65536 ≤ c
    · rw [valid_eq c]
      have c4' : (65536 : Int) ≤ c := by omega
      rw [show decide (c ≥ 65536) = true from decide_eq_true c4, decide_eq_true c4', Bool.true_and]
      split
      · simp
      · rfl
    · have c4' : ¬ (65536 : Int) ≤ c := by omega
      rw [show decide (c ≥ 65536) = false from decide_eq_false c4, decide_eq_false c4']
      rfl
  rw [if_neg c5, if_neg c5]
  rfl
theorem rune_width (t : List Int) (p : Nat) : (runeAt t p).2 ≤ 4 := by
  unfold runeAt
  repeat' split
  all_goals simp
/-- The bytes of the letter FFFD are one. -/
theorem rune_fffd (t : List Int) (p : Nat) (h0 : byteAt t p = 239) (h1 : byteAt t (p + 1) = 191) (h2 : byteAt t (p + 2) = 189) : runeAt t p = (65533, 3) := by
  unfold runeAt contAt
  rw [h0, h1, h2, if_neg (by decide), if_neg (by decide), if_pos (by decide), if_pos (by decide)]
  rfl
theorem rune_is (t : List Int) (p : Nat) (hb : ∀ i, 0 ≤ byteAt t i ∧ byteAt t i ≤ 255) (h : (runeAt t p).2 ≠ 0) (hr : (runeAt t p).1 = 65533) : byteAt t p = 239 ∧ byteAt t (p + 1) = 191 ∧ byteAt t (p + 2) = 189 := by
  have q0 := hb p
  have q1 := hb (p + 1)
  have q2 := hb (p + 2)
  have q3 := hb (p + 3)
  unfold runeAt contAt at h hr
  generalize byteAt t p = b0 at *
  generalize byteAt t (p + 1) = b1 at *
  generalize byteAt t (p + 2) = b2 at *
  generalize byteAt t (p + 3) = b3 at *
  repeat' split at hr
  all_goals simp_all
  all_goals omega
end Go.Proofs.YtnmhpejnjaeecaaGreatDoor
namespace Go.Proofs.YtnmhpejnjaeecaaGreatDoor

def noKeyTwice : List ByteArray → Bool
  | [] => true
  | k :: r => !(r.any fun x => decide (x.data = k.data)) && noKeyTwice r
def letters (s : ByteArray) : Bool := (stray (ints s)).isNone
/-- What a kind does not have is zero. -/
def bare : J → Bool
  | .mk k i t ks l => (decide (i = 0) || decide (k = 1) || decide (k = 2)) && (decide (t.size = 0) || decide (k = 3)) && (decide (ks.length = 0) || decide (k = 5)) && (decide (l.length = 0) || decide (k = 4) || decide (k = 5))
/-- Good, and no deeper than so many. -/
def goodJ : Nat → J → Bool
  | 0, _ => false
  | d + 1, .mk k i t ks l => bare (.mk k i t ks l) &&
    (if k = 0 then true
     else if k = 1 then decide (i = 0) || decide (i = 1)
     else if k = 2 then decide (-maxInt ≤ i) && decide (i ≤ maxInt)
     else if k = 3 then letters t
     else if k = 4 then l.all (goodJ d)
     else if k = 5 then decide (ks.length = l.length) && (ks.all letters && noKeyTwice ks) && l.all (goodJ d)
     else false)
mutual
/-- In order. -/
def ord : J → J
  | .mk k i t ks l => if k = 5 then mapOf ks (ordL l) else .mk k i t [] (ordL l)
def ordL : List J → List J
  | [] => []
  | j :: r => ord j :: ordL r
end
def hexd (n : Int) : Int := if n < 10 then 48 + n else 87 + n
def escByte (c : Int) : List Int :=
  if c = 34 then [92, 34] else if c = 92 then [92, 92] else if c = 8 then [92, 98] else if c = 9 then [92, 116] else if c = 10 then [92, 110]
  else if c = 12 then [92, 102] else if c = 13 then [92, 114] else if c < 32 then [92, 117, 48, 48, hexd (c / 16), hexd (c % 16)] else [c]
def quote (t : List Int) : List Int := 34 :: (t.flatMap escByte ++ [34])
def numB (n : Int) : List Int := (Lib.itoa n).map fun c => (c.toNat : Int)
mutual
def enc' : J → List Int
  | .mk k i t ks l =>
    if k = 0 then [110, 117, 108, 108]
    else if k = 1 then (if i = 1 then [116, 114, 117, 101] else [102, 97, 108, 115, 101])
    else if k = 2 then numB i
    else if k = 3 then quote (ints t)
    else if k = 4 then 91 :: (encL true l ++ [93])
    else if k = 5 then 123 :: (encP true ks l ++ [125])
    else []
def encL (first : Bool) : List J → List Int
  | [] => []
  | j :: r => (if first then [] else [44]) ++ (enc' j ++ encL false r)
def encP (first : Bool) (ks : List ByteArray) : List J → List Int
  | [] => []
  | j :: r => (if first then [] else [44]) ++ (quote (ints (ks.headD nix)) ++ (58 :: (enc' j ++ encP false ks.tail r)))
end
/-- So much was put behind o, or more than may be. -/
def Put (o s o' : List Int) : Prop := ((o ++ s).length ≤ 16384 ∧ o' = o ++ s) ∨ (16384 < (o ++ s).length ∧ 16384 < o'.length)
theorem Put.nil (o : List Int) : Put o [] o := by
  unfold Put
  rw [List.append_nil]
  rcases Nat.lt_or_ge 16384 o.length with h | h
  · exact .inr ⟨h, h⟩
  · exact .inl ⟨h, rfl⟩
theorem Put.trans {o s o' s' o'' : List Int} (h : Put o s o') (h' : Put o' s' o'') : Put o (s ++ s') o'' := by
  unfold Put at h h' ⊢
  rw [← List.append_assoc]
  rcases h with ⟨h1, rfl⟩ | ⟨h1, h2⟩
  · exact h'
  · rcases h' with ⟨h3, rfl⟩ | ⟨_, h3⟩
    · right
      simp only [List.length_append] at h1 h3 ⊢
      omega
    · right
      simp only [List.length_append] at h1 ⊢
      exact ⟨by omega, h3⟩
theorem Put.one (o s : List Int) : Put o s (if 16384 < o.length then o else o ++ s) := by
  unfold Put
  split
  · rename_i h
    right
    simp only [List.length_append]
    exact ⟨by omega, h⟩
  · rcases Nat.lt_or_ge 16384 (o ++ s).length with h | h
    · exact .inr ⟨h, h⟩
    · exact .inl ⟨h, rfl⟩
end Go.Proofs.YtnmhpejnjaeecaaGreatDoor
namespace Go.Proofs.YtnmhpejnjaeecaaGreatDoor

theorem byte_head {t r : List Int} {p : Nat} {c : Int} (h : t.drop p = c :: r) : byteAt t p = c := by
  unfold byteAt
  have : t[p]? = some c := by
    have h1 : (t.drop p)[0]? = some c := by rw [h]; rfl
    rw [List.getElem?_drop] at h1
    exact h1
  rw [List.getD_eq_getElem?_getD, this]
  rfl
theorem drop_tail {t r : List Int} {p : Nat} {c : Int} (h : t.drop p = c :: r) : t.drop (p + 1) = r := by
  rw [← List.drop_drop, h]; rfl
theorem drop_app {t x r : List Int} {p : Nat} (h : t.drop p = x ++ r) : t.drop (p + x.length) = r := by
  rw [← List.drop_drop, h]; simp
theorem byte_end {t : List Int} {p : Nat} (h : t.drop p = []) : byteAt t p = 0 := by
  unfold byteAt
  rw [List.getD_eq_getElem?_getD, List.getElem?_eq_none (List.drop_eq_nil_iff.1 h)]
  rfl
theorem hex_hexd (n : Int) (h0 : 0 ≤ n) (h1 : n ≤ 15) : hexDig (hexd n) = some n := by
  unfold hexd hexDig isDig
  split
  · rw [if_pos (by simp; omega)]; congr 1; omega
  · rw [if_neg (by simp; omega), if_pos (by omega)]; congr 1; omega
theorem rune_ascii (c : Int) (h0 : 0 ≤ c) (h1 : c ≤ 127) : Lib.encodeRuneZ c = [c] := Lib.encodeRuneZ_one h0 h1
theorem coded_low {t r : List Int} {p : Nat} {c : Int} (h0 : 0 ≤ c) (h1 : c < 32) (hd : t.drop p = 92 :: 117 :: 48 :: 48 :: hexd (c / 16) :: hexd (c % 16) :: r) : coded t p = .ok c (p + 6) := by
  have d1 := drop_tail hd
  have d2 := drop_tail d1
  have b0 := byte_head d2
  have d3 := drop_tail d2
  have b1 := byte_head d3
  have d4 := drop_tail d3
  have b2 := byte_head d4
  have d5 := drop_tail d4
  have b3 := byte_head d5
  have z : hexDig 48 = some 0 := by decide
  have e2 := hex_hexd (c / 16) (by omega) (by omega)
  have e3 := hex_hexd (c % 16) (by omega) (by omega)
  have hx : hexAt t (p + 2) = (c, 4) := by
    unfold hexAt hexL
    rw [show p + 2 + 0 = p + 1 + 1 from rfl, b0, z]
    simp only
    unfold hexL
    rw [show p + 2 + (0 + 1) = p + 1 + 1 + 1 from rfl, b1, z]
    simp only
    unfold hexL
    rw [show p + 2 + (0 + 1 + 1) = p + 1 + 1 + 1 + 1 from rfl, b2, e2]
    simp only
    unfold hexL
    rw [show p + 2 + (0 + 1 + 1 + 1) = p + 1 + 1 + 1 + 1 + 1 from rfl, b3, e3]
    simp only
    unfold hexL
    refine Prod.ext ?_ rfl
    simp only
    omega
  unfold coded
  rw [hx]
  simp only
  rw [if_neg (by omega), if_pos (by omega)]
theorem esc_two {t r : List Int} {p : Nat} {b : Int} (hd : t.drop p = 92 :: b :: r) : byteAt t p = 92 ∧ byteAt t (p + 1) = b := ⟨byte_head hd, byte_head (drop_tail hd)⟩
theorem esc_read {t r : List Int} {p : Nat} {c : Int} (h0 : 0 ≤ c) (hc : c < 32 ∨ c = 34 ∨ c = 92) (hd : t.drop p = escByte c ++ r) : byteAt t p = 92 ∧ escape t p = .ok c (p + (escByte c).length) := by
  by_cases c34 : c = 34
  · subst c34
    have e : escByte 34 = [92, 34] := by decide
    rw [e] at hd ⊢
    obtain ⟨b0, b1⟩ := esc_two hd
    refine ⟨b0, ?_⟩
    unfold escape
    simp only [b1]
    rfl
  by_cases c92 : c = 92
  · subst c92
    have e : escByte 92 = [92, 92] := by decide
    rw [e] at hd ⊢
    obtain ⟨b0, b1⟩ := esc_two hd
    refine ⟨b0, ?_⟩
    unfold escape
    simp only [b1]
    rfl
  by_cases c8 : c = 8
  · subst c8
    have e : escByte 8 = [92, 98] := by decide
    rw [e] at hd ⊢
    obtain ⟨b0, b1⟩ := esc_two hd
    refine ⟨b0, ?_⟩
    unfold escape
    simp only [b1]
    rfl
  by_cases c9 : c = 9
  · subst c9
    have e : escByte 9 = [92, 116] := by decide
    rw [e] at hd ⊢
    obtain ⟨b0, b1⟩ := esc_two hd
    refine ⟨b0, ?_⟩
    unfold escape
    simp only [b1]
    rfl
  by_cases c10 : c = 10
  · subst c10
    have e : escByte 10 = [92, 110] := by decide
    rw [e] at hd ⊢
    obtain ⟨b0, b1⟩ := esc_two hd
    refine ⟨b0, ?_⟩
    unfold escape
    simp only [b1]
    rfl
  by_cases c12 : c = 12
  · subst c12
    have e : escByte 12 = [92, 102] := by decide
    rw [e] at hd ⊢
    obtain ⟨b0, b1⟩ := esc_two hd
    refine ⟨b0, ?_⟩
    unfold escape
    simp only [b1]
    rfl
  by_cases c13 : c = 13
  · subst c13
    have e : escByte 13 = [92, 114] := by decide
    rw [e] at hd ⊢
    obtain ⟨b0, b1⟩ := esc_two hd
    refine ⟨b0, ?_⟩
    unfold escape
    simp only [b1]
    rfl
  have hl : c < 32 := by omega
  have e : escByte c = [92, 117, 48, 48, hexd (c / 16), hexd (c % 16)] := by
    unfold escByte
    rw [if_neg c34, if_neg c92, if_neg c8, if_neg c9, if_neg c10, if_neg c12, if_neg c13, if_pos hl]
  rw [e] at hd ⊢
  obtain ⟨b0, b1⟩ := esc_two hd
  refine ⟨b0, ?_⟩
  have := coded_low h0 hl hd
  unfold escape
  simp only [b1]
  exact this
theorem quoL_succ (t : List Int) (m p : Nat) (out : List Int) : quoL t (m + 1) p out =
    if byteAt t p = 34 then .ok out (p + 1)
    else if byteAt t p = 92 then (escape t p).bind fun l q => quoL t m q (out ++ Lib.encodeRuneZ l)
    else if byteAt t p < 32 then .bad 11 p
    else quoL t m (p + 1) (out ++ [byteAt t p]) := rfl
theorem quo_back (t : List Int) : ∀ (zs : List Int) (m p : Nat) (out r : List Int), (∀ c ∈ zs, 0 ≤ c ∧ c ≤ 255) → zs.length < m → t.drop p = zs.flatMap escByte ++ 34 :: r →
    quoL t m p out = .ok (out ++ zs) (p + (zs.flatMap escByte).length + 1)
  | [], m + 1, p, out, r, _, _, hd => by
    have hb := byte_head (c := 34) hd
    rw [quoL_succ, if_pos hb]
    simp
  | c :: zs, m + 1, p, out, r, hz, hm, hd => by
    have hc := hz c (by simp)
    have hz' : ∀ x ∈ zs, 0 ≤ x ∧ x ≤ 255 := fun x hx => hz x (by simp [hx])
    rw [List.flatMap_cons, List.append_assoc] at hd
    have next := drop_app hd
    have ih := quo_back t zs m (p + (escByte c).length) (out ++ [c]) r hz' (by simpa using hm) next
    have fin : Res.ok (out ++ [c] ++ zs) (p + (escByte c).length + (zs.flatMap escByte).length + 1) = Res.ok (out ++ c :: zs) (p + ((c :: zs).flatMap escByte).length + 1) := by
      simp only [List.append_assoc, List.singleton_append, List.flatMap_cons, List.length_append, Nat.add_assoc]
    rw [← fin, ← ih, quoL_succ]
    by_cases hs : c < 32 ∨ c = 34 ∨ c = 92
    · obtain ⟨b0, he⟩ := esc_read hc.1 hs hd
      rw [if_neg (by rw [b0]; decide), if_pos b0, he]
      simp only [Res.bind]
      rw [rune_ascii c hc.1 (by omega)]
    · have e : escByte c = [c] := by
        unfold escByte
        rw [if_neg (by omega), if_neg (by omega), if_neg (by omega), if_neg (by omega), if_neg (by omega), if_neg (by omega), if_neg (by omega), if_neg (by omega)]
      rw [e] at hd ⊢
      have b0 := byte_head (c := c) hd
      rw [b0, if_neg (by omega), if_neg (by omega), if_neg (by omega)]
      rfl
theorem quoted_back {t r zs : List Int} {p : Nat} (hz : ∀ c ∈ zs, 0 ≤ c ∧ c ≤ 255) (hd : t.drop p = quote zs ++ r) : quoted t p = .ok zs (p + (quote zs).length) ∧ byteAt t p = 34 := by
  unfold quote at hd ⊢
  have hd' : t.drop p = 34 :: (zs.flatMap escByte ++ 34 :: r) := by rw [hd]; simp
  have hlen : (zs.flatMap escByte).length < t.length := by
    have := congrArg List.length hd'
    rw [List.length_drop, List.length_cons, List.length_append, List.length_cons] at this
    omega
  have hl : zs.length ≤ (zs.flatMap escByte).length := by
    clear hd hd' hlen hz
    induction zs with
    | nil => simp
    | cons c zs ih =>
      have : 1 ≤ (escByte c).length := by unfold escByte; repeat' split
                                          all_goals simp
      simp only [List.flatMap_cons, List.length_append, List.length_cons]
      omega
  have := quo_back t zs (t.length + 1) (p + 1) [] r hz (by omega) (drop_tail hd')
  refine ⟨?_, byte_head hd'⟩
  unfold quoted
  rw [this]
  simp only [List.nil_append, List.length_cons, List.length_append, List.length_nil]
  congr 1
  omega
end Go.Proofs.YtnmhpejnjaeecaaGreatDoor
namespace Go.Proofs.YtnmhpejnjaeecaaGreatDoor

def ten (u : Nat) : List Int := (Lib.decDigits u).map fun c => (c.toNat : Int)
theorem ten_small (u : Nat) (h : u < 10) : ten u = [48 + (u : Int)] := by
  unfold ten
  rw [Lib.decDigits, dif_pos h]
  simp
  omega
theorem ten_big (u : Nat) (h : ¬ u < 10) : ten u = ten (u / 10) ++ [48 + ((u % 10 : Nat) : Int)] := by
  unfold ten
  rw [Lib.decDigits, dif_neg h, List.map_append]
  simp
  omega
theorem ten_dig (u : Nat) : ∀ c ∈ ten u, isDig c = true := by
  induction u using Nat.strongRecOn with
  | _ u ih =>
    intro c hc
    by_cases h : u < 10
    · rw [ten_small u h] at hc
      simp at hc
      unfold isDig; simp; omega
    · rw [ten_big u h] at hc
      rcases List.mem_append.1 hc with h1 | h1
      · exact ih (u / 10) (by omega) c h1
      · simp at h1
        unfold isDig; simp; omega
theorem digs_snoc (l : List Int) (c : Int) : digs (l ++ [c]) = if digs l ≤ maxInt then digs l * 10 + (c - 48) else digs l := by
  unfold digs
  rw [List.foldl_append]
  rfl
theorem ten_val (u : Nat) (hu : (u : Int) ≤ maxInt) : digs (ten u) = u := by
  induction u using Nat.strongRecOn with
  | _ u ih =>
    by_cases h : u < 10
    · rw [ten_small u h]
      unfold digs maxInt
      simp
      omega
    · unfold maxInt at hu
      rw [ten_big u h, digs_snoc, ih (u / 10) (by omega) (by unfold maxInt; omega), if_pos (by unfold maxInt; omega)]
      omega
theorem ten_ne (u : Nat) : ten u ≠ [] := by
  by_cases h : u < 10
  · rw [ten_small u h]; simp
  · rw [ten_big u h]; simp
theorem ten_head (u : Nat) (h1 : 1 ≤ u) : ∃ c r, ten u = c :: r ∧ c ≠ 48 ∧ isDig c = true := by
  induction u using Nat.strongRecOn with
  | _ u ih =>
    by_cases h : u < 10
    · exact ⟨48 + u, [], ten_small u h, by omega, by unfold isDig; simp; omega⟩
    · obtain ⟨c, r, e, hc⟩ := ih (u / 10) (by omega) (by omega)
      exact ⟨c, r ++ [48 + ((u % 10 : Nat) : Int)], by rw [ten_big u h, e]; rfl, hc⟩
/-- What stands behind is no digit. -/
def noDig (r : List Int) : Prop := ∀ c, r.head? = some c → isDig c = false
theorem take_digs (x r : List Int) (hx : ∀ c ∈ x, isDig c = true) (hr : noDig r) : (x ++ r).takeWhile isDig = x := by
  induction x with
  | nil =>
    cases r with
    | nil => rfl
    | cons c r => rw [List.nil_append, List.takeWhile_cons, hr c rfl]; rfl
  | cons c x ih =>
    rw [List.cons_append, List.takeWhile_cons, hx c (by simp)]
    simp only [if_true]
    rw [ih fun d hd => hx d (by simp [hd])]
theorem digits_back {t r : List Int} {p u : Nat} (hu : (u : Int) ≤ maxInt) (hr : noDig r) (hd : t.drop p = ten u ++ r) : digits t p = ((u : Int), p + (ten u).length) := by
  unfold digits
  by_cases h0 : u = 0
  · subst h0
    have e : ten 0 = [48] := ten_small 0 (by omega)
    rw [e] at hd ⊢
    rw [if_pos (byte_head hd)]
    rfl
  · obtain ⟨c, x, e, hc, _⟩ := ten_head u (by omega)
    have hb : byteAt t p = c := byte_head (r := x ++ r) (by rw [hd, e]; rfl)
    rw [if_neg (by rw [hb]; exact hc), hd, take_digs _ _ (ten_dig u) hr, ten_val u hu]
theorem number_back {t r : List Int} {p : Nat} {i : Int} (h0 : -maxInt ≤ i) (h1 : i ≤ maxInt) (hr : noDig r) (hn : ∀ c, r.head? = some c → c ≠ 46 ∧ c ≠ 101 ∧ c ≠ 69) (hd : t.drop p = numB i ++ r) :
    number t p = .ok (.mk 2 i nix [] []) (p + (numB i).length) ∧ (byteAt t p = 45 ∨ isDig (byteAt t p) = true) := by
  have hend : ∀ q, t.drop q = r → ¬ (byteAt t q = 46 ∨ byteAt t q = 101 ∨ byteAt t q = 69) := by
    intro q hq
    cases r with
    | nil => rw [byte_end hq]; decide
    | cons c r =>
      rw [byte_head hq]
      have := hn c rfl
      omega
  unfold numB Lib.itoa at hd ⊢
  by_cases hi : i < 0
  · rw [if_pos hi] at hd ⊢
    obtain ⟨u, hu⟩ : ∃ u : Nat, i = -(u : Int) := ⟨i.natAbs, by omega⟩
    have hab : i.natAbs = u := by omega
    rw [hab] at hd ⊢
    have hd1 : t.drop p = 45 :: (ten u ++ r) := by rw [hd]; rfl
    have b0 := byte_head hd1
    have hd2 := drop_tail hd1
    have hu1 : 1 ≤ u := by omega
    obtain ⟨c, x, e, _, hc⟩ := ten_head u hu1
    have b1 : byteAt t (p + 1) = c := byte_head (r := x ++ r) (by rw [hd2, e]; rfl)
    have hdg := digits_back (t := t) (p := p + 1) (u := u) (by omega) hr hd2
    refine ⟨?_, .inl b0⟩
    unfold number
    rw [if_pos b0, b1, if_pos hc]
    simp only [hdg]
    have hq := hend (p + 1 + (ten u).length) (drop_app hd2)
    rw [if_neg (by intro h; rcases h with h | h; · omega
                   · exact hq h), if_pos b0]
    congr 1
    · rw [hu]
    · simp only [List.map_cons, List.length_cons]
      unfold ten
      omega
  · rw [if_neg hi] at hd ⊢
    obtain ⟨u, rfl⟩ : ∃ u : Nat, i = (u : Int) := ⟨i.toNat, by omega⟩
    rw [Int.toNat_natCast] at hd ⊢
    have hd1 : t.drop p = ten u ++ r := hd
    have hhead : ∃ c x, ten u = c :: x ∧ isDig c = true := by
      cases he : ten u with
      | nil => exact absurd he (ten_ne u)
      | cons c x => exact ⟨c, x, rfl, ten_dig u c (by rw [he]; simp)⟩
    obtain ⟨c, x, e, hc⟩ := hhead
    have b0 : byteAt t p = c := byte_head (r := x ++ r) (by rw [hd1, e]; rfl)
    have h45 : c ≠ 45 := by intro h; rw [h] at hc; revert hc; decide
    have hdg := digits_back (t := t) (p := p) (u := u) h1 hr hd1
    refine ⟨?_, .inr (by rw [b0]; exact hc)⟩
    unfold number
    have e45 : ¬ byteAt t p = 45 := by rw [b0]; exact h45
    have e46 : (if byteAt t p = 45 then p + 1 else p) = p := if_neg e45
    rw [e46, if_pos (by rw [b0]; exact hc)]
    simp only [hdg]
    have hq := hend (p + (ten u).length) (drop_app hd1)
    rw [if_neg (by intro h; rcases h with h | h; · omega
                   · exact hq h), if_neg e45]
    rfl
end Go.Proofs.YtnmhpejnjaeecaaGreatDoor
namespace Go.Proofs.YtnmhpejnjaeecaaGreatDoor

theorem lessB_irrefl : ∀ x : List UInt8, lessB x x = false
  | [] => rfl
  | a :: x => by unfold lessB; rw [lessB_irrefl x]; simp
theorem lessB_trans : ∀ x y z : List UInt8, lessB x y = true → lessB y z = true → lessB x z = true
  | [], [], _, h, _ => by cases h
  | [], _ :: _, [], _, h => by cases h
  | [], _ :: _, _ :: _, _, _ => rfl
  | _ :: _, [], _, h, _ => by cases h
  | _ :: _, _ :: _, [], _, h => by cases h
  | a :: x, b :: y, c :: z, h, h' => by
    unfold lessB at h h' ⊢
    simp only [Bool.or_eq_true, Bool.and_eq_true, decide_eq_true_eq] at h h' ⊢
    rcases h with h | ⟨rfl, h⟩
    · rcases h' with h' | ⟨rfl, h'⟩
      · exact .inl (UInt8.lt_trans h h')
      · exact .inl h
    · rcases h' with h' | ⟨rfl, h'⟩
      · exact .inl h'
      · exact .inr ⟨rfl, lessB_trans x y z h h'⟩
theorem lessB_total : ∀ x y : List UInt8, x ≠ y → lessB x y = true ∨ lessB y x = true
  | [], [], h => absurd rfl h
  | [], _ :: _, _ => .inl rfl
  | _ :: _, [], _ => .inr rfl
  | a :: x, b :: y, h => by
    unfold lessB
    simp only [Bool.or_eq_true, Bool.and_eq_true, decide_eq_true_eq]
    rcases UInt8.lt_or_lt_of_ne (a := a) (b := b) |> fun f => (Classical.em (a = b)).imp id f with rfl | h' | h'
    · rcases lessB_total x y (fun e => h (by rw [e])) with h' | h'
      · exact .inl (.inr ⟨rfl, h'⟩)
      · exact .inr (.inr ⟨rfl, h'⟩)
    · exact .inl (.inl h')
    · exact .inr (.inl h')
def ltK (a b : ByteArray) : Bool := lessB a.data.toList b.data.toList
theorem ltK_irrefl (a : ByteArray) : ltK a a = false := lessB_irrefl _
theorem ltK_trans {a b c : ByteArray} (h : ltK a b = true) (h' : ltK b c = true) : ltK a c = true := lessB_trans _ _ _ h h'
theorem ltK_ne {a b : ByteArray} (h : ltK a b = true) : a ≠ b := by
  intro e; subst e; rw [ltK_irrefl] at h; cases h
theorem ltK_total {a b : ByteArray} (h : a ≠ b) : ltK a b = true ∨ ltK b a = true := by
  refine lessB_total _ _ fun e => h ?_
  cases a; cases b
  simp only at e
  rw [Array.toList_inj.1 e]
/-- Each ahead of all behind it. -/
def rises : List ByteArray → Bool
  | [] => true
  | k :: r => r.all (ltK k) && rises r
theorem sortK_rises : ∀ (q : List (ByteArray × J)), rises (q.map (·.1)) = true → sortK q = q
  | [], _ => rfl
  | x :: q, h => by
    simp only [List.map_cons, rises, Bool.and_eq_true] at h
    unfold sortK
    rw [sortK_rises q h.2]
    cases q with
    | nil => rfl
    | cons y q =>
      have h1 := h.1
      simp only [List.map_cons, List.all_cons, Bool.and_eq_true] at h1
      have : lessB x.1.data.toList y.1.data.toList = true := h1.1
      unfold putK
      rw [if_pos this]
theorem mapOf_rises {ks : List ByteArray} {l : List J} (hl : ks.length = l.length) (h : rises ks = true) : mapOf ks l = .mk 5 0 nix ks l := by
  unfold mapOf
  have e : (ks.zip l).map (·.1) = ks := List.map_fst_zip (by omega)
  have e' : (ks.zip l).map (·.2) = l := List.map_snd_zip (by omega)
  rw [sortK_rises _ (by rw [e]; exact h), e, e']
mutual
/-- The keys of all its maps rise. -/
def inOrd : J → Bool
  | .mk _ _ _ ks l => rises ks && inOrdL l
def inOrdL : List J → Bool
  | [] => true
  | j :: r => inOrd j && inOrdL r
end
theorem rises_app {ks : List ByteArray} {k : ByteArray} {r : List ByteArray} (h : rises (ks ++ k :: r) = true) : ∀ x ∈ ks, x ≠ k := by
  induction ks with
  | nil => intro x hx; cases hx
  | cons a ks ih =>
    simp only [List.cons_append, rises, Bool.and_eq_true] at h
    intro x hx
    rcases List.mem_cons.1 hx with rfl | hx
    · exact ltK_ne (List.all_eq_true.1 h.1 k (by simp))
    · exact ih h.2 x hx
theorem mem_putK {k : ByteArray} {v : J} {x : ByteArray × J} : ∀ (q : List (ByteArray × J)), x ∈ putK k v q ↔ x = (k, v) ∨ x ∈ q
  | [] => by simp [putK]
  | y :: q => by
    unfold putK
    split
    · simp
    · rw [List.mem_cons, mem_putK q, List.mem_cons]
      constructor
      · rintro (h | h | h)
        · exact .inr (.inl h)
        · exact .inl h
        · exact .inr (.inr h)
      · rintro (h | h | h)
        · exact .inr (.inl h)
        · exact .inl h
        · exact .inr (.inr h)
theorem mem_sortK {x : ByteArray × J} : ∀ (q : List (ByteArray × J)), x ∈ sortK q ↔ x ∈ q
  | [] => Iff.rfl
  | y :: q => by
    unfold sortK
    rw [mem_putK, mem_sortK q, List.mem_cons]
theorem putK_rises {k : ByteArray} {v : J} : ∀ (q : List (ByteArray × J)), rises (q.map (·.1)) = true → (∀ x ∈ q, x.1 ≠ k) → rises ((putK k v q).map (·.1)) = true
  | [], _, _ => rfl
  | y :: q, h, hn => by
    simp only [List.map_cons, rises, Bool.and_eq_true] at h
    unfold putK
    split
    · rename_i hl
      simp only [List.map_cons, rises, Bool.and_eq_true, List.all_cons]
      refine ⟨⟨hl, List.all_eq_true.2 fun z hz => ltK_trans hl (List.all_eq_true.1 h.1 z hz)⟩, h.1, h.2⟩
    · rename_i hl
      have hyk : ltK y.1 k = true := by
        rcases ltK_total (hn y (by simp)) with h' | h'
        · exact h'
        · exact absurd h' hl
      simp only [List.map_cons, rises, Bool.and_eq_true]
      refine ⟨List.all_eq_true.2 fun z hz => ?_, putK_rises q h.2 fun x hx => hn x (by simp [hx])⟩
      obtain ⟨x, hx, rfl⟩ := List.mem_map.1 hz
      rcases (mem_putK q).1 hx with rfl | hx
      · exact hyk
      · exact List.all_eq_true.1 h.1 _ (List.mem_map.2 ⟨x, hx, rfl⟩)
/-- No key stands twice. -/
def apartK (q : List (ByteArray × J)) : Prop := q.Pairwise fun x y => x.1 ≠ y.1
theorem sortK_rises' : ∀ (q : List (ByteArray × J)), apartK q → rises ((sortK q).map (·.1)) = true
  | [], _ => rfl
  | y :: q, h => by
    unfold sortK
    have h' := List.pairwise_cons.1 h
    exact putK_rises _ (sortK_rises' q h'.2) fun x hx => (h'.1 x ((mem_sortK q).1 hx)).symm
theorem putK_length {k : ByteArray} {v : J} : ∀ (q : List (ByteArray × J)), (putK k v q).length = q.length + 1
  | [] => rfl
  | y :: q => by
    unfold putK
    split
    · rfl
    · simp [putK_length q]
theorem sortK_length : ∀ (q : List (ByteArray × J)), (sortK q).length = q.length
  | [] => rfl
  | y :: q => by unfold sortK; rw [putK_length, sortK_length q]; rfl
end Go.Proofs.YtnmhpejnjaeecaaGreatDoor
namespace Go.Proofs.YtnmhpejnjaeecaaGreatDoor

/-- What may stand behind a value. -/
def Stop (r : List Int) : Prop := ∀ c, r.head? = some c → c = 44 ∨ c = 93 ∨ c = 125
theorem stop_dig {r : List Int} (h : Stop r) : noDig r := fun c hc => by
  rcases h c hc with rfl | rfl | rfl <;> decide
theorem stop_sign {r : List Int} (h : Stop r) : ∀ c, r.head? = some c → c ≠ 46 ∧ c ≠ 101 ∧ c ≠ 69 := fun c hc => by
  rcases h c hc with rfl | rfl | rfl <;> decide
theorem blanks_none {t r : List Int} {p : Nat} {c : Int} (hd : t.drop p = c :: r) (hc : isBlank c = false) : blanks t p = p := by
  unfold blanks
  rw [hd, List.takeWhile_cons, hc]
  rfl
theorem blanks_end {t : List Int} {p : Nat} (hd : t.drop p = []) : blanks t p = p := by
  unfold blanks
  rw [hd]
  rfl
theorem must_back {t r : List Int} {p : Nat} {c : Int} (hd : t.drop p = c :: r) : must t c p = .ok () (p + 1) := by
  unfold must
  rw [if_pos (byte_head hd)]
theorem word_back {t : List Int} : ∀ (l r : List Int) (p : Nat), t.drop p = l ++ r → word t l p = .ok () (p + l.length)
  | [], _, _, _ => rfl
  | c :: l, r, p, hd => by
    unfold word
    rw [must_back (r := l ++ r) hd]
    simp only [Res.bind]
    rw [word_back l r (p + 1) (drop_tail hd)]
    simp only [List.length_cons]
    congr 1
    omega
/-- The first byte of a value. -/
theorem enc_head (d : Nat) (j : J) (hg : goodJ d j = true) : ∃ c r, enc' j = c :: r ∧ isBlank c = false ∧ begins c = true ∧ c ≠ 93 ∧ c ≠ 125 := by
  cases j with
  | mk k i t ks l =>
    cases d with
    | zero => cases hg
    | succ d =>
      unfold goodJ at hg
      simp only [Bool.and_eq_true] at hg
      have h := hg.2
      unfold enc'
      split
      · exact ⟨110, _, rfl, by decide, by decide, by decide, by decide⟩
      split
      · split
        · exact ⟨116, _, rfl, by decide, by decide, by decide, by decide⟩
        · exact ⟨102, _, rfl, by decide, by decide, by decide, by decide⟩
      split
      · unfold numB Lib.itoa
        split
        · exact ⟨45, _, rfl, by decide, by decide, by decide, by decide⟩
        · have hn := ten_ne i.toNat
          have hd := ten_dig i.toNat
          unfold ten at hn hd
          cases he : (Lib.decDigits i.toNat).map fun c => (c.toNat : Int) with
          | nil => exact absurd he hn
          | cons c r =>
            have hc := hd c (by rw [he]; simp)
            refine ⟨c, r, rfl, ?_, by unfold begins; rw [hc]; simp, ?_, ?_⟩
            · unfold isDig at hc; unfold isBlank; simp at hc ⊢; omega
            · unfold isDig at hc; simp at hc; omega
            · unfold isDig at hc; simp at hc; omega
      split
      · exact ⟨34, _, rfl, by decide, by decide, by decide, by decide⟩
      split
      · exact ⟨91, _, rfl, by decide, by decide, by decide, by decide⟩
      split
      · exact ⟨123, _, rfl, by decide, by decide, by decide, by decide⟩
      · rename_i h0 h1 h2 h3 h4 h5
        rw [if_neg h0, if_neg h1, if_neg h2, if_neg h3, if_neg h4, if_neg h5] at h
        cases h
theorem encL_cons (b : Bool) (j : J) (r : List J) : encL b (j :: r) = (if b then [] else [44]) ++ (enc' j ++ encL false r) := by rw [encL]
theorem encP_cons (b : Bool) (ks : List ByteArray) (j : J) (r : List J) : encP b ks (j :: r) = (if b then [] else [44]) ++ (quote (ints (ks.headD nix)) ++ (58 :: (enc' j ++ encP false ks.tail r))) := by rw [encP]
theorem listL_succ (t : List Int) (f : Nat → Res J) (m p : Nat) (acc : List J) : listL t f (m + 1) p acc = (f (blanks t p)).bind fun v q =>
    if byteAt t (blanks t q) = 93 then .ok (.mk 4 0 nix [] (acc ++ [v])) (blanks t q + 1)
    else if byteAt t (blanks t q) = 44 then listL t f m (blanks t q + 1) (acc ++ [v])
    else .bad 11 (blanks t q) := rfl
theorem pairsL_succ (t : List Int) (f : Nat → Res J) (m p : Nat) (ks : List ByteArray) (acc : List J) : pairsL t f (m + 1) p ks acc = (keyAt t ks (blanks t p)).bind fun s q => (f q).bind fun v r =>
    if byteAt t (blanks t r) = 125 then .ok (mapOf (ks ++ [s]) (acc ++ [v])) (blanks t r + 1)
    else if byteAt t (blanks t r) = 44 then pairsL t f m (blanks t r + 1) (ks ++ [s]) (acc ++ [v])
    else .bad 11 (blanks t r) := rfl
theorem list_back {t : List Int} {d : Nat} {f : Nat → Res J} (hf : ∀ (j : J) (p : Nat) (r : List Int), goodJ d j = true → inOrd j = true → t.drop p = enc' j ++ r → Stop r → f p = .ok j (p + (enc' j).length)) :
    ∀ (l : List J) (m p : Nat) (acc : List J) (r : List Int), l ≠ [] → l.all (goodJ d) = true → inOrdL l = true → l.length < m → t.drop p = encL true l ++ 93 :: r →
      listL t f m p acc = .ok (.mk 4 0 nix [] (acc ++ l)) (p + (encL true l).length + 1)
  | [], _, _, _, _, h, _, _, _, _ => absurd rfl h
  | j :: l, 0, _, _, _, _, _, _, hm, _ => by omega
  | j :: l, m + 1, p, acc, r, _, hg, ho, hm, hd => by
    simp only [List.all_cons, Bool.and_eq_true] at hg
    have ho' : inOrd j = true ∧ inOrdL l = true := by unfold inOrdL at ho; simpa using ho
    have e0 : encL true (j :: l) = enc' j ++ encL false l := by rw [encL_cons]; simp
    rw [e0, List.append_assoc] at hd
    obtain ⟨c, x, hh, hbl, _⟩ := enc_head d j hg.1
    have hd0 : t.drop p = c :: (x ++ (encL false l ++ 93 :: r)) := by rw [hd, hh]; rfl
    have hb0 := blanks_none hd0 hbl
    have hnext := drop_app hd
    have hstop : Stop (encL false l ++ 93 :: r) := by
      intro y hy
      cases l with
      | nil => unfold encL at hy; simp at hy; omega
      | cons j2 l2 => unfold encL at hy; simp at hy; omega
    rw [listL_succ, hb0, hf j p _ hg.1 ho'.1 hd hstop]
    simp only [Res.bind]
    cases l with
    | nil =>
      have hd1 : t.drop (p + (enc' j).length) = 93 :: r := by rw [hnext]; unfold encL; rfl
      rw [blanks_none hd1 (by decide), if_pos (byte_head hd1), e0]
      unfold encL
      simp
    | cons j2 l2 =>
      have e1 : encL false (j2 :: l2) = 44 :: encL true (j2 :: l2) := by rw [encL_cons, encL_cons]; simp
      have hd1 : t.drop (p + (enc' j).length) = 44 :: (encL true (j2 :: l2) ++ 93 :: r) := by rw [hnext, e1]; rfl
      rw [blanks_none hd1 (by decide), if_neg (by rw [byte_head hd1]; decide), if_pos (byte_head hd1)]
      rw [list_back hf (j2 :: l2) m (p + (enc' j).length + 1) (acc ++ [j]) r (by simp) hg.2 ho'.2 (by simp at hm ⊢; omega) (drop_tail hd1), e0, e1]
      simp only [List.append_assoc, List.singleton_append, List.length_append, List.length_cons]
      congr 1
      omega
theorem key_back {t r : List Int} {p : Nat} {ks : List ByteArray} {k : ByteArray} {c : Int} (hn : ∀ x ∈ ks, x ≠ k) (hc : isBlank c = false) (hd : t.drop p = quote (ints k) ++ 58 :: c :: r) :
    keyAt t ks p = .ok k (p + (quote (ints k)).length + 1) := by
  obtain ⟨hq, hb⟩ := quoted_back (ints_bd k) hd
  have hd1 := drop_app hd
  have hd2 := drop_tail hd1
  unfold keyAt
  rw [if_pos hb, hq]
  simp only [Res.bind, str_ints]
  rw [if_neg, blanks_none hd1 (by decide), must_back hd1]
  · simp only
    rw [blanks_none hd2 hc]
  · intro h
    obtain ⟨x, hx, hxe⟩ := List.any_eq_true.1 h
    refine hn x hx ?_
    cases x; cases k
    simp at hxe
    rw [hxe]
theorem pairs_back {t : List Int} {d : Nat} {f : Nat → Res J} (hf : ∀ (j : J) (p : Nat) (r : List Int), goodJ d j = true → inOrd j = true → t.drop p = enc' j ++ r → Stop r → f p = .ok j (p + (enc' j).length)) :
    ∀ (l : List J) (ks ks0 : List ByteArray) (m p : Nat) (acc : List J) (r : List Int), l ≠ [] → ks.length = l.length → rises (ks0 ++ ks) = true → l.all (goodJ d) = true → inOrdL l = true → l.length < m → t.drop p = encP true ks l ++ 125 :: r →
      pairsL t f m p ks0 acc = .ok (mapOf (ks0 ++ ks) (acc ++ l)) (p + (encP true ks l).length + 1)
  | [], _, _, _, _, _, _, h, _, _, _, _, _, _ => absurd rfl h
  | j :: l, [], _, _, _, _, _, _, h, _, _, _, _, _ => by simp at h
  | j :: l, k :: ks, _, 0, _, _, _, _, _, _, _, _, hm, _ => by omega
  | j :: l, k :: ks, ks0, m + 1, p, acc, r, _, hl, hr, hg, ho, hm, hd => by
    simp only [List.all_cons, Bool.and_eq_true] at hg
    have ho' : inOrd j = true ∧ inOrdL l = true := by unfold inOrdL at ho; simpa using ho
    have e0 : encP true (k :: ks) (j :: l) = quote (ints k) ++ (58 :: (enc' j ++ encP false ks l)) := by rw [encP_cons]; simp
    rw [e0] at hd
    obtain ⟨c, x, hh, hbl, _⟩ := enc_head d j hg.1
    have hd0 : t.drop p = quote (ints k) ++ 58 :: c :: (x ++ (encP false ks l ++ 125 :: r)) := by rw [hd, hh]; simp
    have hq0 : t.drop p = 34 :: ((ints k).flatMap escByte ++ [34] ++ 58 :: c :: (x ++ (encP false ks l ++ 125 :: r))) := by rw [hd0]; unfold quote; simp
    have hb0 := blanks_none hq0 (by decide)
    have hkey := key_back (rises_app hr) hbl hd0
    have hd1 : t.drop (p + (quote (ints k)).length + 1) = enc' j ++ (encP false ks l ++ 125 :: r) := by
      have := drop_tail (drop_app hd0)
      rw [this, hh]; rfl
    have hstop : Stop (encP false ks l ++ 125 :: r) := by
      intro y hy
      cases l with
      | nil => unfold encP at hy; simp at hy; omega
      | cons j2 l2 => unfold encP at hy; simp at hy; omega
    rw [pairsL_succ, hb0, hkey]
    simp only [Res.bind]
    rw [hf j _ _ hg.1 ho'.1 hd1 hstop]
    simp only
    have hnext := drop_app hd1
    cases l with
    | nil =>
      have hk0 : ks = [] := List.eq_nil_of_length_eq_zero (by simpa using hl)
      subst hk0
      have hd2 : t.drop (p + (quote (ints k)).length + 1 + (enc' j).length) = 125 :: r := by rw [hnext]; unfold encP; rfl
      rw [blanks_none hd2 (by decide), if_pos (byte_head hd2), e0]
      unfold encP
      simp only [List.length_append, List.length_cons, List.length_nil]
      congr 1
      omega
    | cons j2 l2 =>
      have e1 : encP false ks (j2 :: l2) = 44 :: encP true ks (j2 :: l2) := by rw [encP_cons, encP_cons]; simp
      have hd2 : t.drop (p + (quote (ints k)).length + 1 + (enc' j).length) = 44 :: (encP true ks (j2 :: l2) ++ 125 :: r) := by rw [hnext, e1]; rfl
      rw [blanks_none hd2 (by decide), if_neg (by rw [byte_head hd2]; decide), if_pos (byte_head hd2)]
      rw [pairs_back hf (j2 :: l2) ks (ks0 ++ [k]) m _ (acc ++ [j]) r (by simp) (by simpa using hl) (by rw [List.append_assoc]; exact hr) hg.2 ho'.2 (by simp at hm ⊢; omega) (drop_tail hd2), e0, e1]
      simp only [List.append_assoc, List.singleton_append, List.length_append, List.length_cons]
      congr 1
      omega
theorem nix_of {t : ByteArray} (h : t.size = 0) : t = nix := by
  cases t with
  | mk a =>
    have : a = #[] := Array.eq_empty_of_size_eq_zero h
    rw [this]; rfl
theorem encL_len (l : List J) : ∀ b, (∀ j ∈ l, 1 ≤ (enc' j).length) → l.length ≤ (encL b l).length := by
  induction l with
  | nil => intro b _; simp
  | cons j l ih =>
    intro b h
    have h1 := h j (by simp)
    have h2 := ih false fun x hx => h x (by simp [hx])
    unfold encL
    simp only [List.length_append, List.length_cons]
    omega
theorem encP_len (l : List J) : ∀ b ks, l.length ≤ (encP b ks l).length := by
  induction l with
  | nil => intro b ks; simp
  | cons j l ih =>
    intro b ks
    have h2 := ih false ks.tail
    unfold encP
    simp only [List.length_append, List.length_cons]
    omega
theorem drop_len {t x r : List Int} {p : Nat} (h : t.drop p = x ++ r) : x.length ≤ t.length := by
  have := congrArg List.length h
  rw [List.length_drop, List.length_append] at this
  omega
theorem value_back (t : List Int) : ∀ (d : Nat) (j : J) (p : Nat) (r : List Int), goodJ d j = true → inOrd j = true → t.drop p = enc' j ++ r → Stop r → value t d p = .ok j (p + (enc' j).length)
  | 0, _, _, _, h, _, _, _ => by cases h
  | d + 1, .mk k i s ks l, p, r, hg, ho, hd, hs => by
    have hgood := hg
    obtain ⟨c0, x0, hh, _, hbeg, _, _⟩ := enc_head (d + 1) _ hg
    unfold goodJ bare at hg
    simp only [Bool.and_eq_true, Bool.or_eq_true, decide_eq_true_eq] at hg
    obtain ⟨⟨⟨⟨hi, ht⟩, hk⟩, hl⟩, h⟩ := hg
    have ho' : rises ks = true ∧ inOrdL l = true := by unfold inOrd at ho; simpa using ho
    have b0 : byteAt t p = c0 := byte_head (r := x0 ++ r) (by rw [hd, hh]; rfl)
    unfold value
    rw [if_pos (by rw [b0]; exact hbeg)]
    by_cases k0 : k = 0
    · subst k0
      have hi0 : i = 0 := by omega
      have ht0 := nix_of (by omega : s.size = 0)
      have hk0 : ks = [] := List.eq_nil_of_length_eq_zero (by omega)
      have hl0 : l = [] := List.eq_nil_of_length_eq_zero (by omega)
      subst hi0 ht0 hk0 hl0
      have e : enc' (.mk 0 0 nix [] []) = [110, 117, 108, 108] := by unfold enc'; rfl
      rw [e] at hd ⊢
      rw [if_pos (byte_head hd), word_back _ _ _ hd]
      rfl
    by_cases k1 : k = 1
    · subst k1
      have ht0 := nix_of (by omega : s.size = 0)
      have hk0 : ks = [] := List.eq_nil_of_length_eq_zero (by omega)
      have hl0 : l = [] := List.eq_nil_of_length_eq_zero (by omega)
      subst ht0 hk0 hl0
      rw [if_neg k0, if_pos rfl] at h
      simp only [Bool.or_eq_true, decide_eq_true_eq] at h
      rcases h with rfl | rfl
      · have e : enc' (.mk 1 0 nix [] []) = [102, 97, 108, 115, 101] := by unfold enc'; rfl
        rw [e] at hd ⊢
        have hb := byte_head hd
        rw [if_neg (by rw [hb]; decide), if_neg (by rw [hb]; decide), if_pos hb, word_back _ _ _ hd]
        rfl
      · have e : enc' (.mk 1 1 nix [] []) = [116, 114, 117, 101] := by unfold enc'; rfl
        rw [e] at hd ⊢
        have hb := byte_head hd
        rw [if_neg (by rw [hb]; decide), if_pos hb, word_back _ _ _ hd]
        rfl
    by_cases k2 : k = 2
    · subst k2
      have ht0 := nix_of (by omega : s.size = 0)
      have hk0 : ks = [] := List.eq_nil_of_length_eq_zero (by omega)
      have hl0 : l = [] := List.eq_nil_of_length_eq_zero (by omega)
      subst ht0 hk0 hl0
      rw [if_neg k0, if_neg k1, if_pos rfl] at h
      simp only [Bool.and_eq_true, decide_eq_true_eq] at h
      have e : enc' (.mk 2 i nix [] []) = numB i := by unfold enc'; rfl
      rw [e] at hd ⊢
      obtain ⟨hn, hb⟩ := number_back h.1 h.2 (stop_dig hs) (stop_sign hs) hd
      have hbb : ∀ y : Int, isDig y = false → y ≠ 45 → byteAt t p ≠ y := by
        intro y h1 h2 h3
        rw [h3] at hb
        rcases hb with hb | hb
        · exact h2 hb
        · rw [h1] at hb; cases hb
      rw [if_neg (hbb 110 (by decide) (by decide)), if_neg (hbb 116 (by decide) (by decide)), if_neg (hbb 102 (by decide) (by decide)), if_neg (hbb 34 (by decide) (by decide)), if_neg (hbb 91 (by decide) (by decide)), if_neg (hbb 123 (by decide) (by decide))]
      exact hn
    by_cases k3 : k = 3
    · subst k3
      have hi0 : i = 0 := by omega
      have hk0 : ks = [] := List.eq_nil_of_length_eq_zero (by omega)
      have hl0 : l = [] := List.eq_nil_of_length_eq_zero (by omega)
      subst hi0 hk0 hl0
      have e : enc' (.mk 3 0 s [] []) = quote (ints s) := by unfold enc'; rfl
      rw [e] at hd ⊢
      obtain ⟨hq, hb⟩ := quoted_back (ints_bd s) hd
      rw [if_neg (by rw [hb]; decide), if_neg (by rw [hb]; decide), if_neg (by rw [hb]; decide), if_pos hb, hq]
      simp only [Res.bind, str_ints]
    by_cases k4 : k = 4
    · subst k4
      have hi0 : i = 0 := by omega
      have ht0 := nix_of (by omega : s.size = 0)
      have hk0 : ks = [] := List.eq_nil_of_length_eq_zero (by omega)
      subst hi0 ht0 hk0
      rw [if_neg k0, if_neg k1, if_neg k2, if_neg k3, if_pos rfl] at h
      have e : enc' (.mk 4 0 nix [] l) = 91 :: (encL true l ++ [93]) := by unfold enc'; rfl
      rw [e] at hd ⊢
      have hd0 : t.drop p = 91 :: (encL true l ++ 93 :: r) := by rw [hd]; simp
      have hb := byte_head hd0
      have hd1 := drop_tail hd0
      rw [if_neg (by rw [hb]; decide), if_neg (by rw [hb]; decide), if_neg (by rw [hb]; decide), if_neg (by rw [hb]; decide), if_pos hb]
      unfold listAt
      cases l with
      | nil =>
        have hd2 : t.drop (p + 1) = 93 :: r := by rw [hd1]; unfold encL; rfl
        rw [blanks_none hd2 (by decide), if_pos (byte_head hd2)]
        unfold encL
        simp
      | cons j2 l2 =>
        have hg2 : goodJ d j2 = true := by simp only [List.all_cons, Bool.and_eq_true] at h; exact h.1
        obtain ⟨c, x, hh2, hbl, _, hc93, _⟩ := enc_head d j2 hg2
        have hd2 : t.drop (p + 1) = c :: (x ++ (encL false l2 ++ 93 :: r)) := by rw [hd1, encL_cons, hh2]; simp
        have hlen : (j2 :: l2).length < t.length + 1 := by
          have h1 := encL_len (j2 :: l2) true fun y hy => by
            obtain ⟨c', x', hh', _⟩ := enc_head d y (List.all_eq_true.1 h y hy)
            rw [hh']; simp
          have h2 := drop_len hd1
          omega
        rw [blanks_none hd2 hbl, if_neg (by rw [byte_head hd2]; exact hc93)]
        rw [list_back (fun j p r h1 h2 h3 h4 => value_back t d j p r h1 h2 h3 h4) (j2 :: l2) (t.length + 1) (p + 1) [] r (by simp) h ho'.2 hlen hd1]
        simp only [List.nil_append, List.length_cons, List.length_append, List.length_nil]
        congr 1
        omega
    by_cases k5 : k = 5
    · subst k5
      have hi0 : i = 0 := by omega
      have ht0 := nix_of (by omega : s.size = 0)
      subst hi0 ht0
      rw [if_neg k0, if_neg k1, if_neg k2, if_neg k3, if_neg k4, if_pos rfl] at h
      simp only [Bool.and_eq_true, decide_eq_true_eq] at h
      have e : enc' (.mk 5 0 nix ks l) = 123 :: (encP true ks l ++ [125]) := by unfold enc'; rfl
      rw [e] at hd ⊢
      have hd0 : t.drop p = 123 :: (encP true ks l ++ 125 :: r) := by rw [hd]; simp
      have hb := byte_head hd0
      have hd1 := drop_tail hd0
      rw [if_neg (by rw [hb]; decide), if_neg (by rw [hb]; decide), if_neg (by rw [hb]; decide), if_neg (by rw [hb]; decide), if_neg (by rw [hb]; decide), if_pos hb]
      unfold pairsAt
      cases l with
      | nil =>
        have hk0 : ks = [] := List.eq_nil_of_length_eq_zero (by simpa using h.1.1)
        subst hk0
        have hd2 : t.drop (p + 1) = 125 :: r := by rw [hd1]; unfold encP; rfl
        rw [blanks_none hd2 (by decide), if_pos (byte_head hd2)]
        unfold encP
        simp
      | cons j2 l2 =>
        have hlen : (j2 :: l2).length < t.length + 1 := by
          have h1 := encP_len (j2 :: l2) true ks
          have h2 := drop_len hd1
          omega
        have hd2 : ∃ y, t.drop (p + 1) = 34 :: y := by
          rw [hd1]
          unfold encP quote
          simp
        obtain ⟨y, hd2⟩ := hd2
        rw [blanks_none hd2 (by decide), if_neg (by rw [byte_head hd2]; decide)]
        rw [pairs_back (fun j p r h1 h2 h3 h4 => value_back t d j p r h1 h2 h3 h4) (j2 :: l2) ks [] (t.length + 1) (p + 1) [] r (by simp) h.1.1 ho'.1 h.2 ho'.2 hlen hd1]
        rw [List.nil_append, List.nil_append, mapOf_rises h.1.1 ho'.1]
        simp only [List.length_cons, List.length_append, List.length_nil]
        congr 1
        omega
    · rw [if_neg k0, if_neg k1, if_neg k2, if_neg k3, if_neg k4, if_neg k5] at h
      cases h
theorem whole_back (j : J) (hg : goodJ 12 j = true) (ho : inOrd j = true) : whole (enc' j) = .ok j (enc' j).length := by
  obtain ⟨c, x, hh, hbl, _⟩ := enc_head 12 j hg
  have hd : (enc' j).drop 0 = enc' j ++ [] := by simp
  have hd0 : (enc' j).drop 0 = c :: x := by rw [hh]; rfl
  unfold whole
  rw [blanks_none hd0 hbl, value_back (enc' j) 12 j 0 [] hg ho hd (fun c hc => by cases hc)]
  simp only [Res.bind, Nat.zero_add]
  rw [blanks_end (by simp), if_neg (by omega)]
end Go.Proofs.YtnmhpejnjaeecaaGreatDoor

/-
  Texts as numbers, rows of bytes as they are read, and what a call returns: general parts.
  What bytes of JSON say, as plain functions on lists of bytes.
  Worlds that keep all but some blocks; values of JSON as they lie in memory.
  Levels as plain data: rows of names, what changes from one to the next, who may change it.
  Levels as they lie in memory; who has which level: by contracts.
  Blocks of cells that are stored into, read, and rows of names in a block.
  User, Type, Start, the seven numbers as a row, and what is above a level: by contracts.
  Levels that are few: by contracts.
  Levels that came in, as the walks read them.
  A value of JSON that came in, as the walks read it.
  Letters of a text, byte by byte: which stands where, and the first byte that is no letter's.
  Which values are good, how they are put in order, and which bytes they have: as plain functions.
  Keys that rise, and values in order.
  Rows of bytes of the call's own: one byte more, and as a text.
-/
import Derived.WalkKit
import Derived.WalkSpells
import Derived.WalkLawsBesides
import Derived.Laws.BytesArg
import Derived.Lib.Strings
import Derived.Lib.RuneBytes
import Derived.Lib.Bytealg
import Derived.Test.YtnngalkdjgjmbaaGreatRows
import Derived.Test.YtnngalkdjgjmbaaGreatChecked
import Derived.ProofKit
import Derived.SizedLaws
import Derived.Deep.Strs
import Derived.Deep.Slices
import Derived.SliceStrings
import Derived.Laws.RangeAny
import Derived.Lib.ItoaNum
import Derived.Laws.AppendOwnNone
set_option maxRecDepth 100000
set_option maxHeartbeats 16000000
namespace Go.Proofs.YtnngalkdjgjmbaaGreat
open Go.RowKit
def ints (s : ByteArray) : List Int := s.data.toList.map fun c => (c.toNat : Int)
theorem ints_length (s : ByteArray) : (ints s).length = s.size := by simp [ints]
theorem ints_getD (s : ByteArray) (k : Nat) (h : k < s.size) : (ints s).getD k 0 = (s[k].toNat : Int) := by
 have h' : k < s.data.toList.length := by simpa using h
 simp only [ints, List.getD_eq_getElem?_getD, List.getElem?_map, List.getElem?_eq_getElem h', Option.map_some, Option.getD_some]
 rfl
theorem ret_bool {a b : Bool} (h : a = b) : Ending.returned (.bool a) = .returned (.bool b) := by rw [h]
theorem add_block (a : Addr) (m : Nat) : (a.add m).block = a.block := by unfold Addr.add; split <;> rfl
theorem cell_row {w : World} {g t : Nat} {fr : Nat × Nat} {cur : List Value} (h : w.heap[g]? = some (.cells cur.toArray t fr)) (j : Nat) (v : Value) (hj : cur[j]? = some v) : w.cell? ⟨g, j, none⟩ = some v := by
 simp [World.cell?, h, hj]
theorem own_base {w : World} {B e size n : Nat} {v : Value} {xs : List Value} (h : w.ownsRow B e size v n xs) : ∀ k, v.ownBlock = some k → B ≤ k := by
 intro k hk
 rcases h.2 with ⟨rfl, _⟩ | ⟨g, cap, cur, rfl, hg, _⟩
 · cases hk
 · cases hk; exact hg
end Go.Proofs.YtnngalkdjgjmbaaGreat
namespace Go.Proofs.YtnngalkdjgjmbaaGreat
inductive J where
 | mk (kind int : Int) (text : ByteArray) (keys : List ByteArray) (list : List J)
def nix : ByteArray := ⟨#[]⟩
def J.zero : J := .mk 0 0 nix [] []
def J.kind : J → Int | .mk k _ _ _ _ => k
def J.int : J → Int | .mk _ i _ _ _ => i
def J.text : J → ByteArray | .mk _ _ t _ _ => t
def J.keys : J → List ByteArray | .mk _ _ _ ks _ => ks
def J.list : J → List J | .mk _ _ _ _ l => l
def byteAt (t : List Int) (i : Nat) : Int := t.getD i 0
def maxInt : Int := 9007199254740991
def lessB : List UInt8 → List UInt8 → Bool
 | [], [] => false
 | [], _ :: _ => true
 | _ :: _, [] => false
 | a :: x, b :: y => decide (a < b) || (decide (a = b) && lessB x y)
def putK (k : ByteArray) (v : J) : List (ByteArray × J) → List (ByteArray × J)
 | [] => [(k, v)]
 | q :: l => if lessB k.data.toList q.1.data.toList = true then (k, v) :: q :: l else q :: putK k v l
def sortK : List (ByteArray × J) → List (ByteArray × J)
 | [] => []
 | q :: l => putK q.1 q.2 (sortK l)
def mapOf (ks : List ByteArray) (l : List J) : J := .mk 5 0 nix ((sortK (ks.zip l)).map (·.1)) ((sortK (ks.zip l)).map (·.2))
end Go.Proofs.YtnngalkdjgjmbaaGreat
namespace Go.Proofs.YtnngalkdjgjmbaaGreat
open Go.RowKit
structure Keep (S : Nat → Prop) (w w' : World) : Prop where
 os : w'.os = w.os
 tape : w'.tape = w.tape
 output : w'.output = w.output
 size : w.heap.size ≤ w'.heap.size
 block : ∀ k, k < w.heap.size → ¬ S k → w'.heap[k]? = w.heap[k]?
theorem Keep.refl (S : Nat → Prop) (w : World) : Keep S w w := ⟨rfl, rfl, rfl, Nat.le_refl _, fun _ _ _ => rfl⟩
theorem Keep.trans {S S' : Nat → Prop} {a b c : World} (h : Keep S a b) (k : Keep S' b c) (hS : ∀ i, i < a.heap.size → S' i → S i) : Keep S a c :=
 ⟨k.os.trans h.os, k.tape.trans h.tape, k.output.trans h.output, Nat.le_trans h.size k.size, fun i hi hn => (k.block i (Nat.lt_of_lt_of_le hi h.size) (fun h' => hn (hS i hi h'))).trans (h.block i hi hn)⟩
theorem Keep.then {S : Nat → Prop} {a b c : World} (h : Keep S a b) (k : Keep S b c) : Keep S a c := h.trans k fun _ _ h => h
theorem Keep.of_below {S : Nat → Prop} {a b : World} (h : Below a.heap.size a b) : Keep S a b := ⟨h.os, h.tape, h.output, h.size, fun k hk _ => h.block k hk⟩
theorem Keep.of_grown {S : Nat → Prop} {a b : World} {row : Option Nat} (h : a.grownBy b row) (hr : ∀ k, k < a.heap.size → row = some k → S k) : Keep S a b :=
 ⟨h.os, h.tape, h.output, h.size, fun k hk hn => h.block k hk fun e => hn (hr k hk e.symm)⟩
theorem Keep.below {S : Nat → Prop} {a b : World} (h : Keep S a b) {B : Nat} (hB : B ≤ a.heap.size) (hS : ∀ k, k < B → ¬ S k) : Below B a b :=
 ⟨h.os, h.tape, h.output, h.size, fun k hk => h.block k (Nat.lt_of_lt_of_le hk hB) (hS k hk)⟩
theorem Keep.cell {S : Nat → Prop} {a b : World} (h : Keep S a b) {p : Addr} (hp : p.block < a.heap.size) (hS : ¬ S p.block) : b.cell? p = a.cell? p := World.cell?_of_block (h.block _ hp hS)
theorem Keep.drew {S : Nat → Prop} {a b : World} (h : Keep S a b) : Keep S a b.drew := ⟨h.os, h.tape, h.output, h.size, h.block⟩
theorem Keep.alloc {S : Nat → Prop} {a b : World} (h : Keep S a b) (o : Obj) : Keep S a (b.alloc o) :=
 h.trans (S' := fun _ => False) (Keep.of_below ((Below.refl _ _).alloc (Nat.le_refl _) o)) fun _ _ h => h.elim
theorem Keep.setCell {S : Nat → Prop} {a b : World} (h : Keep S a b) {p : Addr} (hp : p.block < a.heap.size → S p.block) (u : Value) : Keep S a (b.setCell p u) :=
 ⟨h.os, h.tape, h.output, by rw [show (b.setCell p u).heap.size = b.heap.size by simp]; exact h.size, fun k hk hn => by
  rw [Below.heap_setCell b p u k (fun e => hn (e ▸ hp (e ▸ hk)))]; exact h.block k hk hn⟩
theorem own_keep {S : Nat → Prop} {w w' : World} {B e size n : Nat} {v : Value} {xs : List Value} (h : w.ownsRow B e size v n xs) (hk : Keep S w w') (hS : ∀ k, v.ownBlock = some k → ¬ S k) : w'.ownsRow B e size v n xs := by
 refine ⟨h.1, ?_⟩
 rcases h.2 with hn | ⟨g, cap, cur, rfl, hg, hgg, rest⟩
 · exact .inl hn
 · exact .inr ⟨g, cap, cur, rfl, hg, by rw [hk.block g (Array.getElem?_eq_some_iff.1 hgg).1 (hS g rfl)]; exact hgg, rest⟩
def RdK (O : Nat → Prop) (w : World) (p : Option Addr) (c : Nat) (ks : List ByteArray) : Prop :=
 ks.length ≤ c ∧ ∀ j, j < ks.length → ∃ a, p = some a ∧ O a.block ∧ w.cell? (a.add j) = some (.string (ks.getD j nix))
theorem RdK.nil (O : Nat → Prop) (w : World) : RdK O w none 0 [] := ⟨Nat.le_refl _, fun j hj => absurd hj (by simp)⟩
theorem RdK.carry {O O' : Nat → Prop} {w w' : World} {p : Option Addr} {c : Nat} {ks : List ByteArray} (h : RdK O w p c ks) (hO : ∀ k, O k → O' k ∧ w'.heap[k]? = w.heap[k]?) : RdK O' w' p c ks :=
 ⟨h.1, fun j hj => by
  obtain ⟨a, ha, hB, hc⟩ := h.2 j hj
  exact ⟨a, ha, (hO _ hB).1, (World.cell?_of_block (by rw [add_block]; exact (hO _ hB).2)).trans hc⟩⟩
mutual
def isJ (O : Nat → Prop) (w : World) : J → List Value → Prop
 | .mk k i t ks l, cs => ∃ pk ck pl cl, cs = [.int .i64 k, .int .i64 i, .string t, .slice pk ks.length ck, .slice pl l.length cl] ∧ RdK O w pk ck ks ∧ l.length ≤ cl ∧ isJs O w pl 0 l
def isJs (O : Nat → Prop) (w : World) (p : Option Addr) : Nat → List J → Prop
 | _, [] => True
 | n, j :: r => (∃ b o cs, p = some ⟨b, o, none⟩ ∧ O b ∧ (∀ i v, cs[i]? = some v → w.cell? ⟨b, o + n * 5 + i, none⟩ = some v) ∧ isJ O w j cs) ∧ isJs O w p (n + 1) r
end
mutual
theorem isJ.carry {O O' : Nat → Prop} {w w' : World} (hO : ∀ k, O k → O' k ∧ w'.heap[k]? = w.heap[k]?) : ∀ (j : J) (cs : List Value), isJ O w j cs → isJ O' w' j cs
 | .mk k i t ks l, cs, h => by
  unfold isJ at h ⊢
  obtain ⟨pk, ck, pl, cl, e, h1, h2, h3⟩ := h
  exact ⟨pk, ck, pl, cl, e, h1.carry hO, h2, isJs.carry hO pl 0 l h3⟩
theorem isJs.carry {O O' : Nat → Prop} {w w' : World} (hO : ∀ k, O k → O' k ∧ w'.heap[k]? = w.heap[k]?) (p : Option Addr) : ∀ (n : Nat) (l : List J), isJs O w p n l → isJs O' w' p n l
 | _, [], _ => by unfold isJs; trivial
 | n, j :: r, h => by
  unfold isJs at h ⊢
  obtain ⟨⟨b, o, cs, ha, hB, hc, hj⟩, hr⟩ := h
  exact ⟨⟨b, o, cs, ha, (hO _ hB).1, fun i v hi => (World.cell?_of_block (a := ⟨b, o + n * 5 + i, none⟩) (hO _ hB).2).trans (hc i v hi), isJ.carry hO j cs hj⟩, isJs.carry hO p (n + 1) r hr⟩
end
theorem isJs.at {O : Nat → Prop} {w : World} {p : Option Addr} : ∀ (l : List J) (n i : Nat), isJs O w p n l → i < l.length →
    ∃ b o cs, p = some ⟨b, o, none⟩ ∧ O b ∧ (∀ m v, cs[m]? = some v → w.cell? ⟨b, o + (n + i) * 5 + m, none⟩ = some v) ∧ isJ O w (l.getD i J.zero) cs
 | [], _, _, _, hi => absurd hi (by simp)
 | j :: r, n, 0, h, _ => by
  unfold isJs at h
  simpa using h.1
 | j :: r, n, i + 1, h, hi => by
  unfold isJs at h
  have := isJs.at r (n + 1) i h.2 (by simpa using hi)
  rw [show n + 1 + i = n + (i + 1) by omega] at this
  simpa using this
def isRow (O : Nat → Prop) (w : World) : List J → List Value → Prop
 | [], xs => xs = []
 | j :: r, xs => ∃ cs ys, xs = cs ++ ys ∧ cs.length = 5 ∧ isJ O w j cs ∧ isRow O w r ys
theorem isRow.carry {O O' : Nat → Prop} {w w' : World} (hO : ∀ k, O k → O' k ∧ w'.heap[k]? = w.heap[k]?) : ∀ (l : List J) (xs : List Value), isRow O w l xs → isRow O' w' l xs
 | [], _, h => h
 | _ :: r, _, ⟨cs, ys, e, h5, hj, hr⟩ => ⟨cs, ys, e, h5, hj.carry hO, isRow.carry hO r ys hr⟩
theorem isRow.snoc {O : Nat → Prop} {w : World} {j : J} {cs : List Value} (h5 : cs.length = 5) (hj : isJ O w j cs) : ∀ (l : List J) (xs : List Value), isRow O w l xs → isRow O w (l ++ [j]) (xs ++ cs)
 | [], xs, h => by
  have h : xs = [] := h
  subst h
  exact ⟨cs, [], by simp, h5, hj, rfl⟩
 | i :: r, xs, ⟨ds, ys, e, h5', hi, hr⟩ => ⟨ds, ys ++ cs, by rw [e, List.append_assoc], h5', hi, isRow.snoc h5 hj r ys hr⟩
theorem isRow.isJs {O : Nat → Prop} {w : World} {b o : Nat} (ha : O b) : ∀ (l : List J) (xs : List Value) (n : Nat), isRow O w l xs → (∀ i v, xs[i]? = some v → w.cell? ⟨b, o + n * 5 + i, none⟩ = some v) → isJs O w (some ⟨b, o, none⟩) n l
 | [], _, _, _, _ => by unfold Go.Proofs.YtnngalkdjgjmbaaGreat.isJs; trivial
 | j :: r, xs, n, ⟨cs, ys, e, h5, hj, hr⟩, hc => by
  unfold Go.Proofs.YtnngalkdjgjmbaaGreat.isJs
  refine ⟨⟨b, o, cs, rfl, ha, fun i v hi => hc i v ?_, hj⟩, isRow.isJs ha r ys (n + 1) hr fun i v hi => ?_⟩
  · rw [e, List.getElem?_append_left (List.getElem?_eq_some_iff.1 hi).1]; exact hi
  · have := hc (5 + i) v (by rw [e, List.getElem?_append_right (by omega), h5]; simpa using hi)
    rw [show o + (n + 1) * 5 + i = o + n * 5 + (5 + i) by omega]
    exact this
theorem isJ.five {O : Nat → Prop} {w : World} {j : J} {cs : List Value} (h : isJ O w j cs) : cs.length = 5 := by
 cases j
 unfold isJ at h
 obtain ⟨_, _, _, _, rfl, _⟩ := h
 rfl
theorem isJ_zero (O : Nat → Prop) (w : World) : isJ O w J.zero [.int .i64 0, .int .i64 0, .string nix, .slice none 0 0, .slice none 0 0] := by
 unfold J.zero isJ
 exact ⟨none, 0, none, 0, rfl, RdK.nil _ _, Nat.le_refl _, by unfold isJs; trivial⟩
abbrev Nms := List (ByteArray × Int)
theorem toListP_inj {a b : ByteArray} (h : a.toList = b.toList) : a = b := by
 rw [Lib.toList_data, Lib.toList_data] at h
 cases a; cases b
 exact congrArg ByteArray.mk (Array.toList_inj.1 h)
theorem bytes_eq {a b : ByteArray} : (a.toList == b.toList) = true ↔ a = b := by
 constructor
 · intro h
   exact toListP_inj (by simpa using h)
 · rintro rfl; simp
def fnd : Nms → ByteArray → Option Int
 | [], _ => none
 | p :: r, s => if p.1.toList == s.toList then some p.2 else fnd r s
theorem fnd_append (a b : Nms) (s : ByteArray) : fnd (a ++ b) s = match fnd a s with | some x => some x | none => fnd b s := by
 induction a with
 | nil => rfl
 | cons p r ih =>
  simp only [List.cons_append, fnd]
  split
  · rfl
  · exact ih
theorem takeP_one {α : Type} {l : List α} {k : Nat} {z : α} (h : k < l.length) : l.take (k + 1) = l.take k ++ [l.getD k z] := by
 rw [List.take_add_one, List.getElem?_eq_getElem h, List.getD_eq_getElem?_getD, List.getElem?_eq_getElem h]; rfl
theorem takeP_all {α : Type} {l : List α} {k : Nat} {z : α} (h : k < l.length) : l = l.take k ++ (l.getD k z :: l.drop (k + 1)) := by
 rw [List.getD_eq_getElem?_getD, List.getElem?_eq_getElem h, Option.getD_some, ← List.drop_eq_getElem_cons h, List.take_append_drop]
abbrev zN : ByteArray × Int := (⟨#[]⟩, 0)
theorem fnd_miss {l : Nms} {s : ByteArray} {k : Nat} (h : fnd (l.take k) s = none) (hk : k < l.length) (he : ((l.getD k zN).1.toList == s.toList) = false) : fnd (l.take (k + 1)) s = none := by
 rw [takeP_one (z := zN) hk, fnd_append, h]
 simp only [fnd, he]
 rfl
theorem fnd_hit {l : Nms} {s : ByteArray} {k : Nat} (h : fnd (l.take k) s = none) (hk : k < l.length) (he : ((l.getD k zN).1.toList == s.toList) = true) : fnd l s = some (l.getD k zN).2 := by
 conv => lhs; rw [takeP_all (z := zN) hk, fnd_append, h]
 simp only [fnd, he, if_pos]
structure Lv where
 ban : Int
 kick : Int
 invite : Int
 redact : Int
 state : Int
 events : Int
 users : Int
 byUser : Nms
 byType : Nms
def usr (l : Lv) (u : ByteArray) : Int := (fnd l.byUser u).getD l.users
abbrev kBan : ByteArray := ⟨#[98, 97, 110]⟩
abbrev kKick : ByteArray := ⟨#[107, 105, 99, 107]⟩
abbrev kInvite : ByteArray := ⟨#[105, 110, 118, 105, 116, 101]⟩
abbrev kRedact : ByteArray := ⟨#[114, 101, 100, 97, 99, 116]⟩
abbrev kState : ByteArray := ⟨#[115, 116, 97, 116, 101, 95, 100, 101, 102, 97, 117, 108, 116]⟩
abbrev kEvents : ByteArray := ⟨#[101, 118, 101, 110, 116, 115, 95, 100, 101, 102, 97, 117, 108, 116]⟩
abbrev kUsers : ByteArray := ⟨#[117, 115, 101, 114, 115, 95, 100, 101, 102, 97, 117, 108, 116]⟩
abbrev kByUser : ByteArray := ⟨#[117, 115, 101, 114, 115]⟩
abbrev kByType : ByteArray := ⟨#[101, 118, 101, 110, 116, 115]⟩
def nums (l : Lv) : Nms := [(kBan, l.ban), (kKick, l.kick), (kInvite, l.invite), (kRedact, l.redact), (kState, l.state), (kEvents, l.events), (kUsers, l.users)]
structure Chg where
 name : ByteArray
 old : Option Int
 next : Option Int
def chgN (a b : Nms) (p : ByteArray × Int) : Chg := ⟨p.1, fnd a p.1, fnd b p.1⟩
def Chg.turns (c : Chg) : Bool := !(c.old == c.next)
def chs (a b l : Nms) : List Chg := (l.map (chgN a b)).filter Chg.turns
theorem chs_snoc (a b l : Nms) (p : ByteArray × Int) : chs a b (l ++ [p]) = if (chgN a b p).turns = true then chs a b l ++ [chgN a b p] else chs a b l := by
 unfold chs
 rw [List.map_append, List.filter_append]
 by_cases h : (chgN a b p).turns = true
 · rw [if_pos h]; simp [h]
 · rw [if_neg h]; simp [h]
theorem chs_len (a b l : Nms) : (chs a b l).length ≤ l.length := by
 unfold chs
 exact Nat.le_trans (List.length_filter_le _ _) (by simp)
def over (s : Int) : Option Int → Bool
 | none => false
 | some x => decide (s < x)
def least (s : Int) : Option Int → Bool
 | none => false
 | some x => decide (s ≤ x)
def Chg.above (s : Int) (c : Chg) : Bool := over s c.old || over s c.next
def Chg.bad (u : ByteArray) (s : Int) (c : Chg) : Bool := c.above s || (!(c.name.toList == u.toList) && least s c.old)
def quiet (f : Chg → Bool) (a b : Nms) : Bool := !(chs a b (a ++ b)).any f
def mayL (a b : Lv) (u : ByteArray) : Bool := quiet (Chg.above (usr a u)) (nums a) (nums b) && (quiet (Chg.above (usr a u)) a.byType b.byType && quiet (Chg.bad u (usr a u)) a.byUser b.byUser)
theorem addP_flat (b o j : Nat) : (⟨b, o, none⟩ : Addr).add j = ⟨b, o + j, none⟩ := by unfold Addr.add; split <;> simp_all
def RdN (O : Nat → Prop) (w : World) (p : Option Addr) (c : Nat) (l : Nms) : Prop :=
 (l.length ≤ c ∧ (p = none → c = 0)) ∧ (l ≠ [] → ∃ b o, p = some ⟨b, o, none⟩ ∧ O b ∧ ∀ j x, l[j]? = some x → w.cell? ⟨b, o + j * 2, none⟩ = some (.string x.1) ∧ w.cell? ⟨b, o + j * 2 + 1, none⟩ = some (.int .i64 x.2))
theorem RdN.nil (O : Nat → Prop) (w : World) (p : Option Addr) (c : Nat) (h : p = none → c = 0) : RdN O w p c [] := ⟨⟨Nat.zero_le _, h⟩, fun h => absurd rfl h⟩
theorem RdN.carry {O O' : Nat → Prop} {w w' : World} {p : Option Addr} {c : Nat} {l : Nms} (h : RdN O w p c l) (hO : ∀ k, O k → O' k ∧ w'.heap[k]? = w.heap[k]?) : RdN O' w' p c l :=
 ⟨h.1, fun hn => by
  obtain ⟨b, o, hp, hb, hc⟩ := h.2 hn
  exact ⟨b, o, hp, (hO b hb).1, fun j x hj => ⟨(World.cell?_of_block (hO b hb).2).trans (hc j x hj).1, (World.cell?_of_block (hO b hb).2).trans (hc j x hj).2⟩⟩⟩
theorem RdN.below {O : Nat → Prop} {w w' : World} {p : Option Addr} {c : Nat} {l : Nms} {B : Nat} (h : RdN O w p c l) (hO : ∀ k, O k → k < B) (hb : Below B w w') : RdN O w' p c l := h.carry fun k hk => ⟨hk, hb.block k (hO k hk)⟩
theorem RdN.at {O : Nat → Prop} {w : World} {p : Option Addr} {c : Nat} {l : Nms} (h : RdN O w p c l) {j : Nat} (hj : j < l.length) : ∃ b o, p = some ⟨b, o, none⟩ ∧ O b ∧ w.cell? ⟨b, o + j * 2, none⟩ = some (.string (l.getD j zN).1) ∧ w.cell? ⟨b, o + j * 2 + 1, none⟩ = some (.int .i64 (l.getD j zN).2) := by
 obtain ⟨b, o, hp, hb, hc⟩ := h.2 (by rintro rfl; simp at hj)
 have := hc j (l.getD j zN) (by rw [List.getD_eq_getElem?_getD, List.getElem?_eq_getElem hj]; rfl)
 exact ⟨b, o, hp, hb, this.1, this.2⟩
def SzN (l : Nms) : Prop := l.length ≤ 100000 ∧ ∀ p ∈ l, p.1.size ≤ 1000000000
theorem SzN.at {l : Nms} (h : SzN l) {j : Nat} (hj : j < l.length) : (l.getD j zN).1.size ≤ 1000000000 := by
 rw [List.getD_eq_getElem?_getD, List.getElem?_eq_getElem hj]; exact h.2 _ (List.getElem_mem hj)
structure Pl where
 pu : Option Addr
 cu : Nat
 pt : Option Addr
 ct : Nat
abbrev cellsL (l : Lv) (p : Pl) : List Value := [.int .i64 l.ban, .int .i64 l.kick, .int .i64 l.invite, .int .i64 l.redact, .int .i64 l.state, .int .i64 l.events, .int .i64 l.users, .slice p.pu l.byUser.length p.cu, .slice p.pt l.byType.length p.ct]
abbrev valL (l : Lv) (p : Pl) : Value := .agg (cellsL l p).toArray
structure IsL (O : Nat → Prop) (w : World) (l : Lv) (p : Pl) : Prop where
 us : RdN O w p.pu p.cu l.byUser
 ty : RdN O w p.pt p.ct l.byType
structure SzL (l : Lv) : Prop where
 us : SzN l.byUser
 ty : SzN l.byType
theorem IsL.carry {O O' : Nat → Prop} {w w' : World} {l : Lv} {p : Pl} (h : IsL O w l p) (hO : ∀ k, O k → O' k ∧ w'.heap[k]? = w.heap[k]?) : IsL O' w' l p := ⟨h.us.carry hO, h.ty.carry hO⟩
theorem IsL.below {O : Nat → Prop} {w w' : World} {l : Lv} {p : Pl} {B : Nat} (h : IsL O w l p) (hO : ∀ k, O k → k < B) (hb : Below B w w') : IsL O w' l p := ⟨h.us.below hO hb, h.ty.below hO hb⟩
theorem first_any {O : Nat → Prop} {w : World} {p : Option Addr} {c : Nat} {l : Nms} (h : RdN O w p c l) (hO : ∀ k, O k → k < w.heap.size) (hz : SzN l) (s : ByteArray) (d : Int) :
    Calls Tryz.prog 42 #[.slice p l.length c, .string s, .int .i64 d] w fun e w' => e = .returned (.int .i64 ((fnd l s).getD d)) ∧ Below w.heap.size w w' := by
 obtain ⟨n, hn⟩ : ∃ n, l.length = n := ⟨_, rfl⟩
 have HN : Hid (l.length = n) := hn
 have hz1 := hz.1
 have hc := h.1.1
 rw [hn] at hz1 hc ⊢
 clear hn
 go_enter Tryz.func42, Tryz.ntmps42
 go_wp2
 go_loopw [11] (fun i wr => ∃ k : Nat, i = .int .i64 k ∧ k ≤ n ∧ fnd (l.take k) s = none ∧ Below w.heap.size w wr) (fun i _ => n - (intOf i).toNat)
 case atStart => exact ⟨0, rfl, Nat.zero_le _, rfl, Below.refl _ _⟩
 case round =>
  obtain ⟨k, rfl, hk, hf, hbr⟩ := hrel
  by_cases hkn : k < n
  · have hkl : k < l.length := by rw [HN.out]; exact hkn
    obtain ⟨b, o, rfl, hb, h1, h2⟩ := h.at hkl
    have h1' := (hbr.cell (p := ⟨b, o + k * 2, none⟩) (hO b hb)).trans h1
    have h2' := (hbr.cell (p := ⟨b, o + k * 2 + 1, none⟩) (hO b hb)).trans h2
    have hbs := hbr.size
    have hbl := hO b hb
    cases he : ((l.getD k zN).1.toList == s.toList) with
    | true =>
     have HF : Hid (fnd l s = some (l.getD k zN).2) := fnd_hit hf hkl he
     generalize l.getD k zN = x at h1' h2' he HF
     obtain ⟨xn, xl⟩ := x
     simp only at h1' h2' he
     clear h1 h2 hf
     go_wp2
     go_ret
     refine ⟨by rw [HF.out]; rfl, ?_⟩
     exact hbr.trans (((Below.refl _ _).alloc hbs _))
    | false =>
     have HF : Hid (fnd (l.take (k + 1)) s = none) := fnd_miss hf hkl he
     generalize l.getD k zN = x at h1' h2' he
     obtain ⟨xn, xl⟩ := x
     simp only at h1' h2' he
     clear h1 h2 hf
     go_wp2
     go_roundw
     case rel => exact ⟨k + 1, by simp, by omega, HF.out, hbr.trans (((Below.refl _ _).alloc hbs _))⟩
     case measure => simp [intOf]; omega
  · obtain rfl : k = n := by omega
    have HF : Hid (fnd l s = none) := by show _ = _; rw [← List.take_length (l := l), HN.out]; exact hf
    clear hf
    go_wp2
    go_ret
    exact ⟨by rw [HF.out]; rfl, hbr⟩
theorem newP {w : World} (o : Obj) : (w.alloc o).heap[w.heap.size]? = some o := heap_alloc_new w o
theorem belowP {a b c : World} (h : Below a.heap.size a b) (g : Below b.heap.size b c) : Below a.heap.size a c := h.trans ⟨g.os, g.tape, g.output, g.size, fun k hk => g.block k (by have := h.size; omega)⟩
theorem objP_lt {w : World} {b : Nat} {o : Obj} (h : w.heap[b]? = some o) : b < w.heap.size := (Array.getElem?_eq_some_iff.1 h).1
theorem cellP {w : World} {b t : Nat} {cur : Array Value} {fr : Nat × Nat} (h : w.heap[b]? = some (.cells cur t fr)) (j : Nat) (v : Value) (hj : cur[j]? = some v) : w.cell? ⟨b, j, none⟩ = some v := by
 simp [World.cell?, h, hj]
theorem fzP {w : World} {b t : Nat} {cur : Array Value} (h : w.heap[b]? = some (.cells cur t (0, 0))) (j : Nat) : w.frozen? ⟨b, j, none⟩ = false := frozen_of_row w b j _ _ h
def OneP (b : Nat) : Nat → Prop := fun k => k = b
def setL (w : World) (b : Nat) : Nat → List Value → World
 | _, [] => w
 | i, v :: r => setL (w.setCell ⟨b, i, none⟩ v) b (i + 1) r
theorem setL_keep (b : Nat) : ∀ (vs : List Value) (w : World) (i : Nat), Keep (OneP b) w (setL w b i vs)
 | [], w, _ => Keep.refl _ w
 | v :: r, w, i => by
  unfold setL
  exact (Keep.setCell (p := ⟨b, i, none⟩) (Keep.refl (OneP b) w) (fun _ => (rfl : b = b)) v).then (setL_keep b r _ (i + 1))
theorem setL_heap (b t : Nat) : ∀ (vs pre cur : List Value) (w : World), w.heap[b]? = some (.cells (pre ++ cur).toArray t (0, 0)) → cur.length = vs.length → (setL w b pre.length vs).heap[b]? = some (.cells (pre ++ vs).toArray t (0, 0))
 | [], pre, cur, w, h, hl => by
  obtain rfl : cur = [] := List.eq_nil_of_length_eq_zero hl
  exact h
 | v :: r, pre, c :: cur, w, h, hl => by
  unfold setL
  have h0 : (w.setCell ⟨b, pre.length, none⟩ v).heap[b]? = some (.cells ((pre ++ [v]) ++ cur).toArray t (0, 0)) := by
   rw [heap_setCell_same w b pre.length _ _ _ h]
   simp
  have := setL_heap b t r (pre ++ [v]) cur _ h0 (by simpa using hl)
  rw [List.length_append] at this
  simpa using this
theorem setL_all {w : World} {b t : Nat} {cur : List Value} (vs : List Value) (h : w.heap[b]? = some (.cells cur.toArray t (0, 0))) (hl : cur.length = vs.length) : (setL w b 0 vs).heap[b]? = some (.cells vs.toArray t (0, 0)) := setL_heap b t vs [] cur w h hl
def flatN : Nms → List Value
 | [] => []
 | x :: r => .string x.1 :: .int .i64 x.2 :: flatN r
theorem flatN_len : ∀ l : Nms, (flatN l).length = l.length * 2
 | [] => rfl
 | x :: r => by simp only [flatN, List.length_cons, flatN_len r]; omega
theorem flatN_append : ∀ a b : Nms, flatN (a ++ b) = flatN a ++ flatN b
 | [], _ => rfl
 | x :: r, b => by simp only [List.cons_append, flatN, flatN_append r b]
theorem flatN_at : ∀ (l : Nms) (j : Nat) (x : ByteArray × Int), l[j]? = some x → (flatN l)[j * 2]? = some (.string x.1) ∧ (flatN l)[j * 2 + 1]? = some (.int .i64 x.2)
 | [], _, _, h => by simp at h
 | y :: r, 0, x, h => by simp at h; subst h; exact ⟨rfl, rfl⟩
 | y :: r, j + 1, x, h => by
  have := flatN_at r j x (by simpa using h)
  rw [show (j + 1) * 2 = j * 2 + 1 + 1 by omega]
  exact this
theorem rdN_of {w : World} {O : Nat → Prop} {b t o c : Nat} {fr : Nat × Nat} {l : Nms} {cur : List Value} (hO : O b) (h : w.heap[b]? = some (.cells cur.toArray t fr)) (hl : l.length ≤ c) (hc : ∀ j, j < (flatN l).length → cur[o + j]? = (flatN l)[j]?) : RdN O w (some ⟨b, o, none⟩) c l := by
 refine ⟨⟨hl, fun h => by cases h⟩, fun _ => ⟨b, o, rfl, hO, fun j x hj => ?_⟩⟩
 have hlt : j < l.length := (List.getElem?_eq_some_iff.1 hj).1
 have hf := flatN_at l j x hj
 have hn := flatN_len l
 refine ⟨cellP h _ _ ?_, cellP h _ _ ?_⟩
 · have := hc (j * 2) (by omega)
   rw [hf.1] at this
   simpa using this
 · have := hc (j * 2 + 1) (by omega)
   rw [hf.2] at this
   simpa [Nat.add_assoc] using this
theorem rdN_flat {w : World} {O : Nat → Prop} {b t : Nat} {fr : Nat × Nat} {l : Nms} (hO : O b) (h : w.heap[b]? = some (.cells (flatN l).toArray t fr)) : RdN O w (some ⟨b, 0, none⟩) l.length l :=
 rdN_of hO h (Nat.le_refl _) fun j _ => by rw [Nat.zero_add]
theorem loadL9 {w : World} {b t : Nat} {a0 a1 a2 a3 a4 a5 a6 a7 a8 : Value} (h : w.heap[b]? = some (.cells #[a0, a1, a2, a3, a4, a5, a6, a7, a8] t (0, 0))) : (loadVar 34 ⟨b, 0, none⟩).run Tryz.prog w = .ok (.agg #[a0, a1, a2, a3, a4, a5, a6, a7, a8]) w := by
 have k0 := cellP h 0 _ rfl; have k1 := cellP h 1 _ rfl; have k2 := cellP h 2 _ rfl; have k3 := cellP h 3 _ rfl; have k4 := cellP h 4 _ rfl; have k5 := cellP h 5 _ rfl; have k6 := cellP h 6 _ rfl; have k7 := cellP h 7 _ rfl; have k8 := cellP h 8 _ rfl
 simp [loadVar, go_sem, k0, k1, k2, k3, k4, k5, k6, k7, k8]
theorem resultsP_cell {fn : Func} {a : Tmp} {t : TypeId} (h : fn.results = #[.cell a t]) (tmps : Array Value) (P : Program) (w : World) {ad : Addr} {v : Value} (hp : tmps.getD a undef = .pointer (some ad)) (hl : (loadVar t ad).run P w = .ok v w) :
    (results fn tmps).run P w = .ok v w := by
 rw [Array.getD_eq_getD_getElem?] at hp
 simp [results, h, hp, hl, asAddr]
theorem user_lv {O : Nat → Prop} {w : World} {l : Lv} {p : Pl} (h : IsL O w l p) (hO : ∀ k, O k → k < w.heap.size) (hz : SzL l) (s : ByteArray) :
    Calls Tryz.prog 21 #[valL l p, .string s] w fun e w' => e = .returned (.int .i64 (usr l s)) ∧ Below w.heap.size w w' := by
 have hb : Below w.heap.size w (w.alloc (.cells (cellsL l p).toArray 34)) := (Below.refl _ _).alloc (Nat.le_refl _) _
 have hf := first_any (h.us.below hO hb) (fun k hk => Nat.lt_of_lt_of_le (hO k hk) hb.size) hz.us s l.users
 have HB : Hid (Below w.heap.size w (w.alloc (.cells (cellsL l p).toArray 34))) := hb
 obtain ⟨ban, kick, invite, redact, state, events, users, us, ty⟩ := l
 obtain ⟨pu, cu, pt, ct⟩ := p
 simp only [valL, cellsL, usr] at hf hb ⊢
 clear h hz hb
 go_enter Tryz.func21, Tryz.ntmps21
 go_wp2_with (go_at_call 42; refine hf.mono ?_; rintro e w1 ⟨rfl, hb1⟩)
 go_ret
 exact ⟨rfl, belowP HB.out hb1⟩
theorem numbers_lv {w : World} {l : Lv} {p : Pl} :
    Calls Tryz.prog 44 #[valL l p] w fun e w' => (∃ b, e = .returned (.slice (some ⟨b, 0, none⟩) 7 7) ∧ w.heap.size ≤ b ∧ b < w'.heap.size ∧ RdN (fun k => k = b) w' (some ⟨b, 0, none⟩) 7 (nums l)) ∧ Below w.heap.size w w' := by
 obtain ⟨ban, kick, invite, redact, state, events, users, us, ty⟩ := l
 obtain ⟨pu, cu, pt, ct⟩ := p
 simp only [valL, cellsL]
 go_enter Tryz.func44, Tryz.ntmps44
 go_wp2
 go_ret
 refine ⟨⟨_, rfl, by simp, by simp, rdN_flat (l := nums _) (t := 50) (fr := (0, 0)) rfl ?_⟩, ((Below.refl _ _).alloc (Nat.le_refl _) _).alloc (by simp) _⟩
 have := newP (w := w.alloc (.cells #[.int .i64 ban, .int .i64 kick, .int .i64 invite, .int .i64 redact, .int .i64 state, .int .i64 events, .int .i64 users, .slice pu us.length cu, .slice pt ty.length ct] 34)) (.cells (flatN (nums ⟨ban, kick, invite, redact, state, events, users, us, ty⟩)).toArray 50)
 rw [World.size_alloc] at this
 exact this
abbrev cellsC (c : Chg) : List Value := [.string c.name, .bool c.old.isSome, .int .i64 (c.old.getD 0), .bool c.next.isSome, .int .i64 (c.next.getD 0)]
abbrev valC (c : Chg) : Value := .agg (cellsC c).toArray
theorem above_lv {w : World} (c : Chg) (s : Int) :
    Calls Tryz.prog 45 #[valC c, .int .i64 s] w fun e w' => e = .returned (.bool (c.above s)) ∧ Below w.heap.size w w' := by
 obtain ⟨n, o, x⟩ := c
 have hb : ∀ v, Below w.heap.size w (w.alloc (.cells v 83)) := fun v => (Below.refl _ _).alloc (Nat.le_refl _) _
 unfold Chg.above
 cases o <;> cases x <;> simp only [valC, cellsC, Option.isSome, Option.getD, over, Bool.false_or, Bool.or_false]
 · go_enter Tryz.func45, Tryz.ntmps45
   go_wp2
   go_ret
   exact ⟨rfl, hb _⟩
 · rename_i x
   by_cases h : s < x
   all_goals
    go_enter Tryz.func45, Tryz.ntmps45
    go_wp2
    go_ret
    exact ⟨by simp [h], hb _⟩
 · rename_i x
   by_cases h : s < x
   all_goals
    go_enter Tryz.func45, Tryz.ntmps45
    go_wp2
    go_ret
    exact ⟨by simp [h], hb _⟩
 · rename_i x y
   by_cases h : s < x <;> by_cases h2 : s < y
   all_goals
    go_enter Tryz.func45, Tryz.ntmps45
    go_wp2
    go_ret
    exact ⟨by simp [h, h2], hb _⟩
end Go.Proofs.YtnngalkdjgjmbaaGreat
namespace Go.Proofs.YtnngalkdjgjmbaaGreat
open Go.ChangeShapes Go.WideShapes Go.ChangeAt Go.RowKit
theorem ownKP : ownKnob Tryz.prog.godebug = none := by kernel_rfl
theorem laidOutP : laidOutB Tryz.prog = true := by kernel_rfl
section
variable {H : Type} {enc : TypeId × Value → H} {W : World} {fuel : Nat} {cs : List Value} {x : DataW H × List MemPlace}
end
theorem cellsJ : Tryz.prog.cellsOf 25 = 5 := by kernel_rfl
theorem cellsS : Tryz.prog.cellsOf 9 = 1 := by kernel_rfl
theorem cellsI3 : Tryz.prog.cellsOf 3 = 1 := by kernel_rfl
theorem cellsI2 : Tryz.prog.cellsOf 2 = 1 := by kernel_rfl
theorem cellsKs : Tryz.prog.cellsOf 22 = 1 := by kernel_rfl
theorem cellsLs : Tryz.prog.cellsOf 23 = 1 := by kernel_rfl
theorem cell_lt {w : World} {a : Addr} {v : Value} (h : w.cell? a = some v) : a.block < w.heap.size := by
 rcases Nat.lt_or_ge a.block w.heap.size with h' | h'
 · exact h'
 · simp [World.cell?, Array.getElem?_eq_none h'] at h
theorem cell_none {w : World} {b o : Nat} {sp : Option Nat} {v : Value} (h : w.cell? ⟨b, o, sp⟩ = some v) : sp = none := by
 cases sp with
 | none => rfl
 | some x =>
  unfold World.cell? at h
  split at h <;> simp at h
theorem isJs_of {O : Nat → Prop} {w : World} {b o : Nat} (hO : O b) : ∀ (l : List J) (n : Nat), (∀ i, i < l.length → ∃ cs, (∀ m v, cs[m]? = some v → w.cell? ⟨b, o + (n + i) * 5 + m, none⟩ = some v) ∧ isJ O w (l.getD i J.zero) cs) → isJs O w (some ⟨b, o, none⟩) n l
 | [], _, _ => by unfold isJs; trivial
 | j :: r, n, h => by
  unfold isJs
  obtain ⟨cs, h1, h2⟩ := h 0 (by simp)
  refine ⟨⟨b, o, cs, rfl, hO, fun m v hv => ?_, h2⟩, isJs_of hO r (n + 1) fun i hi => ?_⟩
  · have := h1 m v hv
    simpa using this
  · obtain ⟨cs, h1, h2⟩ := h (i + 1) (by simp; omega)
    refine ⟨cs, fun m v hv => ?_, h2⟩
    have := h1 m v hv
    rwa [show n + (i + 1) = n + 1 + i by omega] at this
theorem pick_list {α : Type} {z : α} {P : Nat → α → Prop} : ∀ n, (∀ i, i < n → ∃ x, P i x) → ∃ l : List α, l.length = n ∧ ∀ i, i < n → P i (l.getD i z)
 | 0, _ => ⟨[], rfl, fun i hi => absurd hi (by omega)⟩
 | n + 1, h => by
  obtain ⟨l, hl, hp⟩ := pick_list (z := z) n fun i hi => h i (by omega)
  obtain ⟨x, hx⟩ := h n (by omega)
  refine ⟨l ++ [x], by simp [hl], fun i hi => ?_⟩
  by_cases hin : i < n
  · have : (l ++ [x]).getD i z = l.getD i z := by
      rw [List.getD_eq_getElem?_getD, List.getD_eq_getElem?_getD, List.getElem?_append_left (by omega)]
    rw [this]
    exact hp i hin
  · obtain rfl : i = n := by omega
    have : (l ++ [x]).getD i z = x := by
     rw [List.getD_eq_getElem?_getD, List.getElem?_append_right (by omega), hl]
     simp
    rw [this]
    exact hx
theorem viewJ {H : Type} {enc : TypeId × Value → H} {W : World} : ∀ (fuel : Nat) (cs : List Value) (x : DataW H × List MemPlace), DataW.trod enc Tryz.prog W 0 (fun _ => true) true fuel 25 cs = some x → ∃ j, isJ (fun b => b < W.heap.size) W j cs
 | 0, cs, x, h => by
  obtain ⟨_, n, hf, _⟩ := DataW.trod_struct Tryz.underlying25 h
  omega
 | fuel + 1, cs, x, h => by
  obtain ⟨xs, n, hf, _, hl, hlen, hfs⟩ := DataW.trod_struct Tryz.underlying25 h
  obtain rfl : fuel = n := by omega
  rw [cellsJ] at hl
  match cs, hl with
  | [c0, c1, c2, c3, c4], _ =>
   match xs, hlen with
   | [y0, y1, y2, y3, y4], _ =>
    have g0 : DataW.trod enc Tryz.prog W 0 (fun _ => true) true fuel 3 (([c0, c1, c2, c3, c4].drop 0).take (Tryz.prog.cellsOf 3)) = some y0 := hfs 0 _ rfl
    rw [cellsI3] at g0
    have f0 : DataW.trod enc Tryz.prog W 0 (fun _ => true) true fuel 3 [c0] = some y0 := g0
    have g1 : DataW.trod enc Tryz.prog W 0 (fun _ => true) true fuel 2 (([c0, c1, c2, c3, c4].drop 1).take (Tryz.prog.cellsOf 2)) = some y1 := hfs 1 _ rfl
    rw [cellsI2] at g1
    have f1 : DataW.trod enc Tryz.prog W 0 (fun _ => true) true fuel 2 [c1] = some y1 := g1
    have g2 : DataW.trod enc Tryz.prog W 0 (fun _ => true) true fuel 9 (([c0, c1, c2, c3, c4].drop 2).take (Tryz.prog.cellsOf 9)) = some y2 := hfs 2 _ rfl
    rw [cellsS] at g2
    have f2 : DataW.trod enc Tryz.prog W 0 (fun _ => true) true fuel 9 [c2] = some y2 := g2
    have g3 : DataW.trod enc Tryz.prog W 0 (fun _ => true) true fuel 22 (([c0, c1, c2, c3, c4].drop 3).take (Tryz.prog.cellsOf 22)) = some y3 := hfs 3 _ rfl
    rw [cellsKs] at g3
    have f3 : DataW.trod enc Tryz.prog W 0 (fun _ => true) true fuel 22 [c3] = some y3 := g3
    have g4 : DataW.trod enc Tryz.prog W 0 (fun _ => true) true fuel 23 (([c0, c1, c2, c3, c4].drop 4).take (Tryz.prog.cellsOf 23)) = some y4 := hfs 4 _ rfl
    rw [cellsLs] at g4
    have f4 : DataW.trod enc Tryz.prog W 0 (fun _ => true) true fuel 23 [c4] = some y4 := g4
    obtain ⟨k, e0, _, _⟩ := DataW.trod_int Tryz.underlying3 f0
    obtain ⟨i, e1, _, _⟩ := DataW.trod_int Tryz.underlying2 f1
    obtain ⟨t, e2, _, _⟩ := DataW.trod_string Tryz.underlying9 f2
    simp only [List.cons.injEq, and_true] at e0 e1 e2
    subst e0 e1 e2
    have hkeys : ∃ pk nk ck ks, c3 = .slice pk nk ck ∧ nk = ks.length ∧ RdK (fun b => b < W.heap.size) W pk ck ks := by
     rcases open_strings Tryz.underlying22 Tryz.underlying9 cellsS f3 with ⟨e3, _⟩ | ⟨a, len, cap, ss, e3, _, hlc, _, hss, _, hcell, _⟩
     · simp only [List.cons.injEq, and_true] at e3
       exact ⟨none, 0, 0, [], e3, rfl, RdK.nil _ _⟩
     · simp only [List.cons.injEq, and_true] at e3
       simp only [if_true] at hss
       refine ⟨some a, len, cap, ss.take len, e3, by simp; omega, by simp; omega, fun j hj => ⟨a, rfl, ?_, ?_⟩⟩
       · have hj' : j < len := by simp at hj; omega
         have := cell_lt (hcell j (by omega))
         rwa [add_block] at this
       · have hj' : j < len := by simp at hj; omega
         rw [hcell j (by omega)]
         congr 2
         rw [List.getD_eq_getElem?_getD, List.getD_eq_getElem?_getD, List.getElem?_take, if_pos hj', List.getElem?_eq_getElem (by omega)]
         rfl
    have hlist : ∃ pl nl cl l, c4 = .slice pl nl cl ∧ nl = l.length ∧ l.length ≤ cl ∧ isJs (fun b => b < W.heap.size) W pl 0 l := by
     rcases DataW.trod_slice Tryz.underlying23 f4 with ⟨e4, _⟩ | ⟨a, len, cap, elems, rest, n', hn', e4, _, _, hlc, _, hel, hget, _, _⟩
     · simp only [List.cons.injEq, and_true] at e4
       exact ⟨none, 0, 0, [], e4, rfl, Nat.le_refl _, by unfold isJs; trivial⟩
     · simp only [List.cons.injEq, and_true] at e4
       rw [cellsJ] at hget
       cases len with
       | zero => exact ⟨some a, 0, cap, [], e4, rfl, Nat.zero_le _, by unfold isJs; trivial⟩
       | succ len =>
        obtain ⟨b, o, sp⟩ := a
        have hone : ∀ i, i < len + 1 → ∃ cs, W.cells? 0 ((⟨b, o, sp⟩ : Addr).add (i * 5)) 5 = some cs ∧ ∃ y, DataW.trod enc Tryz.prog W 0 (fun _ => true) true n' 25 cs = some y := fun i hi => by
         have h1 := hget i hi
         rw [List.getElem?_eq_getElem (by omega), Option.bind_eq_some_iff] at h1
         obtain ⟨cs, h2, h3⟩ := h1
         exact ⟨cs, h2, _, h3⟩
        have hsp : sp = none := by
         obtain ⟨cs, h2, _⟩ := hone 0 (by omega)
         have h3 := (World.cells?_some h2).2.2 0 (by omega)
         have h4 : (((⟨b, o, sp⟩ : Addr).add (0 * 5)).add 0) = ⟨b, o, sp⟩ := by
          unfold Addr.add
          simp
         rw [h4] at h3
         have hlen5 := (World.cells?_some h2).2.1
         rw [List.getElem?_eq_getElem (by omega)] at h3
         exact cell_none h3
        subst hsp
        have hadd : ∀ m, (⟨b, o, none⟩ : Addr).add m = ⟨b, o + m, none⟩ := fun m => by unfold Addr.add; split <;> simp_all
        have hadd2 : ∀ m m', ((⟨b, o + m, none⟩ : Addr)).add m' = ⟨b, o + m + m', none⟩ := fun m m' => by unfold Addr.add; split <;> simp_all
        have hb : b < W.heap.size := by
         obtain ⟨cs, h2, _⟩ := hone 0 (by omega)
         have := World.cells?_block h2 (by decide)
         rwa [hadd] at this
        obtain ⟨l, hl1, hl2⟩ := pick_list (z := J.zero) (P := fun i j => ∃ cs, (∀ m v, cs[m]? = some v → W.cell? ⟨b, o + (0 + i) * 5 + m, none⟩ = some v) ∧ isJ (fun b => b < W.heap.size) W j cs) (len + 1) fun i hi => by
         obtain ⟨cs, h2, y, h3⟩ := hone i hi
         obtain ⟨j, hj⟩ := viewJ n' cs y h3
         refine ⟨j, cs, fun m v hv => ?_, hj⟩
         have h5 := (World.cells?_some h2).2.2
         have hlen5 := (World.cells?_some h2).2.1
         have hm : m < 5 := by
          have := (List.getElem?_eq_some_iff.1 hv).1
          omega
         have h6 := h5 m hm
         rw [hadd, hadd2, hv] at h6
         rw [show o + (0 + i) * 5 + m = o + i * 5 + m by omega]
         exact h6
        exact ⟨some ⟨b, o, none⟩, len + 1, cap, l, e4, hl1.symm, by omega, isJs_of (O := fun b => b < W.heap.size) hb l 0 fun i hi => hl2 i (by omega)⟩
    obtain ⟨pk, nk, ck, ks, rfl, rfl, hk⟩ := hkeys
    obtain ⟨pl, nl, cl, l, rfl, rfl, hlc, hll⟩ := hlist
    exact ⟨.mk k i t ks l, by unfold isJ; exact ⟨pk, ck, pl, cl, rfl, hk, hlc, hll⟩⟩
end Go.Proofs.YtnngalkdjgjmbaaGreat
namespace Go.Proofs.YtnngalkdjgjmbaaGreat
def contAt (t : List Int) (i : Nat) : Bool := decide (byteAt t i / 64 = 2)
def letterOk (c : Int) : Bool := (decide (c < 55296) || decide (57344 ≤ c)) && decide (c ≤ 1114111)
def runeAt (t : List Int) (p : Nat) : Int × Nat :=
 if byteAt t p < 128 then (byteAt t p, 1)
 else if (decide (byteAt t p / 32 = 6) && contAt t (p + 1)) = true then
  if 128 ≤ byteAt t p % 32 * 64 + byteAt t (p + 1) % 64 then (byteAt t p % 32 * 64 + byteAt t (p + 1) % 64, 2) else (0, 0)
 else if (decide (byteAt t p / 16 = 14) && contAt t (p + 1) && contAt t (p + 2)) = true then
  if (decide (2048 ≤ byteAt t p % 16 * 4096 + byteAt t (p + 1) % 64 * 64 + byteAt t (p + 2) % 64) && letterOk (byteAt t p % 16 * 4096 + byteAt t (p + 1) % 64 * 64 + byteAt t (p + 2) % 64)) = true
  then (byteAt t p % 16 * 4096 + byteAt t (p + 1) % 64 * 64 + byteAt t (p + 2) % 64, 3) else (0, 0)
 else if (decide (byteAt t p / 8 = 30) && contAt t (p + 1) && contAt t (p + 2) && contAt t (p + 3)) = true then
  if (decide (65536 ≤ byteAt t p % 8 * 262144 + byteAt t (p + 1) % 64 * 4096 + byteAt t (p + 2) % 64 * 64 + byteAt t (p + 3) % 64) && letterOk (byteAt t p % 8 * 262144 + byteAt t (p + 1) % 64 * 4096 + byteAt t (p + 2) % 64 * 64 + byteAt t (p + 3) % 64)) = true
  then (byteAt t p % 8 * 262144 + byteAt t (p + 1) % 64 * 4096 + byteAt t (p + 2) % 64 * 64 + byteAt t (p + 3) % 64, 4) else (0, 0)
 else (0, 0)
def strayL (t : List Int) : Nat → Nat → Option Nat
 | 0, _ => none
 | m + 1, p => if p < t.length then (if (runeAt t p).2 = 0 then some p else strayL t m (p + (runeAt t p).2)) else none
def stray (t : List Int) : Option Nat := strayL t t.length 0
theorem get_byte (s : ByteArray) (i : Nat) : ((s.get! i).toNat : Int) = byteAt (ints s) i := by
 unfold byteAt
 by_cases h : i < s.size
 · rw [ints_getD s i h]
   have : s.get! i = s[i] := by simp [ByteArray.get!, getElem!_pos, h]; rfl
   rw [this]
 · rw [List.getD_eq_getElem?_getD, List.getElem?_eq_none (by rw [ints_length]; omega)]
   have : s.get! i = 0 := by
    have hd : ¬ i < s.data.size := h
    show s.data[i]! = 0
    rw [getElem!_neg s.data i hd]; rfl
   rw [this]; rfl
theorem byte_bd (s : ByteArray) (i : Nat) : 0 ≤ byteAt (ints s) i ∧ byteAt (ints s) i ≤ 255 := by
 rw [← get_byte]
 have := (s.get! i).toNat_lt
 omega
theorem byte_past (s : ByteArray) (i : Nat) (h : s.size ≤ i) : byteAt (ints s) i = 0 := by
 unfold byteAt
 rw [List.getD_eq_getElem?_getD, List.getElem?_eq_none (by rw [ints_length]; omega)]
 rfl
theorem cont_eq (s : ByteArray) (i : Nat) : (decide (i < s.size) && ((s.get! i).toNat / 64 == 2)) = contAt (ints s) i := by
 unfold contAt
 have h1 := get_byte s i
 by_cases h : i < s.size
 · rw [decide_eq_true h, Bool.true_and, Bool.eq_iff_iff]
   simp
   omega
 · rw [decide_eq_false h, byte_past s i (by omega)]
   rfl
theorem valid_eq (c : Nat) : Utf8.valid c = letterOk c := by
 unfold Utf8.valid letterOk
 rw [Bool.eq_iff_iff]
 simp
 omega
theorem decode_rune (s : ByteArray) (p : Nat) : Utf8.decode s p = if (runeAt (ints s) p).2 = 0 then (65533, 1) else ((runeAt (ints s) p).1.toNat, (runeAt (ints s) p).2) := by
 have g0 := get_byte s p
 have g1 := get_byte s (p + 1)
 have g2 := get_byte s (p + 2)
 have g3 := get_byte s (p + 3)
 have e1 := cont_eq s (p + 1)
 have e2 := cont_eq s (p + 2)
 have e3 := cont_eq s (p + 3)
 unfold Utf8.decode runeAt
 simp only [Nat.add_zero]
 rw [e1, e2, e3]
 obtain ⟨b0, h0⟩ : ∃ b, (s.get! p).toNat = b := ⟨_, rfl⟩
 obtain ⟨b1, h1⟩ : ∃ b, (s.get! (p + 1)).toNat = b := ⟨_, rfl⟩
 obtain ⟨b2, h2⟩ : ∃ b, (s.get! (p + 2)).toNat = b := ⟨_, rfl⟩
 obtain ⟨b3, h3⟩ : ∃ b, (s.get! (p + 3)).toNat = b := ⟨_, rfl⟩
 simp only [h0, h1, h2, h3] at g0 g1 g2 g3 ⊢
 rw [← g0, ← g1, ← g2, ← g3]
 generalize contAt (ints s) (p + 1) = k1
 generalize contAt (ints s) (p + 2) = k2
 generalize contAt (ints s) (p + 3) = k3
 have f1 : (b0 / 32 == 6) = decide ((b0 : Int) / 32 = 6) := by rw [Bool.eq_iff_iff]; simp; omega
 have f2 : (b0 / 16 == 14) = decide ((b0 : Int) / 16 = 14) := by rw [Bool.eq_iff_iff]; simp; omega
 have f3 : (b0 / 8 == 30) = decide ((b0 : Int) / 8 = 30) := by rw [Bool.eq_iff_iff]; simp; omega
 rw [f1, f2, f3]
 by_cases c0 : b0 < 128
 · have c0' : (b0 : Int) < 128 := by omega
   rw [if_pos c0, if_pos c0']
   simp
 have c0' : ¬ (b0 : Int) < 128 := by omega
 rw [if_neg c0, if_neg c0']
 by_cases c1 : (decide ((b0 : Int) / 32 = 6) && k1) = true
 · rw [if_pos c1, if_pos c1]
   by_cases c2 : 128 ≤ b0 % 32 * 64 + b1 % 64
   · have c2' : (128 : Int) ≤ (b0 : Int) % 32 * 64 + (b1 : Int) % 64 := by omega
     rw [if_pos c2, if_pos c2']
     simp
     omega
   · have c2' : ¬ (128 : Int) ≤ (b0 : Int) % 32 * 64 + (b1 : Int) % 64 := by omega
     rw [if_neg c2, if_neg c2']
     rfl
 rw [if_neg c1, if_neg c1]
 by_cases c3 : (decide ((b0 : Int) / 16 = 14) && k1 && k2) = true
 · rw [if_pos c3, if_pos c3]
   have ec : ((b0 % 16 * 4096 + b1 % 64 * 64 + b2 % 64 : Nat) : Int) = (b0 : Int) % 16 * 4096 + (b1 : Int) % 64 * 64 + (b2 : Int) % 64 := by omega
   rw [← ec]
   generalize b0 % 16 * 4096 + b1 % 64 * 64 + b2 % 64 = c
   by_cases c4 : 2048 ≤ c
   · rw [valid_eq c]
     have c4' : (2048 : Int) ≤ c := by omega
     rw [show decide (c ≥ 2048) = true from decide_eq_true c4, decide_eq_true c4', Bool.true_and]
     split
     · simp
     · rfl
   · have c4' : ¬ (2048 : Int) ≤ c := by omega
     rw [show decide (c ≥ 2048) = false from decide_eq_false c4, decide_eq_false c4']
     rfl
 rw [if_neg c3, if_neg c3]
 by_cases c5 : (decide ((b0 : Int) / 8 = 30) && k1 && k2 && k3) = true
 · rw [if_pos c5, if_pos c5]
   have ec : ((b0 % 8 * 262144 + b1 % 64 * 4096 + b2 % 64 * 64 + b3 % 64 : Nat) : Int) = (b0 : Int) % 8 * 262144 + (b1 : Int) % 64 * 4096 + (b2 : Int) % 64 * 64 + (b3 : Int) % 64 := by omega
   rw [← ec]
   generalize b0 % 8 * 262144 + b1 % 64 * 4096 + b2 % 64 * 64 + b3 % 64 = c
   by_cases c4 : 65536 ≤ c
   · rw [valid_eq c]
     have c4' : (65536 : Int) ≤ c := by omega
     rw [show decide (c ≥ 65536) = true from decide_eq_true c4, decide_eq_true c4', Bool.true_and]
     split
     · simp
     · rfl
   · have c4' : ¬ (65536 : Int) ≤ c := by omega
     rw [show decide (c ≥ 65536) = false from decide_eq_false c4, decide_eq_false c4']
     rfl
 rw [if_neg c5, if_neg c5]
 rfl
theorem rune_width (t : List Int) (p : Nat) : (runeAt t p).2 ≤ 4 := by
 unfold runeAt
 repeat' split
 all_goals simp
theorem rune_fffd (t : List Int) (p : Nat) (h0 : byteAt t p = 239) (h1 : byteAt t (p + 1) = 191) (h2 : byteAt t (p + 2) = 189) : runeAt t p = (65533, 3) := by
 unfold runeAt contAt
 rw [h0, h1, h2, if_neg (by decide), if_neg (by decide), if_pos (by decide), if_pos (by decide)]
 rfl
theorem rune_is (t : List Int) (p : Nat) (hb : ∀ i, 0 ≤ byteAt t i ∧ byteAt t i ≤ 255) (h : (runeAt t p).2 ≠ 0) (hr : (runeAt t p).1 = 65533) : byteAt t p = 239 ∧ byteAt t (p + 1) = 191 ∧ byteAt t (p + 2) = 189 := by
 have q0 := hb p
 have q1 := hb (p + 1)
 have q2 := hb (p + 2)
 have q3 := hb (p + 3)
 unfold runeAt contAt at h hr
 generalize byteAt t p = b0 at *
 generalize byteAt t (p + 1) = b1 at *
 generalize byteAt t (p + 2) = b2 at *
 generalize byteAt t (p + 3) = b3 at *
 repeat' split at hr
 all_goals simp_all
 all_goals omega
def noKeyTwice : List ByteArray → Bool
 | [] => true
 | k :: r => !(r.any fun x => decide (x.data = k.data)) && noKeyTwice r
def letters (s : ByteArray) : Bool := (stray (ints s)).isNone
def bare : J → Bool
 | .mk k i t ks l => (decide (i = 0) || decide (k = 1) || decide (k = 2)) && (decide (t.size = 0) || decide (k = 3)) && (decide (ks.length = 0) || decide (k = 5)) && (decide (l.length = 0) || decide (k = 4) || decide (k = 5))
def goodJ : Nat → J → Bool
 | 0, _ => false
 | d + 1, .mk k i t ks l => bare (.mk k i t ks l) &&
  (if k = 0 then true
   else if k = 1 then decide (i = 0) || decide (i = 1)
   else if k = 2 then decide (-maxInt ≤ i) && decide (i ≤ maxInt)
   else if k = 3 then letters t
   else if k = 4 then l.all (goodJ d)
   else if k = 5 then decide (ks.length = l.length) && (ks.all letters && noKeyTwice ks) && l.all (goodJ d)
   else false)
mutual
def ord : J → J
 | .mk k i t ks l => if k = 5 then mapOf ks (ordL l) else .mk k i t [] (ordL l)
def ordL : List J → List J
 | [] => []
 | j :: r => ord j :: ordL r
end
theorem lessB_irrefl : ∀ x : List UInt8, lessB x x = false
 | [] => rfl
 | a :: x => by unfold lessB; rw [lessB_irrefl x]; simp
theorem lessB_trans : ∀ x y z : List UInt8, lessB x y = true → lessB y z = true → lessB x z = true
 | [], [], _, h, _ => by cases h
 | [], _ :: _, [], _, h => by cases h
 | [], _ :: _, _ :: _, _, _ => rfl
 | _ :: _, [], _, h, _ => by cases h
 | _ :: _, _ :: _, [], _, h => by cases h
 | a :: x, b :: y, c :: z, h, h' => by
  unfold lessB at h h' ⊢
  simp only [Bool.or_eq_true, Bool.and_eq_true, decide_eq_true_eq] at h h' ⊢
  rcases h with h | ⟨rfl, h⟩
  · rcases h' with h' | ⟨rfl, h'⟩
    · exact .inl (UInt8.lt_trans h h')
    · exact .inl h
  · rcases h' with h' | ⟨rfl, h'⟩
    · exact .inl h'
    · exact .inr ⟨rfl, lessB_trans x y z h h'⟩
theorem lessB_total : ∀ x y : List UInt8, x ≠ y → lessB x y = true ∨ lessB y x = true
 | [], [], h => absurd rfl h
 | [], _ :: _, _ => .inl rfl
 | _ :: _, [], _ => .inr rfl
 | a :: x, b :: y, h => by
  unfold lessB
  simp only [Bool.or_eq_true, Bool.and_eq_true, decide_eq_true_eq]
  rcases UInt8.lt_or_lt_of_ne (a := a) (b := b) |> fun f => (Classical.em (a = b)).imp id f with rfl | h' | h'
  · rcases lessB_total x y (fun e => h (by rw [e])) with h' | h'
    · exact .inl (.inr ⟨rfl, h'⟩)
    · exact .inr (.inr ⟨rfl, h'⟩)
  · exact .inl (.inl h')
  · exact .inr (.inl h')
def ltK (a b : ByteArray) : Bool := lessB a.data.toList b.data.toList
theorem ltK_irrefl (a : ByteArray) : ltK a a = false := lessB_irrefl _
theorem ltK_trans {a b c : ByteArray} (h : ltK a b = true) (h' : ltK b c = true) : ltK a c = true := lessB_trans _ _ _ h h'
theorem ltK_total {a b : ByteArray} (h : a ≠ b) : ltK a b = true ∨ ltK b a = true := by
 refine lessB_total _ _ fun e => h ?_
 cases a; cases b
 simp only at e
 rw [Array.toList_inj.1 e]
def rises : List ByteArray → Bool
 | [] => true
 | k :: r => r.all (ltK k) && rises r
theorem sortK_rises : ∀ (q : List (ByteArray × J)), rises (q.map (·.1)) = true → sortK q = q
 | [], _ => rfl
 | x :: q, h => by
  simp only [List.map_cons, rises, Bool.and_eq_true] at h
  unfold sortK
  rw [sortK_rises q h.2]
  cases q with
  | nil => rfl
  | cons y q =>
   have h1 := h.1
   simp only [List.map_cons, List.all_cons, Bool.and_eq_true] at h1
   have : lessB x.1.data.toList y.1.data.toList = true := h1.1
   unfold putK
   rw [if_pos this]
mutual
def inOrd : J → Bool
 | .mk _ _ _ ks l => rises ks && inOrdL l
def inOrdL : List J → Bool
 | [] => true
 | j :: r => inOrd j && inOrdL r
end
theorem mem_putK {k : ByteArray} {v : J} {x : ByteArray × J} : ∀ (q : List (ByteArray × J)), x ∈ putK k v q ↔ x = (k, v) ∨ x ∈ q
 | [] => by simp [putK]
 | y :: q => by
  unfold putK
  split
  · simp
  · rw [List.mem_cons, mem_putK q, List.mem_cons]
    constructor
    · rintro (h | h | h)
      · exact .inr (.inl h)
      · exact .inl h
      · exact .inr (.inr h)
    · rintro (h | h | h)
      · exact .inr (.inl h)
      · exact .inl h
      · exact .inr (.inr h)
theorem mem_sortK {x : ByteArray × J} : ∀ (q : List (ByteArray × J)), x ∈ sortK q ↔ x ∈ q
 | [] => Iff.rfl
 | y :: q => by
  unfold sortK
  rw [mem_putK, mem_sortK q, List.mem_cons]
theorem putK_rises {k : ByteArray} {v : J} : ∀ (q : List (ByteArray × J)), rises (q.map (·.1)) = true → (∀ x ∈ q, x.1 ≠ k) → rises ((putK k v q).map (·.1)) = true
 | [], _, _ => rfl
 | y :: q, h, hn => by
  simp only [List.map_cons, rises, Bool.and_eq_true] at h
  unfold putK
  split
  · rename_i hl
    simp only [List.map_cons, rises, Bool.and_eq_true, List.all_cons]
    refine ⟨⟨hl, List.all_eq_true.2 fun z hz => ltK_trans hl (List.all_eq_true.1 h.1 z hz)⟩, h.1, h.2⟩
  · rename_i hl
    have hyk : ltK y.1 k = true := by
     rcases ltK_total (hn y (by simp)) with h' | h'
     · exact h'
     · exact absurd h' hl
    simp only [List.map_cons, rises, Bool.and_eq_true]
    refine ⟨List.all_eq_true.2 fun z hz => ?_, putK_rises q h.2 fun x hx => hn x (by simp [hx])⟩
    obtain ⟨x, hx, rfl⟩ := List.mem_map.1 hz
    rcases (mem_putK q).1 hx with rfl | hx
    · exact hyk
    · exact List.all_eq_true.1 h.1 _ (List.mem_map.2 ⟨x, hx, rfl⟩)
def apartK (q : List (ByteArray × J)) : Prop := q.Pairwise fun x y => x.1 ≠ y.1
theorem sortK_rises' : ∀ (q : List (ByteArray × J)), apartK q → rises ((sortK q).map (·.1)) = true
 | [], _ => rfl
 | y :: q, h => by
  unfold sortK
  have h' := List.pairwise_cons.1 h
  exact putK_rises _ (sortK_rises' q h'.2) fun x hx => (h'.1 x ((mem_sortK q).1 hx)).symm
theorem putK_length {k : ByteArray} {v : J} : ∀ (q : List (ByteArray × J)), (putK k v q).length = q.length + 1
 | [] => rfl
 | y :: q => by
  unfold putK
  split
  · rfl
  · simp [putK_length q]
theorem sortK_length : ∀ (q : List (ByteArray × J)), (sortK q).length = q.length
 | [] => rfl
 | y :: q => by unfold sortK; rw [putK_length, sortK_length q]; rfl
end Go.Proofs.YtnngalkdjgjmbaaGreat
namespace Go.Proofs.YtnngalkdjgjmbaaGreat
open Go.RowKit
theorem own_ge {w : World} {B e size n : Nat} {v : Value} {xs : List Value} (h : w.ownsRow B e size v n xs) : ∀ k, v.ownBlock = some k → B ≤ k ∧ k < w.heap.size := by
 intro k hk
 rcases h.2 with ⟨rfl, _⟩ | ⟨g, cap, cur, rfl, hg, hgg, _⟩
 · cases hk
 · cases hk; exact ⟨hg, (Array.getElem?_eq_some_iff.1 hgg).1⟩
theorem Keep.grown {S : Nat → Prop} {a b c : World} {row : Option Nat} (h : Keep S a b) (hg : b.grownBy c row) (hr : ∀ k, row = some k → a.heap.size ≤ k) : Keep S a c :=
 h.trans (S' := fun k => row = some k) (Keep.of_grown hg fun _ _ e => e) fun i hi e => absurd (hr i e) (by omega)
end Go.Proofs.YtnngalkdjgjmbaaGreat

/-
  Rows and graphs as they lie in memory.
-/
import Derived.Test.YtbjeaogblpjpeaaGMath
import Derived.Test.YtbjeaogblpjpeaaRows
import Derived.Test.YtbjeaogblpjpeaaShelf
import Derived.WalkKit
import Derived.WalkSpells
import Derived.WalkLawsBesides
import Derived.BigRegion
import Derived.RegionTactic
import Derived.Laws.AppendOwnNone
import Derived.Maps.OwnSet
import Derived.Maps.AppendAt
import Derived.StringKeys
import Derived.DeepKeys4
import Derived.Lib.OwnBridge
import Derived.Sort.Grow
namespace Go.Proofs.Ytbjeaogblpjpeaa
open Go.RowKit Go.Maps

theorem ret_int {k : IntKind} {a b : Int} (h : a = b) : Ending.returned (.int k a) = .returned (.int k b) := by rw [h]
theorem ret_bool {a b : Bool} (h : a = b) : Ending.returned (.bool a) = .returned (.bool b) := by rw [h]
theorem beqS (s t : ByteArray) : (s.toList == t.toList) = decide (s = t) := by
  rw [Bool.eq_iff_iff, beq_iff_eq, decide_eq_true_eq]
  constructor
  · intro h
    rw [ByteArray.toList_eq, ByteArray.toList_eq] at h
    exact ByteArray.ext (Array.toList_inj.1 h)
  · rintro rfl; rfl
theorem add_block (a : Addr) (m : Nat) : (a.add m).block = a.block := by unfold Addr.add; split <;> rfl
theorem add_flat (b o j : Nat) : (⟨b, o, none⟩ : Addr).add j = ⟨b, o + j, none⟩ := by unfold Addr.add; split <;> simp_all
theorem obj_lt {w : World} {b : Nat} {o : Obj} (h : w.heap[b]? = some o) : b < w.heap.size := (Array.getElem?_eq_some_iff.1 h).1
theorem cell_row {w : World} {g t : Nat} {fr : Nat × Nat} {cur : List Value} (h : w.heap[g]? = some (.cells cur.toArray t fr)) (j : Nat) (v : Value) (hj : cur[j]? = some v) : w.cell? ⟨g, j, none⟩ = some v := by
  simp [World.cell?, h, hj]

/-- All that lay in w lies there still, but for the blocks S. -/
structure Keep (S : Nat → Prop) (w w' : World) : Prop where
  os : w'.os = w.os
  tape : w'.tape = w.tape
  output : w'.output = w.output
  size : w.heap.size ≤ w'.heap.size
  block : ∀ k, k < w.heap.size → ¬ S k → w'.heap[k]? = w.heap[k]?
theorem Keep.refl (S : Nat → Prop) (w : World) : Keep S w w := ⟨rfl, rfl, rfl, Nat.le_refl _, fun _ _ _ => rfl⟩
theorem Keep.trans {S S' : Nat → Prop} {a b c : World} (h : Keep S a b) (k : Keep S' b c) (hS : ∀ i, i < a.heap.size → S' i → S i) : Keep S a c :=
  ⟨k.os.trans h.os, k.tape.trans h.tape, k.output.trans h.output, Nat.le_trans h.size k.size, fun i hi hn => (k.block i (Nat.lt_of_lt_of_le hi h.size) (fun h' => hn (hS i hi h'))).trans (h.block i hi hn)⟩
theorem Keep.mono {S S' : Nat → Prop} {a b : World} (h : Keep S a b) (hS : ∀ i, i < a.heap.size → S i → S' i) : Keep S' a b :=
  ⟨h.os, h.tape, h.output, h.size, fun i hi hn => h.block i hi fun h' => hn (hS i hi h')⟩
theorem Keep.of_below {S : Nat → Prop} {a b : World} (h : Below a.heap.size a b) : Keep S a b := ⟨h.os, h.tape, h.output, h.size, fun k hk _ => h.block k hk⟩
theorem Keep.of_grown {S : Nat → Prop} {a b : World} {row : Option Nat} (h : a.grownBy b row) (hr : ∀ k, k < a.heap.size → row = some k → S k) : Keep S a b :=
  ⟨h.os, h.tape, h.output, h.size, fun k hk hn => h.block k hk fun e => hn (hr k hk e.symm)⟩
theorem Keep.below {S : Nat → Prop} {a b : World} (h : Keep S a b) {B : Nat} (hB : B ≤ a.heap.size) (hS : ∀ k, k < B → ¬ S k) : Below B a b :=
  ⟨h.os, h.tape, h.output, h.size, fun k hk => h.block k (Nat.lt_of_lt_of_le hk hB) (hS k hk)⟩
theorem Keep.drew {S : Nat → Prop} {a b : World} (h : Keep S a b) : Keep S a b.drew := ⟨h.os, h.tape, h.output, h.size, h.block⟩
theorem Keep.alloc {S : Nat → Prop} {a b : World} (h : Keep S a b) (o : Obj) : Keep S a (b.alloc o) :=
  h.trans (S' := fun _ => False) (Keep.of_below ((Below.refl _ _).alloc (Nat.le_refl _) o)) fun _ _ h => h.elim
theorem Keep.setCell {S : Nat → Prop} {a b : World} (h : Keep S a b) {p : Addr} (hp : p.block < a.heap.size → S p.block) (u : Value) : Keep S a (b.setCell p u) :=
  ⟨h.os, h.tape, h.output, by rw [show (b.setCell p u).heap.size = b.heap.size by simp]; exact h.size, fun k hk hn => by
    rw [Below.heap_setCell b p u k (fun e => hn (e ▸ hp (e ▸ hk)))]; exact h.block k hk hn⟩

/-- All blocks of O are as they were. -/
def Same (O : Nat → Prop) (w w' : World) : Prop := ∀ k, O k → w'.heap[k]? = w.heap[k]?
theorem Same.of_below {O : Nat → Prop} {w w' : World} {B : Nat} (h : Below B w w') (hO : ∀ k, O k → k < B) : Same O w w' := fun k hk => h.block k (hO k hk)
theorem Same.of_keep {O S : Nat → Prop} {w w' : World} (h : Keep S w w') (hO : ∀ k, O k → k < w.heap.size ∧ ¬ S k) : Same O w w' := fun k hk => h.block k (hO k hk).1 (hO k hk).2
theorem below_grown {w w' : World} (h : Below w.heap.size w w') : w.grownBy w' none := ⟨h.os, h.tape, h.output, h.size, fun k hk _ => h.block k hk⟩

/-- At p, with room for c, the things xs are read, one cell each; they lie in a block of O. -/
def Rd {α : Type} (enc : α → Value) (O : Nat → Prop) (w : World) (p : Option Addr) (c : Nat) (xs : List α) : Prop :=
  xs.length ≤ c ∧ (xs ≠ [] → ∃ b o, p = some ⟨b, o, none⟩ ∧ O b ∧ ∀ j x, xs[j]? = some x → w.cell? ⟨b, o + j, none⟩ = some (enc x))
abbrev RdI := Rd (Value.int .i64)
abbrev RdB := Rd Value.bool
abbrev RdS := Rd Value.string
theorem Rd.nil {α : Type} (enc : α → Value) (O : Nat → Prop) (w : World) (p : Option Addr) (c : Nat) : Rd enc O w p c [] := ⟨Nat.zero_le _, fun h => absurd rfl h⟩
theorem Rd.at {α : Type} {enc : α → Value} {O : Nat → Prop} {w : World} {p : Option Addr} {c : Nat} {xs : List α} (h : Rd enc O w p c xs) (j : Nat) (d : α) (hj : j < xs.length) :
    ∃ a, p = some a ∧ O a.block ∧ w.cell? (a.add j) = some (enc (xs.getD j d)) := by
  obtain ⟨b, o, hp, hO, hc⟩ := h.2 (by rintro rfl; simp at hj)
  refine ⟨_, hp, hO, ?_⟩
  rw [add_flat]
  exact hc j _ (by rw [getD_in hj, List.getElem?_eq_getElem hj])
theorem Rd.carry {α : Type} {enc : α → Value} {O O' : Nat → Prop} {w w' : World} {p : Option Addr} {c : Nat} {xs : List α} (h : Rd enc O w p c xs) (hs : Same O w w') (hO : ∀ k, O k → O' k) : Rd enc O' w' p c xs :=
  ⟨h.1, fun hn => by
    obtain ⟨b, o, hp, hb, hc⟩ := h.2 hn
    exact ⟨b, o, hp, hO b hb, fun j x hj => (World.cell?_of_block (hs b hb)).trans (hc j x hj)⟩⟩
theorem Rd.same {α : Type} {enc : α → Value} {O : Nat → Prop} {w w' : World} {p : Option Addr} {c : Nat} {xs : List α} (h : Rd enc O w p c xs) (hs : Same O w w') : Rd enc O w' p c xs := h.carry hs fun _ h => h
theorem Rd.below {α : Type} {enc : α → Value} {B : Nat} {w w' : World} {p : Option Addr} {c : Nat} {xs : List α} (h : Rd enc (· < B) w p c xs) (hb : Below B w w') : Rd enc (· < B) w' p c xs := h.same (Same.of_below hb fun _ h => h)
theorem Rd.len {α : Type} {enc : α → Value} {O : Nat → Prop} {w : World} {c : Nat} {xs : List α} (h : Rd enc O w none c xs) : xs = [] := by
  refine Classical.byContradiction fun hn => ?_
  obtain ⟨b, o, hp, _⟩ := h.2 hn
  cases hp
theorem Rd.take {α : Type} {enc : α → Value} {O : Nat → Prop} {w : World} {p : Option Addr} {c : Nat} {xs : List α} (h : Rd enc O w p c xs) (n : Nat) : Rd enc O w p c (xs.take n) := by
  refine ⟨by have := h.1; rw [List.length_take]; omega, fun hn => ?_⟩
  obtain ⟨b, o, hp, hb, hc⟩ := h.2 (by rintro rfl; simp at hn)
  refine ⟨b, o, hp, hb, fun j x hj => hc j x ?_⟩
  rw [List.getElem?_take] at hj
  split at hj
  · exact hj
  · cases hj
theorem own_lt {w : World} {B e size n : Nat} {v : Value} {xs : List Value} (h : w.ownsRow B e size v n xs) : ∀ k, v.ownBlock = some k → B ≤ k ∧ k < w.heap.size := h.lt
/-- What is owned is read. -/
theorem own_rd {α : Type} {enc : α → Value} {w : World} {B e : Nat} {v : Value} {xs : List α} (h : w.ownsRow B e 1 v xs.length (xs.map enc)) :
    ∃ q cq, v = .slice q xs.length cq ∧ Rd enc (fun k => v.ownBlock = some k) w q cq xs := by
  rcases h.2 with ⟨rfl, hn⟩ | ⟨g, cap, cur, rfl, hg, hgg, h1, h2, h3, h4⟩
  · obtain rfl : xs = [] := List.eq_nil_of_length_eq_zero hn
    exact ⟨none, 0, rfl, Rd.nil _ _ _ _ _⟩
  · refine ⟨_, _, rfl, h1, fun _ => ⟨g, 0, rfl, rfl, fun j x hj => ?_⟩⟩
    have hjl : j < xs.length := (List.getElem?_eq_some_iff.1 hj).1
    rw [Nat.zero_add, h.cellAt j (by omega), List.getElem?_map, hj]
    rfl
theorem own_same {w w' : World} {B e size n : Nat} {v : Value} {xs : List Value} (h : w.ownsRow B e size v n xs) (hs : Same (fun k => v.ownBlock = some k) w w') : w'.ownsRow B e size v n xs := by
  refine ⟨h.1, ?_⟩
  rcases h.2 with hn | ⟨g, cap, cur, rfl, hg, hgg, rest⟩
  · exact .inl hn
  · exact .inr ⟨g, cap, cur, rfl, hg, by rw [hs g rfl]; exact hgg, rest⟩
theorem own_below {w w' : World} {B e size n : Nat} {v : Value} {xs : List Value} (h : w.ownsRow B e size v n xs) (hb : Below w.heap.size w w') : w'.ownsRow B e size v n xs := own_same h (Same.of_below hb fun k hk => (h.lt k hk).2)
theorem own_le {w : World} {B B' e size n : Nat} {v : Value} {xs : List Value} (h : w.ownsRow B e size v n xs) (hB : B' ≤ B) : w.ownsRow B' e size v n xs := by
  refine ⟨h.1, ?_⟩
  rcases h.2 with h' | ⟨g, cap, cur, e, hg, r⟩
  · exact .inl h'
  · exact .inr ⟨g, cap, cur, e, Nat.le_trans hB hg, r⟩

/-- Numbers of places. -/
def zs (l : List Nat) : List Int := l.map fun (n : Nat) => (n : Int)
theorem zs_len (l : List Nat) : (zs l).length = l.length := by simp [zs]
theorem zs_getD (l : List Nat) (k : Nat) : (zs l).getD k 0 = ((l.getD k 0 : Nat) : Int) := by
  simp only [zs, List.getD_eq_getElem?_getD, List.getElem?_map]
  cases l[k]? <;> rfl
theorem zs_mem (l : List Nat) (k : Nat) : (k : Int) ∈ zs l ↔ k ∈ l := by
  simp only [zs, List.mem_map]
  exact ⟨fun ⟨x, hx, e⟩ => by rw [← Int.ofNat_inj.1 e]; exact hx, fun h => ⟨k, h, rfl⟩⟩
theorem zs_inj {a b : List Nat} (h : zs a = zs b) : a = b := by
  unfold zs at h
  exact List.map_inj_right (fun x y e => Int.ofNat_inj.1 e) |>.1 h

/-- Things, three cells each. -/
def Thx (O : Nat → Prop) (w : World) (T : List Th) (xs : List Value) : Prop :=
  ∀ j t, T[j]? = some t → ∃ p1 c1 p2 c2, xs[j * 3]? = some (.string t.name) ∧ xs[j * 3 + 1]? = some (.slice p1 (zs t.prev).length c1) ∧ xs[j * 3 + 2]? = some (.slice p2 (zs t.auth).length c2) ∧ RdI O w p1 c1 (zs t.prev) ∧ RdI O w p2 c2 (zs t.auth)
theorem Thx.carry {O O' : Nat → Prop} {w w' : World} {T : List Th} {xs : List Value} (h : Thx O w T xs) (hs : Same O w w') (hO : ∀ k, O k → O' k) : Thx O' w' T xs := by
  intro j t hj
  obtain ⟨p1, c1, p2, c2, e1, e2, e3, r1, r2⟩ := h j t hj
  exact ⟨p1, c1, p2, c2, e1, e2, e3, r1.carry hs hO, r2.carry hs hO⟩
theorem Thx.snoc {O : Nat → Prop} {w : World} {T : List Th} {xs : List Value} {t : Th} {p1 p2 : Option Addr} {c1 c2 : Nat} (h : Thx O w T xs) (hx : xs.length = T.length * 3) (r1 : RdI O w p1 c1 (zs t.prev)) (r2 : RdI O w p2 c2 (zs t.auth)) :
    Thx O w (T ++ [t]) (xs ++ [.string t.name, .slice p1 (zs t.prev).length c1, .slice p2 (zs t.auth).length c2]) := by
  intro j u hj
  rcases Nat.lt_or_ge j T.length with h' | h'
  · rw [List.getElem?_append_left h'] at hj
    obtain ⟨q1, d1, q2, d2, e1, e2, e3, s1, s2⟩ := h j u hj
    refine ⟨q1, d1, q2, d2, ?_, ?_, ?_, s1, s2⟩ <;> (rw [List.getElem?_append_left (by omega)]; assumption)
  · have hj1 : j < (T ++ [t]).length := (List.getElem?_eq_some_iff.1 hj).1
    have e : j = T.length := by simp at hj1; omega
    subst e
    rw [List.getElem?_append_right (Nat.le_refl _)] at hj
    simp at hj
    subst hj
    refine ⟨p1, c1, p2, c2, ?_, ?_, ?_, r1, r2⟩ <;> (rw [List.getElem?_append_right (by omega), hx]; simp)

/-- D tells of each of l its place. -/
structure Num (D : DataW Unit) (l : List ByteArray) : Prop where
  tidy : Tidy D
  size : Maps.size D = l.length
  all : ∀ x ∈ l, x.size ≤ maxLen
  has : ∀ x : ByteArray, x.size ≤ maxLen → Maps.has D (.string x.data.toList) = inn l x
  num : ∀ x ∈ l, ∀ z, D.atKey (.string x.data.toList) z = .lit (.int .i64 (plc l x))
def klS (s : ByteArray) : Lit := .string s.data.toList
theorem klS_inj {s t : ByteArray} (h : klS s = klS t) : s = t := by
  unfold klS at h
  simp only [Lit.string.injEq] at h
  exact ByteArray.ext (Array.toList_inj.1 h)
theorem klS_key (s : ByteArray) : WideAt.IsKeyLit (klS s) := trivial
theorem Num.empty : Num (.map []) [] :=
  ⟨tidy_empty, rfl, fun _ h => (by cases h), fun _ _ => by simp [has_eq, inn], fun _ h => (by cases h)⟩
theorem Num.put {D : DataW Unit} {l : List ByteArray} (h : Num D l) {x : ByteArray} (hx : x.size ≤ maxLen) (hn : x ∉ l) : Num (D.put (klS x) (.lit (.int .i64 (l.length : Int)))) (l ++ [x]) := by
  refine ⟨h.tidy.put (klS_key x) _, ?_, ?_, ?_, ?_⟩
  · have e := h.has x hx
    change Maps.has D (klS x) = _ at e
    rw [size_put h.tidy, e, h.size, inn_not.2 hn]
    simp
  · intro y hy
    rcases List.mem_append.1 hy with hy | hy
    · exact h.all y hy
    · rw [List.mem_singleton.1 hy]; exact hx
  · intro y hy
    change Maps.has _ (klS y) = _
    by_cases e : y = x
    · subst e
      rw [has_put_same h.tidy.isMap (klS_key y)]
      exact (inn_iff.2 (by simp)).symm
    · rw [has_put_other (fun h' => e (klS_inj h'))]
      refine (h.has y hy).trans ?_
      rw [Bool.eq_iff_iff, inn_iff, inn_iff]
      simp [e]
  · intro y hy z
    change DataW.atKey _ (klS y) z = _
    by_cases e : y = x
    · subst e
      rw [atKey_put_same h.tidy.isMap (klS_key y), plc_new hn]
    · have hyl : y ∈ l := by
        rcases List.mem_append.1 hy with h' | h'
        · exact h'
        · exact absurd (List.mem_singleton.1 h') e
      rw [atKey_put_other (fun h' => e (klS_inj h')), plc_old hyl]
      exact h.num y hyl z
/-- Block b is a map that tells of each of l its place. -/
def Nms (w : World) (b : Nat) (l : List ByteArray) : Prop := ∃ D : DataW Unit, w.ownsMap Try.prog 9 (plainElem Try.prog 3) b l.length D ∧ Num D l
theorem law9 : Keyed Try.prog 9 := string_keyed Try.underlying9
theorem zero3 (w : World) : (zeroValue 3).run Try.prog w = .ok (.int .i64 0) w := by kernel_rfl
theorem keyS {s : ByteArray} (h : s.size ≤ maxLen) : keyOf Try.prog 9 (.string s) = some (klS s) := WideMaps.keyOf_string_mk Try.underlying9 h
theorem Nms.lt {w : World} {b : Nat} {l : List ByteArray} (h : Nms w b l) : b < w.heap.size := by
  obtain ⟨D, h1, h2⟩ := h
  exact h1.lt
theorem Nms.bare {w : World} {b : Nat} {l : List ByteArray} (h : Nms w b l) {c : Array Value} {t : TypeId} {f : Nat × Nat} : w.heap[b]? ≠ some (.cells c t f) := by
  obtain ⟨D, ⟨es, clock, hb, _⟩, _⟩ := h
  rw [hb]
  intro h'
  cases h'
theorem Nms.same {w w' : World} {b : Nat} {l : List ByteArray} (h : Nms w b l) (hs : w'.heap[b]? = w.heap[b]?) : Nms w' b l := by
  obtain ⟨D, ⟨es, clock, hb, r⟩, hn⟩ := h
  exact ⟨D, ⟨es, clock, by rw [hs]; exact hb, r⟩, hn⟩
theorem nms_made (w : World) : Nms (w.alloc (.map #[] 0)) w.heap.size [] := ⟨.map [], World.ownsMap_made _ _ _ _, Num.empty⟩

/-- Block gb is a graph of the things T; all of it lies in blocks of O. -/
structure PG (O : Nat → Prop) (w : World) (gb mb : Nat) (v : Value) (xs : List Value) (T : List Th) : Prop where
  obj : w.heap[gb]? = some (.cells #[.map (some mb), v] 68)
  names : Nms w mb (nms T)
  row : w.ownsRow 0 63 3 v T.length xs
  cells : Thx (fun k => O k ∧ k ≠ gb ∧ k ≠ mb ∧ v.ownBlock ≠ some k) w T xs
  og : O gb
  om : O mb
  ov : ∀ k, v.ownBlock = some k → O k
  lt : ∀ k, O k → k < w.heap.size
theorem PG.same {O : Nat → Prop} {w w' : World} {gb mb : Nat} {v : Value} {xs : List Value} {T : List Th} (h : PG O w gb mb v xs T) (hs : Same O w w') (hz : w.heap.size ≤ w'.heap.size) : PG O w' gb mb v xs T :=
  ⟨(hs gb h.og).trans h.obj, h.names.same (hs mb h.om), own_same h.row fun k hk => hs k (h.ov k hk), h.cells.carry (fun k hk => hs k hk.1) (fun _ h => h), h.og, h.om, h.ov, fun k hk => Nat.lt_of_lt_of_le (h.lt k hk) hz⟩
theorem PG.cellsO {O : Nat → Prop} {w : World} {gb mb : Nat} {v : Value} {xs : List Value} {T : List Th} (h : PG O w gb mb v xs T) : Thx O w T xs := h.cells.carry (fun _ _ => rfl) fun _ h => h.1
/-- The like of the document's. -/
structure RG (O : Nat → Prop) (w : World) (hb : Nat) (v : Value) (xs : List Value) (T : List Th) : Prop where
  obj : w.heap[hb]? = some (.cells #[v] 34)
  row : w.ownsRow 0 37 3 v T.length xs
  cells : Thx (fun k => O k ∧ k ≠ hb ∧ v.ownBlock ≠ some k) w T xs
  og : O hb
  ov : ∀ k, v.ownBlock = some k → O k
  lt : ∀ k, O k → k < w.heap.size
theorem RG.same {O : Nat → Prop} {w w' : World} {hb : Nat} {v : Value} {xs : List Value} {T : List Th} (h : RG O w hb v xs T) (hs : Same O w w') (hz : w.heap.size ≤ w'.heap.size) : RG O w' hb v xs T :=
  ⟨(hs hb h.og).trans h.obj, own_same h.row fun k hk => hs k (h.ov k hk), h.cells.carry (fun k hk => hs k hk.1) (fun _ h => h), h.og, h.ov, fun k hk => Nat.lt_of_lt_of_le (h.lt k hk) hz⟩
theorem RG.cellsO {O : Nat → Prop} {w : World} {hb : Nat} {v : Value} {xs : List Value} {T : List Th} (h : RG O w hb v xs T) : Thx O w T xs := h.cells.carry (fun _ _ => rfl) fun _ h => h.1
/-- What is read as the graph of T: a graph, or none. -/
def Gq (O : Nat → Prop) (w : World) (g : Option Addr) (T : List Th) : Prop :=
  (g = none ∧ T = []) ∨ (∃ gb, g = some ⟨gb, 0, none⟩ ∧ w.heap[gb]? = some (.cells #[.map none, .slice none 0 0] 68) ∧ O gb ∧ T = [] ∧ ∀ k, O k → k < w.heap.size) ∨ ∃ gb mb v xs, g = some ⟨gb, 0, none⟩ ∧ PG O w gb mb v xs T
theorem Gq.same {O : Nat → Prop} {w w' : World} {g : Option Addr} {T : List Th} (h : Gq O w g T) (hs : Same O w w') (hz : w.heap.size ≤ w'.heap.size) : Gq O w' g T := by
  rcases h with h | ⟨gb, e, ho, hO, hT, hl⟩ | ⟨gb, mb, v, xs, e, h⟩
  · exact .inl h
  · exact .inr (.inl ⟨gb, e, (hs gb hO).trans ho, hO, hT, fun k hk => Nat.lt_of_lt_of_le (hl k hk) hz⟩)
  · exact .inr (.inr ⟨gb, mb, v, xs, e, h.same hs hz⟩)
theorem Gq.below {O : Nat → Prop} {w w' : World} {g : Option Addr} {T : List Th} (h : Gq O w g T) (hb : Below w.heap.size w w') : Gq O w' g T := by
  rcases h with h | ⟨gb, e, ho, hO, hT, hl⟩ | ⟨gb, mb, v, xs, e, h⟩
  · exact .inl h
  · exact Gq.same (.inr (.inl ⟨gb, e, ho, hO, hT, hl⟩)) (Same.of_below hb hl) hb.size
  · exact Gq.same (.inr (.inr ⟨gb, mb, v, xs, e, h⟩)) (Same.of_below hb h.lt) hb.size
end Go.Proofs.Ytbjeaogblpjpeaa

/-
  Things that a map numbers: the first one has 1, the next one 2, in the order in which they came first.
-/
import Derived.Test.YtjgogmlmcebgpaaLetters
import Derived.Maps.OwnSet
import Derived.StringKeys
import Derived.DeepKeys4
namespace Go.Proofs.Ytjgogmlmcebgpaa
open Go.RowKit Go.Maps

theorem take_mem_snoc {α : Type} {S : List α} {k : Nat} {x d : α} (hk : k < S.length) : x ∈ S.take (k + 1) ↔ x ∈ S.take k ∨ x = S.getD k d := by
  rw [List.take_succ_eq_append_getElem hk, List.getD_eq_getElem?_getD, List.getElem?_eq_getElem hk, List.mem_append, List.mem_singleton]
  rfl

section
variable {α : Type} [DecidableEq α] {kl : α → Lit} {ok : α → Prop} {D : DataW Unit} {l : List α}

theorem idx_new {l : List α} {x : α} (h : x ∉ l) : (l ++ [x]).idxOf x = l.length := by
  rw [List.idxOf_append, if_neg h]
  simp
theorem idx_old {l : List α} {x y : α} (h : x ∈ l) : (l ++ [y]).idxOf x = l.idxOf x := by rw [List.idxOf_append, if_pos h]

/-- D numbers the things of l. -/
structure Num (kl : α → Lit) (ok : α → Prop) (D : DataW Unit) (l : List α) : Prop where
  tidy : Tidy D
  size : Maps.size D = l.length
  all : ∀ x ∈ l, ok x
  has : ∀ x, ok x → Maps.has D (kl x) = decide (x ∈ l)
  num : ∀ x ∈ l, ∀ z, D.atKey (kl x) z = .lit (.int .i64 (l.idxOf x + 1))

/-- Is x in l. -/
def inn (l : List α) (x : α) : Bool := decide (x ∈ l)
theorem inn_iff {l : List α} {x : α} : inn l x = true ↔ x ∈ l := by simp [inn]
theorem inn_not {l : List α} {x : α} : inn l x = false ↔ x ∉ l := by simp [inn]
/-- Where s stands, or -1. -/
def idx (S : List α) (s : α) : Int := if s ∈ S then (S.idxOf s : Int) else -1
theorem idx_here {S : List α} {k : Nat} {d : α} (hk : k < S.length) (hn : S.getD k d ∉ S.take k) : idx S (S.getD k d) = k := by
  obtain ⟨x, hx⟩ : ∃ x, x = S.getD k d := ⟨_, rfl⟩
  rw [← hx] at hn ⊢
  have e : S = S.take k ++ x :: S.drop (k + 1) := by
    rw [hx, List.getD_eq_getElem?_getD, List.getElem?_eq_getElem hk]
    simp
  have hm : x ∈ S := by rw [e]; simp
  unfold idx
  rw [if_pos hm]
  conv => lhs; rw [e]
  rw [List.idxOf_append, if_neg hn]
  simp
  omega
theorem idx_none {S : List α} {s : α} (h : s ∉ S) : idx S s = -1 := by unfold idx; rw [if_neg h]
theorem idx_pos (S : List α) (s : α) : decide (0 ≤ idx S s) = inn S s := by
  unfold idx inn
  by_cases h : s ∈ S <;> simp [h]
theorem idx_lt (S : List α) (s : α) : idx S s ≤ S.length := by
  unfold idx
  have := List.idxOf_le_length (a := s) (l := S)
  split <;> omega
theorem idx_lo (S : List α) (s : α) : -1 ≤ idx S s := by unfold idx; split <;> omega
/-- The place of one that is there. -/
def plc (S : List α) (s : α) : Nat := S.idxOf s
theorem idx_plc {S : List α} {s : α} (h : s ∈ S) : idx S s = plc S s := by unfold idx plc; rw [if_pos h]
theorem plc_inj {S : List α} {s t : α} (hs : s ∈ S) (ht : t ∈ S) (h : plc S s = plc S t) : s = t := by
  unfold plc at h
  have h1 := List.getElem_idxOf (List.idxOf_lt_length_iff.2 hs)
  have h2 := List.getElem_idxOf (List.idxOf_lt_length_iff.2 ht)
  rw [← h1, ← h2]
  simp [h]

/-- The row with x in it. -/
def add (l : List α) (x : α) : List α := if x ∈ l then l else l ++ [x]
/-- The number that x then has. -/
def no (l : List α) (x : α) : Int := ((add l x).idxOf x : Int) + 1

theorem mem_add (l : List α) (x y : α) : y ∈ add l x ↔ y ∈ l ∨ y = x := by
  unfold add
  split
  · constructor
    · exact .inl
    · rintro (h | rfl) <;> assumption
  · simp
theorem no_pos (l : List α) (x : α) : 1 ≤ no l x := by unfold no; omega
theorem no_le (l : List α) (x : α) : no l x ≤ l.length + 1 := by
  unfold no add
  split
  · have := List.idxOf_le_length (a := x) (l := l); omega
  · rename_i h
    rw [idx_new h]
    omega
theorem no_mem {l : List α} {x : α} (h : x ∈ l) : no l x = (l.idxOf x : Int) + 1 := by unfold no add; rw [if_pos h]
theorem no_new {l : List α} {x : α} (h : x ∉ l) : no l x = (l.length : Int) + 1 := by
  unfold no add
  rw [if_neg h, idx_new h]
theorem add_len (l : List α) (x : α) : (add l x).length ≤ l.length + 1 := by unfold add; split <;> simp
theorem add_mem {l : List α} {x : α} (h : x ∈ l) : add l x = l := by unfold add; rw [if_pos h]
theorem no_add {l : List α} {x y : α} (h : x ∈ l) : no (add l y) x = no l x := by
  rw [no_mem h, no_mem ((mem_add _ _ _).2 (.inl h))]
  unfold add
  split
  · rfl
  · rw [idx_old h]
theorem no_inj {l : List α} {x y : α} (hx : x ∈ l) (hy : y ∈ l) (h : no l x = no l y) : x = y := by
  rw [no_mem hx, no_mem hy] at h
  have e : l.idxOf x = l.idxOf y := by omega
  have h1 := List.getElem_idxOf (List.idxOf_lt_length_iff.2 hx)
  have h2 := List.getElem_idxOf (List.idxOf_lt_length_iff.2 hy)
  rw [← h1, ← h2]
  simp [e]

theorem Num.empty : Num kl ok (.map []) [] :=
  ⟨tidy_empty, rfl, fun _ h => (by cases h), fun _ _ => by simp [has_eq], fun _ h => (by cases h)⟩
theorem Num.put (hk : ∀ x, WideAt.IsKeyLit (kl x)) (hi : ∀ x y, ok x → ok y → kl x = kl y → x = y) (h : Num kl ok D l) {x : α} (hx : ok x) (hn : x ∉ l) :
    Num kl ok (D.put (kl x) (.lit (.int .i64 ((l.length : Int) + 1)))) (l ++ [x]) := by
  refine ⟨h.tidy.put (hk x) _, ?_, ?_, ?_, ?_⟩
  · rw [size_put h.tidy, h.has x hx, h.size]
    simp [hn]
  · intro y hy
    rcases List.mem_append.1 hy with hy | hy
    · exact h.all y hy
    · rw [List.mem_singleton.1 hy]; exact hx
  · intro y hy
    by_cases e : y = x
    · subst e
      rw [has_put_same h.tidy.isMap (hk y)]
      simp
    · rw [has_put_other (fun h' => e (hi _ _ hy hx h')), h.has y hy]
      simp [e]
  · intro y hy z
    by_cases e : y = x
    · subst e
      rw [atKey_put_same h.tidy.isMap (hk y), idx_new hn]
    · have hyl : y ∈ l := by
        rcases List.mem_append.1 hy with h' | h'
        · exact h'
        · exact absurd (List.mem_singleton.1 h') e
      rw [atKey_put_other (fun h' => e (hi _ _ (h.all y hyl) hx h')), h.num y hyl, idx_old hyl]
end

/-- Block b is a map that numbers the things of l. -/
def Nums {α : Type} [DecidableEq α] (k : TypeId) (kl : α → Lit) (ok : α → Prop) (w : World) (b : Nat) (l : List α) : Prop :=
  ∃ D : DataW Unit, w.ownsMap Try.prog k (plainElem Try.prog 3) b l.length D ∧ Num kl ok D l

theorem law9 : Keyed Try.prog 9 := string_keyed Try.underlying9
theorem laidOut : laidOutB Try.prog = true := by kernel_rfl
theorem row63 : (63 : TypeId) < Try.prog.types.size := of_decide_eq_true (by kernel_rfl)
theorem wide63 : (match Try.prog.underlying 63 with | some (.array _ _) | some (.struct _) => true | _ => false) = true := by kernel_rfl
theorem law63 : Keyed Try.prog 63 := Keyed.of_law (deep_law_laid laidOut (m := 2) (by omega) row63 (by kernel_rfl) wide63)
theorem zero3 (w : World) : (zeroValue 3).run Try.prog w = .ok (.int .i64 0) w := by kernel_rfl

theorem beqS (s t : ByteArray) : (s.toList == t.toList) = decide (s = t) := by
  rw [Bool.eq_iff_iff, beq_iff_eq, decide_eq_true_eq]
  constructor
  · intro h
    rw [ByteArray.toList_eq, ByteArray.toList_eq] at h
    exact ByteArray.ext (Array.toList_inj.1 h)
  · rintro rfl; rfl
/-- A text as a key. -/
def klS (s : ByteArray) : Lit := .string s.data.toList
def okS (s : ByteArray) : Prop := s.size ≤ maxLen
theorem klS_inj {s t : ByteArray} (h : klS s = klS t) : s = t := by
  unfold klS at h
  simp only [Lit.string.injEq] at h
  exact ByteArray.ext (Array.toList_inj.1 h)
theorem keyS {s : ByteArray} (h : okS s) : keyOf Try.prog 9 (.string s) = some (klS s) := WideMaps.keyOf_string_mk Try.underlying9 h

/-- A server's place and a text, as a key. -/
def klP (x : Nat × ByteArray) : Lit := .string (keyBytes [.int .i64 x.1, .string x.2.data.toList])
def okP (x : Nat × ByteArray) : Prop := x.1 ≤ 1000 ∧ x.2.size ≤ maxLen
theorem types63 : Try.prog.types.size + 1 = 97 := by kernel_rfl
theorem keyType63 : Try.prog.keyType 63 = true := by kernel_rfl
theorem cells63 : Try.prog.cellsOf 63 = 2 := by kernel_rfl
theorem cells3 : Try.prog.cellsOf 3 = 1 := by kernel_rfl
theorem cells9 : Try.prog.cellsOf 9 = 1 := by kernel_rfl
theorem keyP {x : Nat × ByteArray} (h : okP x) : keyOf Try.prog 63 (.agg #[.int .i64 x.1, .string x.2]) = some (klP x) := by
  have hf : (Value.agg #[.int .i64 x.1, .string x.2]).formed Try.prog 63 = true := by simp [Value.formed, Try.underlying63, cells63]
  have hw : (Lit.int .i64 (x.1 : Int)).wf = true := WalkArith.wf_i64 (by have := h.1; omega)
  have hl : ∀ d, Try.prog.keyLits (d + 1 + 1) 63 [.int .i64 x.1, .string x.2] = some [.int .i64 x.1, .string x.2.data.toList] := by
    intro d
    unfold Program.keyLits
    simp only [Try.underlying63]
    simp [cells63, cells3, cells9, Program.keyLits, Try.underlying3, Try.underlying9, hw, h.2]
  have hl' := hl 95
  unfold keyOf
  rw [Try.underlying63]
  simp only [keyType63, hf, types63, Value.cells, Bool.and_self, if_true]
  rw [hl']
  rfl
theorem klP_inj (x y : Nat × ByteArray) (hx : okP x) (hy : okP y) (h : klP x = klP y) : x = y := by
  have := law63.inj (keyP hx) (by rw [h]; exact keyP hy)
  obtain ⟨a, b⟩ := x
  obtain ⟨c, d⟩ := y
  simp at this
  rw [this.2, show a = c by omega]
end Go.Proofs.Ytjgogmlmcebgpaa

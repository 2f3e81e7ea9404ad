/-
  The document's table, as rows: what it holds, and what leaves it alone.
-/
import Derived.Test.YtjgogmlmcebgpaaNumber
import Derived.Test.YtjgogmlmcebgpaaText
import Derived.Test.YtjgogmlmcebgpaaOrd
import Derived.Maps.AppendAt
namespace Go.Proofs.Ytjgogmlmcebgpaa
open Go.RowKit Go.Maps

/-- Pairs, cell by cell. -/
def flat (H : List (ByteArray × ByteArray)) : List Value := H.flatMap fun x => [.string x.1, .string x.2]
theorem flat_length (H : List (ByteArray × ByteArray)) : (flat H).length = H.length * 2 := by
  induction H with
  | nil => rfl
  | cons x r ih => simp only [flat, List.flatMap_cons, List.length_append, List.length_cons, List.length_nil] at ih ⊢; rw [ih]; omega
theorem flat_snoc (H : List (ByteArray × ByteArray)) (x : ByteArray × ByteArray) : flat (H ++ [x]) = flat H ++ [.string x.1, .string x.2] := by simp [flat]
def noP : ByteArray × ByteArray := (⟨#[]⟩, ⟨#[]⟩)
theorem flat_at (H : List (ByteArray × ByteArray)) (k : Nat) (h : k < H.length) : (flat H)[k * 2]? = some (.string (H.getD k noP).1) ∧ (flat H)[k * 2 + 1]? = some (.string (H.getD k noP).2) := by
  induction H generalizing k with
  | nil => simp at h
  | cons x r ih =>
    have e : flat (x :: r) = .string x.1 :: .string x.2 :: flat r := by simp [flat]
    rw [e]
    cases k with
    | zero => simp
    | succ k =>
      have := ih k (by simpa using h)
      have e1 : (k + 1) * 2 = k * 2 + 1 + 1 := by omega
      rw [e1]
      simpa using this

theorem getD_memS {α : Type} {l : List α} {k : Nat} {d : α} (h : k < l.length) : l.getD k d ∈ l := by
  rw [List.getD_eq_getElem?_getD, List.getElem?_eq_getElem h]
  exact List.getElem_mem h

/-- Block rb is the document's table: of the servers S, the texts D, what was signed H; beside it, what was told, T. -/
structure Rt (B : Nat) (w : World) (rb : Nat) (v0 v1 v2 vt : Value) (S D : List ByteArray) (H : List (ByteArray × ByteArray)) (T : List ByteArray) : Prop where
  obj : w.heap[rb]? = some (.cells #[v0, v1, v2] 45)
  names : w.ownsRow B 9 1 v0 S.length (S.map Value.string)
  texts : w.ownsRow (rb + 1) 9 1 v1 D.length (D.map Value.string)
  signed : w.ownsRow (rb + 1) 67 2 v2 H.length (flat H)
  told : w.ownsRow (rb + 1) 9 1 vt T.length (T.map Value.string)
  ne : vt.ownBlock = none ∨ vt.ownBlock ≠ v1.ownBlock
  lo : ∀ k, v0.ownBlock = some k → k < rb
  base : B ≤ rb

/-- No row of cells lies there. -/
def Bare (w : World) (row : Option Nat) : Prop := ∀ k, row = some k → ∀ c t f, w.heap[k]? ≠ some (.cells c t f)
theorem bare_none (w : World) : Bare w none := fun k h => by cases h
theorem Nums.bare {α : Type} [DecidableEq α] {k : TypeId} {kl : α → Lit} {ok : α → Prop} {w : World} {b : Nat} {l : List α} (h : Nums k kl ok w b l) : Bare w (some b) := by
  obtain ⟨D, ⟨es, clock, hb, _⟩, _⟩ := h
  intro k e c t f
  cases e
  rw [hb]
  intro h'
  cases h'
theorem own_bare {w w' : World} {row : Option Nat} {B e size n : Nat} {v : Value} {xs : List Value} (h : w.ownsRow B e size v n xs) (hg : w.grownBy w' row) (hr : Bare w row) : w'.ownsRow B e size v n xs := by
  refine h.kept hg ?_
  rcases h.2 with ⟨rfl, _⟩ | ⟨g, cap, cur, rfl, _, hgg, _⟩
  · exact .inl rfl
  · right
    intro e
    exact hr g (by rw [← e]; rfl) _ _ _ hgg
theorem obj_lt {w : World} {b : Nat} {o : Obj} (h : w.heap[b]? = some o) : b < w.heap.size := (Array.getElem?_eq_some_iff.1 h).1
theorem obj_bare {w w' : World} {row : Option Nat} {b : Nat} {c : Array Value} {t : TypeId} {f : Nat × Nat} (h : w.heap[b]? = some (.cells c t f)) (hg : w.grownBy w' row) (hr : Bare w row) : w'.heap[b]? = some (.cells c t f) := by
  rw [hg.block b (obj_lt h) (fun e => hr b e.symm _ _ _ h)]
  exact h

section
variable {B rb : Nat} {w w' : World} {v0 v1 v2 vt : Value} {S D T : List ByteArray} {H : List (ByteArray × ByteArray)}
theorem Rt.kept {row : Option Nat} (h : Rt B w rb v0 v1 v2 vt S D H T) (hg : w.grownBy w' row) (hr : Bare w row) : Rt B w' rb v0 v1 v2 vt S D H T :=
  ⟨obj_bare h.obj hg hr, own_bare h.names hg hr, own_bare h.texts hg hr, own_bare h.signed hg hr, own_bare h.told hg hr, h.ne, h.lo, h.base⟩
theorem Rt.below (h : Rt B w rb v0 v1 v2 vt S D H T) (hb : Below w.heap.size w w') : Rt B w' rb v0 v1 v2 vt S D H T := h.kept (below_grown hb) (bare_none _)
theorem Rt.c0 (h : Rt B w rb v0 v1 v2 vt S D H T) : w.cell? ⟨rb, 0, none⟩ = some v0 := cell_row (cur := [_, _, _]) h.obj 0 _ rfl
theorem Rt.c1 (h : Rt B w rb v0 v1 v2 vt S D H T) : w.cell? ⟨rb, 1, none⟩ = some v1 := cell_row (cur := [_, _, _]) h.obj 1 _ rfl
theorem Rt.c2 (h : Rt B w rb v0 v1 v2 vt S D H T) : w.cell? ⟨rb, 2, none⟩ = some v2 := cell_row (cur := [_, _, _]) h.obj 2 _ rfl
theorem Rt.lt (h : Rt B w rb v0 v1 v2 vt S D H T) : rb < w.heap.size := obj_lt h.obj
theorem Rt.le (h : Rt B w rb v0 v1 v2 vt S D H T) : B ≤ w.heap.size := by have := h.lt; have := h.base; omega
theorem Rt.fz (h : Rt B w rb v0 v1 v2 vt S D H T) (j : Nat) : w.frozen? ⟨rb, j, none⟩ = false := frozen_of_row w rb j _ _ h.obj

/-- Rows of other kinds, and what lies below B, are left alone. -/
structure Fr (B : Nat) (w w' : World) : Prop where
  low : Below B w w'
  rows : ∀ (k : Nat) (c : Array Value) (t : TypeId) (f : Nat × Nat), w.heap[k]? = some (.cells c t f) → t = 35 ∨ t = 5 → w'.heap[k]? = some (.cells c t f)
theorem Fr.trans {w'' : World} (h : Fr B w w') (h' : Fr B w' w'') : Fr B w w'' :=
  ⟨h.low.trans h'.low, fun k c t f e ht => h'.rows k c t f (h.rows k c t f e ht) ht⟩
theorem Fr.below (hB : B ≤ w.heap.size) (hb : Below w.heap.size w w') : Fr B w w' :=
  ⟨hb.mono hB, fun k _ _ _ e _ => (hb.block k (obj_lt e)).trans e⟩

/-- Another text at the end of the texts' row. -/
theorem Rt.text {w1 : World} {v1' : Value} {s : ByteArray} (h : Rt B w rb v0 v1 v2 vt S D H T) (hown : w1.ownsRow (rb + 1) 9 1 v1' (D ++ [s]).length ((D ++ [s]).map Value.string)) (hg : w.grownBy w1 v1.ownBlock) (hat : v1'.ownBlock = v1.ownBlock ∨ v1'.ownBlock = some w.heap.size) :
    Rt B (w1.setCell ⟨rb, 1, none⟩ v1') rb v0 v1' v2 vt S (D ++ [s]) H T ∧ Fr B w (w1.setCell ⟨rb, 1, none⟩ v1') := by
  have hne : ∀ (k : Nat) (c : Array Value) (t : TypeId) (f : Nat × Nat), w.heap[k]? = some (.cells c t f) → t ≠ 9 → some k ≠ v1.ownBlock := by
    intro k c t f e ht hk
    rcases h.texts.2 with ⟨rfl, _⟩ | ⟨g, cap, cur, rfl, _, hgg, _⟩
    · cases hk
    · simp only [Value.ownBlock, Option.some.injEq] at hk
      subst hk
      rw [hgg] at e
      cases e
      exact ht rfl
  have o1 : w1.heap[rb]? = some (.cells #[v0, v1, v2] 45) := by
    rw [hg.block rb h.lt (hne rb _ _ _ h.obj (by decide))]
    exact h.obj
  have o2 : (w1.setCell ⟨rb, 1, none⟩ v1').heap[rb]? = some (.cells #[v0, v1', v2] 45) := by
    rw [heap_setCell_same w1 rb 1 _ _ _ o1]; rfl
  have hrow1 : ∀ {Bx e size n : Nat} {v : Value} {xs : List Value}, w.ownsRow Bx e size v n xs → (v.ownBlock = none ∨ v.ownBlock ≠ v1.ownBlock) → (v.ownBlock ≠ some rb) → (w1.setCell ⟨rb, 1, none⟩ v1').ownsRow Bx e size v n xs := by
    intro Bx e size n v xs ho h1 h2
    exact ownsRow_setCell_other (ho.kept hg h1) h2 _
  have b1 : ∀ k, v1.ownBlock = some k → rb + 1 ≤ k := own_base h.texts
  have b2 : ∀ k, v2.ownBlock = some k → rb + 1 ≤ k := own_base h.signed
  have bt : ∀ k, vt.ownBlock = some k → rb + 1 ≤ k := own_base h.told
  have b1' : ∀ k, v1'.ownBlock = some k → rb + 1 ≤ k := own_base hown
  have c2 : v2.ownBlock = none ∨ v2.ownBlock ≠ v1.ownBlock := by
    rcases h.signed.2 with ⟨rfl, _⟩ | ⟨g, cap, cur, rfl, _, hgg, _⟩
    · exact .inl rfl
    · exact .inr (hne g _ _ _ hgg (by decide))
  have c0 : v0.ownBlock = none ∨ v0.ownBlock ≠ v1.ownBlock := by
    cases e0 : v0.ownBlock with
    | none => exact .inl rfl
    | some k => right; intro e1; have := h.lo k e0; have := b1 k e1.symm; omega
  refine ⟨⟨o2, hrow1 h.names c0 (fun e => by have := h.lo rb e; omega), ownsRow_setCell_other hown (fun e => by have := b1' rb e; omega) _, hrow1 h.signed c2 (fun e => by have := b2 rb e; omega), hrow1 h.told h.ne (fun e => by have := bt rb e; omega), ?_, h.lo, h.base⟩, ?_, ?_⟩
  · rcases hat with e | e
    · rw [e]; exact h.ne
    · rw [e]
      cases et : vt.ownBlock with
      | none => exact .inl rfl
      | some k => right; intro e'; have := (h.told.lt k et).2; cases e'; omega
  · exact (((Below.refl _ _).grown hg h.le (fun k e => by have := b1 k e; have := h.base; omega))).setCell (by have := h.base; exact this) _
  · intro k c t f e ht
    have h9 : t ≠ 9 := by rcases ht with rfl | rfl <;> decide
    have hk : k ≠ rb := by
      rintro rfl
      rw [h.obj] at e
      cases e
      rcases ht with h | h <;> cases h
    rw [heap_setCell_other w1 _ k _ hk, hg.block k (obj_lt e) (hne k c t f e h9)]
    exact e
/-- Another pair at the end of what was signed. -/
theorem Rt.sign {w1 : World} {v2' : Value} {x : ByteArray × ByteArray} (h : Rt B w rb v0 v1 v2 vt S D H T) (hown : w1.ownsRow (rb + 1) 67 2 v2' (H ++ [x]).length (flat (H ++ [x]))) (hg : w.grownBy w1 v2.ownBlock) :
    Rt B (w1.setCell ⟨rb, 2, none⟩ v2') rb v0 v1 v2' vt S D (H ++ [x]) T ∧ Fr B w (w1.setCell ⟨rb, 2, none⟩ v2') := by
  have hne : ∀ (k : Nat) (c : Array Value) (t : TypeId) (f : Nat × Nat), w.heap[k]? = some (.cells c t f) → t ≠ 67 → some k ≠ v2.ownBlock := by
    intro k c t f e ht hk
    rcases h.signed.2 with ⟨rfl, _⟩ | ⟨g, cap, cur, rfl, _, hgg, _⟩
    · cases hk
    · simp only [Value.ownBlock, Option.some.injEq] at hk
      subst hk
      rw [hgg] at e
      cases e
      exact ht rfl
  have o1 : w1.heap[rb]? = some (.cells #[v0, v1, v2] 45) := by
    rw [hg.block rb h.lt (hne rb _ _ _ h.obj (by decide))]
    exact h.obj
  have o2 : (w1.setCell ⟨rb, 2, none⟩ v2').heap[rb]? = some (.cells #[v0, v1, v2'] 45) := by
    rw [heap_setCell_same w1 rb 2 _ _ _ o1]; rfl
  have h9 : ∀ {Bx n : Nat} {v : Value} {xs : List Value}, w.ownsRow Bx 9 1 v n xs → (v.ownBlock ≠ some rb) → (w1.setCell ⟨rb, 2, none⟩ v2').ownsRow Bx 9 1 v n xs := by
    intro Bx n v xs ho h2
    refine ownsRow_setCell_other (ho.kept hg ?_) h2 _
    rcases ho.2 with ⟨rfl, _⟩ | ⟨g, cap, cur, rfl, _, hgg, _⟩
    · exact .inl rfl
    · exact .inr (hne g _ _ _ hgg (by decide))
  have b1 : ∀ k, v1.ownBlock = some k → rb + 1 ≤ k := own_base h.texts
  have b2 : ∀ k, v2.ownBlock = some k → rb + 1 ≤ k := own_base h.signed
  have bt : ∀ k, vt.ownBlock = some k → rb + 1 ≤ k := own_base h.told
  have b2' : ∀ k, v2'.ownBlock = some k → rb + 1 ≤ k := own_base hown
  refine ⟨⟨o2, h9 h.names (fun e => by have := h.lo rb e; omega), h9 h.texts (fun e => by have := b1 rb e; omega), ownsRow_setCell_other hown (fun e => by have := b2' rb e; omega) _, h9 h.told (fun e => by have := bt rb e; omega), h.ne, h.lo, h.base⟩, ?_, ?_⟩
  · exact (((Below.refl _ _).grown hg h.le (fun k e => by have := b2 k e; have := h.base; omega))).setCell (by have := h.base; exact this) _
  · intro k c t f e ht
    have h67 : t ≠ 67 := by rcases ht with rfl | rfl <;> decide
    have hk : k ≠ rb := by
      rintro rfl
      rw [h.obj] at e
      cases e
      rcases ht with h | h <;> cases h
    rw [heap_setCell_other w1 _ k _ hk, hg.block k (obj_lt e) (hne k c t f e h67)]
    exact e
/-- Another token at the end of what was told. -/
theorem Rt.tell {w1 : World} {vt' : Value} {s : ByteArray} (h : Rt B w rb v0 v1 v2 vt S D H T) (hown : w1.ownsRow (rb + 1) 9 1 vt' (T ++ [s]).length ((T ++ [s]).map Value.string)) (hg : w.grownBy w1 vt.ownBlock) (hat : vt'.ownBlock = vt.ownBlock ∨ vt'.ownBlock = some w.heap.size) :
    Rt B w1 rb v0 v1 v2 vt' S D H (T ++ [s]) ∧ Fr B w w1 := by
  have hne : ∀ (k : Nat) (c : Array Value) (t : TypeId) (f : Nat × Nat), w.heap[k]? = some (.cells c t f) → t ≠ 9 → some k ≠ vt.ownBlock := by
    intro k c t f e ht hk
    rcases h.told.2 with ⟨rfl, _⟩ | ⟨g, cap, cur, rfl, _, hgg, _⟩
    · cases hk
    · simp only [Value.ownBlock, Option.some.injEq] at hk
      subst hk
      rw [hgg] at e
      cases e
      exact ht rfl
  have o1 : w1.heap[rb]? = some (.cells #[v0, v1, v2] 45) := by
    rw [hg.block rb h.lt (hne rb _ _ _ h.obj (by decide))]
    exact h.obj
  have bt : ∀ k, vt.ownBlock = some k → rb + 1 ≤ k := own_base h.told
  have c0 : v0.ownBlock = none ∨ v0.ownBlock ≠ vt.ownBlock := by
    cases e0 : v0.ownBlock with
    | none => exact .inl rfl
    | some k => right; intro e1; have := h.lo k e0; have := bt k e1.symm; omega
  have c1 : v1.ownBlock = none ∨ v1.ownBlock ≠ vt.ownBlock := by
    cases e1 : v1.ownBlock with
    | none => exact .inl rfl
    | some k =>
      right
      intro e2
      rcases h.ne with h' | h'
      · rw [h'] at e2; cases e2
      · exact h' (by rw [← e2, e1])
  have c2 : v2.ownBlock = none ∨ v2.ownBlock ≠ vt.ownBlock := by
    rcases h.signed.2 with ⟨rfl, _⟩ | ⟨g, cap, cur, rfl, _, hgg, _⟩
    · exact .inl rfl
    · exact .inr (hne g _ _ _ hgg (by decide))
  refine ⟨⟨o1, h.names.kept hg c0, h.texts.kept hg c1, h.signed.kept hg c2, hown, ?_, h.lo, h.base⟩, ?_, ?_⟩
  · rcases hat with e | e
    · rw [e]; exact h.ne
    · rw [e]
      right
      intro e'
      have := (h.texts.lt _ e'.symm).2
      omega
  · exact (Below.refl _ _).grown hg h.le (fun k e => by have := bt k e; have := h.base; omega)
  · intro k c t f e ht
    have h9 : t ≠ 9 := by rcases ht with rfl | rfl <;> decide
    rw [hg.block k (obj_lt e) (hne k c t f e h9)]
    exact e

theorem rt_pairs (h : w.ownsRow (rb + 1) 67 2 v2 H.length (flat H)) : ∃ q cq, v2 = .slice q H.length cq ∧ H.length ≤ cq ∧ ∀ k, k < H.length → ∃ a, q = some a ∧ a.block < w.heap.size ∧ w.cell? (a.add (k * 2)) = some (.string (H.getD k noP).1) ∧ w.cell? ⟨(a.add (k * 2)).block, (a.add (k * 2)).off + 1, none⟩ = some (.string (H.getD k noP).2) := by
  rcases h.2 with ⟨rfl, hn⟩ | ⟨g, cap, cur, rfl, hg, hgg, h1, h2, h3, h4⟩
  · obtain rfl : H = [] := List.eq_nil_of_length_eq_zero hn
    exact ⟨none, 0, rfl, Nat.le_refl _, fun j hj => by simp at hj⟩
  · refine ⟨_, cap, rfl, h1, fun k hk => ⟨_, rfl, obj_lt hgg, ?_, ?_⟩⟩
    · have e : (⟨g, 0, none⟩ : Addr).add (k * 2) = ⟨g, k * 2, none⟩ := by unfold Addr.add; split <;> simp_all
      rw [e, h.cellAt (k * 2) (by omega)]
      exact (flat_at H k hk).1
    · have e : (⟨g, 0, none⟩ : Addr).add (k * 2) = ⟨g, k * 2, none⟩ := by unfold Addr.add; split <;> simp_all
      rw [e]
      show w.cell? ⟨g, k * 2 + 1, none⟩ = _
      rw [h.cellAt (k * 2 + 1) (by omega)]
      exact (flat_at H k hk).2
end

set_option maxHeartbeats 1000000 in
theorem has_any {B rb : Nat} {v0 v1 v2 vt : Value} {S D T : List ByteArray} {H : List (ByteArray × ByteArray)} (s : ByteArray) (w : World) (h : Rt B w rb v0 v1 v2 vt S D H T) (hS : S.length ≤ 1000) :
    Calls Try.prog 30 #[.pointer (some ⟨rb, 0, none⟩), .string s] w fun e w' => e = .returned (.bool (inn S s)) ∧ w = w' := by
  obtain ⟨q, cq, rfl, hrd, _⟩ := own_rds h.names
  have hc0 := h.c0
  clear h
  go_enter Try.func30, Try.ntmps30
  go_wp2
  go_loop [5] (fun i => ∃ k : Nat, k ≤ S.length ∧ i = .int .i64 k ∧ s ∉ S.take k) (fun i => S.length - (intOf i).toNat)
  case atStart => exact ⟨0, Nat.zero_le _, rfl, by simp⟩
  case round =>
    obtain ⟨k, hk, rfl, hall⟩ := hrel
    have HA : Hid (s ∉ S.take k) := hall
    clear hall
    by_cases hlt : k < S.length
    · obtain ⟨ad, rfl, had, hcell⟩ := hrd.2 k hlt
      have hm := getD_memS (d := ⟨#[]⟩) hlt
      obtain ⟨x, hx⟩ : ∃ x, S.getD k ⟨#[]⟩ = x := ⟨_, rfl⟩
      rw [hx] at hcell hm
      have HX : Hid (S.getD k ⟨#[]⟩ = x) := hx
      clear hx
      by_cases hb : x = s
      · have hb' : (x.toList == s.toList) = true := by rw [beqS]; simpa using hb
        go_wp2
        go_ret
        exact ⟨ret_bool (inn_iff.2 (hb ▸ hm)).symm, rfl⟩
      · have hb' : (x.toList == s.toList) = false := by rw [beqS]; simpa using hb
        go_wp2
        go_round
        case rel => exact ⟨k + 1, by omega, by go_num, fun hm => by
                              rcases (take_mem_snoc hlt).1 hm with h' | h'
                              · exact HA.out h'
                              · rw [HX.out] at h'; exact hb h'.symm⟩
        case measure => simp [intOf]; omega
    · obtain rfl : k = S.length := by omega
      have hn := HA.out
      rw [List.take_length] at hn
      go_wp2
      go_ret
      exact ⟨ret_bool (inn_not.2 hn).symm, rfl⟩
end Go.Proofs.Ytjgogmlmcebgpaa

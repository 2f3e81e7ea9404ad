/-
  Choosing the least key again and again puts keys in order.
  A value that is put in order, as it is being made: its memory.
  The document's order, by contracts.
  The document's Order, by a contract.
-/
import Derived.Test.YtnmhpejnjaeecaaGreatDoorShM
namespace Go.Proofs.YtnmhpejnjaeecaaGreatDoor
open Go.RowKit

theorem len_le : ∀ (n : Nat) (P : List Nat), P.Nodup → (∀ i ∈ P, i < n) → P.length ≤ n
  | 0, P, _, h => by
    cases P with
    | nil => exact Nat.le_refl _
    | cons x r => exact absurd (h x (by simp)) (by omega)
  | n + 1, P, hnd, h => by
    have h1 : (P.erase n).length ≤ n := len_le n (P.erase n) (hnd.erase n) fun i hi => by
      have h2 := h i (List.mem_of_mem_erase hi)
      have h3 : i ≠ n := fun e => by subst e; exact (hnd.not_mem_erase) hi
      omega
    have h4 := List.length_erase (a := n) (l := P)
    split at h4 <;> omega
theorem cover_len : ∀ (n : Nat) (P : List Nat), (∀ j, j < n → j ∈ P) → n ≤ P.length
  | 0, _, _ => Nat.zero_le _
  | n + 1, P, h => by
    have h1 : n ≤ (P.erase n).length := cover_len n (P.erase n) fun j hj => (List.mem_erase_of_ne (by omega)).2 (h j (by omega))
    have h2 := List.length_erase_of_mem (h n (by omega))
    have h3 : 0 < P.length := List.length_pos_of_mem (h n (by omega))
    omega
theorem perm_range : ∀ (n : Nat) (P : List Nat), P.Nodup → (∀ i ∈ P, i < n) → P.length = n → P.Perm (List.range n)
  | 0, P, _, _, h => by
    obtain rfl : P = [] := List.eq_nil_of_length_eq_zero h
    exact List.Perm.refl _
  | n + 1, P, hnd, hlt, hl => by
    have hmem : n ∈ P := by
      refine Classical.byContradiction fun hn => ?_
      have := len_le n P hnd fun i hi => by
        have := hlt i hi
        have : i ≠ n := fun e => hn (e ▸ hi)
        omega
      omega
    have h1 := perm_range n (P.erase n) (hnd.erase n) (fun i hi => by
      have h2 := hlt i (List.mem_of_mem_erase hi)
      have h3 : i ≠ n := fun e => by subst e; exact (hnd.not_mem_erase) hi
      omega) (by rw [List.length_erase_of_mem hmem]; omega)
    rw [List.range_succ]
    exact (List.perm_cons_erase hmem).trans ((h1.cons n).trans (List.perm_append_singleton n (List.range n)).symm)
/-- Places of keys that rise, and are ahead of all others. -/
structure Pick (ks : List ByteArray) (P : List Nat) : Prop where
  nd : P.Nodup
  lt : ∀ i ∈ P, i < ks.length
  up : P.Pairwise (fun i j => ltK (keyAtK ks i) (keyAtK ks j) = true)
  over : ∀ i ∈ P, ∀ j, j < ks.length → j ∉ P → ltK (keyAtK ks i) (keyAtK ks j) = true
theorem Pick.nil (ks : List ByteArray) : Pick ks [] := ⟨List.nodup_nil, fun i h => (by cases h), List.Pairwise.nil, fun i h => (by cases h)⟩
theorem Pick.snoc {ks : List ByteArray} {P : List Nat} (h : Pick ks P) {m : Nat} (hm : m < ks.length) (hn : m ∉ P) (hmin : ∀ j, j < ks.length → j ∉ P → j = m ∨ ltK (keyAtK ks m) (keyAtK ks j) = true) : Pick ks (P ++ [m]) := by
  refine ⟨?_, fun i hi => ?_, ?_, fun i hi j hj hnj => ?_⟩
  · unfold List.Nodup
    rw [List.pairwise_append]
    exact ⟨h.nd, List.pairwise_singleton _ _, fun a ha b hb => by rw [List.mem_singleton.1 hb]; exact fun e => hn (e ▸ ha)⟩
  · rcases List.mem_append.1 hi with hi | hi
    · exact h.lt i hi
    · rw [List.mem_singleton.1 hi]; exact hm
  · rw [List.pairwise_append]
    exact ⟨h.up, List.pairwise_singleton _ _, fun a ha b hb => by rw [List.mem_singleton.1 hb]; exact h.over a ha m hm hn⟩
  · have hnP : j ∉ P := fun e => hnj (List.mem_append_left _ e)
    rcases List.mem_append.1 hi with hi | hi
    · exact h.over i hi j hj hnP
    · rw [List.mem_singleton.1 hi]
      rcases hmin j hj hnP with e | e
      · exact absurd (by rw [e]; simp) hnj
      · exact e
theorem Pick.full {ks : List ByteArray} {P : List Nat} {l : List J} (h : Pick ks P) (hlen : P.length = ks.length) (hll : ks.length = l.length) (hd : ks.Pairwise (· ≠ ·)) : sel ks l P = sortK (ks.zip l) := by
  have hp := perm_range ks.length P h.nd h.lt hlen
  have hperm : (sel ks l P).Perm (ks.zip l) := by
    rw [← sel_range ks l hll]
    exact hp.map _
  have hpw : (ks.zip l).Pairwise fun x y => x.1 ≠ y.1 := by
    have : ((ks.zip l).map (·.1)).Pairwise (· ≠ ·) := by rw [List.map_fst_zip (by omega)]; exact hd
    exact List.pairwise_map.1 this
  refine rises_eq _ _ ?_ (sortK_rises' _ hpw) (hperm.trans (sortK_perm _).symm)
  unfold sel
  rw [List.map_map]
  exact rises_of _ P h.up
/-- The place of the least key so far of those that are not in P. -/
def LeastTo (ks : List ByteArray) (P : List Nat) (i : Nat) (v : Int) : Prop :=
  (v = -1 ∧ ∀ j, j < i → j ∈ P) ∨ ∃ m : Nat, v = m ∧ m < i ∧ m ∉ P ∧ ∀ j, j < i → j ∉ P → j = m ∨ ltK (keyAtK ks m) (keyAtK ks j) = true
section
variable {ks : List ByteArray} {P : List Nat} {i : Nat} {v : Int}
theorem LeastTo.zero : LeastTo ks P 0 (-1) := .inl ⟨rfl, fun j h => absurd h (by omega)⟩
theorem LeastTo.skip (h : LeastTo ks P i v) (hi : i ∈ P) : LeastTo ks P (i + 1) v := by
  rcases h with ⟨h1, h2⟩ | ⟨m, h1, h2, h3, h4⟩
  · refine .inl ⟨h1, fun j hj => ?_⟩
    by_cases e : j = i
    · rw [e]; exact hi
    · exact h2 j (by omega)
  · refine .inr ⟨m, h1, by omega, h3, fun j hj hn => ?_⟩
    by_cases e : j = i
    · exact absurd (e ▸ hi) hn
    · exact h4 j (by omega) hn
theorem LeastTo.first (h : LeastTo ks P i (-1)) (hi : i ∉ P) : LeastTo ks P (i + 1) i := by
  rcases h with ⟨_, h2⟩ | ⟨m, h1, _⟩
  · refine .inr ⟨i, rfl, by omega, hi, fun j hj hn => .inl ?_⟩
    by_cases e : j = i
    · exact e
    · exact absurd (h2 j (by omega)) hn
  · omega
theorem LeastTo.less {m : Nat} (h : LeastTo ks P i m) (hi : i ∉ P) (hl : ltK (keyAtK ks i) (keyAtK ks m) = true) : LeastTo ks P (i + 1) i := by
  rcases h with ⟨h1, _⟩ | ⟨m', h1, h2, h3, h4⟩
  · omega
  · obtain rfl : m = m' := by omega
    refine .inr ⟨i, rfl, by omega, hi, fun j hj hn => ?_⟩
    by_cases e : j = i
    · exact .inl e
    · right
      rcases h4 j (by omega) hn with e' | e'
      · rw [e']; exact hl
      · exact ltK_trans hl e'
theorem LeastTo.same {m : Nat} (h : LeastTo ks P i m) (hl : ltK (keyAtK ks i) (keyAtK ks m) = false) (hne : m < i → keyAtK ks m ≠ keyAtK ks i) : LeastTo ks P (i + 1) m := by
  rcases h with ⟨h1, _⟩ | ⟨m', h1, h2, h3, h4⟩
  · omega
  · obtain rfl : m = m' := by omega
    refine .inr ⟨m, rfl, by omega, h3, fun j hj hn => ?_⟩
    by_cases e : j = i
    · right
      rw [e]
      rcases ltK_total (hne h2) with h' | h'
      · exact h'
      · rw [h'] at hl; cases hl
    · exact h4 j (by omega) hn
theorem LeastTo.done (h : LeastTo ks P ks.length v) (hP : Pick ks P) (hlen : P.length < ks.length) : ∃ m : Nat, v = m ∧ m < ks.length ∧ m ∉ P ∧ Pick ks (P ++ [m]) := by
  rcases h with ⟨_, h2⟩ | ⟨m, h1, h2, h3, h4⟩
  · have := cover_len ks.length P h2
    omega
  · exact ⟨m, h1, h2, h3, hP.snoc h2 h3 h4⟩
end
theorem bytesLess_eq : ∀ x y : List UInt8, Op.bytesLess x y = lessB x y
  | [], [] => rfl
  | [], _ :: _ => rfl
  | _ :: _, [] => rfl
  | a :: x, b :: y => by
    unfold Op.bytesLess lessB
    rw [bytesLess_eq x y]
    cases h : decide (a = b) <;> simp_all
theorem less_ltK (a b : ByteArray) : Op.bytesLess a.toList b.toList = ltK a b := by
  rw [bytesLess_eq]
  unfold ltK
  rw [Lib.toList_data, Lib.toList_data]
end Go.Proofs.YtnmhpejnjaeecaaGreatDoor
namespace Go.Proofs.YtnmhpejnjaeecaaGreatDoor
open Go.RowKit

/-- Old blocks, and those of the call's own that are neither the rows' nor the marks'. -/
def Eb (O : Nat → Prop) (b D : Nat) (vk vl : Value) (w : World) : Nat → Prop := fun k => O k ∨ (b + 3 ≤ k ∧ k < w.heap.size ∧ vk.ownBlock ≠ some k ∧ vl.ownBlock ≠ some k ∧ k ≠ D)
/-- The value that is being made: the argument in block b, the result behind it, the value itself behind that; D: the block of the marks dn (0: there is none yet). -/
structure OI (O : Nat → Prop) (w : World) (b D : Nat) (dn : List Bool) (cs5 : Array Value) (c0 c1 c2 : Value) (Sk : List ByteArray) (Sv : List J) (vk vl : Value) (W : World) : Prop where
  box : W.heap[b]? = some (.cells cs5 25 (0, 0))
  res : W.heap[b + 1]? = some (.cells #[.int .i64 0, .int .i64 0, .string ⟨#[]⟩, .slice none 0 0, .slice none 0 0] 25 (0, 0))
  obj : W.heap[b + 2]? = some (.cells #[c0, c1, c2, vk, vl] 25 (0, 0))
  keys : W.ownsRow (b + 3) 9 1 vk Sk.length (Sk.map Value.string)
  vals : ∃ xs, W.ownsRow (b + 3) 25 5 vl Sv.length xs ∧ isRow (Eb O b D vk vl W) W Sv xs
  dnr : D = 0 ∨ (b + 3 ≤ D ∧ W.heap[D]? = some (.cells (dn.map Value.bool).toArray 4 (0, 0)))
  ne : ∀ i, vk.ownBlock = some i → vl.ownBlock ≠ some i
  nek : vk.ownBlock ≠ some D
  nel : vl.ownBlock ≠ some D
  low : ∀ k, O k → k < b
  below : Below b w W
  at' : b = w.heap.size
section
variable {O : Nat → Prop} {w W W2 W4 : World} {b D : Nat} {dn : List Bool} {cs5 : Array Value} {c0 c1 c2 : Value} {Sk : List ByteArray} {Sv : List J} {vk vl vk' vl' : Value}
theorem OI.size (h : OI O w b D dn cs5 c0 c1 c2 Sk Sv vk vl W) : b + 2 < W.heap.size := (Array.getElem?_eq_some_iff.1 h.obj).1
/-- All that lay there stays. -/
theorem OI.more (h : OI O w b D dn cs5 c0 c1 c2 Sk Sv vk vl W) (hb : Below W.heap.size W W4) : OI O w b D dn cs5 c0 c1 c2 Sk Sv vk vl W4 := by
  have hs := h.size
  have hss := hb.size
  obtain ⟨xs, h1, h2⟩ := h.vals
  have kp : Keep (fun _ => False) W W4 := Keep.of_below hb
  refine ⟨(hb.block b (by omega)).trans h.box, (hb.block (b + 1) (by omega)).trans h.res, (hb.block (b + 2) (by omega)).trans h.obj, own_keep h.keys kp fun _ _ h => h, ⟨xs, own_keep h1 kp fun _ _ h => h, h2.carry fun k hk => ?_⟩, ?_, h.ne, h.nek, h.nel, h.low, h.below.trans ⟨hb.os, hb.tape, hb.output, hb.size, fun k hk => hb.block k (by omega)⟩, h.at'⟩
  · rcases hk with hk | hk
    · have := h.low k hk
      exact ⟨.inl hk, hb.block k (by omega)⟩
    · exact ⟨.inr ⟨hk.1, by have := hk.2.1; omega, hk.2.2⟩, hb.block k hk.2.1⟩
  · rcases h.dnr with h' | ⟨h', h''⟩
    · exact .inl h'
    · exact .inr ⟨h', (hb.block D (Array.getElem?_eq_some_iff.1 h'').1).trans h''⟩
theorem OI.drew (h : OI O w b D dn cs5 c0 c1 c2 Sk Sv vk vl W) : OI O w b D dn cs5 c0 c1 c2 Sk Sv vk vl W.drew := h.more ⟨rfl, rfl, rfl, Nat.le_refl _, fun _ _ => rfl⟩
/-- A row grows, and the value's field is set. -/
theorem chg {o : Obj} {row : Option Nat} {f k : Nat} {v : Value} (hg : (W.alloc o).grownBy W2 row) (hk : k < W.heap.size) (hr : row ≠ some k) (hb : k ≠ b + 2) : (W2.setCell ⟨b + 2, f, none⟩ v).heap[k]? = W.heap[k]? := by
  have K3 : Keep (One (b + 2)) W2 (W2.setCell ⟨b + 2, f, none⟩ v) := Keep.setCell (Keep.refl _ _) (fun _ => (rfl : b + 2 = b + 2)) _
  have := hg.size
  simp at this
  rw [K3.block k (by omega) (by unfold One; exact hb), grown_at hg hk hr]
theorem OI.key (h : OI O w b D dn cs5 c0 c1 c2 Sk Sv vk vl W) {x : ByteArray} {o : Obj} (hown : W2.ownsRow (b + 3) 9 1 vk' (Sk.length + 1) (Sk.map Value.string ++ [.string x])) (hg : (W.alloc o).grownBy W2 vk.ownBlock) (hat : vk'.ownBlock = vk.ownBlock ∨ vk'.ownBlock = some (W.alloc o).heap.size) :
    W2.cell? ⟨b + 2, 3, none⟩ = some vk ∧ W2.frozen? ⟨b + 2, 3, none⟩ = false ∧ OI O w b D dn cs5 c0 c1 c2 (Sk ++ [x]) Sv vk' vl (W2.setCell ⟨b + 2, 3, none⟩ vk') := by
  have hs := h.size
  have hgk := own_ge h.keys
  obtain ⟨xs, hv1, hv2⟩ := h.vals
  have hgv := own_ge hv1
  have hgs := hg.size
  simp at hgs
  have ob : W2.heap[b + 2]? = some (.cells #[c0, c1, c2, vk, vl] 25 (0, 0)) := by
    rw [grown_at hg (by omega) (fun e => by have := hgk _ e; omega)]; exact h.obj
  have K3 : Keep (One (b + 2)) W2 (W2.setCell ⟨b + 2, 3, none⟩ vk') := Keep.setCell (Keep.refl _ _) (fun _ => (rfl : b + 2 = b + 2)) _
  have hgk' := own_ge hown
  have new : ∀ i, vk'.ownBlock = some i → vk.ownBlock = some i ∨ W.heap.size < i := fun i e => by
    rcases hat with h1 | h1
    · exact .inl (h1 ▸ e)
    · rw [h1] at e
      have := Option.some.inj e
      simp at this
      exact .inr (by omega)
  have carry : ∀ k, Eb O b D vk vl W k → Eb O b D vk' vl (W2.setCell ⟨b + 2, 3, none⟩ vk') k ∧ (W2.setCell ⟨b + 2, 3, none⟩ vk').heap[k]? = W.heap[k]? := by
    intro k hk
    rcases hk with hk | hk
    · have := h.low k hk
      exact ⟨.inl hk, chg hg (by omega) (fun e => by have := hgk _ e; omega) (by omega)⟩
    · refine ⟨.inr ⟨hk.1, by have := hk.2.1; simp; omega, fun e => ?_, hk.2.2.2.1, hk.2.2.2.2⟩, chg hg hk.2.1 hk.2.2.1 (by have := hk.1; omega)⟩
      rcases new k e with h' | h'
      · exact hk.2.2.1 h'
      · have := hk.2.1; omega
  refine ⟨five_c3 ob, five_fz ob 3, ⟨?_, ?_, ?_, ?_, ⟨xs, ?_, hv2.carry carry⟩, ?_, ?_, ?_, h.nel, h.low, ?_, h.at'⟩⟩
  · rw [chg hg (by omega) (fun e => by have := hgk _ e; omega) (by omega)]; exact h.box
  · rw [chg hg (by omega) (fun e => by have := hgk _ e; omega) (by omega)]; exact h.res
  · rw [heap_setCell_same _ (b + 2) 3 _ _ _ ob]; rfl
  · rw [List.length_append, List.map_append]
    exact own_keep hown K3 fun k e => by have := hgk' k e; unfold One; omega
  · exact own_keep (own_keep (hv1.alloc o) (S := fun k => vk.ownBlock = some k) (Keep.of_grown hg fun _ _ e => e) fun k e e' => h.ne k e' e) K3 fun k e => by have := hgv k e; unfold One; omega
  · rcases h.dnr with h' | ⟨h', h''⟩
    · exact .inl h'
    · exact .inr ⟨h', by rw [chg hg (Array.getElem?_eq_some_iff.1 h'').1 h.nek (by omega)]; exact h''⟩
  · intro i e e'
    rcases new i e with h1 | h1
    · exact h.ne i h1 e'
    · have := (hgv i e').2; omega
  · intro e
    rcases new D e with h1 | h1
    · exact h.nek h1
    · rcases h.dnr with h' | ⟨_, h''⟩
      · omega
      · have := (Array.getElem?_eq_some_iff.1 h'').1; omega
  · refine h.below.trans ⟨hg.os, hg.tape, hg.output, by simp; omega, fun k hk => chg hg (by omega) (fun e => by have := hgk _ e; omega) (by omega)⟩
theorem OI.val (h : OI O w b D dn cs5 c0 c1 c2 Sk Sv vk vl W) {y : J} {cs xs : List Value} {o : Obj} (hv1 : W.ownsRow (b + 3) 25 5 vl Sv.length xs) (hv2 : isRow (Eb O b D vk vl W) W Sv xs) (hy : isJ (Eb O b D vk vl W) W y cs) (hown : W2.ownsRow (b + 3) 25 5 vl' (Sv.length + 1) (xs ++ cs)) (hg : (W.alloc o).grownBy W2 vl.ownBlock) (hat : vl'.ownBlock = vl.ownBlock ∨ vl'.ownBlock = some (W.alloc o).heap.size) :
    W2.cell? ⟨b + 2, 4, none⟩ = some vl ∧ W2.frozen? ⟨b + 2, 4, none⟩ = false ∧ OI O w b D dn cs5 c0 c1 c2 Sk (Sv ++ [y]) vk vl' (W2.setCell ⟨b + 2, 4, none⟩ vl') := by
  have hs := h.size
  have hgk := own_ge h.keys
  have hgv := own_ge hv1
  have hgs := hg.size
  simp at hgs
  have ob : W2.heap[b + 2]? = some (.cells #[c0, c1, c2, vk, vl] 25 (0, 0)) := by
    rw [grown_at hg (by omega) (fun e => by have := hgv _ e; omega)]; exact h.obj
  have K3 : Keep (One (b + 2)) W2 (W2.setCell ⟨b + 2, 4, none⟩ vl') := Keep.setCell (Keep.refl _ _) (fun _ => (rfl : b + 2 = b + 2)) _
  have hgv' := own_ge hown
  have new : ∀ i, vl'.ownBlock = some i → vl.ownBlock = some i ∨ W.heap.size < i := fun i e => by
    rcases hat with h1 | h1
    · exact .inl (h1 ▸ e)
    · rw [h1] at e
      have := Option.some.inj e
      simp at this
      exact .inr (by omega)
  have carry : ∀ k, Eb O b D vk vl W k → Eb O b D vk vl' (W2.setCell ⟨b + 2, 4, none⟩ vl') k ∧ (W2.setCell ⟨b + 2, 4, none⟩ vl').heap[k]? = W.heap[k]? := by
    intro k hk
    rcases hk with hk | hk
    · have := h.low k hk
      exact ⟨.inl hk, chg hg (by omega) (fun e => by have := hgv _ e; omega) (by omega)⟩
    · refine ⟨.inr ⟨hk.1, by have := hk.2.1; simp; omega, hk.2.2.1, fun e => ?_, hk.2.2.2.2⟩, chg hg hk.2.1 hk.2.2.2.1 (by have := hk.1; omega)⟩
      rcases new k e with h' | h'
      · exact hk.2.2.2.1 h'
      · have := hk.2.1; omega
  refine ⟨five_c4 ob, five_fz ob 4, ⟨?_, ?_, ?_, ?_, ⟨xs ++ cs, ?_, isRow.snoc hy.five (hy.carry carry) Sv xs (hv2.carry carry)⟩, ?_, ?_, h.nek, ?_, h.low, ?_, h.at'⟩⟩
  · rw [chg hg (by omega) (fun e => by have := hgv _ e; omega) (by omega)]; exact h.box
  · rw [chg hg (by omega) (fun e => by have := hgv _ e; omega) (by omega)]; exact h.res
  · rw [heap_setCell_same _ (b + 2) 4 _ _ _ ob]; rfl
  · exact own_keep (own_keep (h.keys.alloc o) (S := fun k => vl.ownBlock = some k) (Keep.of_grown hg fun _ _ e => e) fun k e e' => h.ne k e e') K3 fun k e => by have := hgk k e; unfold One; omega
  · rw [List.length_append]
    exact own_keep hown K3 fun k e => by have := hgv' k e; unfold One; omega
  · rcases h.dnr with h' | ⟨h', h''⟩
    · exact .inl h'
    · exact .inr ⟨h', by rw [chg hg (Array.getElem?_eq_some_iff.1 h'').1 h.nel (by omega)]; exact h''⟩
  · intro i e e'
    rcases new i e' with h1 | h1
    · exact h.ne i e h1
    · have := (hgk i e).2; omega
  · intro e
    rcases new D e with h1 | h1
    · exact h.nel h1
    · rcases h.dnr with h' | ⟨_, h''⟩
      · omega
      · have := (Array.getElem?_eq_some_iff.1 h'').1; omega
  · refine h.below.trans ⟨hg.os, hg.tape, hg.output, by simp; omega, fun k hk => chg hg (by omega) (fun e => by have := hgv _ e; omega) (by omega)⟩
/-- A value that was just made. -/
theorem OI.new (h : OI O w b D dn cs5 c0 c1 c2 Sk Sv vk vl W) (hb : Below W.heap.size W W4) {y : J} {cs : List Value} (hy : isJ (fun k => O k ∨ New W W4 k) W4 y cs) : isJ (Eb O b D vk vl W4) W4 y cs := by
  have hs := h.size
  have hss := hb.size
  obtain ⟨xs, h1, _⟩ := h.vals
  refine hy.carry fun k hk => ⟨?_, rfl⟩
  rcases hk with hk | hk
  · exact .inl hk
  · have e1 := hk.1
    refine .inr ⟨by omega, hk.2, fun e => by have := (own_ge h.keys k e).2; omega, fun e => by have := (own_ge h1 k e).2; omega, fun e => ?_⟩
    rcases h.dnr with h' | ⟨_, h''⟩
    · omega
    · have := (Array.getElem?_eq_some_iff.1 h'').1; omega
/-- The marks are laid. -/
theorem OI.marks (h : OI O w b 0 dn cs5 c0 c1 c2 Sk Sv vk vl W) (ds : List Bool) : OI O w b W.heap.size ds cs5 c0 c1 c2 Sk Sv vk vl (W.alloc (.cells (ds.map Value.bool).toArray 4)) := by
  have hs := h.size
  have hb : Below W.heap.size W (W.alloc (.cells (ds.map Value.bool).toArray 4)) := (Below.refl _ _).alloc (Nat.le_refl _) _
  obtain ⟨xs, h1, h2⟩ := h.vals
  have kp : Keep (fun _ => False) W (W.alloc (.cells (ds.map Value.bool).toArray 4)) := Keep.of_below hb
  refine ⟨(hb.block b (by omega)).trans h.box, (hb.block (b + 1) (by omega)).trans h.res, (hb.block (b + 2) (by omega)).trans h.obj, own_keep h.keys kp fun _ _ h => h, ⟨xs, own_keep h1 kp fun _ _ h => h, h2.carry fun k hk => ?_⟩, .inr ⟨by omega, heap_alloc_new _ _⟩, h.ne, fun e => by have := (own_ge h.keys _ e).2; omega, fun e => by have := (own_ge h1 _ e).2; omega, h.low, h.below.trans ⟨hb.os, hb.tape, hb.output, hb.size, fun k hk => hb.block k (by omega)⟩, h.at'⟩
  rcases hk with hk | hk
  · have := h.low k hk
    exact ⟨.inl hk, hb.block k (by omega)⟩
  · exact ⟨.inr ⟨hk.1, by have := hk.2.1; simp; omega, hk.2.2.1, hk.2.2.2.1, by have := hk.2.1; omega⟩, hb.block k hk.2.1⟩
/-- A mark is set. -/
theorem OI.mark (h : OI O w b D dn cs5 c0 c1 c2 Sk Sv vk vl W) (hD : b + 3 ≤ D) (m : Nat) : OI O w b D (dn.set m true) cs5 c0 c1 c2 Sk Sv vk vl (W.setCell ⟨D, m, none⟩ (.bool true)) := by
  have hs := h.size
  obtain ⟨xs, h1, h2⟩ := h.vals
  have K3 : Keep (One D) W (W.setCell ⟨D, m, none⟩ (.bool true)) := Keep.setCell (Keep.refl _ _) (fun _ => (rfl : D = D)) _
  obtain ⟨_, hd⟩ : b + 3 ≤ D ∧ W.heap[D]? = some (.cells (dn.map Value.bool).toArray 4 (0, 0)) := by
    rcases h.dnr with h' | h'
    · omega
    · exact h'
  have lowK : ∀ k, k < W.heap.size → k ≠ D → (W.setCell ⟨D, m, none⟩ (.bool true)).heap[k]? = W.heap[k]? := fun k hk hn => K3.block k hk (by unfold One; exact hn)
  refine ⟨(lowK b (by omega) (by omega)).trans h.box, (lowK (b + 1) (by omega) (by omega)).trans h.res, (lowK (b + 2) (by omega) (by omega)).trans h.obj, own_keep h.keys K3 fun k e => by unfold One; exact fun e' => h.nek (e' ▸ e), ⟨xs, own_keep h1 K3 fun k e => by unfold One; exact fun e' => h.nel (e' ▸ e), h2.carry fun k hk => ?_⟩, .inr ⟨hD, ?_⟩, h.ne, h.nek, h.nel, h.low, h.below.trans ⟨rfl, rfl, rfl, by simp, fun k hk => lowK k (by omega) (by omega)⟩, h.at'⟩
  · rcases hk with hk | hk
    · have := h.low k hk
      exact ⟨.inl hk, lowK k (by omega) (by omega)⟩
    · exact ⟨.inr ⟨hk.1, by have := hk.2.1; simp; omega, hk.2.2⟩, lowK k hk.2.1 hk.2.2.2.2⟩
  · rw [heap_setCell_same _ D m _ _ _ hd]
    congr 2
    rw [← Array.toList_inj]
    simp [List.map_set]
end
end Go.Proofs.YtnmhpejnjaeecaaGreatDoor
namespace Go.Proofs.YtnmhpejnjaeecaaGreatDoor
open Go.RowKit

/-- How values that may be d deep are put in order. -/
def Rords (d : Nat) : Prop := ∀ (w : World) (O : Nat → Prop) (j : J) (k i : Int) (t : ByteArray) (pk pl : Option Addr) (nk ck nl cl : Nat), (∀ x, O x → x < w.heap.size) → goodJ d j = true → szJ d j = true →
  isJ O w j [.int .i64 k, .int .i64 i, .string t, .slice pk nk ck, .slice pl nl cl] →
  Calls Tryz.prog 18 #[.agg #[.int .i64 k, .int .i64 i, .string t, .slice pk nk ck, .slice pl nl cl]] w fun x w' => (∃ kr ir tr pr nr cr qr mr dr, x = .returned (.agg #[.int .i64 kr, .int .i64 ir, .string tr, .slice pr nr cr, .slice qr mr dr]) ∧ isJ (fun b => O b ∨ New w w' b) w' (ord j) [.int .i64 kr, .int .i64 ir, .string tr, .slice pr nr cr, .slice qr mr dr]) ∧ Below w.heap.size w w'
theorem three_new {w : World} (o1 o2 o3 : Obj) : (((w.alloc o1).alloc o2).alloc o3).heap[w.heap.size]? = some o1 ∧ (((w.alloc o1).alloc o2).alloc o3).heap[w.heap.size + 1]? = some o2 ∧ (((w.alloc o1).alloc o2).alloc o3).heap[w.heap.size + 2]? = some o3 := by
  refine ⟨?_, ?_, ?_⟩
  · rw [Below.heap_alloc _ _ _ (by simp; omega), Below.heap_alloc _ _ _ (by simp)]
    exact heap_alloc_new _ _
  · rw [Below.heap_alloc _ _ _ (by simp)]
    have := heap_alloc_new (w.alloc o1) o2
    simpa using this
  · have := heap_alloc_new ((w.alloc o1).alloc o2) o3
    simpa using this
theorem oi_start {O : Nat → Prop} {w : World} (hO : ∀ x, O x → x < w.heap.size) (cs5 : Array Value) (c0 c1 c2 : Value) : OI O w w.heap.size 0 [] cs5 c0 c1 c2 [] [] (.slice none 0 0) (.slice none 0 0) (((w.alloc (.cells cs5 25)).alloc (.cells #[.int .i64 0, .int .i64 0, .string ⟨#[]⟩, .slice none 0 0, .slice none 0 0] 25)).alloc (.cells #[c0, c1, c2, .slice none 0 0, .slice none 0 0] 25)) := by
  obtain ⟨h1, h2, h3⟩ := three_new (w := w) (.cells cs5 25) (.cells #[.int .i64 0, .int .i64 0, .string ⟨#[]⟩, .slice none 0 0, .slice none 0 0] 25) (.cells #[c0, c1, c2, .slice none 0 0, .slice none 0 0] 25)
  exact ⟨h1, h2, h3, World.ownsRow_nil _ _ _ _, ⟨[], World.ownsRow_nil _ _ _ _, rfl⟩, .inl rfl, (fun i h => by cases h), (fun h => by cases h), (fun h => by cases h), hO, (((Below.refl _ _).alloc (Nat.le_refl _) _).alloc (by simp) _).alloc (by simp; omega) _, rfl⟩
theorem valAt_ordL : ∀ (l : List J) (x : Nat), x < l.length → valAt (ordL l) x = ord (valAt l x)
  | [], x, h => absurd h (by simp)
  | j :: r, 0, _ => by rw [ordL]; rfl
  | j :: r, x + 1, h => by
    rw [ordL]
    exact valAt_ordL r x (by simpa using h)
theorem good_map {d : Nat} {i : Int} {t : ByteArray} {ks : List ByteArray} {l : List J} (h : goodJ (d + 1) (.mk 5 i t ks l) = true) : i = 0 ∧ t = nix := by
  rw [goodJ, Bool.and_eq_true] at h
  have hb := h.1
  unfold bare at hb
  simp only [Bool.and_eq_true, Bool.or_eq_true, decide_eq_true_eq] at hb
  obtain ⟨⟨⟨h1, h2⟩, _⟩, _⟩ := hb
  exact ⟨by omega, nix_of (by omega)⟩
/-- A value in order, by the places of its keys. -/
theorem ord_parts {d : Nat} {k i : Int} {t : ByteArray} {ks : List ByteArray} {l : List J} {P : List Nat} (hg : goodJ (d + 1) (.mk k i t ks l) = true) (k4 : ¬ k = 4) (hP : Pick ks P) (hlen : P.length = ks.length) : ord (.mk k i t ks l) = .mk k i t (P.map (keyAtK ks)) (P.map fun x => ord (valAt l x)) := by
  obtain ⟨_, hg5, hgn⟩ := good_sub hg
  rw [ord]
  by_cases k5 : k = 5
  · subst k5
    obtain ⟨hkl, hd⟩ := hg5 rfl
    obtain ⟨rfl, rfl⟩ := good_map hg
    have hlo : ks.length = (ordL l).length := by rw [ordL_length]; exact hkl
    have hs := hP.full hlen hlo hd
    rw [if_pos rfl]
    unfold mapOf
    rw [← hs]
    unfold sel
    rw [List.map_map, List.map_map]
    congr 1
    refine List.map_congr_left fun x hx => ?_
    exact valAt_ordL l x (by rw [← hkl]; exact hP.lt x hx)
  · rw [if_neg k5]
    have hk := hgn k5
    subst hk
    obtain rfl : P = [] := List.eq_nil_of_length_eq_zero hlen
    have hl : l = [] := by
      rw [goodJ, Bool.and_eq_true] at hg
      have hb := hg.1
      unfold bare at hb
      simp only [Bool.and_eq_true, Bool.or_eq_true, decide_eq_true_eq] at hb
      exact List.eq_nil_of_length_eq_zero (by omega)
    subst hl
    rfl
theorem set_mark {dn : List Bool} {P : List Nat} {m nk : Nat} (hl : dn.length = nk) (hm : m < nk) (h : ∀ x, x < nk → (dn.getD x false = true ↔ x ∈ P)) : ∀ y, y < nk → ((dn.set m true).getD y false = true ↔ y ∈ P ++ [m]) := fun y hy => by
  have h1 := h y hy
  by_cases e : y = m
  · subst e
    rw [List.getD_eq_getElem?_getD, List.getElem?_set_self (by omega)]
    simp
  · rw [List.getD_eq_getElem?_getD, List.getElem?_set_ne (fun e' => e e'.symm), ← List.getD_eq_getElem?_getD, h1]
    simp [e]
theorem made_bools (n : Nat) : madeCells (Value.bool false).cells (n * 1) = ((List.replicate n false).map Value.bool).toArray := by
  rw [← Array.toList_inj]
  apply List.ext_getElem
  · simp [madeCells]
  · intro i h1 h2
    simp [madeCells, Value.cells]
    rw [Nat.mod_one]
    rfl
theorem Tryz.info4 : (Tryz.prog.info? 4).map (fun i => (i.zero, i.size, i.bytes)) = some (some (.bool false), 1, 1) := by kernel_rfl
theorem make_bools (W : World) (n : Nat) (hn : n ≤ 1000000) : (Instr.makeSlice 51 (.int .i64 (n : Int)) (.int .i64 (n : Int))).run Tryz.prog W = .ok (.slice (some ⟨W.heap.size, 0, none⟩) n n) (W.alloc (.cells ((List.replicate n false).map Value.bool).toArray 4)) := by
  obtain ⟨i0, hi, hz0, hz1, hz2⟩ := info_parts Tryz.info4
  have := run_makeSlice (P := Tryz.prog) W 51 4 i0 (.bool false) Tryz.underlying51 hi hz0 .i64 .i64 n n (by omega) (Int.le_refl _) (by rw [hz1]; simp; omega) (by rw [hz2]; omega) (by omega)
  rw [hz1] at this
  simp only [Int.toNat_natCast] at this
  rw [made_bools] at this
  exact this
theorem wpList_bools {W : World} {ops : Array Oper} {rest : List Oper} {o : Oper} {a : Act} {Q : Exit → Act → World → Prop} (hgd : o.guard = none) (x y : Operand) (ho : o.op = .makeSlice 51 x y) (n : Nat) (hn : n ≤ 1000000) (hx : a.eval x = .int .i64 (n : Int)) (hy : a.eval y = .int .i64 (n : Int))
    (h : wpList Tryz.prog ops Q rest (a.put o.dst (.slice (some ⟨W.heap.size, 0, none⟩) n n)) (W.alloc (.cells ((List.replicate n false).map Value.bool).toArray 4))) : wpList Tryz.prog ops Q (o :: rest) a W := by
  refine wpList_plain hgd fun K hK => ?_
  have hrun := make_bools W n hn
  unfold Oper.wp
  simp [execOp, ho, hx, hy, hrun, Result.andThen]
  refine hK _ _ ?_
  simpa using h
set_option maxRecDepth 100000 in
set_option maxHeartbeats 16000000 in
theorem rord_step {d : Nat} (V : Rords d) : Rords (d + 1) := by
  intro w O j k i t pk pl nk ck nl cl hO hg hsz hj
  obtain ⟨kx, ix, tx, ks, l⟩ := j
  unfold isJ at hj
  obtain ⟨pk', ck', pl', cl', e, hk, hl, hs⟩ := hj
  simp only [List.cons.injEq, Value.int.injEq, Value.string.injEq, Value.slice.injEq, true_and, and_true] at e
  obtain ⟨rfl, rfl, rfl, ⟨rfl, rfl, rfl⟩, rfl, rfl, rfl⟩ := e
  unfold szJ at hsz
  simp only [Bool.and_eq_true, decide_eq_true_eq] at hsz
  obtain ⟨_, hks, _, hll, hlsz⟩ := hsz
  obtain ⟨hgl, hg5, hgn⟩ := good_sub hg
  have HLS : Hid (l.all (szJ d) = true) := hlsz
  have HLG : Hid (l.all (goodJ d) = true) := hgl
  have HG : Hid (goodJ (d + 1) (.mk k i t ks l) = true) := hg
  have HG5 : Hid (k = 5 → ks.length = l.length ∧ ks.Pairwise (· ≠ ·)) := hg5
  have HGN : Hid (k ≠ 5 → ks = []) := hgn
  clear hg hgl hg5 hgn hlsz
  obtain ⟨nk, hnk⟩ : ∃ n, ks.length = n := ⟨_, rfl⟩
  obtain ⟨nl, hnl⟩ : ∃ n, l.length = n := ⟨_, rfl⟩
  have HNK : Hid (ks.length = nk) := hnk
  have HNL : Hid (l.length = nl) := hnl
  have hck := hk.1
  rw [hnk] at hck hks ⊢
  rw [hnl] at hl hll ⊢
  clear hnk hnl
  have hoi := oi_start hO #[.int .i64 k, .int .i64 i, .string t, .slice pk nk ck, .slice pl nl cl] (.int .i64 k) (.int .i64 i) (.string t)
  obtain ⟨wI, hwI⟩ : ∃ wI, wI = (((w.alloc (.cells #[.int .i64 k, .int .i64 i, .string t, .slice pk nk ck, .slice pl nl cl] 25)).alloc (.cells #[.int .i64 0, .int .i64 0, .string ⟨#[]⟩, .slice none 0 0, .slice none 0 0] 25)).alloc (.cells #[.int .i64 k, .int .i64 i, .string t, .slice none 0 0, .slice none 0 0] 25)) := ⟨_, rfl⟩
  rw [← hwI] at hoi
  go_enter Tryz.func18, Tryz.ntmps18
  by_cases k4 : k = 4
  rotate_left
  · have hD3 : w.heap.size + 3 ≤ wI.heap.size := by rw [hwI]; simp
    have hom := hoi.marks (List.replicate nk false)
    obtain ⟨wD, hwD⟩ : ∃ wD, wD = wI.alloc (.cells ((List.replicate nk false).map Value.bool).toArray 4) := ⟨_, rfl⟩
    rw [← hwD] at hom
    go_wp2_with (at_make; refine wpList_bools rfl (.tmp 39) (.tmp 39) rfl nk (by omega) rfl rfl ?_; rw [← hwI, ← hwD]; clear hwI hwD)
    clear hoi
    go_loopw [6] (fun v wr => ∃ (P : List Nat) (dn : List Bool) (vk vl : Value), v = .int .i64 (P.length : Int) ∧ P.length ≤ nk ∧ Hid (Pick ks P ∧ dn.length = nk ∧ ∀ x, x < nk → (dn.getD x false = true ↔ x ∈ P)) ∧ OI O w w.heap.size wI.heap.size dn #[.int .i64 k, .int .i64 i, .string t, .slice pk nk ck, .slice pl nl cl] (.int .i64 k) (.int .i64 i) (.string t) (P.map (keyAtK ks)) (P.map fun x => ord (valAt l x)) vk vl wr) (fun v _ => nk - (intOf v).toNat)
    case atStart => exact ⟨[], List.replicate nk false, _, _, rfl, Nat.zero_le _, ⟨Pick.nil ks, by simp, fun x hx => by simp [List.getD_eq_getElem?_getD, hx]⟩, hom⟩
    case round =>
      clear hom
      obtain ⟨P, dn, vk, vl, rfl, hPn, HP, hoi⟩ := hrel
      have b3 := five_c3 hoi.box
      by_cases hlt : P.length < nk
      · have hlti : (P.length : Int) < (nk : Int) := by omega
        have k5 : k = 5 := Classical.byContradiction fun hne => by
          have := HGN.out hne
          have h2 := HNK.out
          rw [this] at h2
          simp at h2
          omega
        obtain ⟨hkl, hdist⟩ := HG5.out k5
        have HK5 : Hid (k = 5) := k5
        clear k5
        have HKL : Hid (ks.length = l.length) := hkl
        have HDI : Hid (ks.Pairwise (· ≠ ·)) := hdist
        clear hkl hdist
        obtain ⟨ka, hpk, hOa, _⟩ := hk.2 0 (by rw [HNK.out]; omega)
        subst hpk
        have HKW : Hid (∀ y, y < nk → w.cell? (ka.add y) = some (.string (keyAtK ks y)) ∧ O ka.block) := fun y hy => by
          obtain ⟨a', ha', hOa', hc'⟩ := hk.2 y (by rw [HNK.out]; exact hy)
          cases ha'
          exact ⟨hc', hOa'⟩
        obtain ⟨n, hn⟩ : ∃ n, P.length = n := ⟨_, rfl⟩
        have HPL : Hid (P.length = n) := hn
        rw [hn] at hlt hlti hPn ⊢
        clear hn
        go_wp2
        go_loopw [7, 8] (fun lv iv w2 => ∃ (x : Nat) (v : Int), iv = .int .i64 x ∧ lv = .int .i64 v ∧ x ≤ nk ∧ Hid (LeastTo ks P x v) ∧ OI O w w.heap.size wI.heap.size dn #[.int .i64 k, .int .i64 i, .string t, .slice (some ka) nk ck, .slice pl nl cl] (.int .i64 k) (.int .i64 i) (.string t) (P.map (keyAtK ks)) (P.map fun x => ord (valAt l x)) vk vl w2) (fun _ iv _ => nk - (intOf iv).toNat)
        case atStart => exact ⟨0, -1, rfl, rfl, Nat.zero_le _, LeastTo.zero, hoi⟩
        case round =>
          clear b3 hoi
          obtain ⟨x, v, rfl, rfl, hx, HLT, hoi⟩ := hrel
          have b3 := five_c3 hoi.box
          by_cases hxn : x < nk
          · have hxi : (x : Int) < (nk : Int) := by omega
            have hdD : wr.heap[wI.heap.size]? = some (.cells (dn.map Value.bool).toArray 4 (0, 0)) := by
              rcases hoi.dnr with h' | h'
              · omega
              · exact h'.2
            have hDs := (Array.getElem?_eq_some_iff.1 hdD).1
            have hbs := hoi.size
            have hlo := hoi.low _ hOa
            obtain ⟨dx, hdx⟩ : ∃ dx, dn.getD x false = dx := ⟨_, rfl⟩
            have HDX : Hid (dx = true ↔ x ∈ P) := by
              have := HP.out.2.2 x hxn
              rw [hdx] at this
              exact this
            have HDC : Hid (∀ W : World, Below wr.heap.size wr W → W.cell? ⟨wI.heap.size, x, none⟩ = some (.bool dx)) := fun W hW => by
              refine (World.cell?_of_block (a := ⟨wI.heap.size, x, none⟩) (hW.block wI.heap.size hDs)).trans (cell_row (cur := dn.map Value.bool) hdD x _ ?_)
              have hl := HP.out.2.1
              rw [List.getElem?_map, List.getElem?_eq_getElem (by omega)]
              rw [List.getD_eq_getElem?_getD, List.getElem?_eq_getElem (by omega)] at hdx
              simp at hdx
              simp [hdx]
            have HB3 : Hid (∀ W : World, Below wr.heap.size wr W → W.cell? ⟨w.heap.size, 3, none⟩ = some (.slice (some ka) nk ck)) := fun W hW => (World.cell?_of_block (a := ⟨w.heap.size, 3, none⟩) (hW.block w.heap.size (by omega))).trans b3
            have HKX : Hid (∀ y, y < nk → ∀ W : World, Below wr.heap.size wr W → W.cell? (ka.add y) = some (.string (keyAtK ks y))) := fun y hy W hW => by
              obtain ⟨h1, h2⟩ := HKW.out y hy
              exact (World.cell?_of_block (by rw [add_block]; exact (hW.block _ (by omega)).trans (hoi.below.block _ hlo))).trans h1
            have hC0 : Below wr.heap.size wr wr.drew := ⟨rfl, rfl, rfl, Nat.le_refl _, fun _ _ => rfl⟩
            clear hdD hdx
            cases dx with
            | true =>
              have HX : Hid (x ∈ P) := HDX.out.1 rfl
              go_wp2
              refine wp_region_in (by kernel_rfl) (fun W => Below wr.heap.size wr W) ?_
              change wpIn _ _ _ _ _ _ _ _ (World.drew _)
              refine wpIn_take (i := 0) (d := (some 55)) (v := ?vqp0) (a' := ?aqp0) rfl rfl (by kernel_rfl) (by kernel_rfl) (by kernel_rfl) (fun _ _ _ h => h) (Or.inl ⟨by rfl, ?yqp0⟩) ?fqp0 ?_
              case yqp0 => (intro wq hq; go_simp; first | done | with_reducible rfl)
              case fqp0 => (go_frame; rfl)
              refine wpIn_take (i := 1) (d := (some 56)) (v := ?vqp1) (a' := ?aqp1) rfl rfl (by kernel_rfl) (by kernel_rfl) (by kernel_rfl) (fun _ _ _ h => h) (Or.inl ⟨by rfl, ?yqp1⟩) ?fqp1 ?_
              case yqp1 => (intro wq hq; go_simp; first | done | with_reducible rfl)
              case fqp1 => (go_frame; rfl)
              refine wpIn_take (i := 2) (d := (some 57)) (v := ?vqp2) (a' := ?aqp2) rfl rfl (by kernel_rfl) (by kernel_rfl) (by kernel_rfl) (fun _ _ _ h => h) (Or.inl ⟨by rfl, ?yqp2⟩) ?fqp2 ?_
              case yqp2 => (intro wq hq; go_simp; first | done | with_reducible rfl)
              case fqp2 => (go_frame; rfl)
              refine wpIn_take (i := 3) (d := (some 58)) (v := ?vqp3) (a' := ?aqp3) rfl rfl (by kernel_rfl) (by kernel_rfl) (by kernel_rfl) (fun _ _ _ h => h) (Or.inl ⟨by rfl, ?yqp3⟩) ?fqp3 ?_
              case yqp3 => (intro wq hq; have q0 := HDC.out wq hq; go_simp; first | done | with_reducible rfl)
              case fqp3 => (go_frame; rfl)
              refine wpIn_take (i := 4) (d := (some 59)) (v := ?vqp4) (a' := ?aqp4) rfl rfl (by kernel_rfl) (by kernel_rfl) (by kernel_rfl) (fun _ _ _ h => h) (Or.inl ⟨by rfl, ?yqp4⟩) ?fqp4 ?_
              case yqp4 => (intro wq hq; go_simp; first | done | with_reducible rfl)
              case fqp4 => (go_frame; rfl)
              refine wpIn_take (i := 5) (d := (some 60)) (v := ?vqp5) (a' := ?aqp5) rfl rfl (by kernel_rfl) (by kernel_rfl) (by kernel_rfl) (fun _ _ _ h => h) (Or.inl ⟨by rfl, ?yqp5⟩) ?fqp5 ?_
              case yqp5 => (intro wq hq; go_simp; first | done | with_reducible rfl)
              case fqp5 => (go_frame; rfl)
              refine wpIn_take (i := 6) (d := (some 61)) (v := undef) (a' := ?aqp6) rfl rfl (by kernel_rfl) (by kernel_rfl) (by kernel_rfl) (fun _ _ _ h => h) (Or.inr ⟨by rfl, rfl⟩) ?fqp6 ?_
              case fqp6 => (go_frame; rfl)
              refine wpIn_take (i := 7) (d := (some 62)) (v := undef) (a' := ?aqp7) rfl rfl (by kernel_rfl) (by kernel_rfl) (by kernel_rfl) (fun _ _ _ h => h) (Or.inr ⟨by rfl, rfl⟩) ?fqp7 ?_
              case fqp7 => (go_frame; rfl)
              refine wpIn_take (i := 8) (d := (some 63)) (v := undef) (a' := ?aqp8) rfl rfl (by kernel_rfl) (by kernel_rfl) (by kernel_rfl) (fun _ _ _ h => h) (Or.inr ⟨by rfl, rfl⟩) ?fqp8 ?_
              case fqp8 => (go_frame; rfl)
              refine wpIn_take (i := 9) (d := (some 64)) (v := undef) (a' := ?aqp9) rfl rfl (by kernel_rfl) (by kernel_rfl) (by kernel_rfl) (fun _ _ _ h => h) (Or.inr ⟨by rfl, rfl⟩) ?fqp9 ?_
              case fqp9 => (go_frame; rfl)
              refine wpIn_take (i := 10) (d := (some 65)) (v := undef) (a' := ?aqp10) rfl rfl (by kernel_rfl) (by kernel_rfl) (by kernel_rfl) (fun _ _ _ h => h) (Or.inr ⟨by rfl, rfl⟩) ?fqp10 ?_
              case fqp10 => (go_frame; rfl)
              refine wpIn_take (i := 11) (d := (some 66)) (v := undef) (a' := ?aqp11) rfl rfl (by kernel_rfl) (by kernel_rfl) (by kernel_rfl) (fun _ _ _ h => h) (Or.inr ⟨by rfl, rfl⟩) ?fqp11 ?_
              case fqp11 => (go_frame; rfl)
              refine wpIn_take (i := 12) (d := (some 67)) (v := undef) (a' := ?aqp12) rfl rfl (by kernel_rfl) (by kernel_rfl) (by kernel_rfl) (fun _ _ _ h => h) (Or.inr ⟨by rfl, rfl⟩) ?fqp12 ?_
              case fqp12 => (go_frame; rfl)
              refine wpIn_take (i := 13) (d := (some 68)) (v := undef) (a' := ?aqp13) rfl rfl (by kernel_rfl) (by kernel_rfl) (by kernel_rfl) (fun _ _ _ h => h) (Or.inr ⟨by rfl, rfl⟩) ?fqp13 ?_
              case fqp13 => (go_frame; rfl)
              refine wpIn_take (i := 14) (d := (some 69)) (v := undef) (a' := ?aqp14) rfl rfl (by kernel_rfl) (by kernel_rfl) (by kernel_rfl) (fun _ _ _ h => h) (Or.inr ⟨by rfl, rfl⟩) ?fqp14 ?_
              case fqp14 => (go_frame; rfl)
              refine wpIn_take (i := 15) (d := (some 70)) (v := undef) (a' := ?aqp15) rfl rfl (by kernel_rfl) (by kernel_rfl) (by kernel_rfl) (fun _ _ _ h => h) (Or.inr ⟨by rfl, rfl⟩) ?fqp15 ?_
              case fqp15 => (go_frame; rfl)
              refine wpIn_take (i := 16) (d := (some 71)) (v := undef) (a' := ?aqp16) rfl rfl (by kernel_rfl) (by kernel_rfl) (by kernel_rfl) (fun _ _ _ h => h) (Or.inr ⟨by rfl, rfl⟩) ?fqp16 ?_
              case fqp16 => (go_frame; rfl)
              refine wpIn_take (i := 17) (d := (some 72)) (v := undef) (a' := ?aqp17) rfl rfl (by kernel_rfl) (by kernel_rfl) (by kernel_rfl) (fun _ _ _ h => h) (Or.inr ⟨by rfl, rfl⟩) ?fqp17 ?_
              case fqp17 => (go_frame; rfl)
              refine wpIn_take (i := 18) (d := (some 73)) (v := undef) (a' := ?aqp18) rfl rfl (by kernel_rfl) (by kernel_rfl) (by kernel_rfl) (fun _ _ _ h => h) (Or.inr ⟨by rfl, rfl⟩) ?fqp18 ?_
              case fqp18 => (go_frame; rfl)
              refine wpIn_take (i := 19) (d := (some 74)) (v := undef) (a' := ?aqp19) rfl rfl (by kernel_rfl) (by kernel_rfl) (by kernel_rfl) (fun _ _ _ h => h) (Or.inr ⟨by rfl, rfl⟩) ?fqp19 ?_
              case fqp19 => (go_frame; rfl)
              refine wpIn_take (i := 20) (d := (some 75)) (v := undef) (a' := ?aqp20) rfl rfl (by kernel_rfl) (by kernel_rfl) (by kernel_rfl) (fun _ _ _ h => h) (Or.inr ⟨by rfl, rfl⟩) ?fqp20 ?_
              case fqp20 => (go_frame; rfl)
              refine wpIn_take (i := 21) (d := (some 76)) (v := ?vqp21) (a' := ?aqp21) rfl rfl (by kernel_rfl) (by kernel_rfl) (by kernel_rfl) (fun _ _ _ h => h) (Or.inl ⟨by rfl, ?yqp21⟩) ?fqp21 ?_
              case yqp21 => (intro wq hq; go_simp; first | done | with_reducible rfl)
              case fqp21 => (go_frame; rfl)
              refine wpIn_done hC0 (by kernel_rfl) ?_ _
              go_wp2
              go_roundw
              case rel => exact ⟨x + 1, v, by go_num, rfl, hxn, HLT.out.skip HX.out, hoi.drew⟩
              case measure => simp [intOf]; omega
            | false =>
              have HX : Hid (x ∉ P) := fun h => by have := HDX.out.2 h; cases this
              by_cases hv : v < 0
              · have HV : Hid (LeastTo ks P x (-1)) := by
                  have h := HLT.out
                  rcases h with ⟨h1, h2⟩ | ⟨m, h1, _⟩
                  · exact .inl ⟨rfl, h2⟩
                  · omega
                go_wp2
                refine wp_region_in (by kernel_rfl) (fun W => Below wr.heap.size wr W) ?_
                change wpIn _ _ _ _ _ _ _ _ (World.drew _)
                refine wpIn_take (i := 0) (d := (some 55)) (v := ?vqf0) (a' := ?aqf0) rfl rfl (by kernel_rfl) (by kernel_rfl) (by kernel_rfl) (fun _ _ _ h => h) (Or.inl ⟨by rfl, ?yqf0⟩) ?fqf0 ?_
                case yqf0 => (intro wq hq; go_simp; first | done | with_reducible rfl)
                case fqf0 => (go_frame; rfl)
                refine wpIn_take (i := 1) (d := (some 56)) (v := ?vqf1) (a' := ?aqf1) rfl rfl (by kernel_rfl) (by kernel_rfl) (by kernel_rfl) (fun _ _ _ h => h) (Or.inl ⟨by rfl, ?yqf1⟩) ?fqf1 ?_
                case yqf1 => (intro wq hq; go_simp; first | done | with_reducible rfl)
                case fqf1 => (go_frame; rfl)
                refine wpIn_take (i := 2) (d := (some 57)) (v := ?vqf2) (a' := ?aqf2) rfl rfl (by kernel_rfl) (by kernel_rfl) (by kernel_rfl) (fun _ _ _ h => h) (Or.inl ⟨by rfl, ?yqf2⟩) ?fqf2 ?_
                case yqf2 => (intro wq hq; go_simp; first | done | with_reducible rfl)
                case fqf2 => (go_frame; rfl)
                refine wpIn_take (i := 3) (d := (some 58)) (v := ?vqf3) (a' := ?aqf3) rfl rfl (by kernel_rfl) (by kernel_rfl) (by kernel_rfl) (fun _ _ _ h => h) (Or.inl ⟨by rfl, ?yqf3⟩) ?fqf3 ?_
                case yqf3 => (intro wq hq; have q0 := HDC.out wq hq; go_simp; first | done | with_reducible rfl)
                case fqf3 => (go_frame; rfl)
                refine wpIn_take (i := 4) (d := (some 59)) (v := ?vqf4) (a' := ?aqf4) rfl rfl (by kernel_rfl) (by kernel_rfl) (by kernel_rfl) (fun _ _ _ h => h) (Or.inl ⟨by rfl, ?yqf4⟩) ?fqf4 ?_
                case yqf4 => (intro wq hq; go_simp; first | done | with_reducible rfl)
                case fqf4 => (go_frame; rfl)
                refine wpIn_take (i := 5) (d := (some 60)) (v := ?vqf5) (a' := ?aqf5) rfl rfl (by kernel_rfl) (by kernel_rfl) (by kernel_rfl) (fun _ _ _ h => h) (Or.inl ⟨by rfl, ?yqf5⟩) ?fqf5 ?_
                case yqf5 => (intro wq hq; go_simp; first | done | with_reducible rfl)
                case fqf5 => (go_frame; rfl)
                refine wpIn_take (i := 6) (d := (some 61)) (v := ?vqf6) (a' := ?aqf6) rfl rfl (by kernel_rfl) (by kernel_rfl) (by kernel_rfl) (fun _ _ _ h => h) (Or.inl ⟨by rfl, ?yqf6⟩) ?fqf6 ?_
                case yqf6 => (intro wq hq; go_simp; first | done | with_reducible rfl)
                case fqf6 => (go_frame; rfl)
                refine wpIn_take (i := 7) (d := (some 62)) (v := ?vqf7) (a' := ?aqf7) rfl rfl (by kernel_rfl) (by kernel_rfl) (by kernel_rfl) (fun _ _ _ h => h) (Or.inl ⟨by rfl, ?yqf7⟩) ?fqf7 ?_
                case yqf7 => (intro wq hq; go_simp; first | done | with_reducible rfl)
                case fqf7 => (go_frame; rfl)
                refine wpIn_take (i := 8) (d := (some 63)) (v := ?vqf8) (a' := ?aqf8) rfl rfl (by kernel_rfl) (by kernel_rfl) (by kernel_rfl) (fun _ _ _ h => h) (Or.inl ⟨by rfl, ?yqf8⟩) ?fqf8 ?_
                case yqf8 => (intro wq hq; go_simp; first | done | with_reducible rfl)
                case fqf8 => (go_frame; rfl)
                refine wpIn_take (i := 9) (d := (some 64)) (v := undef) (a' := ?aqf9) rfl rfl (by kernel_rfl) (by kernel_rfl) (by kernel_rfl) (fun _ _ _ h => h) (Or.inr ⟨by rfl, rfl⟩) ?fqf9 ?_
                case fqf9 => (go_frame; rfl)
                refine wpIn_take (i := 10) (d := (some 65)) (v := undef) (a' := ?aqf10) rfl rfl (by kernel_rfl) (by kernel_rfl) (by kernel_rfl) (fun _ _ _ h => h) (Or.inr ⟨by rfl, rfl⟩) ?fqf10 ?_
                case fqf10 => (go_frame; rfl)
                refine wpIn_take (i := 11) (d := (some 66)) (v := undef) (a' := ?aqf11) rfl rfl (by kernel_rfl) (by kernel_rfl) (by kernel_rfl) (fun _ _ _ h => h) (Or.inr ⟨by rfl, rfl⟩) ?fqf11 ?_
                case fqf11 => (go_frame; rfl)
                refine wpIn_take (i := 12) (d := (some 67)) (v := undef) (a' := ?aqf12) rfl rfl (by kernel_rfl) (by kernel_rfl) (by kernel_rfl) (fun _ _ _ h => h) (Or.inr ⟨by rfl, rfl⟩) ?fqf12 ?_
                case fqf12 => (go_frame; rfl)
                refine wpIn_take (i := 13) (d := (some 68)) (v := undef) (a' := ?aqf13) rfl rfl (by kernel_rfl) (by kernel_rfl) (by kernel_rfl) (fun _ _ _ h => h) (Or.inr ⟨by rfl, rfl⟩) ?fqf13 ?_
                case fqf13 => (go_frame; rfl)
                refine wpIn_take (i := 14) (d := (some 69)) (v := undef) (a' := ?aqf14) rfl rfl (by kernel_rfl) (by kernel_rfl) (by kernel_rfl) (fun _ _ _ h => h) (Or.inr ⟨by rfl, rfl⟩) ?fqf14 ?_
                case fqf14 => (go_frame; rfl)
                refine wpIn_take (i := 15) (d := (some 70)) (v := undef) (a' := ?aqf15) rfl rfl (by kernel_rfl) (by kernel_rfl) (by kernel_rfl) (fun _ _ _ h => h) (Or.inr ⟨by rfl, rfl⟩) ?fqf15 ?_
                case fqf15 => (go_frame; rfl)
                refine wpIn_take (i := 16) (d := (some 71)) (v := undef) (a' := ?aqf16) rfl rfl (by kernel_rfl) (by kernel_rfl) (by kernel_rfl) (fun _ _ _ h => h) (Or.inr ⟨by rfl, rfl⟩) ?fqf16 ?_
                case fqf16 => (go_frame; rfl)
                refine wpIn_take (i := 17) (d := (some 72)) (v := undef) (a' := ?aqf17) rfl rfl (by kernel_rfl) (by kernel_rfl) (by kernel_rfl) (fun _ _ _ h => h) (Or.inr ⟨by rfl, rfl⟩) ?fqf17 ?_
                case fqf17 => (go_frame; rfl)
                refine wpIn_take (i := 18) (d := (some 73)) (v := undef) (a' := ?aqf18) rfl rfl (by kernel_rfl) (by kernel_rfl) (by kernel_rfl) (fun _ _ _ h => h) (Or.inr ⟨by rfl, rfl⟩) ?fqf18 ?_
                case fqf18 => (go_frame; rfl)
                refine wpIn_take (i := 19) (d := (some 74)) (v := undef) (a' := ?aqf19) rfl rfl (by kernel_rfl) (by kernel_rfl) (by kernel_rfl) (fun _ _ _ h => h) (Or.inr ⟨by rfl, rfl⟩) ?fqf19 ?_
                case fqf19 => (go_frame; rfl)
                refine wpIn_take (i := 20) (d := (some 75)) (v := ?vqf20) (a' := ?aqf20) rfl rfl (by kernel_rfl) (by kernel_rfl) (by kernel_rfl) (fun _ _ _ h => h) (Or.inl ⟨by rfl, ?yqf20⟩) ?fqf20 ?_
                case yqf20 => (intro wq hq; go_simp; first | done | with_reducible rfl)
                case fqf20 => (go_frame; rfl)
                refine wpIn_take (i := 21) (d := (some 76)) (v := ?vqf21) (a' := ?aqf21) rfl rfl (by kernel_rfl) (by kernel_rfl) (by kernel_rfl) (fun _ _ _ h => h) (Or.inl ⟨by rfl, ?yqf21⟩) ?fqf21 ?_
                case yqf21 => (intro wq hq; go_simp; first | done | with_reducible rfl)
                case fqf21 => (go_frame; rfl)
                refine wpIn_done hC0 (by kernel_rfl) ?_ _
                go_wp2
                go_roundw
                case rel => exact ⟨x + 1, (x : Int), by go_num, rfl, hxn, HV.out.first HX.out, hoi.drew⟩
                case measure => simp [intOf]; omega
              · obtain ⟨m, rfl, hmx⟩ : ∃ m : Nat, v = (m : Int) ∧ m < x := by
                  rcases HLT.out with ⟨h1, _⟩ | ⟨m, h1, h2, _⟩
                  · omega
                  · exact ⟨m, h1, h2⟩
                have hmn : m < nk := by omega
                have hmi : (m : Int) < (nk : Int) := by omega
                cases hls : ltK (keyAtK ks x) (keyAtK ks m) with
                | true =>
                  have hlb : Op.bytesLess (keyAtK ks x).toList (keyAtK ks m).toList = true := by rw [less_ltK]; exact hls
                  go_wp2
                  refine wp_region_in (by kernel_rfl) (fun W => Below wr.heap.size wr W) ?_
                  change wpIn _ _ _ _ _ _ _ _ (World.drew _)
                  refine wpIn_take (i := 0) (d := (some 55)) (v := ?vql0) (a' := ?aql0) rfl rfl (by kernel_rfl) (by kernel_rfl) (by kernel_rfl) (fun _ _ _ h => h) (Or.inl ⟨by rfl, ?yql0⟩) ?fql0 ?_
                  case yql0 => (intro wq hq; go_simp; first | done | with_reducible rfl)
                  case fql0 => (go_frame; rfl)
                  refine wpIn_take (i := 1) (d := (some 56)) (v := ?vql1) (a' := ?aql1) rfl rfl (by kernel_rfl) (by kernel_rfl) (by kernel_rfl) (fun _ _ _ h => h) (Or.inl ⟨by rfl, ?yql1⟩) ?fql1 ?_
                  case yql1 => (intro wq hq; go_simp; first | done | with_reducible rfl)
                  case fql1 => (go_frame; rfl)
                  refine wpIn_take (i := 2) (d := (some 57)) (v := ?vql2) (a' := ?aql2) rfl rfl (by kernel_rfl) (by kernel_rfl) (by kernel_rfl) (fun _ _ _ h => h) (Or.inl ⟨by rfl, ?yql2⟩) ?fql2 ?_
                  case yql2 => (intro wq hq; go_simp; first | done | with_reducible rfl)
                  case fql2 => (go_frame; rfl)
                  refine wpIn_take (i := 3) (d := (some 58)) (v := ?vql3) (a' := ?aql3) rfl rfl (by kernel_rfl) (by kernel_rfl) (by kernel_rfl) (fun _ _ _ h => h) (Or.inl ⟨by rfl, ?yql3⟩) ?fql3 ?_
                  case yql3 => (intro wq hq; have q0 := HDC.out wq hq; go_simp; first | done | with_reducible rfl)
                  case fql3 => (go_frame; rfl)
                  refine wpIn_take (i := 4) (d := (some 59)) (v := ?vql4) (a' := ?aql4) rfl rfl (by kernel_rfl) (by kernel_rfl) (by kernel_rfl) (fun _ _ _ h => h) (Or.inl ⟨by rfl, ?yql4⟩) ?fql4 ?_
                  case yql4 => (intro wq hq; go_simp; first | done | with_reducible rfl)
                  case fql4 => (go_frame; rfl)
                  refine wpIn_take (i := 5) (d := (some 60)) (v := ?vql5) (a' := ?aql5) rfl rfl (by kernel_rfl) (by kernel_rfl) (by kernel_rfl) (fun _ _ _ h => h) (Or.inl ⟨by rfl, ?yql5⟩) ?fql5 ?_
                  case yql5 => (intro wq hq; go_simp; first | done | with_reducible rfl)
                  case fql5 => (go_frame; rfl)
                  refine wpIn_take (i := 6) (d := (some 61)) (v := ?vql6) (a' := ?aql6) rfl rfl (by kernel_rfl) (by kernel_rfl) (by kernel_rfl) (fun _ _ _ h => h) (Or.inl ⟨by rfl, ?yql6⟩) ?fql6 ?_
                  case yql6 => (intro wq hq; go_simp; first | done | with_reducible rfl)
                  case fql6 => (go_frame; rfl)
                  refine wpIn_take (i := 7) (d := (some 62)) (v := ?vql7) (a' := ?aql7) rfl rfl (by kernel_rfl) (by kernel_rfl) (by kernel_rfl) (fun _ _ _ h => h) (Or.inl ⟨by rfl, ?yql7⟩) ?fql7 ?_
                  case yql7 => (intro wq hq; go_simp; first | done | with_reducible rfl)
                  case fql7 => (go_frame; rfl)
                  refine wpIn_take (i := 8) (d := (some 63)) (v := ?vql8) (a' := ?aql8) rfl rfl (by kernel_rfl) (by kernel_rfl) (by kernel_rfl) (fun _ _ _ h => h) (Or.inl ⟨by rfl, ?yql8⟩) ?fql8 ?_
                  case yql8 => (intro wq hq; go_simp; first | done | with_reducible rfl)
                  case fql8 => (go_frame; rfl)
                  refine wpIn_take (i := 9) (d := (some 64)) (v := ?vql9) (a' := ?aql9) rfl rfl (by kernel_rfl) (by kernel_rfl) (by kernel_rfl) (fun _ _ _ h => h) (Or.inl ⟨by rfl, ?yql9⟩) ?fql9 ?_
                  case yql9 => (intro wq hq; go_simp; first | done | with_reducible rfl)
                  case fql9 => (go_frame; rfl)
                  refine wpIn_take (i := 10) (d := (some 65)) (v := ?vql10) (a' := ?aql10) rfl rfl (by kernel_rfl) (by kernel_rfl) (by kernel_rfl) (fun _ _ _ h => h) (Or.inl ⟨by rfl, ?yql10⟩) ?fql10 ?_
                  case yql10 => (intro wq hq; have q0 := HB3.out wq hq; go_simp; first | done | with_reducible rfl)
                  case fql10 => (go_frame; rfl)
                  refine wpIn_take (i := 11) (d := (some 66)) (v := ?vql11) (a' := ?aql11) rfl rfl (by kernel_rfl) (by kernel_rfl) (by kernel_rfl) (fun _ _ _ h => h) (Or.inl ⟨by rfl, ?yql11⟩) ?fql11 ?_
                  case yql11 => (intro wq hq; go_simp; first | done | with_reducible rfl)
                  case fql11 => (go_frame; rfl)
                  refine wpIn_take (i := 12) (d := (some 67)) (v := ?vql12) (a' := ?aql12) rfl rfl (by kernel_rfl) (by kernel_rfl) (by kernel_rfl) (fun _ _ _ h => h) (Or.inl ⟨by rfl, ?yql12⟩) ?fql12 ?_
                  case yql12 => (intro wq hq; go_simp; first | done | with_reducible rfl)
                  case fql12 => (go_frame; rfl)
                  refine wpIn_take (i := 13) (d := (some 68)) (v := ?vql13) (a' := ?aql13) rfl rfl (by kernel_rfl) (by kernel_rfl) (by kernel_rfl) (fun _ _ _ h => h) (Or.inl ⟨by rfl, ?yql13⟩) ?fql13 ?_
                  case yql13 => (intro wq hq; have q0 := HKX.out x hxn wq hq; go_simp; first | done | with_reducible rfl)
                  case fql13 => (go_frame; rfl)
                  refine wpIn_take (i := 14) (d := (some 69)) (v := ?vql14) (a' := ?aql14) rfl rfl (by kernel_rfl) (by kernel_rfl) (by kernel_rfl) (fun _ _ _ h => h) (Or.inl ⟨by rfl, ?yql14⟩) ?fql14 ?_
                  case yql14 => (intro wq hq; go_simp; first | done | with_reducible rfl)
                  case fql14 => (go_frame; rfl)
                  refine wpIn_take (i := 15) (d := (some 70)) (v := ?vql15) (a' := ?aql15) rfl rfl (by kernel_rfl) (by kernel_rfl) (by kernel_rfl) (fun _ _ _ h => h) (Or.inl ⟨by rfl, ?yql15⟩) ?fql15 ?_
                  case yql15 => (intro wq hq; have q0 := HB3.out wq hq; go_simp; first | done | with_reducible rfl)
                  case fql15 => (go_frame; rfl)
                  refine wpIn_take (i := 16) (d := (some 71)) (v := ?vql16) (a' := ?aql16) rfl rfl (by kernel_rfl) (by kernel_rfl) (by kernel_rfl) (fun _ _ _ h => h) (Or.inl ⟨by rfl, ?yql16⟩) ?fql16 ?_
                  case yql16 => (intro wq hq; go_simp; first | done | with_reducible rfl)
                  case fql16 => (go_frame; rfl)
                  refine wpIn_take (i := 17) (d := (some 72)) (v := ?vql17) (a' := ?aql17) rfl rfl (by kernel_rfl) (by kernel_rfl) (by kernel_rfl) (fun _ _ _ h => h) (Or.inl ⟨by rfl, ?yql17⟩) ?fql17 ?_
                  case yql17 => (intro wq hq; go_simp; first | done | with_reducible rfl)
                  case fql17 => (go_frame; rfl)
                  refine wpIn_take (i := 18) (d := (some 73)) (v := ?vql18) (a' := ?aql18) rfl rfl (by kernel_rfl) (by kernel_rfl) (by kernel_rfl) (fun _ _ _ h => h) (Or.inl ⟨by rfl, ?yql18⟩) ?fql18 ?_
                  case yql18 => (intro wq hq; have q0 := HKX.out m hmn wq hq; go_simp; first | done | with_reducible rfl)
                  case fql18 => (go_frame; rfl)
                  refine wpIn_take (i := 19) (d := (some 74)) (v := ?vql19) (a' := ?aql19) rfl rfl (by kernel_rfl) (by kernel_rfl) (by kernel_rfl) (fun _ _ _ h => h) (Or.inl ⟨by rfl, ?yql19⟩) ?fql19 ?_
                  case yql19 => (intro wq hq; go_simp; first | done | with_reducible rfl)
                  case fql19 => (go_frame; rfl)
                  refine wpIn_take (i := 20) (d := (some 75)) (v := ?vql20) (a' := ?aql20) rfl rfl (by kernel_rfl) (by kernel_rfl) (by kernel_rfl) (fun _ _ _ h => h) (Or.inl ⟨by rfl, ?yql20⟩) ?fql20 ?_
                  case yql20 => (intro wq hq; go_simp; first | done | with_reducible rfl)
                  case fql20 => (go_frame; rfl)
                  refine wpIn_take (i := 21) (d := (some 76)) (v := ?vql21) (a' := ?aql21) rfl rfl (by kernel_rfl) (by kernel_rfl) (by kernel_rfl) (fun _ _ _ h => h) (Or.inl ⟨by rfl, ?yql21⟩) ?fql21 ?_
                  case yql21 => (intro wq hq; go_simp; first | done | with_reducible rfl)
                  case fql21 => (go_frame; rfl)
                  refine wpIn_done hC0 (by kernel_rfl) ?_ _
                  go_wp2
                  go_roundw
                  case rel => exact ⟨x + 1, (x : Int), by go_num, rfl, hxn, HLT.out.less HX.out hls, hoi.drew⟩
                  case measure => simp [intOf]; omega
                | false =>
                  have hlb : Op.bytesLess (keyAtK ks x).toList (keyAtK ks m).toList = false := by rw [less_ltK]; exact hls
                  go_wp2
                  refine wp_region_in (by kernel_rfl) (fun W => Below wr.heap.size wr W) ?_
                  change wpIn _ _ _ _ _ _ _ _ (World.drew _)
                  refine wpIn_take (i := 0) (d := (some 55)) (v := ?vqn0) (a' := ?aqn0) rfl rfl (by kernel_rfl) (by kernel_rfl) (by kernel_rfl) (fun _ _ _ h => h) (Or.inl ⟨by rfl, ?yqn0⟩) ?fqn0 ?_
                  case yqn0 => (intro wq hq; go_simp; first | done | with_reducible rfl)
                  case fqn0 => (go_frame; rfl)
                  refine wpIn_take (i := 1) (d := (some 56)) (v := ?vqn1) (a' := ?aqn1) rfl rfl (by kernel_rfl) (by kernel_rfl) (by kernel_rfl) (fun _ _ _ h => h) (Or.inl ⟨by rfl, ?yqn1⟩) ?fqn1 ?_
                  case yqn1 => (intro wq hq; go_simp; first | done | with_reducible rfl)
                  case fqn1 => (go_frame; rfl)
                  refine wpIn_take (i := 2) (d := (some 57)) (v := ?vqn2) (a' := ?aqn2) rfl rfl (by kernel_rfl) (by kernel_rfl) (by kernel_rfl) (fun _ _ _ h => h) (Or.inl ⟨by rfl, ?yqn2⟩) ?fqn2 ?_
                  case yqn2 => (intro wq hq; go_simp; first | done | with_reducible rfl)
                  case fqn2 => (go_frame; rfl)
                  refine wpIn_take (i := 3) (d := (some 58)) (v := ?vqn3) (a' := ?aqn3) rfl rfl (by kernel_rfl) (by kernel_rfl) (by kernel_rfl) (fun _ _ _ h => h) (Or.inl ⟨by rfl, ?yqn3⟩) ?fqn3 ?_
                  case yqn3 => (intro wq hq; have q0 := HDC.out wq hq; go_simp; first | done | with_reducible rfl)
                  case fqn3 => (go_frame; rfl)
                  refine wpIn_take (i := 4) (d := (some 59)) (v := ?vqn4) (a' := ?aqn4) rfl rfl (by kernel_rfl) (by kernel_rfl) (by kernel_rfl) (fun _ _ _ h => h) (Or.inl ⟨by rfl, ?yqn4⟩) ?fqn4 ?_
                  case yqn4 => (intro wq hq; go_simp; first | done | with_reducible rfl)
                  case fqn4 => (go_frame; rfl)
                  refine wpIn_take (i := 5) (d := (some 60)) (v := ?vqn5) (a' := ?aqn5) rfl rfl (by kernel_rfl) (by kernel_rfl) (by kernel_rfl) (fun _ _ _ h => h) (Or.inl ⟨by rfl, ?yqn5⟩) ?fqn5 ?_
                  case yqn5 => (intro wq hq; go_simp; first | done | with_reducible rfl)
                  case fqn5 => (go_frame; rfl)
                  refine wpIn_take (i := 6) (d := (some 61)) (v := ?vqn6) (a' := ?aqn6) rfl rfl (by kernel_rfl) (by kernel_rfl) (by kernel_rfl) (fun _ _ _ h => h) (Or.inl ⟨by rfl, ?yqn6⟩) ?fqn6 ?_
                  case yqn6 => (intro wq hq; go_simp; first | done | with_reducible rfl)
                  case fqn6 => (go_frame; rfl)
                  refine wpIn_take (i := 7) (d := (some 62)) (v := ?vqn7) (a' := ?aqn7) rfl rfl (by kernel_rfl) (by kernel_rfl) (by kernel_rfl) (fun _ _ _ h => h) (Or.inl ⟨by rfl, ?yqn7⟩) ?fqn7 ?_
                  case yqn7 => (intro wq hq; go_simp; first | done | with_reducible rfl)
                  case fqn7 => (go_frame; rfl)
                  refine wpIn_take (i := 8) (d := (some 63)) (v := ?vqn8) (a' := ?aqn8) rfl rfl (by kernel_rfl) (by kernel_rfl) (by kernel_rfl) (fun _ _ _ h => h) (Or.inl ⟨by rfl, ?yqn8⟩) ?fqn8 ?_
                  case yqn8 => (intro wq hq; go_simp; first | done | with_reducible rfl)
                  case fqn8 => (go_frame; rfl)
                  refine wpIn_take (i := 9) (d := (some 64)) (v := ?vqn9) (a' := ?aqn9) rfl rfl (by kernel_rfl) (by kernel_rfl) (by kernel_rfl) (fun _ _ _ h => h) (Or.inl ⟨by rfl, ?yqn9⟩) ?fqn9 ?_
                  case yqn9 => (intro wq hq; go_simp; first | done | with_reducible rfl)
                  case fqn9 => (go_frame; rfl)
                  refine wpIn_take (i := 10) (d := (some 65)) (v := ?vqn10) (a' := ?aqn10) rfl rfl (by kernel_rfl) (by kernel_rfl) (by kernel_rfl) (fun _ _ _ h => h) (Or.inl ⟨by rfl, ?yqn10⟩) ?fqn10 ?_
                  case yqn10 => (intro wq hq; have q0 := HB3.out wq hq; go_simp; first | done | with_reducible rfl)
                  case fqn10 => (go_frame; rfl)
                  refine wpIn_take (i := 11) (d := (some 66)) (v := ?vqn11) (a' := ?aqn11) rfl rfl (by kernel_rfl) (by kernel_rfl) (by kernel_rfl) (fun _ _ _ h => h) (Or.inl ⟨by rfl, ?yqn11⟩) ?fqn11 ?_
                  case yqn11 => (intro wq hq; go_simp; first | done | with_reducible rfl)
                  case fqn11 => (go_frame; rfl)
                  refine wpIn_take (i := 12) (d := (some 67)) (v := ?vqn12) (a' := ?aqn12) rfl rfl (by kernel_rfl) (by kernel_rfl) (by kernel_rfl) (fun _ _ _ h => h) (Or.inl ⟨by rfl, ?yqn12⟩) ?fqn12 ?_
                  case yqn12 => (intro wq hq; go_simp; first | done | with_reducible rfl)
                  case fqn12 => (go_frame; rfl)
                  refine wpIn_take (i := 13) (d := (some 68)) (v := ?vqn13) (a' := ?aqn13) rfl rfl (by kernel_rfl) (by kernel_rfl) (by kernel_rfl) (fun _ _ _ h => h) (Or.inl ⟨by rfl, ?yqn13⟩) ?fqn13 ?_
                  case yqn13 => (intro wq hq; have q0 := HKX.out x hxn wq hq; go_simp; first | done | with_reducible rfl)
                  case fqn13 => (go_frame; rfl)
                  refine wpIn_take (i := 14) (d := (some 69)) (v := ?vqn14) (a' := ?aqn14) rfl rfl (by kernel_rfl) (by kernel_rfl) (by kernel_rfl) (fun _ _ _ h => h) (Or.inl ⟨by rfl, ?yqn14⟩) ?fqn14 ?_
                  case yqn14 => (intro wq hq; go_simp; first | done | with_reducible rfl)
                  case fqn14 => (go_frame; rfl)
                  refine wpIn_take (i := 15) (d := (some 70)) (v := ?vqn15) (a' := ?aqn15) rfl rfl (by kernel_rfl) (by kernel_rfl) (by kernel_rfl) (fun _ _ _ h => h) (Or.inl ⟨by rfl, ?yqn15⟩) ?fqn15 ?_
                  case yqn15 => (intro wq hq; have q0 := HB3.out wq hq; go_simp; first | done | with_reducible rfl)
                  case fqn15 => (go_frame; rfl)
                  refine wpIn_take (i := 16) (d := (some 71)) (v := ?vqn16) (a' := ?aqn16) rfl rfl (by kernel_rfl) (by kernel_rfl) (by kernel_rfl) (fun _ _ _ h => h) (Or.inl ⟨by rfl, ?yqn16⟩) ?fqn16 ?_
                  case yqn16 => (intro wq hq; go_simp; first | done | with_reducible rfl)
                  case fqn16 => (go_frame; rfl)
                  refine wpIn_take (i := 17) (d := (some 72)) (v := ?vqn17) (a' := ?aqn17) rfl rfl (by kernel_rfl) (by kernel_rfl) (by kernel_rfl) (fun _ _ _ h => h) (Or.inl ⟨by rfl, ?yqn17⟩) ?fqn17 ?_
                  case yqn17 => (intro wq hq; go_simp; first | done | with_reducible rfl)
                  case fqn17 => (go_frame; rfl)
                  refine wpIn_take (i := 18) (d := (some 73)) (v := ?vqn18) (a' := ?aqn18) rfl rfl (by kernel_rfl) (by kernel_rfl) (by kernel_rfl) (fun _ _ _ h => h) (Or.inl ⟨by rfl, ?yqn18⟩) ?fqn18 ?_
                  case yqn18 => (intro wq hq; have q0 := HKX.out m hmn wq hq; go_simp; first | done | with_reducible rfl)
                  case fqn18 => (go_frame; rfl)
                  refine wpIn_take (i := 19) (d := (some 74)) (v := ?vqn19) (a' := ?aqn19) rfl rfl (by kernel_rfl) (by kernel_rfl) (by kernel_rfl) (fun _ _ _ h => h) (Or.inl ⟨by rfl, ?yqn19⟩) ?fqn19 ?_
                  case yqn19 => (intro wq hq; go_simp; first | done | with_reducible rfl)
                  case fqn19 => (go_frame; rfl)
                  refine wpIn_take (i := 20) (d := (some 75)) (v := ?vqn20) (a' := ?aqn20) rfl rfl (by kernel_rfl) (by kernel_rfl) (by kernel_rfl) (fun _ _ _ h => h) (Or.inl ⟨by rfl, ?yqn20⟩) ?fqn20 ?_
                  case yqn20 => (intro wq hq; go_simp; first | done | with_reducible rfl)
                  case fqn20 => (go_frame; rfl)
                  refine wpIn_take (i := 21) (d := (some 76)) (v := ?vqn21) (a' := ?aqn21) rfl rfl (by kernel_rfl) (by kernel_rfl) (by kernel_rfl) (fun _ _ _ h => h) (Or.inl ⟨by rfl, ?yqn21⟩) ?fqn21 ?_
                  case yqn21 => (intro wq hq; go_simp; first | done | with_reducible rfl)
                  case fqn21 => (go_frame; rfl)
                  refine wpIn_done hC0 (by kernel_rfl) ?_ _
                  go_wp2
                  go_roundw
                  case rel => exact ⟨x + 1, (m : Int), by go_num, rfl, hxn, HLT.out.same hls (fun h e => by
                      have hp := List.pairwise_iff_getElem.1 HDI.out m x (by rw [HNK.out]; exact hmn) (by rw [HNK.out]; exact hxn) h
                      rw [keyAtK_at (by rw [HNK.out]; exact hmn), keyAtK_at (by rw [HNK.out]; exact hxn)] at e
                      exact hp e), hoi.drew⟩
                  case measure => simp [intOf]; omega
          · obtain rfl : nk = x := by omega
            obtain ⟨m, rfl, hm1, hm2, hm3⟩ := LeastTo.done (by rw [HNK.out]; exact HLT.out) HP.out.1 (by rw [HPL.out, HNK.out]; exact hlt)
            have hmn : m < nk := by rw [← HNK.out]; exact hm1
            have hmi : (m : Int) < (nk : Int) := by omega
            have hdD : wr.heap[wI.heap.size]? = some (.cells (dn.map Value.bool).toArray 4 (0, 0)) := by
              rcases hoi.dnr with h' | h'
              · omega
              · exact h'.2
            have hcD : wr.cell? ⟨wI.heap.size, m, none⟩ = some (.bool (dn.getD m false)) := by
              refine cell_row (cur := dn.map Value.bool) hdD m _ ?_
              have hl := HP.out.2.1
              rw [List.getElem?_map, List.getElem?_eq_getElem (by omega), List.getD_eq_getElem?_getD, List.getElem?_eq_getElem (by omega)]
              rfl
            have hfD : wr.frozen? ⟨wI.heap.size, m, none⟩ = false := frozen_of_row wr wI.heap.size m _ _ hdD
            have hok := hoi.mark hD3 m
            obtain ⟨wk, hwk⟩ : ∃ wk, wk = wr.setCell ⟨wI.heap.size, m, none⟩ (.bool true) := ⟨_, rfl⟩
            rw [← hwk] at hok
            obtain ⟨u, hu⟩ : ∃ u, keyAtK ks m = u := ⟨_, rfl⟩
            have HU : Hid (keyAtK ks m = u) := hu
            obtain ⟨Sk, hSk⟩ : ∃ Sk, P.map (keyAtK ks) = Sk := ⟨_, rfl⟩
            obtain ⟨Sv, hSv⟩ : ∃ Sv, (P.map fun x => ord (valAt l x)) = Sv := ⟨_, rfl⟩
            have HSK : Hid (P.map (keyAtK ks) = Sk) := hSk
            have HSV : Hid ((P.map fun x => ord (valAt l x)) = Sv) := hSv
            have hskn : Sk.length ≤ 100000 := by rw [← hSk, List.length_map, HPL.out]; omega
            have hsvn : Sv.length ≤ 100000 := by rw [← hSv, List.length_map, HPL.out]; omega
            rw [hSk, hSv] at hok
            have hkb : ka.block < w.heap.size := hO _ hOa
            have B3 : Hid (wk.cell? ⟨w.heap.size, 3, none⟩ = some (.slice (some ka) nk ck)) := five_c3 hok.box
            have HKC : Hid (wk.cell? (ka.add m) = some (.string u)) := by
              rw [← hu]
              exact (World.cell?_of_block (by rw [add_block]; exact hok.below.block _ hkb)).trans (HKW.out m hmn).1
            have hml1 : m < l.length := by rw [← HKL.out]; exact hm1
            obtain ⟨lb, lo, cs, hpl, hOl, hcells, hyj⟩ := isJs.at l 0 m hs hml1
            subst hpl
            obtain ⟨x0, x1, x2, p3, n3, c3, p4, n4, c4, rfl⟩ := isJ_shape hyj
            have hlb : lb < w.heap.size := hO _ hOl
            have hmli : (m : Int) < (nl : Int) := by have := HNL.out; omega
            have HM3 : Hid (Pick ks (P ++ [m])) := hm3
            have HM2 : Hid (m ∉ P) := hm2
            have HWC : Hid (∀ n v, [Value.int .i64 x0, .int .i64 x1, .string x2, .slice p3 n3 c3, .slice p4 n4 c4][n]? = some v → w.cell? ⟨lb, lo + m * 5 + n, none⟩ = some v) := fun n v h => by
              have := hcells n v h
              rwa [Nat.zero_add] at this
            have HYJ : Hid (isJ O w (l.getD m J.zero) [.int .i64 x0, .int .i64 x1, .string x2, .slice p3 n3 c3, .slice p4 n4 c4]) := hyj
            have HMG : Hid (goodJ d (l.getD m J.zero) = true ∧ szJ d (l.getD m J.zero) = true) := ⟨all_at HLG.out hml1, all_at HLS.out hml1⟩
            clear hu hSk hSv hm1 hm2 hm3 hcells hyj hml1 HLT hoi hdD
            go_wp2
            rw [← hwk]
            clear hwk hcD hfD
            refine wp_region_in (by kernel_rfl) (fun W => W.heap[w.heap.size]? = wk.heap[w.heap.size]? ∧ W.heap[ka.block]? = wk.heap[ka.block]?) ?_
            change wpIn _ _ _ _ _ _ _ _ (World.drew _)
            refine wpIn_take (i := 0) (d := (some 81)) (v := ?vqk0) (a' := ?aqk0) rfl rfl (by kernel_rfl) (by kernel_rfl) (by kernel_rfl) (fun _ _ _ h => h) (Or.inl ⟨by rfl, ?yqk0⟩) ?fqk0 ?_
            case yqk0 => (intro wq hq; go_simp; first | done | with_reducible rfl)
            case fqk0 => (go_frame; rfl)
            refine wpIn_take (i := 2) (d := (some 83)) (v := ?vqk2) (a' := ?aqk2) rfl rfl (by kernel_rfl) (by kernel_rfl) (by kernel_rfl) (fun _ _ _ h => h) (Or.inl ⟨by rfl, ?yqk2⟩) ?fqk2 ?_
            case yqk2 => (intro wq hq; go_simp; first | done | with_reducible rfl)
            case fqk2 => (go_frame; rfl)
            refine wpIn_take (i := 3) (d := (some 84)) (v := ?vqk3) (a' := ?aqk3) rfl rfl (by kernel_rfl) (by kernel_rfl) (by kernel_rfl) (fun _ _ _ h => h) (Or.inl ⟨by rfl, ?yqk3⟩) ?fqk3 ?_
            case yqk3 => (intro wq hq; have q0 := (World.cell?_of_block (a := ⟨w.heap.size, 3, none⟩) hq.1).trans B3.out; go_simp; first | done | with_reducible rfl)
            case fqk3 => (go_frame; rfl)
            refine wpIn_take (i := 4) (d := (some 85)) (v := ?vqk4) (a' := ?aqk4) rfl rfl (by kernel_rfl) (by kernel_rfl) (by kernel_rfl) (fun _ _ _ h => h) (Or.inl ⟨by rfl, ?yqk4⟩) ?fqk4 ?_
            case yqk4 => (intro wq hq; go_simp; first | done | with_reducible rfl)
            case fqk4 => (go_frame; rfl)
            refine wpIn_take (i := 5) (d := (some 86)) (v := ?vqk5) (a' := ?aqk5) rfl rfl (by kernel_rfl) (by kernel_rfl) (by kernel_rfl) (fun _ _ _ h => h) (Or.inl ⟨by rfl, ?yqk5⟩) ?fqk5 ?_
            case yqk5 => (intro wq hq; go_simp; first | done | with_reducible rfl)
            case fqk5 => (go_frame; rfl)
            refine wpIn_take (i := 6) (d := (some 87)) (v := ?vqk6) (a' := ?aqk6) rfl rfl (by kernel_rfl) (by kernel_rfl) (by kernel_rfl) (fun _ _ _ h => h) (Or.inl ⟨by rfl, ?yqk6⟩) ?fqk6 ?_
            case yqk6 => (intro wq hq; have q0 : wq.cell? (ka.add m) = some (.string u) := (World.cell?_of_block (w := wk) (by rw [add_block]; exact hq.2)).trans HKC.out; go_simp; first | done | with_reducible rfl)
            case fqk6 => (go_frame; rfl)
            have hC0 : wk.drew.heap[w.heap.size]? = wk.heap[w.heap.size]? ∧ wk.drew.heap[ka.block]? = wk.heap[ka.block]? := ⟨rfl, rfl⟩
            have hC1 : (wk.drew.alloc (.cells #[.string u] 9)).heap[w.heap.size]? = wk.heap[w.heap.size]? ∧ (wk.drew.alloc (.cells #[.string u] 9)).heap[ka.block]? = wk.heap[ka.block]? := ⟨Below.heap_alloc _ _ _ (by have := hok.size; show w.heap.size < wk.heap.size; omega), Below.heap_alloc _ _ _ (by have := hok.size; show ka.block < wk.heap.size; omega)⟩
            have hod := hok.drew
            have u3 := five_c3 hod.obj
            have v3 : (wk.alloc (.cells #[.string u] 9)).drew.cell? ⟨w.heap.size + 2, 3, none⟩ = some vk := five_c3 (hod.more ((Below.refl _ _).alloc (Nat.le_refl _) (.cells #[.string u] 9))).obj
            refine wpIn_pair (i := 1) (j := 7) hC0 (by kernel_rfl) rfl rfl (by rfl) (by rfl) ?_ ?_
            · intro K hK
              go_simp
              refine hK _ _ ?_
              clear hK K
              refine wpIn_do (i := 7) hC0 (by kernel_rfl) rfl (by rfl) ?_
              intro K hK
              go_simp
              refine hK _ _ ?_
              clear hK K
              refine wpIn_do (i := 8) hC1 (by kernel_rfl) rfl (by rfl) ?_
              intro K hK
              refine wp_append_at (.tmp 82) (.tmp 88) 22 rfl (w.heap.size + 3) 9 (.string ⟨#[]⟩) 1 16 Tryz.underlying22 Tryz.info9 rfl (by decide) (by decide) _ Sk.length (Sk.map Value.string) rfl (hod.keys.alloc _) _ [.string u] rfl rfl (cell_one_new _ _ _) (str_one u) (by omega) (by have := hod.size; simp at this ⊢; omega) ?_
              intro vk2 W2 hown2 hg2 hat2
              refine hK _ _ ?_
              clear hK K
              obtain ⟨q2, c2, hv2⟩ : ∃ q c, vk2 = .slice q (Sk.length + 1) c := by
                rcases hown2.2 with ⟨h', h0⟩ | ⟨g', cap', cur, h', _⟩
                · omega
                · exact ⟨_, _, h'⟩
              subst hv2
              have hg2b : (wk.drew.alloc (.cells #[.string u] 9)).grownBy W2 vk.ownBlock := hg2
              have hat2b : (Value.slice q2 (Sk.length + 1) c2).ownBlock = vk.ownBlock ∨ (Value.slice q2 (Sk.length + 1) c2).ownBlock = some (wk.drew.alloc (.cells #[.string u] 9)).heap.size := hat2
              obtain ⟨e3, f3, hoi2⟩ := hod.key hown2 hg2b hat2b
              have hC2 : W2.heap[w.heap.size]? = wk.heap[w.heap.size]? ∧ W2.heap[ka.block]? = wk.heap[ka.block]? := ⟨grown_at (W := wk.drew) hg2b (by have := hod.size; omega) (fun e => by have := own_ge hod.keys _ e; omega), grown_at (W := wk.drew) hg2b (by have := hod.size; omega) (fun e => by have := own_ge hod.keys _ e; omega)⟩
              have hC3 : (W2.setCell ⟨w.heap.size + 2, 3, none⟩ (.slice q2 (Sk.length + 1) c2)).heap[w.heap.size]? = wk.heap[w.heap.size]? ∧ (W2.setCell ⟨w.heap.size + 2, 3, none⟩ (.slice q2 (Sk.length + 1) c2)).heap[ka.block]? = wk.heap[ka.block]? := ⟨chg (W := wk.drew) hg2b (by have := hod.size; omega) (fun e => by have := own_ge hod.keys _ e; omega) (by omega), chg (W := wk.drew) hg2b (by have := hod.size; omega) (fun e => by have := own_ge hod.keys _ e; omega) (by omega)⟩
              clear hown2 hg2 hat2 hg2b hat2b hC1 hC0 u3 v3
              refine wpIn_take (i := 9) (d := (some 90)) (v := ?vqka9) (a' := ?aqka9) rfl rfl (by kernel_rfl) (by kernel_rfl) (by kernel_rfl) (fun _ _ _ h => h) (Or.inl ⟨by rfl, ?yqka9⟩) ?fqka9 ?_
              case yqka9 => (intro wq hq; go_simp; first | done | with_reducible rfl)
              case fqka9 => (go_frame; rfl)
              refine wpIn_do (i := 10) hC2 (by kernel_rfl) rfl (by rfl) ?_
              intro K hK
              go_simp
              refine hK _ _ ?_
              clear hK K
              refine wpIn_done hC3 (by kernel_rfl) ?_ _
              clear hC2 hC3 e3 f3 hod hok
              obtain ⟨wv, hwv⟩ : ∃ wv, wv = W2.setCell ⟨w.heap.size + 2, 3, none⟩ (.slice q2 (Sk.length + 1) c2) := ⟨_, rfl⟩
              rw [← hwv] at hoi2
              have b4 := five_c4 hoi2.box
              have B4 : Hid (wv.cell? ⟨w.heap.size, 4, none⟩ = some (.slice (some ⟨lb, lo, none⟩) nl cl)) := b4
              have HXC : Hid (∀ n v, [Value.int .i64 x0, .int .i64 x1, .string x2, .slice p3 n3 c3, .slice p4 n4 c4][n]? = some v → wv.cell? ⟨lb, lo + m * 5 + n, none⟩ = some v) := fun n v h => (World.cell?_of_block (a := ⟨lb, lo + m * 5 + n, none⟩) (hoi2.below.block lb hlb)).trans (HWC.out n v h)
              have hod := hoi2.drew
              have hV := V wv.drew O (l.getD m J.zero) x0 x1 x2 p3 p4 n3 c3 n4 c4 (fun b hb => Nat.lt_of_lt_of_le (hO b hb) hod.below.size) HMG.out.1 HMG.out.2 (HYJ.out.carry fun b hb => ⟨hb, hod.below.block b (hO b hb)⟩)
              clear b4
              go_wp2
              rw [← hwv]
              clear hwv hoi2
              refine wp_region_in (by kernel_rfl) (fun W => W.heap[w.heap.size]? = wv.heap[w.heap.size]? ∧ W.heap[lb]? = wv.heap[lb]?) ?_
              change wpIn _ _ _ _ _ _ _ _ (World.drew _)
              refine wpIn_take (i := 0) (d := (some 91)) (v := ?vqka0) (a' := ?aqka0) rfl rfl (by kernel_rfl) (by kernel_rfl) (by kernel_rfl) (fun _ _ _ h => h) (Or.inl ⟨by rfl, ?yqka0⟩) ?fqka0 ?_
              case yqka0 => (intro wq hq; go_simp; first | done | with_reducible rfl)
              case fqka0 => (go_frame; rfl)
              refine wpIn_take (i := 2) (d := (some 93)) (v := ?vqka2) (a' := ?aqka2) rfl rfl (by kernel_rfl) (by kernel_rfl) (by kernel_rfl) (fun _ _ _ h => h) (Or.inl ⟨by rfl, ?yqka2⟩) ?fqka2 ?_
              case yqka2 => (intro wq hq; go_simp; first | done | with_reducible rfl)
              case fqka2 => (go_frame; rfl)
              refine wpIn_take (i := 3) (d := (some 94)) (v := ?vqka3) (a' := ?aqka3) rfl rfl (by kernel_rfl) (by kernel_rfl) (by kernel_rfl) (fun _ _ _ h => h) (Or.inl ⟨by rfl, ?yqka3⟩) ?fqka3 ?_
              case yqka3 => (intro wq hq; have q0 := (World.cell?_of_block (a := ⟨w.heap.size, 4, none⟩) hq.1).trans B4.out; go_simp; first | done | with_reducible rfl)
              case fqka3 => (go_frame; rfl)
              refine wpIn_take (i := 4) (d := (some 95)) (v := ?vqka4) (a' := ?aqka4) rfl rfl (by kernel_rfl) (by kernel_rfl) (by kernel_rfl) (fun _ _ _ h => h) (Or.inl ⟨by rfl, ?yqka4⟩) ?fqka4 ?_
              case yqka4 => (intro wq hq; go_simp; first | done | with_reducible rfl)
              case fqka4 => (go_frame; rfl)
              refine wpIn_take (i := 5) (d := (some 96)) (v := ?vqka5) (a' := ?aqka5) rfl rfl (by kernel_rfl) (by kernel_rfl) (by kernel_rfl) (fun _ _ _ h => h) (Or.inl ⟨by rfl, ?yqka5⟩) ?fqka5 ?_
              case yqka5 => (intro wq hq; go_simp; first | done | with_reducible rfl)
              case fqka5 => (go_frame; rfl)
              refine wpIn_take (i := 6) (d := (some 97)) (v := ?vqka6) (a' := ?aqka6) rfl rfl (by kernel_rfl) (by kernel_rfl) (by kernel_rfl) (fun _ _ _ h => h) (Or.inl ⟨by rfl, ?yqka6⟩) ?fqka6 ?_
              case yqka6 => (intro wq hq; have hx := fun n v h => (World.cell?_of_block (a := ⟨lb, lo + m * 5 + n, none⟩) hq.2).trans (HXC.out n v h); have q0 := hx 0 _ rfl; rw [Nat.add_zero] at q0; have q1 := hx 1 _ rfl; have q2 := hx 2 _ rfl; have q3 := hx 3 _ rfl; have q4 := hx 4 _ rfl; clear hx; go_simp; first | done | with_reducible rfl)
              case fqka6 => (go_frame; rfl)
              have hC0 : wv.drew.heap[w.heap.size]? = wv.heap[w.heap.size]? ∧ wv.drew.heap[lb]? = wv.heap[lb]? := ⟨rfl, rfl⟩
              have u4 := five_c4 hod.obj
              refine wpIn_pair (i := 1) (j := 7) hC0 (by kernel_rfl) rfl rfl (by rfl) (by rfl) ?_ ?_
              · intro K hK
                go_simp
                refine hK _ _ ?_
                clear hK K
                refine wpIn_do (i := 7) hC0 (by kernel_rfl) rfl (by rfl) ?_
                intro K hK
                go_simp
                go_wp2_with (go_at_call 18; refine hV.mono ?_; rintro x w4 ⟨⟨y0, y1, y2, y3, y4, y5, y6, y7, y8, rfl, hy⟩, hb4⟩)
                have ho4 := hod.more hb4
                have hy4 := hod.new hb4 hy
                have hC4 : w4.heap[w.heap.size]? = wv.heap[w.heap.size]? ∧ w4.heap[lb]? = wv.heap[lb]? := ⟨hb4.block w.heap.size (by have := hod.size; omega), hb4.block lb (by have := hod.size; omega)⟩
                have v4 := five_c4 ho4.obj
                have hC5 : (w4.alloc (.cells #[.int .i64 y0, .int .i64 y1, .string y2, .slice y3 y4 y5, .slice y6 y7 y8] 25)).heap[w.heap.size]? = wv.heap[w.heap.size]? ∧ (w4.alloc (.cells #[.int .i64 y0, .int .i64 y1, .string y2, .slice y3 y4 y5, .slice y6 y7 y8] 25)).heap[lb]? = wv.heap[lb]? := ⟨(Below.heap_alloc _ _ _ (by have := ho4.size; omega)).trans hC4.1, (Below.heap_alloc _ _ _ (by have := ho4.size; omega)).trans hC4.2⟩
                have v5 := five_c4 (ho4.more ((Below.refl _ _).alloc (Nat.le_refl _) (.cells #[.int .i64 y0, .int .i64 y1, .string y2, .slice y3 y4 y5, .slice y6 y7 y8] 25))).obj
                clear u4 hC0
                refine wpIn_do (i := 8) hC4 (by kernel_rfl) rfl (by rfl) ?_
                intro K hK
                go_simp
                refine hK _ _ ?_
                clear hK K
                obtain ⟨zs, hv1, hv2⟩ := ho4.vals
                refine wpIn_do (i := 9) hC5 (by kernel_rfl) rfl (by rfl) ?_
                intro K hK
                refine wp_append_at (.tmp 92) (.tmp 99) 23 rfl (w.heap.size + 3) 25 (.agg #[.int .i64 0, .int .i64 0, .string ⟨#[]⟩, .slice none 0 0, .slice none 0 0]) 5 80 Tryz.underlying23 Tryz.info25 rfl (by decide) (by decide) _ Sv.length zs rfl (hv1.alloc _) _ [.int .i64 y0, .int .i64 y1, .string y2, .slice y3 y4 y5, .slice y6 y7 y8] rfl rfl (cells_new5 _ _ _ _ _ _ _) (isJ_one hy4) (by omega) (by have := ho4.size; simp; omega) ?_
                intro vl2 W5 hown5 hg5 hat5
                refine hK _ _ ?_
                clear hK K
                obtain ⟨q5, c5, hv5⟩ : ∃ q c, vl2 = .slice q (Sv.length + 1) c := by
                  rcases hown5.2 with ⟨h', h0⟩ | ⟨g', cap', cur, h', _⟩
                  · omega
                  · exact ⟨_, _, h'⟩
                subst hv5
                have hg5b : (w4.alloc (.cells #[.int .i64 y0, .int .i64 y1, .string y2, .slice y3 y4 y5, .slice y6 y7 y8] 25)).grownBy W5 vl.ownBlock := hg5
                have hat5b : (Value.slice q5 (Sv.length + 1) c5).ownBlock = vl.ownBlock ∨ (Value.slice q5 (Sv.length + 1) c5).ownBlock = some (w4.alloc (.cells #[.int .i64 y0, .int .i64 y1, .string y2, .slice y3 y4 y5, .slice y6 y7 y8] 25)).heap.size := hat5
                obtain ⟨e5, f5, hoi3⟩ := ho4.val hv1 hv2 hy4 hown5 hg5b hat5b
                have hC6 : W5.heap[w.heap.size]? = wv.heap[w.heap.size]? ∧ W5.heap[lb]? = wv.heap[lb]? := ⟨(grown_at hg5b (by have := ho4.size; omega) (fun e => by have := own_ge hv1 _ e; omega)).trans hC4.1, (grown_at hg5b (by have := ho4.size; omega) (fun e => by have := own_ge hv1 _ e; omega)).trans hC4.2⟩
                have hC7 : (W5.setCell ⟨w.heap.size + 2, 4, none⟩ (.slice q5 (Sv.length + 1) c5)).heap[w.heap.size]? = wv.heap[w.heap.size]? ∧ (W5.setCell ⟨w.heap.size + 2, 4, none⟩ (.slice q5 (Sv.length + 1) c5)).heap[lb]? = wv.heap[lb]? := ⟨(chg hg5b (by have := ho4.size; omega) (fun e => by have := own_ge hv1 _ e; omega) (by omega)).trans hC4.1, (chg hg5b (by have := ho4.size; omega) (fun e => by have := own_ge hv1 _ e; omega) (by omega)).trans hC4.2⟩
                clear hown5 hg5 hat5 hg5b hat5b hC5 v5 v4
                refine wpIn_take (i := 10) (d := (some 101)) (v := ?vqkaa10) (a' := ?aqkaa10) rfl rfl (by kernel_rfl) (by kernel_rfl) (by kernel_rfl) (fun _ _ _ h => h) (Or.inl ⟨by rfl, ?yqkaa10⟩) ?fqkaa10 ?_
                case yqkaa10 => (intro wq hq; go_simp; first | done | with_reducible rfl)
                case fqkaa10 => (go_frame; rfl)
                refine wpIn_do (i := 11) hC6 (by kernel_rfl) rfl (by rfl) ?_
                intro K hK
                go_simp
                refine hK _ _ ?_
                clear hK K
                refine wpIn_done hC7 (by kernel_rfl) ?_ _
                clear hC6 hC7 e5 f5 hv1 hv2
                go_wp2
                go_roundw
                case rel =>
                  exact ⟨P ++ [m], dn.set m true, _, _, by rw [List.length_append, HPL.out]; go_num, by rw [List.length_append, HPL.out]; simp; omega, ⟨HM3.out, by rw [List.length_set]; exact HP.out.2.1, set_mark HP.out.2.1 hmn HP.out.2.2⟩, by rw [List.map_append, List.map_append, HSK.out, HSV.out]; simp only [List.map_cons, List.map_nil]; rw [HU.out]; exact hoi3⟩
                case measure => simp [intOf]; omega
              · intro K hK
                go_simp
                go_wp2_with (go_at_call 18; refine hV.mono ?_; rintro x w4 ⟨⟨y0, y1, y2, y3, y4, y5, y6, y7, y8, rfl, hy⟩, hb4⟩)
                have ho4 := hod.more hb4
                have hy4 := hod.new hb4 hy
                have hC4 : w4.heap[w.heap.size]? = wv.heap[w.heap.size]? ∧ w4.heap[lb]? = wv.heap[lb]? := ⟨hb4.block w.heap.size (by have := hod.size; omega), hb4.block lb (by have := hod.size; omega)⟩
                have v4 := five_c4 ho4.obj
                have hC5 : (w4.alloc (.cells #[.int .i64 y0, .int .i64 y1, .string y2, .slice y3 y4 y5, .slice y6 y7 y8] 25)).heap[w.heap.size]? = wv.heap[w.heap.size]? ∧ (w4.alloc (.cells #[.int .i64 y0, .int .i64 y1, .string y2, .slice y3 y4 y5, .slice y6 y7 y8] 25)).heap[lb]? = wv.heap[lb]? := ⟨(Below.heap_alloc _ _ _ (by have := ho4.size; omega)).trans hC4.1, (Below.heap_alloc _ _ _ (by have := ho4.size; omega)).trans hC4.2⟩
                have v5 := five_c4 (ho4.more ((Below.refl _ _).alloc (Nat.le_refl _) (.cells #[.int .i64 y0, .int .i64 y1, .string y2, .slice y3 y4 y5, .slice y6 y7 y8] 25))).obj
                clear u4 hC0
                refine wpIn_pair (i := 1) (j := 8) hC4 (by kernel_rfl) rfl rfl (by rfl) (by rfl) ?_ ?_
                · intro K hK
                  go_simp
                  refine hK _ _ ?_
                  clear hK K
                  refine wpIn_do (i := 8) hC4 (by kernel_rfl) rfl (by rfl) ?_
                  intro K hK
                  go_simp
                  refine hK _ _ ?_
                  clear hK K
                  obtain ⟨zs, hv1, hv2⟩ := ho4.vals
                  refine wpIn_do (i := 9) hC5 (by kernel_rfl) rfl (by rfl) ?_
                  intro K hK
                  refine wp_append_at (.tmp 92) (.tmp 99) 23 rfl (w.heap.size + 3) 25 (.agg #[.int .i64 0, .int .i64 0, .string ⟨#[]⟩, .slice none 0 0, .slice none 0 0]) 5 80 Tryz.underlying23 Tryz.info25 rfl (by decide) (by decide) _ Sv.length zs rfl (hv1.alloc _) _ [.int .i64 y0, .int .i64 y1, .string y2, .slice y3 y4 y5, .slice y6 y7 y8] rfl rfl (cells_new5 _ _ _ _ _ _ _) (isJ_one hy4) (by omega) (by have := ho4.size; simp; omega) ?_
                  intro vl2 W5 hown5 hg5 hat5
                  refine hK _ _ ?_
                  clear hK K
                  obtain ⟨q5, c5, hv5⟩ : ∃ q c, vl2 = .slice q (Sv.length + 1) c := by
                    rcases hown5.2 with ⟨h', h0⟩ | ⟨g', cap', cur, h', _⟩
                    · omega
                    · exact ⟨_, _, h'⟩
                  subst hv5
                  have hg5b : (w4.alloc (.cells #[.int .i64 y0, .int .i64 y1, .string y2, .slice y3 y4 y5, .slice y6 y7 y8] 25)).grownBy W5 vl.ownBlock := hg5
                  have hat5b : (Value.slice q5 (Sv.length + 1) c5).ownBlock = vl.ownBlock ∨ (Value.slice q5 (Sv.length + 1) c5).ownBlock = some (w4.alloc (.cells #[.int .i64 y0, .int .i64 y1, .string y2, .slice y3 y4 y5, .slice y6 y7 y8] 25)).heap.size := hat5
                  obtain ⟨e5, f5, hoi3⟩ := ho4.val hv1 hv2 hy4 hown5 hg5b hat5b
                  have hC6 : W5.heap[w.heap.size]? = wv.heap[w.heap.size]? ∧ W5.heap[lb]? = wv.heap[lb]? := ⟨(grown_at hg5b (by have := ho4.size; omega) (fun e => by have := own_ge hv1 _ e; omega)).trans hC4.1, (grown_at hg5b (by have := ho4.size; omega) (fun e => by have := own_ge hv1 _ e; omega)).trans hC4.2⟩
                  have hC7 : (W5.setCell ⟨w.heap.size + 2, 4, none⟩ (.slice q5 (Sv.length + 1) c5)).heap[w.heap.size]? = wv.heap[w.heap.size]? ∧ (W5.setCell ⟨w.heap.size + 2, 4, none⟩ (.slice q5 (Sv.length + 1) c5)).heap[lb]? = wv.heap[lb]? := ⟨(chg hg5b (by have := ho4.size; omega) (fun e => by have := own_ge hv1 _ e; omega) (by omega)).trans hC4.1, (chg hg5b (by have := ho4.size; omega) (fun e => by have := own_ge hv1 _ e; omega) (by omega)).trans hC4.2⟩
                  clear hown5 hg5 hat5 hg5b hat5b hC5 v5 v4
                  refine wpIn_take (i := 10) (d := (some 101)) (v := ?vqkab10) (a' := ?aqkab10) rfl rfl (by kernel_rfl) (by kernel_rfl) (by kernel_rfl) (fun _ _ _ h => h) (Or.inl ⟨by rfl, ?yqkab10⟩) ?fqkab10 ?_
                  case yqkab10 => (intro wq hq; go_simp; first | done | with_reducible rfl)
                  case fqkab10 => (go_frame; rfl)
                  refine wpIn_do (i := 11) hC6 (by kernel_rfl) rfl (by rfl) ?_
                  intro K hK
                  go_simp
                  refine hK _ _ ?_
                  clear hK K
                  refine wpIn_done hC7 (by kernel_rfl) ?_ _
                  clear hC6 hC7 e5 f5 hv1 hv2
                  go_wp2
                  go_roundw
                  case rel =>
                    exact ⟨P ++ [m], dn.set m true, _, _, by rw [List.length_append, HPL.out]; go_num, by rw [List.length_append, HPL.out]; simp; omega, ⟨HM3.out, by rw [List.length_set]; exact HP.out.2.1, set_mark HP.out.2.1 hmn HP.out.2.2⟩, by rw [List.map_append, List.map_append, HSK.out, HSV.out]; simp only [List.map_cons, List.map_nil]; rw [HU.out]; exact hoi3⟩
                  case measure => simp [intOf]; omega
                · intro K hK
                  go_simp
                  refine hK _ _ ?_
                  clear hK K
                  refine wpIn_do (i := 1) hC5 (by kernel_rfl) rfl (by rfl) ?_
                  intro K hK
                  go_simp
                  refine hK _ _ ?_
                  clear hK K
                  obtain ⟨zs, hv1, hv2⟩ := ho4.vals
                  refine wpIn_do (i := 9) hC5 (by kernel_rfl) rfl (by rfl) ?_
                  intro K hK
                  refine wp_append_at (.tmp 92) (.tmp 99) 23 rfl (w.heap.size + 3) 25 (.agg #[.int .i64 0, .int .i64 0, .string ⟨#[]⟩, .slice none 0 0, .slice none 0 0]) 5 80 Tryz.underlying23 Tryz.info25 rfl (by decide) (by decide) _ Sv.length zs rfl (hv1.alloc _) _ [.int .i64 y0, .int .i64 y1, .string y2, .slice y3 y4 y5, .slice y6 y7 y8] rfl rfl (cells_new5 _ _ _ _ _ _ _) (isJ_one hy4) (by omega) (by have := ho4.size; simp; omega) ?_
                  intro vl2 W5 hown5 hg5 hat5
                  refine hK _ _ ?_
                  clear hK K
                  obtain ⟨q5, c5, hv5⟩ : ∃ q c, vl2 = .slice q (Sv.length + 1) c := by
                    rcases hown5.2 with ⟨h', h0⟩ | ⟨g', cap', cur, h', _⟩
                    · omega
                    · exact ⟨_, _, h'⟩
                  subst hv5
                  have hg5b : (w4.alloc (.cells #[.int .i64 y0, .int .i64 y1, .string y2, .slice y3 y4 y5, .slice y6 y7 y8] 25)).grownBy W5 vl.ownBlock := hg5
                  have hat5b : (Value.slice q5 (Sv.length + 1) c5).ownBlock = vl.ownBlock ∨ (Value.slice q5 (Sv.length + 1) c5).ownBlock = some (w4.alloc (.cells #[.int .i64 y0, .int .i64 y1, .string y2, .slice y3 y4 y5, .slice y6 y7 y8] 25)).heap.size := hat5
                  obtain ⟨e5, f5, hoi3⟩ := ho4.val hv1 hv2 hy4 hown5 hg5b hat5b
                  have hC6 : W5.heap[w.heap.size]? = wv.heap[w.heap.size]? ∧ W5.heap[lb]? = wv.heap[lb]? := ⟨(grown_at hg5b (by have := ho4.size; omega) (fun e => by have := own_ge hv1 _ e; omega)).trans hC4.1, (grown_at hg5b (by have := ho4.size; omega) (fun e => by have := own_ge hv1 _ e; omega)).trans hC4.2⟩
                  have hC7 : (W5.setCell ⟨w.heap.size + 2, 4, none⟩ (.slice q5 (Sv.length + 1) c5)).heap[w.heap.size]? = wv.heap[w.heap.size]? ∧ (W5.setCell ⟨w.heap.size + 2, 4, none⟩ (.slice q5 (Sv.length + 1) c5)).heap[lb]? = wv.heap[lb]? := ⟨(chg hg5b (by have := ho4.size; omega) (fun e => by have := own_ge hv1 _ e; omega) (by omega)).trans hC4.1, (chg hg5b (by have := ho4.size; omega) (fun e => by have := own_ge hv1 _ e; omega) (by omega)).trans hC4.2⟩
                  clear hown5 hg5 hat5 hg5b hat5b hC5 v5 v4
                  refine wpIn_take (i := 10) (d := (some 101)) (v := ?vqkac10) (a' := ?aqkac10) rfl rfl (by kernel_rfl) (by kernel_rfl) (by kernel_rfl) (fun _ _ _ h => h) (Or.inl ⟨by rfl, ?yqkac10⟩) ?fqkac10 ?_
                  case yqkac10 => (intro wq hq; go_simp; first | done | with_reducible rfl)
                  case fqkac10 => (go_frame; rfl)
                  refine wpIn_do (i := 11) hC6 (by kernel_rfl) rfl (by rfl) ?_
                  intro K hK
                  go_simp
                  refine hK _ _ ?_
                  clear hK K
                  refine wpIn_done hC7 (by kernel_rfl) ?_ _
                  clear hC6 hC7 e5 f5 hv1 hv2
                  go_wp2
                  go_roundw
                  case rel =>
                    exact ⟨P ++ [m], dn.set m true, _, _, by rw [List.length_append, HPL.out]; go_num, by rw [List.length_append, HPL.out]; simp; omega, ⟨HM3.out, by rw [List.length_set]; exact HP.out.2.1, set_mark HP.out.2.1 hmn HP.out.2.2⟩, by rw [List.map_append, List.map_append, HSK.out, HSV.out]; simp only [List.map_cons, List.map_nil]; rw [HU.out]; exact hoi3⟩
                  case measure => simp [intOf]; omega
            · intro K hK
              go_simp
              refine hK _ _ ?_
              clear hK K
              refine wpIn_do (i := 1) hC1 (by kernel_rfl) rfl (by rfl) ?_
              intro K hK
              go_simp
              refine hK _ _ ?_
              clear hK K
              refine wpIn_do (i := 8) hC1 (by kernel_rfl) rfl (by rfl) ?_
              intro K hK
              refine wp_append_at (.tmp 82) (.tmp 88) 22 rfl (w.heap.size + 3) 9 (.string ⟨#[]⟩) 1 16 Tryz.underlying22 Tryz.info9 rfl (by decide) (by decide) _ Sk.length (Sk.map Value.string) rfl (hod.keys.alloc _) _ [.string u] rfl rfl (cell_one_new _ _ _) (str_one u) (by omega) (by have := hod.size; simp at this ⊢; omega) ?_
              intro vk2 W2 hown2 hg2 hat2
              refine hK _ _ ?_
              clear hK K
              obtain ⟨q2, c2, hv2⟩ : ∃ q c, vk2 = .slice q (Sk.length + 1) c := by
                rcases hown2.2 with ⟨h', h0⟩ | ⟨g', cap', cur, h', _⟩
                · omega
                · exact ⟨_, _, h'⟩
              subst hv2
              have hg2b : (wk.drew.alloc (.cells #[.string u] 9)).grownBy W2 vk.ownBlock := hg2
              have hat2b : (Value.slice q2 (Sk.length + 1) c2).ownBlock = vk.ownBlock ∨ (Value.slice q2 (Sk.length + 1) c2).ownBlock = some (wk.drew.alloc (.cells #[.string u] 9)).heap.size := hat2
              obtain ⟨e3, f3, hoi2⟩ := hod.key hown2 hg2b hat2b
              have hC2 : W2.heap[w.heap.size]? = wk.heap[w.heap.size]? ∧ W2.heap[ka.block]? = wk.heap[ka.block]? := ⟨grown_at (W := wk.drew) hg2b (by have := hod.size; omega) (fun e => by have := own_ge hod.keys _ e; omega), grown_at (W := wk.drew) hg2b (by have := hod.size; omega) (fun e => by have := own_ge hod.keys _ e; omega)⟩
              have hC3 : (W2.setCell ⟨w.heap.size + 2, 3, none⟩ (.slice q2 (Sk.length + 1) c2)).heap[w.heap.size]? = wk.heap[w.heap.size]? ∧ (W2.setCell ⟨w.heap.size + 2, 3, none⟩ (.slice q2 (Sk.length + 1) c2)).heap[ka.block]? = wk.heap[ka.block]? := ⟨chg (W := wk.drew) hg2b (by have := hod.size; omega) (fun e => by have := own_ge hod.keys _ e; omega) (by omega), chg (W := wk.drew) hg2b (by have := hod.size; omega) (fun e => by have := own_ge hod.keys _ e; omega) (by omega)⟩
              clear hown2 hg2 hat2 hg2b hat2b hC1 hC0 u3 v3
              refine wpIn_take (i := 9) (d := (some 90)) (v := ?vqkb9) (a' := ?aqkb9) rfl rfl (by kernel_rfl) (by kernel_rfl) (by kernel_rfl) (fun _ _ _ h => h) (Or.inl ⟨by rfl, ?yqkb9⟩) ?fqkb9 ?_
              case yqkb9 => (intro wq hq; go_simp; first | done | with_reducible rfl)
              case fqkb9 => (go_frame; rfl)
              refine wpIn_do (i := 10) hC2 (by kernel_rfl) rfl (by rfl) ?_
              intro K hK
              go_simp
              refine hK _ _ ?_
              clear hK K
              refine wpIn_done hC3 (by kernel_rfl) ?_ _
              clear hC2 hC3 e3 f3 hod hok
              obtain ⟨wv, hwv⟩ : ∃ wv, wv = W2.setCell ⟨w.heap.size + 2, 3, none⟩ (.slice q2 (Sk.length + 1) c2) := ⟨_, rfl⟩
              rw [← hwv] at hoi2
              have b4 := five_c4 hoi2.box
              have B4 : Hid (wv.cell? ⟨w.heap.size, 4, none⟩ = some (.slice (some ⟨lb, lo, none⟩) nl cl)) := b4
              have HXC : Hid (∀ n v, [Value.int .i64 x0, .int .i64 x1, .string x2, .slice p3 n3 c3, .slice p4 n4 c4][n]? = some v → wv.cell? ⟨lb, lo + m * 5 + n, none⟩ = some v) := fun n v h => (World.cell?_of_block (a := ⟨lb, lo + m * 5 + n, none⟩) (hoi2.below.block lb hlb)).trans (HWC.out n v h)
              have hod := hoi2.drew
              have hV := V wv.drew O (l.getD m J.zero) x0 x1 x2 p3 p4 n3 c3 n4 c4 (fun b hb => Nat.lt_of_lt_of_le (hO b hb) hod.below.size) HMG.out.1 HMG.out.2 (HYJ.out.carry fun b hb => ⟨hb, hod.below.block b (hO b hb)⟩)
              clear b4
              go_wp2
              rw [← hwv]
              clear hwv hoi2
              refine wp_region_in (by kernel_rfl) (fun W => W.heap[w.heap.size]? = wv.heap[w.heap.size]? ∧ W.heap[lb]? = wv.heap[lb]?) ?_
              change wpIn _ _ _ _ _ _ _ _ (World.drew _)
              refine wpIn_take (i := 0) (d := (some 91)) (v := ?vqkb0) (a' := ?aqkb0) rfl rfl (by kernel_rfl) (by kernel_rfl) (by kernel_rfl) (fun _ _ _ h => h) (Or.inl ⟨by rfl, ?yqkb0⟩) ?fqkb0 ?_
              case yqkb0 => (intro wq hq; go_simp; first | done | with_reducible rfl)
              case fqkb0 => (go_frame; rfl)
              refine wpIn_take (i := 2) (d := (some 93)) (v := ?vqkb2) (a' := ?aqkb2) rfl rfl (by kernel_rfl) (by kernel_rfl) (by kernel_rfl) (fun _ _ _ h => h) (Or.inl ⟨by rfl, ?yqkb2⟩) ?fqkb2 ?_
              case yqkb2 => (intro wq hq; go_simp; first | done | with_reducible rfl)
              case fqkb2 => (go_frame; rfl)
              refine wpIn_take (i := 3) (d := (some 94)) (v := ?vqkb3) (a' := ?aqkb3) rfl rfl (by kernel_rfl) (by kernel_rfl) (by kernel_rfl) (fun _ _ _ h => h) (Or.inl ⟨by rfl, ?yqkb3⟩) ?fqkb3 ?_
              case yqkb3 => (intro wq hq; have q0 := (World.cell?_of_block (a := ⟨w.heap.size, 4, none⟩) hq.1).trans B4.out; go_simp; first | done | with_reducible rfl)
              case fqkb3 => (go_frame; rfl)
              refine wpIn_take (i := 4) (d := (some 95)) (v := ?vqkb4) (a' := ?aqkb4) rfl rfl (by kernel_rfl) (by kernel_rfl) (by kernel_rfl) (fun _ _ _ h => h) (Or.inl ⟨by rfl, ?yqkb4⟩) ?fqkb4 ?_
              case yqkb4 => (intro wq hq; go_simp; first | done | with_reducible rfl)
              case fqkb4 => (go_frame; rfl)
              refine wpIn_take (i := 5) (d := (some 96)) (v := ?vqkb5) (a' := ?aqkb5) rfl rfl (by kernel_rfl) (by kernel_rfl) (by kernel_rfl) (fun _ _ _ h => h) (Or.inl ⟨by rfl, ?yqkb5⟩) ?fqkb5 ?_
              case yqkb5 => (intro wq hq; go_simp; first | done | with_reducible rfl)
              case fqkb5 => (go_frame; rfl)
              refine wpIn_take (i := 6) (d := (some 97)) (v := ?vqkb6) (a' := ?aqkb6) rfl rfl (by kernel_rfl) (by kernel_rfl) (by kernel_rfl) (fun _ _ _ h => h) (Or.inl ⟨by rfl, ?yqkb6⟩) ?fqkb6 ?_
              case yqkb6 => (intro wq hq; have hx := fun n v h => (World.cell?_of_block (a := ⟨lb, lo + m * 5 + n, none⟩) hq.2).trans (HXC.out n v h); have q0 := hx 0 _ rfl; rw [Nat.add_zero] at q0; have q1 := hx 1 _ rfl; have q2 := hx 2 _ rfl; have q3 := hx 3 _ rfl; have q4 := hx 4 _ rfl; clear hx; go_simp; first | done | with_reducible rfl)
              case fqkb6 => (go_frame; rfl)
              have hC0 : wv.drew.heap[w.heap.size]? = wv.heap[w.heap.size]? ∧ wv.drew.heap[lb]? = wv.heap[lb]? := ⟨rfl, rfl⟩
              have u4 := five_c4 hod.obj
              refine wpIn_pair (i := 1) (j := 7) hC0 (by kernel_rfl) rfl rfl (by rfl) (by rfl) ?_ ?_
              · intro K hK
                go_simp
                refine hK _ _ ?_
                clear hK K
                refine wpIn_do (i := 7) hC0 (by kernel_rfl) rfl (by rfl) ?_
                intro K hK
                go_simp
                go_wp2_with (go_at_call 18; refine hV.mono ?_; rintro x w4 ⟨⟨y0, y1, y2, y3, y4, y5, y6, y7, y8, rfl, hy⟩, hb4⟩)
                have ho4 := hod.more hb4
                have hy4 := hod.new hb4 hy
                have hC4 : w4.heap[w.heap.size]? = wv.heap[w.heap.size]? ∧ w4.heap[lb]? = wv.heap[lb]? := ⟨hb4.block w.heap.size (by have := hod.size; omega), hb4.block lb (by have := hod.size; omega)⟩
                have v4 := five_c4 ho4.obj
                have hC5 : (w4.alloc (.cells #[.int .i64 y0, .int .i64 y1, .string y2, .slice y3 y4 y5, .slice y6 y7 y8] 25)).heap[w.heap.size]? = wv.heap[w.heap.size]? ∧ (w4.alloc (.cells #[.int .i64 y0, .int .i64 y1, .string y2, .slice y3 y4 y5, .slice y6 y7 y8] 25)).heap[lb]? = wv.heap[lb]? := ⟨(Below.heap_alloc _ _ _ (by have := ho4.size; omega)).trans hC4.1, (Below.heap_alloc _ _ _ (by have := ho4.size; omega)).trans hC4.2⟩
                have v5 := five_c4 (ho4.more ((Below.refl _ _).alloc (Nat.le_refl _) (.cells #[.int .i64 y0, .int .i64 y1, .string y2, .slice y3 y4 y5, .slice y6 y7 y8] 25))).obj
                clear u4 hC0
                refine wpIn_do (i := 8) hC4 (by kernel_rfl) rfl (by rfl) ?_
                intro K hK
                go_simp
                refine hK _ _ ?_
                clear hK K
                obtain ⟨zs, hv1, hv2⟩ := ho4.vals
                refine wpIn_do (i := 9) hC5 (by kernel_rfl) rfl (by rfl) ?_
                intro K hK
                refine wp_append_at (.tmp 92) (.tmp 99) 23 rfl (w.heap.size + 3) 25 (.agg #[.int .i64 0, .int .i64 0, .string ⟨#[]⟩, .slice none 0 0, .slice none 0 0]) 5 80 Tryz.underlying23 Tryz.info25 rfl (by decide) (by decide) _ Sv.length zs rfl (hv1.alloc _) _ [.int .i64 y0, .int .i64 y1, .string y2, .slice y3 y4 y5, .slice y6 y7 y8] rfl rfl (cells_new5 _ _ _ _ _ _ _) (isJ_one hy4) (by omega) (by have := ho4.size; simp; omega) ?_
                intro vl2 W5 hown5 hg5 hat5
                refine hK _ _ ?_
                clear hK K
                obtain ⟨q5, c5, hv5⟩ : ∃ q c, vl2 = .slice q (Sv.length + 1) c := by
                  rcases hown5.2 with ⟨h', h0⟩ | ⟨g', cap', cur, h', _⟩
                  · omega
                  · exact ⟨_, _, h'⟩
                subst hv5
                have hg5b : (w4.alloc (.cells #[.int .i64 y0, .int .i64 y1, .string y2, .slice y3 y4 y5, .slice y6 y7 y8] 25)).grownBy W5 vl.ownBlock := hg5
                have hat5b : (Value.slice q5 (Sv.length + 1) c5).ownBlock = vl.ownBlock ∨ (Value.slice q5 (Sv.length + 1) c5).ownBlock = some (w4.alloc (.cells #[.int .i64 y0, .int .i64 y1, .string y2, .slice y3 y4 y5, .slice y6 y7 y8] 25)).heap.size := hat5
                obtain ⟨e5, f5, hoi3⟩ := ho4.val hv1 hv2 hy4 hown5 hg5b hat5b
                have hC6 : W5.heap[w.heap.size]? = wv.heap[w.heap.size]? ∧ W5.heap[lb]? = wv.heap[lb]? := ⟨(grown_at hg5b (by have := ho4.size; omega) (fun e => by have := own_ge hv1 _ e; omega)).trans hC4.1, (grown_at hg5b (by have := ho4.size; omega) (fun e => by have := own_ge hv1 _ e; omega)).trans hC4.2⟩
                have hC7 : (W5.setCell ⟨w.heap.size + 2, 4, none⟩ (.slice q5 (Sv.length + 1) c5)).heap[w.heap.size]? = wv.heap[w.heap.size]? ∧ (W5.setCell ⟨w.heap.size + 2, 4, none⟩ (.slice q5 (Sv.length + 1) c5)).heap[lb]? = wv.heap[lb]? := ⟨(chg hg5b (by have := ho4.size; omega) (fun e => by have := own_ge hv1 _ e; omega) (by omega)).trans hC4.1, (chg hg5b (by have := ho4.size; omega) (fun e => by have := own_ge hv1 _ e; omega) (by omega)).trans hC4.2⟩
                clear hown5 hg5 hat5 hg5b hat5b hC5 v5 v4
                refine wpIn_take (i := 10) (d := (some 101)) (v := ?vqkba10) (a' := ?aqkba10) rfl rfl (by kernel_rfl) (by kernel_rfl) (by kernel_rfl) (fun _ _ _ h => h) (Or.inl ⟨by rfl, ?yqkba10⟩) ?fqkba10 ?_
                case yqkba10 => (intro wq hq; go_simp; first | done | with_reducible rfl)
                case fqkba10 => (go_frame; rfl)
                refine wpIn_do (i := 11) hC6 (by kernel_rfl) rfl (by rfl) ?_
                intro K hK
                go_simp
                refine hK _ _ ?_
                clear hK K
                refine wpIn_done hC7 (by kernel_rfl) ?_ _
                clear hC6 hC7 e5 f5 hv1 hv2
                go_wp2
                go_roundw
                case rel =>
                  exact ⟨P ++ [m], dn.set m true, _, _, by rw [List.length_append, HPL.out]; go_num, by rw [List.length_append, HPL.out]; simp; omega, ⟨HM3.out, by rw [List.length_set]; exact HP.out.2.1, set_mark HP.out.2.1 hmn HP.out.2.2⟩, by rw [List.map_append, List.map_append, HSK.out, HSV.out]; simp only [List.map_cons, List.map_nil]; rw [HU.out]; exact hoi3⟩
                case measure => simp [intOf]; omega
              · intro K hK
                go_simp
                go_wp2_with (go_at_call 18; refine hV.mono ?_; rintro x w4 ⟨⟨y0, y1, y2, y3, y4, y5, y6, y7, y8, rfl, hy⟩, hb4⟩)
                have ho4 := hod.more hb4
                have hy4 := hod.new hb4 hy
                have hC4 : w4.heap[w.heap.size]? = wv.heap[w.heap.size]? ∧ w4.heap[lb]? = wv.heap[lb]? := ⟨hb4.block w.heap.size (by have := hod.size; omega), hb4.block lb (by have := hod.size; omega)⟩
                have v4 := five_c4 ho4.obj
                have hC5 : (w4.alloc (.cells #[.int .i64 y0, .int .i64 y1, .string y2, .slice y3 y4 y5, .slice y6 y7 y8] 25)).heap[w.heap.size]? = wv.heap[w.heap.size]? ∧ (w4.alloc (.cells #[.int .i64 y0, .int .i64 y1, .string y2, .slice y3 y4 y5, .slice y6 y7 y8] 25)).heap[lb]? = wv.heap[lb]? := ⟨(Below.heap_alloc _ _ _ (by have := ho4.size; omega)).trans hC4.1, (Below.heap_alloc _ _ _ (by have := ho4.size; omega)).trans hC4.2⟩
                have v5 := five_c4 (ho4.more ((Below.refl _ _).alloc (Nat.le_refl _) (.cells #[.int .i64 y0, .int .i64 y1, .string y2, .slice y3 y4 y5, .slice y6 y7 y8] 25))).obj
                clear u4 hC0
                refine wpIn_pair (i := 1) (j := 8) hC4 (by kernel_rfl) rfl rfl (by rfl) (by rfl) ?_ ?_
                · intro K hK
                  go_simp
                  refine hK _ _ ?_
                  clear hK K
                  refine wpIn_do (i := 8) hC4 (by kernel_rfl) rfl (by rfl) ?_
                  intro K hK
                  go_simp
                  refine hK _ _ ?_
                  clear hK K
                  obtain ⟨zs, hv1, hv2⟩ := ho4.vals
                  refine wpIn_do (i := 9) hC5 (by kernel_rfl) rfl (by rfl) ?_
                  intro K hK
                  refine wp_append_at (.tmp 92) (.tmp 99) 23 rfl (w.heap.size + 3) 25 (.agg #[.int .i64 0, .int .i64 0, .string ⟨#[]⟩, .slice none 0 0, .slice none 0 0]) 5 80 Tryz.underlying23 Tryz.info25 rfl (by decide) (by decide) _ Sv.length zs rfl (hv1.alloc _) _ [.int .i64 y0, .int .i64 y1, .string y2, .slice y3 y4 y5, .slice y6 y7 y8] rfl rfl (cells_new5 _ _ _ _ _ _ _) (isJ_one hy4) (by omega) (by have := ho4.size; simp; omega) ?_
                  intro vl2 W5 hown5 hg5 hat5
                  refine hK _ _ ?_
                  clear hK K
                  obtain ⟨q5, c5, hv5⟩ : ∃ q c, vl2 = .slice q (Sv.length + 1) c := by
                    rcases hown5.2 with ⟨h', h0⟩ | ⟨g', cap', cur, h', _⟩
                    · omega
                    · exact ⟨_, _, h'⟩
                  subst hv5
                  have hg5b : (w4.alloc (.cells #[.int .i64 y0, .int .i64 y1, .string y2, .slice y3 y4 y5, .slice y6 y7 y8] 25)).grownBy W5 vl.ownBlock := hg5
                  have hat5b : (Value.slice q5 (Sv.length + 1) c5).ownBlock = vl.ownBlock ∨ (Value.slice q5 (Sv.length + 1) c5).ownBlock = some (w4.alloc (.cells #[.int .i64 y0, .int .i64 y1, .string y2, .slice y3 y4 y5, .slice y6 y7 y8] 25)).heap.size := hat5
                  obtain ⟨e5, f5, hoi3⟩ := ho4.val hv1 hv2 hy4 hown5 hg5b hat5b
                  have hC6 : W5.heap[w.heap.size]? = wv.heap[w.heap.size]? ∧ W5.heap[lb]? = wv.heap[lb]? := ⟨(grown_at hg5b (by have := ho4.size; omega) (fun e => by have := own_ge hv1 _ e; omega)).trans hC4.1, (grown_at hg5b (by have := ho4.size; omega) (fun e => by have := own_ge hv1 _ e; omega)).trans hC4.2⟩
                  have hC7 : (W5.setCell ⟨w.heap.size + 2, 4, none⟩ (.slice q5 (Sv.length + 1) c5)).heap[w.heap.size]? = wv.heap[w.heap.size]? ∧ (W5.setCell ⟨w.heap.size + 2, 4, none⟩ (.slice q5 (Sv.length + 1) c5)).heap[lb]? = wv.heap[lb]? := ⟨(chg hg5b (by have := ho4.size; omega) (fun e => by have := own_ge hv1 _ e; omega) (by omega)).trans hC4.1, (chg hg5b (by have := ho4.size; omega) (fun e => by have := own_ge hv1 _ e; omega) (by omega)).trans hC4.2⟩
                  clear hown5 hg5 hat5 hg5b hat5b hC5 v5 v4
                  refine wpIn_take (i := 10) (d := (some 101)) (v := ?vqkbb10) (a' := ?aqkbb10) rfl rfl (by kernel_rfl) (by kernel_rfl) (by kernel_rfl) (fun _ _ _ h => h) (Or.inl ⟨by rfl, ?yqkbb10⟩) ?fqkbb10 ?_
                  case yqkbb10 => (intro wq hq; go_simp; first | done | with_reducible rfl)
                  case fqkbb10 => (go_frame; rfl)
                  refine wpIn_do (i := 11) hC6 (by kernel_rfl) rfl (by rfl) ?_
                  intro K hK
                  go_simp
                  refine hK _ _ ?_
                  clear hK K
                  refine wpIn_done hC7 (by kernel_rfl) ?_ _
                  clear hC6 hC7 e5 f5 hv1 hv2
                  go_wp2
                  go_roundw
                  case rel =>
                    exact ⟨P ++ [m], dn.set m true, _, _, by rw [List.length_append, HPL.out]; go_num, by rw [List.length_append, HPL.out]; simp; omega, ⟨HM3.out, by rw [List.length_set]; exact HP.out.2.1, set_mark HP.out.2.1 hmn HP.out.2.2⟩, by rw [List.map_append, List.map_append, HSK.out, HSV.out]; simp only [List.map_cons, List.map_nil]; rw [HU.out]; exact hoi3⟩
                  case measure => simp [intOf]; omega
                · intro K hK
                  go_simp
                  refine hK _ _ ?_
                  clear hK K
                  refine wpIn_do (i := 1) hC5 (by kernel_rfl) rfl (by rfl) ?_
                  intro K hK
                  go_simp
                  refine hK _ _ ?_
                  clear hK K
                  obtain ⟨zs, hv1, hv2⟩ := ho4.vals
                  refine wpIn_do (i := 9) hC5 (by kernel_rfl) rfl (by rfl) ?_
                  intro K hK
                  refine wp_append_at (.tmp 92) (.tmp 99) 23 rfl (w.heap.size + 3) 25 (.agg #[.int .i64 0, .int .i64 0, .string ⟨#[]⟩, .slice none 0 0, .slice none 0 0]) 5 80 Tryz.underlying23 Tryz.info25 rfl (by decide) (by decide) _ Sv.length zs rfl (hv1.alloc _) _ [.int .i64 y0, .int .i64 y1, .string y2, .slice y3 y4 y5, .slice y6 y7 y8] rfl rfl (cells_new5 _ _ _ _ _ _ _) (isJ_one hy4) (by omega) (by have := ho4.size; simp; omega) ?_
                  intro vl2 W5 hown5 hg5 hat5
                  refine hK _ _ ?_
                  clear hK K
                  obtain ⟨q5, c5, hv5⟩ : ∃ q c, vl2 = .slice q (Sv.length + 1) c := by
                    rcases hown5.2 with ⟨h', h0⟩ | ⟨g', cap', cur, h', _⟩
                    · omega
                    · exact ⟨_, _, h'⟩
                  subst hv5
                  have hg5b : (w4.alloc (.cells #[.int .i64 y0, .int .i64 y1, .string y2, .slice y3 y4 y5, .slice y6 y7 y8] 25)).grownBy W5 vl.ownBlock := hg5
                  have hat5b : (Value.slice q5 (Sv.length + 1) c5).ownBlock = vl.ownBlock ∨ (Value.slice q5 (Sv.length + 1) c5).ownBlock = some (w4.alloc (.cells #[.int .i64 y0, .int .i64 y1, .string y2, .slice y3 y4 y5, .slice y6 y7 y8] 25)).heap.size := hat5
                  obtain ⟨e5, f5, hoi3⟩ := ho4.val hv1 hv2 hy4 hown5 hg5b hat5b
                  have hC6 : W5.heap[w.heap.size]? = wv.heap[w.heap.size]? ∧ W5.heap[lb]? = wv.heap[lb]? := ⟨(grown_at hg5b (by have := ho4.size; omega) (fun e => by have := own_ge hv1 _ e; omega)).trans hC4.1, (grown_at hg5b (by have := ho4.size; omega) (fun e => by have := own_ge hv1 _ e; omega)).trans hC4.2⟩
                  have hC7 : (W5.setCell ⟨w.heap.size + 2, 4, none⟩ (.slice q5 (Sv.length + 1) c5)).heap[w.heap.size]? = wv.heap[w.heap.size]? ∧ (W5.setCell ⟨w.heap.size + 2, 4, none⟩ (.slice q5 (Sv.length + 1) c5)).heap[lb]? = wv.heap[lb]? := ⟨(chg hg5b (by have := ho4.size; omega) (fun e => by have := own_ge hv1 _ e; omega) (by omega)).trans hC4.1, (chg hg5b (by have := ho4.size; omega) (fun e => by have := own_ge hv1 _ e; omega) (by omega)).trans hC4.2⟩
                  clear hown5 hg5 hat5 hg5b hat5b hC5 v5 v4
                  refine wpIn_take (i := 10) (d := (some 101)) (v := ?vqkbc10) (a' := ?aqkbc10) rfl rfl (by kernel_rfl) (by kernel_rfl) (by kernel_rfl) (fun _ _ _ h => h) (Or.inl ⟨by rfl, ?yqkbc10⟩) ?fqkbc10 ?_
                  case yqkbc10 => (intro wq hq; go_simp; first | done | with_reducible rfl)
                  case fqkbc10 => (go_frame; rfl)
                  refine wpIn_do (i := 11) hC6 (by kernel_rfl) rfl (by rfl) ?_
                  intro K hK
                  go_simp
                  refine hK _ _ ?_
                  clear hK K
                  refine wpIn_done hC7 (by kernel_rfl) ?_ _
                  clear hC6 hC7 e5 f5 hv1 hv2
                  go_wp2
                  go_roundw
                  case rel =>
                    exact ⟨P ++ [m], dn.set m true, _, _, by rw [List.length_append, HPL.out]; go_num, by rw [List.length_append, HPL.out]; simp; omega, ⟨HM3.out, by rw [List.length_set]; exact HP.out.2.1, set_mark HP.out.2.1 hmn HP.out.2.2⟩, by rw [List.map_append, List.map_append, HSK.out, HSV.out]; simp only [List.map_cons, List.map_nil]; rw [HU.out]; exact hoi3⟩
                  case measure => simp [intOf]; omega
      · have HPE : Hid (P.length = nk) := by show _ = _; omega
        have o0 := five_c0 hoi.obj; have o1 := five_c1 hoi.obj; have o2 := five_c2 hoi.obj; have o3 := five_c3 hoi.obj; have o4 := five_c4 hoi.obj
        have r0 := five_c0 hoi.res; have r1 := five_c1 hoi.res; have r2 := five_c2 hoi.res; have r3 := five_c3 hoi.res; have r4 := five_c4 hoi.res
        have z0 := five_fz hoi.res 0; have z1 := five_fz hoi.res 1; have z2 := five_fz hoi.res 2; have z3 := five_fz hoi.res 3; have z4 := five_fz hoi.res 4
        obtain ⟨q1, c1, hvk, hrk⟩ := own_rdK hoi.keys
        obtain ⟨zs, hv1, hv2⟩ := hoi.vals
        obtain ⟨q2, c2, hvl, hc2, hjs⟩ := own_js hv1 hv2
        obtain ⟨Sk, hSk⟩ : ∃ Sk, P.map (keyAtK ks) = Sk := ⟨_, rfl⟩
        obtain ⟨Sv, hSv⟩ : ∃ Sv, (P.map fun x => ord (valAt l x)) = Sv := ⟨_, rfl⟩
        have HE : Hid (ord (.mk k i t ks l) = .mk k i t Sk Sv) := by
          show _ = _
          rw [← hSk, ← hSv]
          exact ord_parts HG.out k4 HP.out.1 (by rw [HPE.out, HNK.out])
        rw [hSk] at hvk hrk
        rw [hSv] at hvl hc2 hjs
        have HRK : Hid (RdK (fun k => w.heap.size + 3 ≤ k ∧ k < wr.heap.size) wr q1 c1 Sk) := hrk
        have HJS : Hid (isJs (fun k => Eb O w.heap.size wI.heap.size vk vl wr k ∨ (w.heap.size + 3 ≤ k ∧ k < wr.heap.size)) wr q2 0 Sv) := hjs
        have HC2 : Hid (Sv.length ≤ c2) := hc2
        have hres := hoi.res
        have hbW := hoi.below
        have hsW := hoi.size
        obtain ⟨nSk, hnSk⟩ : ∃ n, Sk.length = n := ⟨_, rfl⟩
        obtain ⟨nSv, hnSv⟩ : ∃ n, Sv.length = n := ⟨_, rfl⟩
        have HNSK : Hid (Sk.length = nSk) := hnSk
        have HNSV : Hid (Sv.length = nSv) := hnSv
        rw [hnSk] at hvk
        rw [hnSv] at hvl
        clear hnSk hnSv hSk hSv hrk hjs hc2 hv1 hv2 hoi
        subst hvk hvl
        go_wp2
        have h5 := set5_heap hres (.int .i64 k) (.int .i64 i) (.string t) (.slice q1 nSk c1) (.slice q2 nSv c2)
        have HK5 : Keep (One (w.heap.size + 1)) wr _ := set5_keep wr (w.heap.size + 1) (.int .i64 k) (.int .i64 i) (.string t) (.slice q1 nSk c1) (.slice q2 nSv c2)
        unfold set5 at h5 HK5
        have k0 := five_c0 h5; have k1 := five_c1 h5; have k2 := five_c2 h5; have k3 := five_c3 h5; have k4' := five_c4 h5
        refine bodyPost_ret (v := .agg #[.int .i64 k, .int .i64 i, .string t, .slice q1 nSk c1, .slice q2 nSv c2]) (by simp [results, Tryz.results18, go_sem, k0, k1, k2, k3, k4']) rfl ?_
        refine ⟨⟨_, _, _, _, _, _, _, _, _, rfl, ?_⟩, hbW.trans (HK5.below (by omega) fun x hx => by unfold One; omega)⟩
        rw [HE.out]
        have hcar : ∀ x, (O x ∨ (w.heap.size + 3 ≤ x ∧ x < wr.heap.size)) → (O x ∨ New w _ x) ∧ _ = wr.heap[x]? := fun x hx => by
          have hlt : x < wr.heap.size ∧ x ≠ w.heap.size + 1 := by
            rcases hx with hx | hx
            · have := hO x hx; exact ⟨by omega, by omega⟩
            · exact ⟨hx.2, by omega⟩
          refine ⟨?_, HK5.block x hlt.1 (by unfold One; exact hlt.2)⟩
          rcases hx with hx | hx
          · exact .inl hx
          · exact .inr ⟨by omega, Nat.lt_of_lt_of_le hx.2 HK5.size⟩
        unfold isJ
        refine ⟨q1, c1, q2, c2, by rw [HNSK.out, HNSV.out], HRK.out.carry fun x hx => hcar x (.inr hx), HC2.out, HJS.out.carry fun x hx => hcar x ?_⟩
        rcases hx with (hx | hx) | hx
        · exact .inl hx
        · exact .inr ⟨hx.1, hx.2.1⟩
        · exact .inr hx
  · subst k4
    have hk0 : ks = [] := HGN.out (by decide)
    obtain rfl : nk = 0 := by rw [← HNK.out, hk0]; rfl
    subst hk0
    go_wp2
    rw [← hwI]
    clear hwI
    go_loopw [4] (fun v wr => ∃ (x : Nat) (vl : Value), v = .int .i64 x ∧ x ≤ nl ∧ OI O w w.heap.size 0 [] #[.int .i64 4, .int .i64 i, .string t, .slice pk 0 ck, .slice pl nl cl] (.int .i64 4) (.int .i64 i) (.string t) [] (ordL (l.take x)) (.slice none 0 0) vl wr) (fun v _ => nl - (intOf v).toNat)
    case atStart => exact ⟨0, _, rfl, Nat.zero_le _, hoi⟩
    case round =>
      clear hoi
      obtain ⟨x, vl, rfl, hx, hoi⟩ := hrel
      have b4 := five_c4 hoi.box
      by_cases hxn : x < nl
      · have hxi : (x : Int) < (nl : Int) := by omega
        have hml1 : x < l.length := by rw [HNL.out]; exact hxn
        have HML : Hid (x < l.length) := hml1
        obtain ⟨lb, lo, cs, hpl, hOl, hcells, hyj⟩ := isJs.at l 0 x hs hml1
        subst hpl
        obtain ⟨x0, x1, x2, p3, n3, c3, p4, n4, c4, rfl⟩ := isJ_shape hyj
        have hlb : lb < w.heap.size := hO _ hOl
        obtain ⟨Sv, hSv⟩ : ∃ Sv, ordL (l.take x) = Sv := ⟨_, rfl⟩
        have HSV : Hid (ordL (l.take x) = Sv) := hSv
        have hsvn : Sv.length ≤ 100000 := by rw [← hSv, ordL_length, List.length_take]; omega
        rw [hSv] at hoi
        have B4 : Hid (wr.cell? ⟨w.heap.size, 4, none⟩ = some (.slice (some ⟨lb, lo, none⟩) nl cl)) := b4
        have HXC : Hid (∀ n v, [Value.int .i64 x0, .int .i64 x1, .string x2, .slice p3 n3 c3, .slice p4 n4 c4][n]? = some v → wr.cell? ⟨lb, lo + x * 5 + n, none⟩ = some v) := fun n v h => by
          have h1 := hcells n v h
          rw [Nat.zero_add] at h1
          exact (World.cell?_of_block (a := ⟨lb, lo + x * 5 + n, none⟩) (hoi.below.block lb hlb)).trans h1
        have hod := hoi.drew
        have hV := V wr.drew O (l.getD x J.zero) x0 x1 x2 p3 p4 n3 c3 n4 c4 (fun b hb => Nat.lt_of_lt_of_le (hO b hb) hod.below.size) (all_at HLG.out hml1) (all_at HLS.out hml1) (hyj.carry fun b hb => ⟨hb, hod.below.block b (hO b hb)⟩)
        clear hSv hcells hyj hml1 hoi
        go_wp2
        refine wp_region_in (by kernel_rfl) (fun W => W.heap[w.heap.size]? = wr.heap[w.heap.size]? ∧ W.heap[lb]? = wr.heap[lb]?) ?_
        change wpIn _ _ _ _ _ _ _ _ (World.drew _)
        refine wpIn_take (i := 0) (d := (some 26)) (v := ?vqw0) (a' := ?aqw0) rfl rfl (by kernel_rfl) (by kernel_rfl) (by kernel_rfl) (fun _ _ _ h => h) (Or.inl ⟨by rfl, ?yqw0⟩) ?fqw0 ?_
        case yqw0 => (intro wq hq; go_simp; first | done | with_reducible rfl)
        case fqw0 => (go_frame; rfl)
        refine wpIn_take (i := 2) (d := (some 28)) (v := ?vqw2) (a' := ?aqw2) rfl rfl (by kernel_rfl) (by kernel_rfl) (by kernel_rfl) (fun _ _ _ h => h) (Or.inl ⟨by rfl, ?yqw2⟩) ?fqw2 ?_
        case yqw2 => (intro wq hq; go_simp; first | done | with_reducible rfl)
        case fqw2 => (go_frame; rfl)
        refine wpIn_take (i := 3) (d := (some 29)) (v := ?vqw3) (a' := ?aqw3) rfl rfl (by kernel_rfl) (by kernel_rfl) (by kernel_rfl) (fun _ _ _ h => h) (Or.inl ⟨by rfl, ?yqw3⟩) ?fqw3 ?_
        case yqw3 => (intro wq hq; have q0 := (World.cell?_of_block (a := ⟨w.heap.size, 4, none⟩) hq.1).trans B4.out; go_simp; first | done | with_reducible rfl)
        case fqw3 => (go_frame; rfl)
        refine wpIn_take (i := 4) (d := (some 30)) (v := ?vqw4) (a' := ?aqw4) rfl rfl (by kernel_rfl) (by kernel_rfl) (by kernel_rfl) (fun _ _ _ h => h) (Or.inl ⟨by rfl, ?yqw4⟩) ?fqw4 ?_
        case yqw4 => (intro wq hq; go_simp; first | done | with_reducible rfl)
        case fqw4 => (go_frame; rfl)
        refine wpIn_take (i := 5) (d := (some 31)) (v := ?vqw5) (a' := ?aqw5) rfl rfl (by kernel_rfl) (by kernel_rfl) (by kernel_rfl) (fun _ _ _ h => h) (Or.inl ⟨by rfl, ?yqw5⟩) ?fqw5 ?_
        case yqw5 => (intro wq hq; go_simp; first | done | with_reducible rfl)
        case fqw5 => (go_frame; rfl)
        refine wpIn_take (i := 6) (d := (some 32)) (v := ?vqw6) (a' := ?aqw6) rfl rfl (by kernel_rfl) (by kernel_rfl) (by kernel_rfl) (fun _ _ _ h => h) (Or.inl ⟨by rfl, ?yqw6⟩) ?fqw6 ?_
        case yqw6 => (intro wq hq; have hx := fun n v h => (World.cell?_of_block (a := ⟨lb, lo + x * 5 + n, none⟩) hq.2).trans (HXC.out n v h); have q0 := hx 0 _ rfl; rw [Nat.add_zero] at q0; have q1 := hx 1 _ rfl; have q2 := hx 2 _ rfl; have q3 := hx 3 _ rfl; have q4 := hx 4 _ rfl; clear hx; go_simp; first | done | with_reducible rfl)
        case fqw6 => (go_frame; rfl)
        have hC0 : wr.drew.heap[w.heap.size]? = wr.heap[w.heap.size]? ∧ wr.drew.heap[lb]? = wr.heap[lb]? := ⟨rfl, rfl⟩
        have u4 := five_c4 hod.obj
        refine wpIn_pair (i := 1) (j := 7) hC0 (by kernel_rfl) rfl rfl (by rfl) (by rfl) ?_ ?_
        · intro K hK
          go_simp
          refine hK _ _ ?_
          clear hK K
          refine wpIn_do (i := 7) hC0 (by kernel_rfl) rfl (by rfl) ?_
          intro K hK
          go_simp
          go_wp2_with (go_at_call 18; refine hV.mono ?_; rintro x w4 ⟨⟨y0, y1, y2, y3, y4, y5, y6, y7, y8, rfl, hy⟩, hb4⟩)
          have ho4 := hod.more hb4
          have hy4 := hod.new hb4 hy
          have hC4 : w4.heap[w.heap.size]? = wr.heap[w.heap.size]? ∧ w4.heap[lb]? = wr.heap[lb]? := ⟨hb4.block w.heap.size (by have := hod.size; omega), hb4.block lb (by have := hod.size; omega)⟩
          have v4 := five_c4 ho4.obj
          have hC5 : (w4.alloc (.cells #[.int .i64 y0, .int .i64 y1, .string y2, .slice y3 y4 y5, .slice y6 y7 y8] 25)).heap[w.heap.size]? = wr.heap[w.heap.size]? ∧ (w4.alloc (.cells #[.int .i64 y0, .int .i64 y1, .string y2, .slice y3 y4 y5, .slice y6 y7 y8] 25)).heap[lb]? = wr.heap[lb]? := ⟨(Below.heap_alloc _ _ _ (by have := ho4.size; omega)).trans hC4.1, (Below.heap_alloc _ _ _ (by have := ho4.size; omega)).trans hC4.2⟩
          have v5 := five_c4 (ho4.more ((Below.refl _ _).alloc (Nat.le_refl _) (.cells #[.int .i64 y0, .int .i64 y1, .string y2, .slice y3 y4 y5, .slice y6 y7 y8] 25))).obj
          clear u4 hC0
          refine wpIn_do (i := 8) hC4 (by kernel_rfl) rfl (by rfl) ?_
          intro K hK
          go_simp
          refine hK _ _ ?_
          clear hK K
          obtain ⟨zs, hv1, hv2⟩ := ho4.vals
          refine wpIn_do (i := 9) hC5 (by kernel_rfl) rfl (by rfl) ?_
          intro K hK
          refine wp_append_at (.tmp 27) (.tmp 34) 23 rfl (w.heap.size + 3) 25 (.agg #[.int .i64 0, .int .i64 0, .string ⟨#[]⟩, .slice none 0 0, .slice none 0 0]) 5 80 Tryz.underlying23 Tryz.info25 rfl (by decide) (by decide) _ Sv.length zs rfl (hv1.alloc _) _ [.int .i64 y0, .int .i64 y1, .string y2, .slice y3 y4 y5, .slice y6 y7 y8] rfl rfl (cells_new5 _ _ _ _ _ _ _) (isJ_one hy4) (by omega) (by have := ho4.size; simp; omega) ?_
          intro vl2 W5 hown5 hg5 hat5
          refine hK _ _ ?_
          clear hK K
          obtain ⟨q5, c5, hv5⟩ : ∃ q c, vl2 = .slice q (Sv.length + 1) c := by
            rcases hown5.2 with ⟨h', h0⟩ | ⟨g', cap', cur, h', _⟩
            · omega
            · exact ⟨_, _, h'⟩
          subst hv5
          have hg5b : (w4.alloc (.cells #[.int .i64 y0, .int .i64 y1, .string y2, .slice y3 y4 y5, .slice y6 y7 y8] 25)).grownBy W5 vl.ownBlock := hg5
          have hat5b : (Value.slice q5 (Sv.length + 1) c5).ownBlock = vl.ownBlock ∨ (Value.slice q5 (Sv.length + 1) c5).ownBlock = some (w4.alloc (.cells #[.int .i64 y0, .int .i64 y1, .string y2, .slice y3 y4 y5, .slice y6 y7 y8] 25)).heap.size := hat5
          obtain ⟨e5, f5, hoi3⟩ := ho4.val hv1 hv2 hy4 hown5 hg5b hat5b
          have hC6 : W5.heap[w.heap.size]? = wr.heap[w.heap.size]? ∧ W5.heap[lb]? = wr.heap[lb]? := ⟨(grown_at hg5b (by have := ho4.size; omega) (fun e => by have := own_ge hv1 _ e; omega)).trans hC4.1, (grown_at hg5b (by have := ho4.size; omega) (fun e => by have := own_ge hv1 _ e; omega)).trans hC4.2⟩
          have hC7 : (W5.setCell ⟨w.heap.size + 2, 4, none⟩ (.slice q5 (Sv.length + 1) c5)).heap[w.heap.size]? = wr.heap[w.heap.size]? ∧ (W5.setCell ⟨w.heap.size + 2, 4, none⟩ (.slice q5 (Sv.length + 1) c5)).heap[lb]? = wr.heap[lb]? := ⟨(chg hg5b (by have := ho4.size; omega) (fun e => by have := own_ge hv1 _ e; omega) (by omega)).trans hC4.1, (chg hg5b (by have := ho4.size; omega) (fun e => by have := own_ge hv1 _ e; omega) (by omega)).trans hC4.2⟩
          clear hown5 hg5 hat5 hg5b hat5b hC5 v5 v4
          refine wpIn_take (i := 10) (d := (some 36)) (v := ?vqwa10) (a' := ?aqwa10) rfl rfl (by kernel_rfl) (by kernel_rfl) (by kernel_rfl) (fun _ _ _ h => h) (Or.inl ⟨by rfl, ?yqwa10⟩) ?fqwa10 ?_
          case yqwa10 => (intro wq hq; go_simp; first | done | with_reducible rfl)
          case fqwa10 => (go_frame; rfl)
          refine wpIn_do (i := 11) hC6 (by kernel_rfl) rfl (by rfl) ?_
          intro K hK
          go_simp
          refine hK _ _ ?_
          clear hK K
          refine wpIn_done hC7 (by kernel_rfl) ?_ _
          clear hC6 hC7 e5 f5 hv1 hv2
          go_wp2
          go_roundw
          case rel => exact ⟨x + 1, _, by go_num, hxn, by rw [take_snoc HML.out, ordL_snoc, HSV.out]; exact hoi3⟩
          case measure => simp [intOf]; omega
        · intro K hK
          go_simp
          go_wp2_with (go_at_call 18; refine hV.mono ?_; rintro x w4 ⟨⟨y0, y1, y2, y3, y4, y5, y6, y7, y8, rfl, hy⟩, hb4⟩)
          have ho4 := hod.more hb4
          have hy4 := hod.new hb4 hy
          have hC4 : w4.heap[w.heap.size]? = wr.heap[w.heap.size]? ∧ w4.heap[lb]? = wr.heap[lb]? := ⟨hb4.block w.heap.size (by have := hod.size; omega), hb4.block lb (by have := hod.size; omega)⟩
          have v4 := five_c4 ho4.obj
          have hC5 : (w4.alloc (.cells #[.int .i64 y0, .int .i64 y1, .string y2, .slice y3 y4 y5, .slice y6 y7 y8] 25)).heap[w.heap.size]? = wr.heap[w.heap.size]? ∧ (w4.alloc (.cells #[.int .i64 y0, .int .i64 y1, .string y2, .slice y3 y4 y5, .slice y6 y7 y8] 25)).heap[lb]? = wr.heap[lb]? := ⟨(Below.heap_alloc _ _ _ (by have := ho4.size; omega)).trans hC4.1, (Below.heap_alloc _ _ _ (by have := ho4.size; omega)).trans hC4.2⟩
          have v5 := five_c4 (ho4.more ((Below.refl _ _).alloc (Nat.le_refl _) (.cells #[.int .i64 y0, .int .i64 y1, .string y2, .slice y3 y4 y5, .slice y6 y7 y8] 25))).obj
          clear u4 hC0
          refine wpIn_pair (i := 1) (j := 8) hC4 (by kernel_rfl) rfl rfl (by rfl) (by rfl) ?_ ?_
          · intro K hK
            go_simp
            refine hK _ _ ?_
            clear hK K
            refine wpIn_do (i := 8) hC4 (by kernel_rfl) rfl (by rfl) ?_
            intro K hK
            go_simp
            refine hK _ _ ?_
            clear hK K
            obtain ⟨zs, hv1, hv2⟩ := ho4.vals
            refine wpIn_do (i := 9) hC5 (by kernel_rfl) rfl (by rfl) ?_
            intro K hK
            refine wp_append_at (.tmp 27) (.tmp 34) 23 rfl (w.heap.size + 3) 25 (.agg #[.int .i64 0, .int .i64 0, .string ⟨#[]⟩, .slice none 0 0, .slice none 0 0]) 5 80 Tryz.underlying23 Tryz.info25 rfl (by decide) (by decide) _ Sv.length zs rfl (hv1.alloc _) _ [.int .i64 y0, .int .i64 y1, .string y2, .slice y3 y4 y5, .slice y6 y7 y8] rfl rfl (cells_new5 _ _ _ _ _ _ _) (isJ_one hy4) (by omega) (by have := ho4.size; simp; omega) ?_
            intro vl2 W5 hown5 hg5 hat5
            refine hK _ _ ?_
            clear hK K
            obtain ⟨q5, c5, hv5⟩ : ∃ q c, vl2 = .slice q (Sv.length + 1) c := by
              rcases hown5.2 with ⟨h', h0⟩ | ⟨g', cap', cur, h', _⟩
              · omega
              · exact ⟨_, _, h'⟩
            subst hv5
            have hg5b : (w4.alloc (.cells #[.int .i64 y0, .int .i64 y1, .string y2, .slice y3 y4 y5, .slice y6 y7 y8] 25)).grownBy W5 vl.ownBlock := hg5
            have hat5b : (Value.slice q5 (Sv.length + 1) c5).ownBlock = vl.ownBlock ∨ (Value.slice q5 (Sv.length + 1) c5).ownBlock = some (w4.alloc (.cells #[.int .i64 y0, .int .i64 y1, .string y2, .slice y3 y4 y5, .slice y6 y7 y8] 25)).heap.size := hat5
            obtain ⟨e5, f5, hoi3⟩ := ho4.val hv1 hv2 hy4 hown5 hg5b hat5b
            have hC6 : W5.heap[w.heap.size]? = wr.heap[w.heap.size]? ∧ W5.heap[lb]? = wr.heap[lb]? := ⟨(grown_at hg5b (by have := ho4.size; omega) (fun e => by have := own_ge hv1 _ e; omega)).trans hC4.1, (grown_at hg5b (by have := ho4.size; omega) (fun e => by have := own_ge hv1 _ e; omega)).trans hC4.2⟩
            have hC7 : (W5.setCell ⟨w.heap.size + 2, 4, none⟩ (.slice q5 (Sv.length + 1) c5)).heap[w.heap.size]? = wr.heap[w.heap.size]? ∧ (W5.setCell ⟨w.heap.size + 2, 4, none⟩ (.slice q5 (Sv.length + 1) c5)).heap[lb]? = wr.heap[lb]? := ⟨(chg hg5b (by have := ho4.size; omega) (fun e => by have := own_ge hv1 _ e; omega) (by omega)).trans hC4.1, (chg hg5b (by have := ho4.size; omega) (fun e => by have := own_ge hv1 _ e; omega) (by omega)).trans hC4.2⟩
            clear hown5 hg5 hat5 hg5b hat5b hC5 v5 v4
            refine wpIn_take (i := 10) (d := (some 36)) (v := ?vqwb10) (a' := ?aqwb10) rfl rfl (by kernel_rfl) (by kernel_rfl) (by kernel_rfl) (fun _ _ _ h => h) (Or.inl ⟨by rfl, ?yqwb10⟩) ?fqwb10 ?_
            case yqwb10 => (intro wq hq; go_simp; first | done | with_reducible rfl)
            case fqwb10 => (go_frame; rfl)
            refine wpIn_do (i := 11) hC6 (by kernel_rfl) rfl (by rfl) ?_
            intro K hK
            go_simp
            refine hK _ _ ?_
            clear hK K
            refine wpIn_done hC7 (by kernel_rfl) ?_ _
            clear hC6 hC7 e5 f5 hv1 hv2
            go_wp2
            go_roundw
            case rel => exact ⟨x + 1, _, by go_num, hxn, by rw [take_snoc HML.out, ordL_snoc, HSV.out]; exact hoi3⟩
            case measure => simp [intOf]; omega
          · intro K hK
            go_simp
            refine hK _ _ ?_
            clear hK K
            refine wpIn_do (i := 1) hC5 (by kernel_rfl) rfl (by rfl) ?_
            intro K hK
            go_simp
            refine hK _ _ ?_
            clear hK K
            obtain ⟨zs, hv1, hv2⟩ := ho4.vals
            refine wpIn_do (i := 9) hC5 (by kernel_rfl) rfl (by rfl) ?_
            intro K hK
            refine wp_append_at (.tmp 27) (.tmp 34) 23 rfl (w.heap.size + 3) 25 (.agg #[.int .i64 0, .int .i64 0, .string ⟨#[]⟩, .slice none 0 0, .slice none 0 0]) 5 80 Tryz.underlying23 Tryz.info25 rfl (by decide) (by decide) _ Sv.length zs rfl (hv1.alloc _) _ [.int .i64 y0, .int .i64 y1, .string y2, .slice y3 y4 y5, .slice y6 y7 y8] rfl rfl (cells_new5 _ _ _ _ _ _ _) (isJ_one hy4) (by omega) (by have := ho4.size; simp; omega) ?_
            intro vl2 W5 hown5 hg5 hat5
            refine hK _ _ ?_
            clear hK K
            obtain ⟨q5, c5, hv5⟩ : ∃ q c, vl2 = .slice q (Sv.length + 1) c := by
              rcases hown5.2 with ⟨h', h0⟩ | ⟨g', cap', cur, h', _⟩
              · omega
              · exact ⟨_, _, h'⟩
            subst hv5
            have hg5b : (w4.alloc (.cells #[.int .i64 y0, .int .i64 y1, .string y2, .slice y3 y4 y5, .slice y6 y7 y8] 25)).grownBy W5 vl.ownBlock := hg5
            have hat5b : (Value.slice q5 (Sv.length + 1) c5).ownBlock = vl.ownBlock ∨ (Value.slice q5 (Sv.length + 1) c5).ownBlock = some (w4.alloc (.cells #[.int .i64 y0, .int .i64 y1, .string y2, .slice y3 y4 y5, .slice y6 y7 y8] 25)).heap.size := hat5
            obtain ⟨e5, f5, hoi3⟩ := ho4.val hv1 hv2 hy4 hown5 hg5b hat5b
            have hC6 : W5.heap[w.heap.size]? = wr.heap[w.heap.size]? ∧ W5.heap[lb]? = wr.heap[lb]? := ⟨(grown_at hg5b (by have := ho4.size; omega) (fun e => by have := own_ge hv1 _ e; omega)).trans hC4.1, (grown_at hg5b (by have := ho4.size; omega) (fun e => by have := own_ge hv1 _ e; omega)).trans hC4.2⟩
            have hC7 : (W5.setCell ⟨w.heap.size + 2, 4, none⟩ (.slice q5 (Sv.length + 1) c5)).heap[w.heap.size]? = wr.heap[w.heap.size]? ∧ (W5.setCell ⟨w.heap.size + 2, 4, none⟩ (.slice q5 (Sv.length + 1) c5)).heap[lb]? = wr.heap[lb]? := ⟨(chg hg5b (by have := ho4.size; omega) (fun e => by have := own_ge hv1 _ e; omega) (by omega)).trans hC4.1, (chg hg5b (by have := ho4.size; omega) (fun e => by have := own_ge hv1 _ e; omega) (by omega)).trans hC4.2⟩
            clear hown5 hg5 hat5 hg5b hat5b hC5 v5 v4
            refine wpIn_take (i := 10) (d := (some 36)) (v := ?vqwc10) (a' := ?aqwc10) rfl rfl (by kernel_rfl) (by kernel_rfl) (by kernel_rfl) (fun _ _ _ h => h) (Or.inl ⟨by rfl, ?yqwc10⟩) ?fqwc10 ?_
            case yqwc10 => (intro wq hq; go_simp; first | done | with_reducible rfl)
            case fqwc10 => (go_frame; rfl)
            refine wpIn_do (i := 11) hC6 (by kernel_rfl) rfl (by rfl) ?_
            intro K hK
            go_simp
            refine hK _ _ ?_
            clear hK K
            refine wpIn_done hC7 (by kernel_rfl) ?_ _
            clear hC6 hC7 e5 f5 hv1 hv2
            go_wp2
            go_roundw
            case rel => exact ⟨x + 1, _, by go_num, hxn, by rw [take_snoc HML.out, ordL_snoc, HSV.out]; exact hoi3⟩
            case measure => simp [intOf]; omega
      · obtain rfl : nl = x := by omega
        have hD3 : w.heap.size + 3 ≤ wr.heap.size := hoi.size
        have HT : Hid (l.take nl = l) := List.take_of_length_le (by rw [HNL.out]; omega)
        have hom := hoi.marks []
        obtain ⟨wD, hwD⟩ : ∃ wD, wD = wr.alloc (.cells (([] : List Bool).map Value.bool).toArray 4) := ⟨_, rfl⟩
        have b3 := five_c3 hoi.box
        rw [← hwD] at hom
        clear hoi
        go_wp2_with (at_make; refine wpList_bools rfl (.tmp 39) (.tmp 39) rfl 0 (by omega) rfl rfl ?_; rw [show (List.replicate 0 false) = [] from rfl, ← hwD]; clear hwD)
        rw [HT.out] at hom
        obtain ⟨D, hDe⟩ : ∃ D, wr.heap.size = D := ⟨_, rfl⟩
        obtain ⟨vk, hvk0⟩ : ∃ vk, Value.slice none 0 0 = vk := ⟨_, rfl⟩
        rw [hDe, hvk0] at hom
        clear hDe hvk0
        go_loopw [6] (fun v w2 => v = .int .i64 0 ∧ w2 = wD) (fun _ _ => 0)
        case atStart => exact ⟨rfl, rfl⟩
        case round =>
          obtain ⟨rfl, rfl⟩ := hrel
          have hoi := hom
          clear hom
          have b3' := five_c3 hoi.box
          have o0 := five_c0 hoi.obj; have o1 := five_c1 hoi.obj; have o2 := five_c2 hoi.obj; have o3 := five_c3 hoi.obj; have o4 := five_c4 hoi.obj
          have r0 := five_c0 hoi.res; have r1 := five_c1 hoi.res; have r2 := five_c2 hoi.res; have r3 := five_c3 hoi.res; have r4 := five_c4 hoi.res
          have z0 := five_fz hoi.res 0; have z1 := five_fz hoi.res 1; have z2 := five_fz hoi.res 2; have z3 := five_fz hoi.res 3; have z4 := five_fz hoi.res 4
          obtain ⟨q1, c1, hvk, hrk⟩ := own_rdK hoi.keys
          obtain ⟨zs, hv1, hv2⟩ := hoi.vals
          obtain ⟨q2, c2, hvl, hc2, hjs⟩ := own_js hv1 hv2
          obtain ⟨Sk, hSk⟩ : ∃ Sk, ([] : List ByteArray) = Sk := ⟨_, rfl⟩
          obtain ⟨Sv, hSv⟩ : ∃ Sv, ordL l = Sv := ⟨_, rfl⟩
          have HE : Hid (ord (.mk 4 i t [] l) = .mk 4 i t Sk Sv) := by
            show _ = _
            rw [← hSk, ← hSv]
            rw [ord, if_neg (by decide)]
          rw [hSk] at hvk hrk
          rw [hSv] at hvl hc2 hjs
          have HRK : Hid (RdK (fun k => w.heap.size + 3 ≤ k ∧ k < wr.heap.size) wr q1 c1 Sk) := hrk
          have HJS : Hid (isJs (fun k => Eb O w.heap.size D vk vl wr k ∨ (w.heap.size + 3 ≤ k ∧ k < wr.heap.size)) wr q2 0 Sv) := hjs
          have HC2 : Hid (Sv.length ≤ c2) := hc2
          have hres := hoi.res
          have hbW := hoi.below
          have hsW := hoi.size
          obtain ⟨nSk, hnSk⟩ : ∃ n, Sk.length = n := ⟨_, rfl⟩
          obtain ⟨nSv, hnSv⟩ : ∃ n, Sv.length = n := ⟨_, rfl⟩
          have HNSK : Hid (Sk.length = nSk) := hnSk
          have HNSV : Hid (Sv.length = nSv) := hnSv
          rw [hnSk] at hvk
          rw [hnSv] at hvl
          clear hnSk hnSv hSk hSv hrk hjs hc2 hv1 hv2 hoi
          subst hvk hvl
          go_wp2
          have h5 := set5_heap hres (.int .i64 4) (.int .i64 i) (.string t) (.slice q1 nSk c1) (.slice q2 nSv c2)
          have HK5 : Keep (One (w.heap.size + 1)) wr _ := set5_keep wr (w.heap.size + 1) (.int .i64 4) (.int .i64 i) (.string t) (.slice q1 nSk c1) (.slice q2 nSv c2)
          unfold set5 at h5 HK5
          have k0 := five_c0 h5; have k1 := five_c1 h5; have k2 := five_c2 h5; have k3 := five_c3 h5; have k4' := five_c4 h5
          refine bodyPost_ret (v := .agg #[.int .i64 4, .int .i64 i, .string t, .slice q1 nSk c1, .slice q2 nSv c2]) (by simp [results, Tryz.results18, go_sem, k0, k1, k2, k3, k4']) rfl ?_
          refine ⟨⟨_, _, _, _, _, _, _, _, _, rfl, ?_⟩, hbW.trans (HK5.below (by omega) fun x hx => by unfold One; omega)⟩
          rw [HE.out]
          have hcar : ∀ x, (O x ∨ (w.heap.size + 3 ≤ x ∧ x < wr.heap.size)) → (O x ∨ New w _ x) ∧ _ = wr.heap[x]? := fun x hx => by
            have hlt : x < wr.heap.size ∧ x ≠ w.heap.size + 1 := by
              rcases hx with hx | hx
              · have := hO x hx; exact ⟨by omega, by omega⟩
              · exact ⟨hx.2, by omega⟩
            refine ⟨?_, HK5.block x hlt.1 (by unfold One; exact hlt.2)⟩
            rcases hx with hx | hx
            · exact .inl hx
            · exact .inr ⟨by omega, Nat.lt_of_lt_of_le hx.2 HK5.size⟩
          unfold isJ
          refine ⟨q1, c1, q2, c2, by rw [HNSK.out, HNSV.out], HRK.out.carry fun x hx => hcar x (.inr hx), HC2.out, HJS.out.carry fun x hx => hcar x ?_⟩
          rcases hx with (hx | hx) | hx
          · exact .inl hx
          · exact .inr ⟨hx.1, hx.2.1⟩
          · exact .inr hx
end Go.Proofs.YtnmhpejnjaeecaaGreatDoor
namespace Go.Proofs.YtnmhpejnjaeecaaGreatDoor
open Go.RowKit

theorem rord_zero : Rords 0 := fun _ _ j _ _ _ _ _ _ _ _ _ _ hg => by unfold goodJ at hg; cases hg
theorem rords : ∀ d, Rords d
  | 0 => rord_zero
  | d + 1 => rord_step (rords d)
/-- What the document's Order makes of a value. -/
def ordR (j : J) : J := if goodJ 12 j = true then ord j else J.zero
theorem two_new2 {w : World} (o1 o2 : Obj) : ((w.alloc o1).alloc o2).heap[w.heap.size + 1]? = some o2 := by
  have := heap_alloc_new (w.alloc o1) o2
  simpa using this
theorem below_then3 {w w2 w3 : World} (h : Below w.heap.size w w2) (hk : Keep (One (w.heap.size + 1)) w2 w3) : Below w.heap.size w w3 :=
  h.trans (hk.below h.size fun k hk' e => by unfold One at e; omega)
set_option maxRecDepth 100000 in
set_option maxHeartbeats 8000000 in
theorem rOrder_any {w : World} {O : Nat → Prop} {j : J} {k i : Int} {t : ByteArray} {pk pl : Option Addr} {nk ck nl cl : Nat} (hO : ∀ x, O x → x < w.heap.size) (hsz : szJ 12 j = true)
    (hj : isJ O w j [.int .i64 k, .int .i64 i, .string t, .slice pk nk ck, .slice pl nl cl]) :
    Calls Tryz.prog 11 #[.agg #[.int .i64 k, .int .i64 i, .string t, .slice pk nk ck, .slice pl nl cl]] w fun x w' => (∃ kr ir tr pr nr cr qr mr dr, x = .returned (.agg #[.int .i64 kr, .int .i64 ir, .string tr, .slice pr nr cr, .slice qr mr dr]) ∧ isJ (fun b => b < w'.heap.size) w' (ordR j) [.int .i64 kr, .int .i64 ir, .string tr, .slice pr nr cr, .slice qr mr dr]) ∧ Below w.heap.size w w' := by
  have hbB : Below w.heap.size w ((w.alloc (.cells #[.int .i64 k, .int .i64 i, .string t, .slice pk nk ck, .slice pl nl cl] 25)).alloc (.cells #[.int .i64 0, .int .i64 0, .string ⟨#[]⟩, .slice none 0 0, .slice none 0 0] 25)) := ((Below.refl _ _).alloc (Nat.le_refl _) _).alloc (by simp) _
  obtain ⟨wB, hwB⟩ : ∃ wB, wB = ((w.alloc (.cells #[.int .i64 k, .int .i64 i, .string t, .slice pk nk ck, .slice pl nl cl] 25)).alloc (.cells #[.int .i64 0, .int .i64 0, .string ⟨#[]⟩, .slice none 0 0, .slice none 0 0] 25)) := ⟨_, rfl⟩
  have hA : wB.heap[w.heap.size]? = some (.cells #[.int .i64 k, .int .i64 i, .string t, .slice pk nk ck, .slice pl nl cl] 25 (0, 0)) := by
    rw [hwB, Below.heap_alloc _ _ _ (by simp)]
    exact heap_alloc_new _ _
  have hR : wB.heap[w.heap.size + 1]? = some (.cells #[.int .i64 0, .int .i64 0, .string ⟨#[]⟩, .slice none 0 0, .slice none 0 0] 25 (0, 0)) := by rw [hwB]; exact two_new2 _ _
  rw [← hwB] at hbB
  have hOB : ∀ x, O x → x < wB.heap.size := fun x hx => Nat.lt_of_lt_of_le (hO x hx) hbB.size
  have hjB := hj.carry (O' := O) (w' := wB) fun x hx => ⟨hx, hbB.block x (hO x hx)⟩
  have hG := rGood_any hOB hsz hjB
  have hsA : w.heap.size < wB.heap.size := (Array.getElem?_eq_some_iff.1 hA).1
  have hsR : w.heap.size + 1 < wB.heap.size := (Array.getElem?_eq_some_iff.1 hR).1
  have c0 := five_c0 hA
  cases hg : goodJ 12 j with
  | false =>
    have HZ : Hid (ordR j = J.zero) := by show _ = _; unfold ordR; rw [hg]; rfl
    rw [hg] at hG
    rw [hwB] at hG
    clear hj hjB c0
    go_enter Tryz.func11, Tryz.ntmps11
    go_wp2_with (go_at_call 8; refine hG.mono ?_; rintro x w2 ⟨rfl, hb2⟩
                 rw [← hwB] at hb2
                 have hres := (hb2.block _ hsR).trans hR
                 have i0 := five_c0 hres; have i1 := five_c1 hres; have i2 := five_c2 hres; have i3 := five_c3 hres; have i4 := five_c4 hres
                 have z0 := five_fz hres 0; have z1 := five_fz hres 1; have z2 := five_fz hres 2; have z3 := five_fz hres 3; have z4 := five_fz hres 4)
    have h5 := set5_heap hres (.int .i64 0) (.int .i64 0) (.string ⟨#[]⟩) (.slice none 0 0) (.slice none 0 0)
    have HK5 : Keep (One (w.heap.size + 1)) w2 _ := set5_keep w2 (w.heap.size + 1) (.int .i64 0) (.int .i64 0) (.string ⟨#[]⟩) (.slice none 0 0) (.slice none 0 0)
    unfold set5 at h5 HK5
    have k0 := five_c0 h5; have k1 := five_c1 h5; have k2 := five_c2 h5; have k3 := five_c3 h5; have k4 := five_c4 h5
    refine bodyPost_ret (v := .agg #[.int .i64 0, .int .i64 0, .string ⟨#[]⟩, .slice none 0 0, .slice none 0 0]) (by simp [results, Tryz.results11, go_sem, k0, k1, k2, k3, k4]) rfl ?_
    refine ⟨⟨_, _, _, _, _, _, _, _, _, rfl, ?_⟩, below_then3 (below_in hbB hb2) HK5⟩
    rw [HZ.out]
    exact isJ_zero _ _
  | true =>
    have HZ : Hid (ordR j = ord j) := by show _ = _; unfold ordR; rw [hg]; rfl
    have HGG : Hid (goodJ 12 j = true) := hg
    have HJ : Hid (isJ O wB j [.int .i64 k, .int .i64 i, .string t, .slice pk nk ck, .slice pl nl cl]) := hjB
    rw [hg] at hG
    rw [hwB] at hG
    clear hj hjB hg c0
    go_enter Tryz.func11, Tryz.ntmps11
    go_wp2_with (first
      | (go_at_call 8; refine hG.mono ?_; rintro x w2 ⟨rfl, hb2⟩
         rw [← hwB] at hb2
         have hA2 := (hb2.block _ hsA).trans hA
         have c0 := five_c0 hA2; have c1 := five_c1 hA2; have c2 := five_c2 hA2; have c3 := five_c3 hA2; have c4 := five_c4 hA2
         have hArr := rords 12 w2 O j k i t pk pl nk ck nl cl (fun x hx => Nat.lt_of_lt_of_le (hOB x hx) hb2.size) HGG.out hsz (HJ.out.carry fun x hx => ⟨hx, hb2.block x (hOB x hx)⟩))
      | (go_at_call 18; refine hArr.mono ?_; rintro x w4 ⟨⟨kr, ir, tr, pr, nr, cr, qr, mr, dr, rfl, hjr⟩, hb4⟩
         have hB4 := below_in hb2 hb4
         have hres := (hB4.block _ hsR).trans hR
         have i0 := five_c0 hres; have i1 := five_c1 hres; have i2 := five_c2 hres; have i3 := five_c3 hres; have i4 := five_c4 hres
         have z0 := five_fz hres 0; have z1 := five_fz hres 1; have z2 := five_fz hres 2; have z3 := five_fz hres 3; have z4 := five_fz hres 4))
    have h5 := set5_heap hres (.int .i64 kr) (.int .i64 ir) (.string tr) (.slice pr nr cr) (.slice qr mr dr)
    have HK5 : Keep (One (w.heap.size + 1)) w4 _ := set5_keep w4 (w.heap.size + 1) (.int .i64 kr) (.int .i64 ir) (.string tr) (.slice pr nr cr) (.slice qr mr dr)
    unfold set5 at h5 HK5
    have k0 := five_c0 h5; have k1 := five_c1 h5; have k2 := five_c2 h5; have k3 := five_c3 h5; have k4 := five_c4 h5
    refine bodyPost_ret (v := .agg #[.int .i64 kr, .int .i64 ir, .string tr, .slice pr nr cr, .slice qr mr dr]) (by simp [results, Tryz.results11, go_sem, k0, k1, k2, k3, k4]) rfl ?_
    refine ⟨⟨_, _, _, _, _, _, _, _, _, rfl, ?_⟩, below_then3 (below_in hbB hB4) HK5⟩
    rw [HZ.out]
    refine hjr.carry fun x hx => ?_
    have hlt : x < w4.heap.size ∧ x ≠ w.heap.size + 1 := by
      have s2 := hb2.size
      have s4 := hb4.size
      rcases hx with hx | hx
      · have := hO x hx
        exact ⟨by have := hbB.size; omega, by omega⟩
      · have := hx.1
        exact ⟨hx.2, by omega⟩
    exact ⟨Nat.lt_of_lt_of_le hlt.1 HK5.size, HK5.block x hlt.1 (by unfold One; exact hlt.2)⟩
end Go.Proofs.YtnmhpejnjaeecaaGreatDoor

/-
  A value that is put in order, as it is being made: its memory.
-/
import Derived.Test.YtimhpglfolbomaaGreatRY19
set_option maxRecDepth 100000
set_option maxHeartbeats 16000000
namespace Go.Proofs.YtimhpglfolbomaaGreat
open Go.RowKit
def Eb (O : Nat → Prop) (b D : Nat) (vk vl : Value) (w : World) : Nat → Prop := fun k => O k ∨ (b + 3 ≤ k ∧ k < w.heap.size ∧ vk.ownBlock ≠ some k ∧ vl.ownBlock ≠ some k ∧ k ≠ D)
structure OI (O : Nat → Prop) (w : World) (b D : Nat) (dn : List Bool) (cs5 : Array Value) (c0 c1 c2 : Value) (Sk : List ByteArray) (Sv : List J) (vk vl : Value) (W : World) : Prop where
 box : W.heap[b]? = some (.cells cs5 36 (0, 0))
 res : W.heap[b + 1]? = some (.cells #[.int .i64 0, .int .i64 0, .string ⟨#[]⟩, .slice none 0 0, .slice none 0 0] 36 (0, 0))
 obj : W.heap[b + 2]? = some (.cells #[c0, c1, c2, vk, vl] 36 (0, 0))
 keys : W.ownsRow (b + 3) 9 1 vk Sk.length (Sk.map Value.string)
 vals : ∃ xs, W.ownsRow (b + 3) 36 5 vl Sv.length xs ∧ isRow (Eb O b D vk vl W) W Sv xs
 dnr : D = 0 ∨ (b + 3 ≤ D ∧ W.heap[D]? = some (.cells (dn.map Value.bool).toArray 4 (0, 0)))
 ne : ∀ i, vk.ownBlock = some i → vl.ownBlock ≠ some i
 nek : vk.ownBlock ≠ some D
 nel : vl.ownBlock ≠ some D
 low : ∀ k, O k → k < b
 below : Below b w W
 at' : b = w.heap.size
section
variable {O : Nat → Prop} {w W W2 W4 : World} {b D : Nat} {dn : List Bool} {cs5 : Array Value} {c0 c1 c2 : Value} {Sk : List ByteArray} {Sv : List J} {vk vl vk' vl' : Value}
theorem OI.size (h : OI O w b D dn cs5 c0 c1 c2 Sk Sv vk vl W) : b + 2 < W.heap.size := (Array.getElem?_eq_some_iff.1 h.obj).1
theorem OI.more (h : OI O w b D dn cs5 c0 c1 c2 Sk Sv vk vl W) (hb : Below W.heap.size W W4) : OI O w b D dn cs5 c0 c1 c2 Sk Sv vk vl W4 := by
 have hs := h.size
 have hss := hb.size
 obtain ⟨xs, h1, h2⟩ := h.vals
 have kp : Keep (fun _ => False) W W4 := Keep.of_below hb
 refine ⟨(hb.block b (by omega)).trans h.box, (hb.block (b + 1) (by omega)).trans h.res, (hb.block (b + 2) (by omega)).trans h.obj, own_keep h.keys kp fun _ _ h => h, ⟨xs, own_keep h1 kp fun _ _ h => h, h2.carry fun k hk => ?_⟩, ?_, h.ne, h.nek, h.nel, h.low, h.below.trans ⟨hb.os, hb.tape, hb.output, hb.size, fun k hk => hb.block k (by omega)⟩, h.at'⟩
 · rcases hk with hk | hk
   · have := h.low k hk
     exact ⟨.inl hk, hb.block k (by omega)⟩
   · exact ⟨.inr ⟨hk.1, by have := hk.2.1; omega, hk.2.2⟩, hb.block k hk.2.1⟩
 · rcases h.dnr with h' | ⟨h', h''⟩
   · exact .inl h'
   · exact .inr ⟨h', (hb.block D (Array.getElem?_eq_some_iff.1 h'').1).trans h''⟩
theorem OI.drew (h : OI O w b D dn cs5 c0 c1 c2 Sk Sv vk vl W) : OI O w b D dn cs5 c0 c1 c2 Sk Sv vk vl W.drew := h.more ⟨rfl, rfl, rfl, Nat.le_refl _, fun _ _ => rfl⟩
theorem chg {o : Obj} {row : Option Nat} {f k : Nat} {v : Value} (hg : (W.alloc o).grownBy W2 row) (hk : k < W.heap.size) (hr : row ≠ some k) (hb : k ≠ b + 2) : (W2.setCell ⟨b + 2, f, none⟩ v).heap[k]? = W.heap[k]? := by
 have K3 : Keep (One (b + 2)) W2 (W2.setCell ⟨b + 2, f, none⟩ v) := Keep.setCell (Keep.refl _ _) (fun _ => (rfl : b + 2 = b + 2)) _
 have := hg.size
 simp at this
 rw [K3.block k (by omega) (by unfold One; exact hb), grown_at hg hk hr]
theorem OI.key (h : OI O w b D dn cs5 c0 c1 c2 Sk Sv vk vl W) {x : ByteArray} {o : Obj} (hown : W2.ownsRow (b + 3) 9 1 vk' (Sk.length + 1) (Sk.map Value.string ++ [.string x])) (hg : (W.alloc o).grownBy W2 vk.ownBlock) (hat : vk'.ownBlock = vk.ownBlock ∨ vk'.ownBlock = some (W.alloc o).heap.size) :
    W2.cell? ⟨b + 2, 3, none⟩ = some vk ∧ W2.frozen? ⟨b + 2, 3, none⟩ = false ∧ OI O w b D dn cs5 c0 c1 c2 (Sk ++ [x]) Sv vk' vl (W2.setCell ⟨b + 2, 3, none⟩ vk') := by
 have hs := h.size
 have hgk := own_ge h.keys
 obtain ⟨xs, hv1, hv2⟩ := h.vals
 have hgv := own_ge hv1
 have hgs := hg.size
 simp at hgs
 have ob : W2.heap[b + 2]? = some (.cells #[c0, c1, c2, vk, vl] 36 (0, 0)) := by
  rw [grown_at hg (by omega) (fun e => by have := hgk _ e; omega)]; exact h.obj
 have K3 : Keep (One (b + 2)) W2 (W2.setCell ⟨b + 2, 3, none⟩ vk') := Keep.setCell (Keep.refl _ _) (fun _ => (rfl : b + 2 = b + 2)) _
 have hgk' := own_ge hown
 have new : ∀ i, vk'.ownBlock = some i → vk.ownBlock = some i ∨ W.heap.size < i := fun i e => by
  rcases hat with h1 | h1
  · exact .inl (h1 ▸ e)
  · rw [h1] at e
    have := Option.some.inj e
    simp at this
    exact .inr (by omega)
 have carry : ∀ k, Eb O b D vk vl W k → Eb O b D vk' vl (W2.setCell ⟨b + 2, 3, none⟩ vk') k ∧ (W2.setCell ⟨b + 2, 3, none⟩ vk').heap[k]? = W.heap[k]? := by
  intro k hk
  rcases hk with hk | hk
  · have := h.low k hk
    exact ⟨.inl hk, chg hg (by omega) (fun e => by have := hgk _ e; omega) (by omega)⟩
  · refine ⟨.inr ⟨hk.1, by have := hk.2.1; simp; omega, fun e => ?_, hk.2.2.2.1, hk.2.2.2.2⟩, chg hg hk.2.1 hk.2.2.1 (by have := hk.1; omega)⟩
    rcases new k e with h' | h'
    · exact hk.2.2.1 h'
    · have := hk.2.1; omega
 refine ⟨five_c3 ob, five_fz ob 3, ⟨?_, ?_, ?_, ?_, ⟨xs, ?_, hv2.carry carry⟩, ?_, ?_, ?_, h.nel, h.low, ?_, h.at'⟩⟩
 · rw [chg hg (by omega) (fun e => by have := hgk _ e; omega) (by omega)]; exact h.box
 · rw [chg hg (by omega) (fun e => by have := hgk _ e; omega) (by omega)]; exact h.res
 · rw [heap_setCell_same _ (b + 2) 3 _ _ _ ob]; rfl
 · rw [List.length_append, List.map_append]
   exact own_keep hown K3 fun k e => by have := hgk' k e; unfold One; omega
 · exact own_keep (own_keep (hv1.alloc o) (S := fun k => vk.ownBlock = some k) (Keep.of_grown hg fun _ _ e => e) fun k e e' => h.ne k e' e) K3 fun k e => by have := hgv k e; unfold One; omega
 · rcases h.dnr with h' | ⟨h', h''⟩
   · exact .inl h'
   · exact .inr ⟨h', by rw [chg hg (Array.getElem?_eq_some_iff.1 h'').1 h.nek (by omega)]; exact h''⟩
 · intro i e e'
   rcases new i e with h1 | h1
   · exact h.ne i h1 e'
   · have := (hgv i e').2; omega
 · intro e
   rcases new D e with h1 | h1
   · exact h.nek h1
   · rcases h.dnr with h' | ⟨_, h''⟩
     · omega
     · have := (Array.getElem?_eq_some_iff.1 h'').1; omega
 · refine h.below.trans ⟨hg.os, hg.tape, hg.output, by simp; omega, fun k hk => chg hg (by omega) (fun e => by have := hgk _ e; omega) (by omega)⟩
theorem OI.val (h : OI O w b D dn cs5 c0 c1 c2 Sk Sv vk vl W) {y : J} {cs xs : List Value} {o : Obj} (hv1 : W.ownsRow (b + 3) 36 5 vl Sv.length xs) (hv2 : isRow (Eb O b D vk vl W) W Sv xs) (hy : isJ (Eb O b D vk vl W) W y cs) (hown : W2.ownsRow (b + 3) 36 5 vl' (Sv.length + 1) (xs ++ cs)) (hg : (W.alloc o).grownBy W2 vl.ownBlock) (hat : vl'.ownBlock = vl.ownBlock ∨ vl'.ownBlock = some (W.alloc o).heap.size) :
    W2.cell? ⟨b + 2, 4, none⟩ = some vl ∧ W2.frozen? ⟨b + 2, 4, none⟩ = false ∧ OI O w b D dn cs5 c0 c1 c2 Sk (Sv ++ [y]) vk vl' (W2.setCell ⟨b + 2, 4, none⟩ vl') := by
 have hs := h.size
 have hgk := own_ge h.keys
 have hgv := own_ge hv1
 have hgs := hg.size
 simp at hgs
 have ob : W2.heap[b + 2]? = some (.cells #[c0, c1, c2, vk, vl] 36 (0, 0)) := by
  rw [grown_at hg (by omega) (fun e => by have := hgv _ e; omega)]; exact h.obj
 have K3 : Keep (One (b + 2)) W2 (W2.setCell ⟨b + 2, 4, none⟩ vl') := Keep.setCell (Keep.refl _ _) (fun _ => (rfl : b + 2 = b + 2)) _
 have hgv' := own_ge hown
 have new : ∀ i, vl'.ownBlock = some i → vl.ownBlock = some i ∨ W.heap.size < i := fun i e => by
  rcases hat with h1 | h1
  · exact .inl (h1 ▸ e)
  · rw [h1] at e
    have := Option.some.inj e
    simp at this
    exact .inr (by omega)
 have carry : ∀ k, Eb O b D vk vl W k → Eb O b D vk vl' (W2.setCell ⟨b + 2, 4, none⟩ vl') k ∧ (W2.setCell ⟨b + 2, 4, none⟩ vl').heap[k]? = W.heap[k]? := by
  intro k hk
  rcases hk with hk | hk
  · have := h.low k hk
    exact ⟨.inl hk, chg hg (by omega) (fun e => by have := hgv _ e; omega) (by omega)⟩
  · refine ⟨.inr ⟨hk.1, by have := hk.2.1; simp; omega, hk.2.2.1, fun e => ?_, hk.2.2.2.2⟩, chg hg hk.2.1 hk.2.2.2.1 (by have := hk.1; omega)⟩
    rcases new k e with h' | h'
    · exact hk.2.2.2.1 h'
    · have := hk.2.1; omega
 refine ⟨five_c4 ob, five_fz ob 4, ⟨?_, ?_, ?_, ?_, ⟨xs ++ cs, ?_, isRow.snoc hy.five (hy.carry carry) Sv xs (hv2.carry carry)⟩, ?_, ?_, h.nek, ?_, h.low, ?_, h.at'⟩⟩
 · rw [chg hg (by omega) (fun e => by have := hgv _ e; omega) (by omega)]; exact h.box
 · rw [chg hg (by omega) (fun e => by have := hgv _ e; omega) (by omega)]; exact h.res
 · rw [heap_setCell_same _ (b + 2) 4 _ _ _ ob]; rfl
 · exact own_keep (own_keep (h.keys.alloc o) (S := fun k => vl.ownBlock = some k) (Keep.of_grown hg fun _ _ e => e) fun k e e' => h.ne k e e') K3 fun k e => by have := hgk k e; unfold One; omega
 · rw [List.length_append]
   exact own_keep hown K3 fun k e => by have := hgv' k e; unfold One; omega
 · rcases h.dnr with h' | ⟨h', h''⟩
   · exact .inl h'
   · exact .inr ⟨h', by rw [chg hg (Array.getElem?_eq_some_iff.1 h'').1 h.nel (by omega)]; exact h''⟩
 · intro i e e'
   rcases new i e' with h1 | h1
   · exact h.ne i e h1
   · have := (hgk i e).2; omega
 · intro e
   rcases new D e with h1 | h1
   · exact h.nel h1
   · rcases h.dnr with h' | ⟨_, h''⟩
     · omega
     · have := (Array.getElem?_eq_some_iff.1 h'').1; omega
 · refine h.below.trans ⟨hg.os, hg.tape, hg.output, by simp; omega, fun k hk => chg hg (by omega) (fun e => by have := hgv _ e; omega) (by omega)⟩
theorem OI.new (h : OI O w b D dn cs5 c0 c1 c2 Sk Sv vk vl W) (hb : Below W.heap.size W W4) {y : J} {cs : List Value} (hy : isJ (fun k => O k ∨ New W W4 k) W4 y cs) : isJ (Eb O b D vk vl W4) W4 y cs := by
 have hs := h.size
 have hss := hb.size
 obtain ⟨xs, h1, _⟩ := h.vals
 refine hy.carry fun k hk => ⟨?_, rfl⟩
 rcases hk with hk | hk
 · exact .inl hk
 · have e1 := hk.1
   refine .inr ⟨by omega, hk.2, fun e => by have := (own_ge h.keys k e).2; omega, fun e => by have := (own_ge h1 k e).2; omega, fun e => ?_⟩
   rcases h.dnr with h' | ⟨_, h''⟩
   · omega
   · have := (Array.getElem?_eq_some_iff.1 h'').1; omega
theorem OI.marks (h : OI O w b 0 dn cs5 c0 c1 c2 Sk Sv vk vl W) (ds : List Bool) : OI O w b W.heap.size ds cs5 c0 c1 c2 Sk Sv vk vl (W.alloc (.cells (ds.map Value.bool).toArray 4)) := by
 have hs := h.size
 have hb : Below W.heap.size W (W.alloc (.cells (ds.map Value.bool).toArray 4)) := (Below.refl _ _).alloc (Nat.le_refl _) _
 obtain ⟨xs, h1, h2⟩ := h.vals
 have kp : Keep (fun _ => False) W (W.alloc (.cells (ds.map Value.bool).toArray 4)) := Keep.of_below hb
 refine ⟨(hb.block b (by omega)).trans h.box, (hb.block (b + 1) (by omega)).trans h.res, (hb.block (b + 2) (by omega)).trans h.obj, own_keep h.keys kp fun _ _ h => h, ⟨xs, own_keep h1 kp fun _ _ h => h, h2.carry fun k hk => ?_⟩, .inr ⟨by omega, heap_alloc_new _ _⟩, h.ne, fun e => by have := (own_ge h.keys _ e).2; omega, fun e => by have := (own_ge h1 _ e).2; omega, h.low, h.below.trans ⟨hb.os, hb.tape, hb.output, hb.size, fun k hk => hb.block k (by omega)⟩, h.at'⟩
 rcases hk with hk | hk
 · have := h.low k hk
   exact ⟨.inl hk, hb.block k (by omega)⟩
 · exact ⟨.inr ⟨hk.1, by have := hk.2.1; simp; omega, hk.2.2.1, hk.2.2.2.1, by have := hk.2.1; omega⟩, hb.block k hk.2.1⟩
theorem OI.mark (h : OI O w b D dn cs5 c0 c1 c2 Sk Sv vk vl W) (hD : b + 3 ≤ D) (m : Nat) : OI O w b D (dn.set m true) cs5 c0 c1 c2 Sk Sv vk vl (W.setCell ⟨D, m, none⟩ (.bool true)) := by
 have hs := h.size
 obtain ⟨xs, h1, h2⟩ := h.vals
 have K3 : Keep (One D) W (W.setCell ⟨D, m, none⟩ (.bool true)) := Keep.setCell (Keep.refl _ _) (fun _ => (rfl : D = D)) _
 obtain ⟨_, hd⟩ : b + 3 ≤ D ∧ W.heap[D]? = some (.cells (dn.map Value.bool).toArray 4 (0, 0)) := by
  rcases h.dnr with h' | h'
  · omega
  · exact h'
 have lowK : ∀ k, k < W.heap.size → k ≠ D → (W.setCell ⟨D, m, none⟩ (.bool true)).heap[k]? = W.heap[k]? := fun k hk hn => K3.block k hk (by unfold One; exact hn)
 refine ⟨(lowK b (by omega) (by omega)).trans h.box, (lowK (b + 1) (by omega) (by omega)).trans h.res, (lowK (b + 2) (by omega) (by omega)).trans h.obj, own_keep h.keys K3 fun k e => by unfold One; exact fun e' => h.nek (e' ▸ e), ⟨xs, own_keep h1 K3 fun k e => by unfold One; exact fun e' => h.nel (e' ▸ e), h2.carry fun k hk => ?_⟩, .inr ⟨hD, ?_⟩, h.ne, h.nek, h.nel, h.low, h.below.trans ⟨rfl, rfl, rfl, by simp, fun k hk => lowK k (by omega) (by omega)⟩, h.at'⟩
 · rcases hk with hk | hk
   · have := h.low k hk
     exact ⟨.inl hk, lowK k (by omega) (by omega)⟩
   · exact ⟨.inr ⟨hk.1, by have := hk.2.1; simp; omega, hk.2.2⟩, lowK k hk.2.1 hk.2.2.2.2⟩
 · rw [heap_setCell_same _ D m _ _ _ hd]
   congr 2
   rw [← Array.toList_inj]
   simp [List.map_set]
end
end Go.Proofs.YtimhpglfolbomaaGreat

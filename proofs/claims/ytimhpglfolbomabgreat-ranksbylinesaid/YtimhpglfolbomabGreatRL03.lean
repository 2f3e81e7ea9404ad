/-
  Rows as they lie in memory: rows of numbers, rows of rows, rows of the call's own.
  The queue's own methods.
  The queue's Push.
  container/heap over the queue.
  container/heap's down, Push and Pop over the queue; put and take.
  put and take: a heap of places, by contracts.
  Are all parents things?
  Who stands behind whom, as plain lists.
-/
import Derived.Test.YtimhpglfolbomabGreatRL02
import Derived.Test.YtimhpglfolbomabGreatRows
import Derived.WalkKit
import Derived.WalkSpells
import Derived.WalkLawsBesides
import Derived.BigRegion
import Derived.BigQuiet
import Derived.RegionTactic
import Derived.Laws.AppendOwnNone
import Derived.Maps.OwnSet
import Derived.Maps.AppendAt
import Derived.Lib.OwnBridge
import Derived.Sort.Grow
import Derived.OneCell
import Derived.Deep.RegionLaw
set_option maxRecDepth 100000
set_option maxHeartbeats 16000000
namespace Go.Proofs.YtimhpglfolbomabGreat.Od
open Go.RowKit Go.Maps
theorem ret_int {k : IntKind} {a b : Int} (h : a = b) : Ending.returned (.int k a) = .returned (.int k b) := by rw [h]
theorem ret_bool {a b : Bool} (h : a = b) : Ending.returned (.bool a) = .returned (.bool b) := by rw [h]
theorem add_block (a : Addr) (m : Nat) : (a.add m).block = a.block := by unfold Addr.add; split <;> rfl
theorem add_flat (b o j : Nat) : (⟨b, o, none⟩ : Addr).add j = ⟨b, o + j, none⟩ := by unfold Addr.add; split <;> simp_all
theorem obj_lt {w : World} {b : Nat} {o : Obj} (h : w.heap[b]? = some o) : b < w.heap.size := (Array.getElem?_eq_some_iff.1 h).1
theorem cell_row {w : World} {g t : Nat} {fr : Nat × Nat} {cur : List Value} (h : w.heap[g]? = some (.cells cur.toArray t fr)) (j : Nat) (v : Value) (hj : cur[j]? = some v) : w.cell? ⟨g, j, none⟩ = some v := by
 simp [World.cell?, h, hj]
structure Keep (S : Nat → Prop) (w w' : World) : Prop where
 os : w'.os = w.os
 tape : w'.tape = w.tape
 output : w'.output = w.output
 size : w.heap.size ≤ w'.heap.size
 block : ∀ k, k < w.heap.size → ¬ S k → w'.heap[k]? = w.heap[k]?
theorem Keep.refl (S : Nat → Prop) (w : World) : Keep S w w := ⟨rfl, rfl, rfl, Nat.le_refl _, fun _ _ _ => rfl⟩
theorem Keep.trans {S S' : Nat → Prop} {a b c : World} (h : Keep S a b) (k : Keep S' b c) (hS : ∀ i, i < a.heap.size → S' i → S i) : Keep S a c :=
 ⟨k.os.trans h.os, k.tape.trans h.tape, k.output.trans h.output, Nat.le_trans h.size k.size, fun i hi hn => (k.block i (Nat.lt_of_lt_of_le hi h.size) (fun h' => hn (hS i hi h'))).trans (h.block i hi hn)⟩
theorem Keep.mono {S S' : Nat → Prop} {a b : World} (h : Keep S a b) (hS : ∀ i, i < a.heap.size → S i → S' i) : Keep S' a b :=
 ⟨h.os, h.tape, h.output, h.size, fun i hi hn => h.block i hi fun h' => hn (hS i hi h')⟩
theorem Keep.of_below {S : Nat → Prop} {a b : World} (h : Below a.heap.size a b) : Keep S a b := ⟨h.os, h.tape, h.output, h.size, fun k hk _ => h.block k hk⟩
theorem Keep.of_grown {S : Nat → Prop} {a b : World} {row : Option Nat} (h : a.grownBy b row) (hr : ∀ k, k < a.heap.size → row = some k → S k) : Keep S a b :=
 ⟨h.os, h.tape, h.output, h.size, fun k hk hn => h.block k hk fun e => hn (hr k hk e.symm)⟩
theorem Keep.below {S : Nat → Prop} {a b : World} (h : Keep S a b) {B : Nat} (hB : B ≤ a.heap.size) (hS : ∀ k, k < B → ¬ S k) : Below B a b :=
 ⟨h.os, h.tape, h.output, h.size, fun k hk => h.block k (Nat.lt_of_lt_of_le hk hB) (hS k hk)⟩
theorem Keep.drew {S : Nat → Prop} {a b : World} (h : Keep S a b) : Keep S a b.drew := ⟨h.os, h.tape, h.output, h.size, h.block⟩
theorem Keep.alloc {S : Nat → Prop} {a b : World} (h : Keep S a b) (o : Obj) : Keep S a (b.alloc o) :=
 h.trans (S' := fun _ => False) (Keep.of_below ((Below.refl _ _).alloc (Nat.le_refl _) o)) fun _ _ h => h.elim
theorem Keep.setCell {S : Nat → Prop} {a b : World} (h : Keep S a b) {p : Addr} (hp : p.block < a.heap.size → S p.block) (u : Value) : Keep S a (b.setCell p u) :=
 ⟨h.os, h.tape, h.output, by rw [show (b.setCell p u).heap.size = b.heap.size by simp]; exact h.size, fun k hk hn => by
  rw [Below.heap_setCell b p u k (fun e => hn (e ▸ hp (e ▸ hk)))]; exact h.block k hk hn⟩
def Same (O : Nat → Prop) (w w' : World) : Prop := ∀ k, O k → w'.heap[k]? = w.heap[k]?
theorem Same.of_below {O : Nat → Prop} {w w' : World} {B : Nat} (h : Below B w w') (hO : ∀ k, O k → k < B) : Same O w w' := fun k hk => h.block k (hO k hk)
theorem Same.of_keep {O S : Nat → Prop} {w w' : World} (h : Keep S w w') (hO : ∀ k, O k → k < w.heap.size ∧ ¬ S k) : Same O w w' := fun k hk => h.block k (hO k hk).1 (hO k hk).2
theorem below_grown {w w' : World} (h : Below w.heap.size w w') : w.grownBy w' none := ⟨h.os, h.tape, h.output, h.size, fun k hk _ => h.block k hk⟩
def Rd {α : Type} (enc : α → Value) (O : Nat → Prop) (w : World) (p : Option Addr) (c : Nat) (xs : List α) : Prop :=
 xs.length ≤ c ∧ (xs ≠ [] → ∃ b o, p = some ⟨b, o, none⟩ ∧ O b ∧ ∀ j x, xs[j]? = some x → w.cell? ⟨b, o + j, none⟩ = some (enc x))
abbrev RdI := Rd (Value.int .i64)
abbrev RdB := Rd Value.bool
abbrev RdS := Rd Value.string
theorem Rd.nil {α : Type} (enc : α → Value) (O : Nat → Prop) (w : World) (p : Option Addr) (c : Nat) : Rd enc O w p c [] := ⟨Nat.zero_le _, fun h => absurd rfl h⟩
theorem Rd.at {α : Type} {enc : α → Value} {O : Nat → Prop} {w : World} {p : Option Addr} {c : Nat} {xs : List α} (h : Rd enc O w p c xs) (j : Nat) (d : α) (hj : j < xs.length) :
    ∃ a, p = some a ∧ O a.block ∧ w.cell? (a.add j) = some (enc (xs.getD j d)) := by
 obtain ⟨b, o, hp, hO, hc⟩ := h.2 (by rintro rfl; simp at hj)
 refine ⟨_, hp, hO, ?_⟩
 rw [add_flat]
 exact hc j _ (by rw [getD_in hj, List.getElem?_eq_getElem hj])
theorem Rd.carry {α : Type} {enc : α → Value} {O O' : Nat → Prop} {w w' : World} {p : Option Addr} {c : Nat} {xs : List α} (h : Rd enc O w p c xs) (hs : Same O w w') (hO : ∀ k, O k → O' k) : Rd enc O' w' p c xs :=
 ⟨h.1, fun hn => by
  obtain ⟨b, o, hp, hb, hc⟩ := h.2 hn
  exact ⟨b, o, hp, hO b hb, fun j x hj => (World.cell?_of_block (hs b hb)).trans (hc j x hj)⟩⟩
theorem Rd.same {α : Type} {enc : α → Value} {O : Nat → Prop} {w w' : World} {p : Option Addr} {c : Nat} {xs : List α} (h : Rd enc O w p c xs) (hs : Same O w w') : Rd enc O w' p c xs := h.carry hs fun _ h => h
theorem Rd.below {α : Type} {enc : α → Value} {B : Nat} {w w' : World} {p : Option Addr} {c : Nat} {xs : List α} (h : Rd enc (· < B) w p c xs) (hb : Below B w w') : Rd enc (· < B) w' p c xs := h.same (Same.of_below hb fun _ h => h)
theorem Rd.len {α : Type} {enc : α → Value} {O : Nat → Prop} {w : World} {c : Nat} {xs : List α} (h : Rd enc O w none c xs) : xs = [] := by
 refine Classical.byContradiction fun hn => ?_
 obtain ⟨b, o, hp, _⟩ := h.2 hn
 cases hp
theorem own_rd {α : Type} {enc : α → Value} {w : World} {B e : Nat} {v : Value} {xs : List α} (h : w.ownsRow B e 1 v xs.length (xs.map enc)) :
    ∃ q cq, v = .slice q xs.length cq ∧ Rd enc (fun k => v.ownBlock = some k) w q cq xs := by
 rcases h.2 with ⟨rfl, hn⟩ | ⟨g, cap, cur, rfl, hg, hgg, h1, h2, h3, h4⟩
 · obtain rfl : xs = [] := List.eq_nil_of_length_eq_zero hn
   exact ⟨none, 0, rfl, Rd.nil _ _ _ _ _⟩
 · refine ⟨_, _, rfl, h1, fun _ => ⟨g, 0, rfl, rfl, fun j x hj => ?_⟩⟩
   have hjl : j < xs.length := (List.getElem?_eq_some_iff.1 hj).1
   rw [Nat.zero_add, h.cellAt j (by omega), List.getElem?_map, hj]
   rfl
theorem own_same {w w' : World} {B e size n : Nat} {v : Value} {xs : List Value} (h : w.ownsRow B e size v n xs) (hs : Same (fun k => v.ownBlock = some k) w w') : w'.ownsRow B e size v n xs := by
 refine ⟨h.1, ?_⟩
 rcases h.2 with hn | ⟨g, cap, cur, rfl, hg, hgg, rest⟩
 · exact .inl hn
 · exact .inr ⟨g, cap, cur, rfl, hg, by rw [hs g rfl]; exact hgg, rest⟩
theorem own_below {w w' : World} {B e size n : Nat} {v : Value} {xs : List Value} (h : w.ownsRow B e size v n xs) (hb : Below w.heap.size w w') : w'.ownsRow B e size v n xs := own_same h (Same.of_below hb fun k hk => (h.lt k hk).2)
theorem own_le {w : World} {B B' e size n : Nat} {v : Value} {xs : List Value} (h : w.ownsRow B e size v n xs) (hB : B' ≤ B) : w.ownsRow B' e size v n xs := by
 refine ⟨h.1, ?_⟩
 rcases h.2 with h' | ⟨g, cap, cur, e, hg, r⟩
 · exact .inl h'
 · exact .inr ⟨g, cap, cur, e, Nat.le_trans hB hg, r⟩
def zs (l : List Nat) : List Int := l.map fun (n : Nat) => (n : Int)
theorem zs_len (l : List Nat) : (zs l).length = l.length := by simp [zs]
theorem zs_getD (l : List Nat) (k : Nat) : (zs l).getD k 0 = ((l.getD k 0 : Nat) : Int) := by
 simp only [zs, List.getD_eq_getElem?_getD, List.getElem?_map]
 cases l[k]? <;> rfl
theorem zs_mem (l : List Nat) (k : Nat) : (k : Int) ∈ zs l ↔ k ∈ l := by
 simp only [zs, List.mem_map]
 exact ⟨fun ⟨x, hx, e⟩ => by rw [← Int.ofNat_inj.1 e]; exact hx, fun h => ⟨k, h, rfl⟩⟩
theorem Tryz.info3 : (Tryz.prog.info? 3).map (fun i => (i.zero, i.size, i.bytes)) = some (some (.int .i64 0), 1, 8) := by kernel_rfl
theorem Tryz.infoI : (Tryz.prog.info? 28).map (fun i => (i.zero, i.size, i.bytes)) = some (some (.slice none 0 0), 1, 24) := by kernel_rfl
theorem Tryz.info2 : (Tryz.prog.info? 2).map (fun i => (i.zero, i.size, i.bytes)) = some (some (.int .i64 0), 1, 8) := by kernel_rfl
theorem wpList_push {α : Type} {enc : α → Value} {w : World} {ops : Array Oper} {rest : List Oper} {o : Oper} {a : Act} {Q : Exit → Act → World → Prop} (hgd : o.guard = none) (s x : Operand) (t e : TypeId) (z : Value) (bytes : Nat)
    (ho : o.op = .call { callee := .builtin .append, args := #[s, x], argTypes := #[t, t] }) (ht : Tryz.prog.underlying t = some (.slice e))
    (hinfo : (Tryz.prog.info? e).map (fun i => (i.zero, i.size, i.bytes)) = some (some z, 1, bytes)) (hzs : z.cells.size = 1) (hby : bytes ≤ 24) (h1 : ∀ y, (enc y).oneCell' = true)
    (base : Nat) (v : Value) (L : List α) (hs : a.eval s = v) (hown : w.ownsRow base e 1 v L.length (L.map enc))
    (ad : Addr) (y : α) (hx : a.eval x = .slice (some ad) 1 1) (hc : w.cell? ad = some (enc y)) (hlen : L.length ≤ 1000000000) (hbase : base ≤ w.heap.size)
    (h : ∀ v' w', w'.ownsRow base e 1 v' (L ++ [y]).length ((L ++ [y]).map enc) → w.grownBy w' v.ownBlock → (v'.ownBlock = v.ownBlock ∨ v'.ownBlock = some w.heap.size) → wpList Tryz.prog ops Q rest (a.put o.dst v') w') : wpList Tryz.prog ops Q (o :: rest) a w := by
 obtain ⟨i0, hi, hz0, hz1, hz2⟩ := info_parts hinfo
 refine wpList_append_own_at w hgd s x t ho base e i0 z 1 bytes ht hi hz0 hz1 hz2 hzs (by decide) v L.length (L.map enc) hs hown ad 1 1 [enc y] hx rfl (fun j u hj => ?_) (fun u hu => ?_) (by unfold maxLen; omega) ?_ hbase ?_
 · match j, hj with
   | 0, hj => simp at hj; subst hj; simpa [Addr.add] using hc
 · simp at hu; subst hu; exact h1 y
 · have : (L.length + 1) * bytes ≤ (L.length + 1) * 24 := Nat.mul_le_mul_left _ hby
   omega
 · intro v' w' hown' hgrow _ hloc
   exact h v' w' (by rw [List.length_append, List.map_append]; exact hown') hgrow hloc
theorem int_one (y : Int) : (Value.int .i64 y).oneCell' = true := rfl
theorem grown_put {α : Type} [Inhabited α] {enc : α → Value} {w : World} {g n : Nat} {d : Array α} : w.grownBy (Sort.putRow enc (Sort.ahead w n) g 0 d) (some g) := by
 refine ⟨rfl, rfl, rfl, by simp [Sort.putRow, Sort.mapBlock, Sort.ahead], fun k hk hne => ?_⟩
 have : g ≠ k := fun e => hne (by rw [e])
 simp [Sort.putRow, Sort.mapBlock, Sort.ahead, Array.getElem?_modify, this]
theorem below_grow (w : World) (os : Array Obj) : Below w.heap.size w (Sort.grow w os) :=
 ⟨rfl, rfl, rfl, by simp [Sort.grow], fun k hk => Sort.heap_grow_old _ _ hk⟩
theorem sort_own {B : Nat} {v : Value} {l : List Int} (w : World) (h : w.ownsRow B 3 1 v l.length (l.map (Value.int .i64))) (hl : l.length ≤ 1000000) :
    Calls Tryz.prog 49 #[v] w fun e w' => e = .returned (.tuple #[]) ∧ w'.ownsRow B 3 1 v l.length ((l.mergeSort fun x y => decide (x ≤ y)).map (Value.int .i64)) ∧ w.grownBy w' v.ownBlock := by
 by_cases hv : v = .slice none 0 0
 · subst hv
   rcases h.2 with ⟨_, hn⟩ | ⟨g, cap, cur, e, _⟩
   · obtain rfl : l = [] := List.eq_nil_of_length_eq_zero hn
     refine (Tryz.slices_Sort_int_none none 0 w).mono ?_
     rintro e w' ⟨rfl, rfl⟩
     exact ⟨rfl, by rw [List.mergeSort_nil]; exact h, ⟨rfl, rfl, rfl, Nat.le_refl _, fun _ _ _ => rfl⟩⟩
   · cases e
 · obtain ⟨g, cap, rfl, hbg, hgl, hncap, hcm, _, hH⟩ := Lib.holds_of_ownsRow h hv
   refine (Tryz.slices_Sort_int g 0 cap l w hH hgl (by omega)).mono ?_
   rintro e w' ⟨rfl, n, os, rfl⟩
   have hp := Lib.ownsRow_putRow (q := n) (k := l.length) (ys := l.mergeSort fun x y => decide (x ≤ y)) h (List.length_mergeSort l) (Nat.le_refl _)
   rw [List.take_of_length_le (by rw [List.length_mergeSort]; exact Nat.le_refl _)] at hp
   refine ⟨rfl, own_below hp (below_grow _ _), ?_⟩
   have h1 := grown_put (enc := Value.int .i64) (w := w) (g := g) (n := n) (d := (l.mergeSort fun x y => decide (x ≤ y)).toArray)
   have h2 := below_grow (Sort.putRow (Value.int .i64) (Sort.ahead w n) g 0 (l.mergeSort fun x y => decide (x ≤ y)).toArray) os
   exact ⟨rfl, rfl, rfl, Nat.le_trans h1.size h2.size, fun k hk hne => (h2.block k (Nat.lt_of_lt_of_le hk h1.size)).trans (h1.block k hk hne)⟩
theorem riseZ_ext : ∀ {a b : List Int}, a.Pairwise (· < ·) → b.Pairwise (· < ·) → (∀ x, x ∈ a ↔ x ∈ b) → a = b
 | [], [], _, _, _ => rfl
 | [], y :: s, _, _, h => absurd ((h y).2 (by simp)) (by simp)
 | x :: r, [], _, _, h => absurd ((h x).1 (by simp)) (by simp)
 | x :: r, y :: s, ha, hb, h => by
  rw [List.pairwise_cons] at ha hb
  have hxy : x = y := by
   have h1 : x = y ∨ x ∈ s := by simpa using (h x).1 (by simp)
   have h2 : y = x ∨ y ∈ r := by simpa using (h y).2 (by simp)
   rcases h1 with h1 | h1
   · exact h1
   · rcases h2 with h2 | h2
     · exact h2.symm
     · have := ha.1 y h2; have := hb.1 x h1; omega
  subst hxy
  rw [riseZ_ext ha.2 hb.2 fun z => ?_]
  constructor
  · intro hz
    have hlt := ha.1 z hz
    rcases List.mem_cons.1 ((h z).1 (List.mem_cons_of_mem _ hz)) with e | e
    · omega
    · exact e
  · intro hz
    have hlt := hb.1 z hz
    rcases List.mem_cons.1 ((h z).2 (List.mem_cons_of_mem _ hz)) with e | e
    · omega
    · exact e
def RdR (O : Nat → Prop) (w : World) (p : Option Addr) (c : Nat) (P : List (List Int)) : Prop :=
 P.length ≤ c ∧ ∀ j, j < P.length → ∃ b o p1 c1, p = some ⟨b, o, none⟩ ∧ O b ∧ w.cell? ⟨b, o + j, none⟩ = some (.slice p1 (P.getD j []).length c1) ∧ RdI O w p1 c1 (P.getD j [])
theorem RdR.carry {O O' : Nat → Prop} {w w' : World} {p : Option Addr} {c : Nat} {P : List (List Int)} (h : RdR O w p c P) (hs : Same O w w') (hO : ∀ k, O k → O' k) : RdR O' w' p c P :=
 ⟨h.1, fun j hj => by
  obtain ⟨b, o, p1, c1, hp, hb, hc, hr⟩ := h.2 j hj
  exact ⟨b, o, p1, c1, hp, hO b hb, (World.cell?_of_block (hs b hb)).trans hc, hr.carry hs hO⟩⟩
theorem RdR.below {B : Nat} {w w' : World} {p : Option Addr} {c : Nat} {P : List (List Int)} (h : RdR (· < B) w p c P) (hb : Below B w w') : RdR (· < B) w' p c P := h.carry (Same.of_below hb fun _ h => h) fun _ h => h
theorem RdR.at {O : Nat → Prop} {w : World} {p : Option Addr} {c : Nat} {P : List (List Int)} (h : RdR O w p c P) (j : Nat) (hj : j < P.length) :
    ∃ a p1 c1, p = some a ∧ O a.block ∧ w.cell? (a.add j) = some (.slice p1 (P.getD j []).length c1) ∧ RdI O w p1 c1 (P.getD j []) := by
 obtain ⟨b, o, p1, c1, hp, hb, hc, hr⟩ := h.2 j hj
 exact ⟨_, p1, c1, hp, hb, by rw [add_flat]; exact hc, hr⟩
theorem RdR.nil (O : Nat → Prop) (w : World) (p : Option Addr) (c : Nat) : RdR O w p c [] := ⟨Nat.zero_le _, fun j hj => absurd hj (by simp)⟩
def Ik (w : World) (b : Nat) (L : List Int) : Prop := w.heap[b]? = some (.cells (L.map (Value.int .i64)).toArray 3)
theorem Ik.same {w w' : World} {b : Nat} {L : List Int} (h : Ik w b L) (hs : w'.heap[b]? = w.heap[b]?) : Ik w' b L := hs.trans h
theorem Ik.cell {w : World} {b : Nat} {L : List Int} (h : Ik w b L) (j : Nat) (hj : j < L.length) : w.cell? ⟨b, j, none⟩ = some (.int .i64 (L.getD j 0)) :=
 cell_row (cur := L.map (Value.int .i64)) h j _ (by rw [List.getElem?_map, List.getElem?_eq_getElem hj, getD_in hj]; rfl)
theorem Ik.fz {w : World} {b : Nat} {L : List Int} (h : Ik w b L) (j : Nat) : w.frozen? ⟨b, j, none⟩ = false := frozen_of_row w b j _ _ h
theorem Ik.set {w : World} {b : Nat} {L : List Int} (h : Ik w b L) (j : Nat) (x : Int) : Ik (w.setCell ⟨b, j, none⟩ (.int .i64 x)) b (L.set j x) := by
 unfold Ik
 rw [heap_setCell_same w b j _ _ _ h]
 congr 2
 simp
theorem made_ints (n : Nat) : madeCells (Value.int .i64 0).cells (n * 1) = ((List.replicate n (0 : Int)).map (Value.int .i64)).toArray := by
 rw [← Array.toList_inj]
 apply List.ext_getElem
 · simp [madeCells]
 · intro i h1 h2
   simp [madeCells, Value.cells]
   rw [Nat.mod_one]
   rfl
theorem made_rows (n : Nat) : madeCells (Value.slice none 0 0).cells (n * 1) = (List.replicate n (Value.slice none 0 0)).toArray := by
 rw [← Array.toList_inj]
 apply List.ext_getElem
 · simp [madeCells]
 · intro i h1 h2
   simp [madeCells, Value.cells]
   rw [Nat.mod_one]
   rfl
theorem make_ints (W : World) (m n : Nat) (hm : m ≤ n) (hn : n ≤ 1000000) : (Instr.makeSlice 28 (.int .i64 (m : Int)) (.int .i64 (n : Int))).run Tryz.prog W = .ok (.slice (some ⟨W.heap.size, 0, none⟩) m n) (W.alloc (.cells ((List.replicate n (0 : Int)).map (Value.int .i64)).toArray 3)) := by
 obtain ⟨i0, hi, hz0, hz1, hz2⟩ := info_parts Tryz.info3
 have := run_makeSlice (P := Tryz.prog) W 28 3 i0 (.int .i64 0) Tryz.underlying28 hi hz0 .i64 .i64 m n (by omega) (by omega) (by rw [hz1]; simp; omega) (by rw [hz2]; omega) (by omega)
 rw [hz1] at this
 simp only [Int.toNat_natCast] at this
 rw [made_ints] at this
 exact this
theorem make_rows (W : World) (n : Nat) (hn : n ≤ 1000000) : (Instr.makeSlice 24 (.int .i64 (n : Int)) (.int .i64 (n : Int))).run Tryz.prog W = .ok (.slice (some ⟨W.heap.size, 0, none⟩) n n) (W.alloc (.cells (List.replicate n (Value.slice none 0 0)).toArray 28)) := by
 obtain ⟨i0, hi, hz0, hz1, hz2⟩ := info_parts Tryz.infoI
 have := run_makeSlice (P := Tryz.prog) W 24 28 i0 (.slice none 0 0) Tryz.underlying24 hi hz0 .i64 .i64 n n (by omega) (Int.le_refl _) (by rw [hz1]; simp; omega) (by rw [hz2]; omega) (by omega)
 rw [hz1] at this
 simp only [Int.toNat_natCast] at this
 rw [made_rows] at this
 exact this
theorem own_take {w : World} {B : Nat} {q : Option Addr} {c : Nat} {l : List Int} (h : w.ownsRow B 3 1 (.slice q l.length c) l.length (l.map (Value.int .i64))) (m : Nat) (hm : m ≤ l.length) (hq : q ≠ none) : w.ownsRow B 3 1 (.slice q m c) (l.take m).length ((l.take m).map (Value.int .i64)) := by
 have e : (l.take m).length = m := by simp; omega
 rw [e]
 refine ⟨by simp; omega, ?_⟩
 rcases h.2 with ⟨h', _⟩ | ⟨g, cap, cur, h', hb, hg, h1, h2, h3, h4⟩
 · simp only [Value.slice.injEq] at h'
   exact absurd h'.1 hq
 · simp only [Value.slice.injEq, true_and] at h'
   obtain ⟨rfl, rfl⟩ := h'
   refine .inr ⟨g, c, cur, rfl, hb, hg, by omega, h2, h3, ?_⟩
   rw [List.map_take, ← h4, List.take_take]
   congr 1
   omega
structure Qu (B : Nat) (w : World) (qb : Nat) (rp : Option Addr) (rc : Nat) (R : List Int) (v : Value) (h : List Nat) : Prop where
 obj : w.heap[qb]? = some (.cells #[.slice rp R.length rc, v] 100)
 row : w.ownsRow B 3 1 v (zs h).length ((zs h).map (Value.int .i64))
 ne : v.ownBlock ≠ some qb
 rank : RdI (· < B) w rp rc R
 le : B ≤ qb
 lt : ∀ x ∈ h, x < R.length
theorem Qu.same {B : Nat} {w w' : World} {qb : Nat} {rp : Option Addr} {rc : Nat} {R : List Int} {v : Value} {h : List Nat} (H : Qu B w qb rp rc R v h) (hb : Keep (fun _ => False) w w') : Qu B w' qb rp rc R v h := by
 have hq := obj_lt H.obj
 exact ⟨(hb.block qb hq id).trans H.obj, own_same H.row (Same.of_keep hb fun k hk => ⟨(H.row.lt k hk).2, id⟩), H.ne, H.rank.same (Same.of_keep hb fun k hk => ⟨by have := H.le; omega, id⟩), H.le, H.lt⟩
theorem Qu.view {B : Nat} {w : World} {qb : Nat} {rp : Option Addr} {rc : Nat} {R : List Int} {v : Value} {h : List Nat} (H : Qu B w qb rp rc R v h) : ∃ q cq, v = .slice q (zs h).length cq ∧ RdI (fun k => v.ownBlock = some k) w q cq (zs h) := own_rd H.row
theorem qlen_any {B : Nat} {w : World} {qb : Nat} {rp : Option Addr} {rc : Nat} {R : List Int} {v : Value} {h : List Nat} (H : Qu B w qb rp rc R v h) :
    Calls Tryz.prog 66 #[.pointer (some ⟨qb, 0, none⟩)] w fun e w' => e = .returned (.int .i64 h.length) ∧ w = w' := by
 have hc := cell_row (cur := [_, _]) H.obj 1 _ rfl
 obtain ⟨q, cq, rfl, _⟩ := H.view
 rw [zs_len] at hc
 clear H
 go_enter Tryz.func66, Tryz.ntmps66
 go_wp2
 go_ret
 exact ⟨rfl, rfl⟩
theorem less_any {B : Nat} {w : World} {qb : Nat} {rp : Option Addr} {rc : Nat} {R : List Int} {v : Value} {h : List Nat} (H : Qu B w qb rp rc R v h) (i j : Nat) (hi : i < h.length) (hj : j < h.length) (_hl : h.length ≤ 1000) (_hR : R.length ≤ 1000) :
    Calls Tryz.prog 173 #[.pointer (some ⟨qb, 0, none⟩), .int .i64 i, .int .i64 j] w fun e w' => e = .returned (.bool (decide (Lt R (h.getD i 0) (h.getD j 0)))) ∧ Keep (fun _ => False) w w' := by
 have hc0 := cell_row (cur := [_, _]) H.obj 0 _ rfl
 have hc1 := cell_row (cur := [_, _]) H.obj 1 _ rfl
 obtain ⟨q, cq, rfl, hrd⟩ := H.view
 obtain ⟨ad, rfl, _, ci⟩ := hrd.at i 0 (by rw [zs_len]; exact hi)
 obtain ⟨ad', e, _, cj⟩ := hrd.at j 0 (by rw [zs_len]; exact hj)
 cases e
 rw [zs_getD] at ci cj
 rw [zs_len] at hc1
 have hli := H.lt _ (getD_inm (d := 0) hi)
 have hlj := H.lt _ (getD_inm (d := 0) hj)
 generalize h.getD i 0 = a at *
 generalize h.getD j 0 = b at *
 obtain ⟨ar, rfl, _, ca⟩ := H.rank.at a 0 hli
 obtain ⟨ar', e, _, cb⟩ := H.rank.at b 0 hlj
 cases e
 have HL : Hid (Lt R a b ↔ (rk R a < rk R b ∨ rk R a = rk R b ∧ a < b)) := Iff.rfl
 unfold rk at HL
 generalize R.getD a 0 = x at *
 generalize R.getD b 0 = y at *
 generalize R.length = m at *
 generalize h.length = n at *
 clear H hrd
 have hK : Keep (fun _ => False) w w := Keep.refl _ _
 have hk1 : ∀ (wx : World) (k : Nat), Keep (fun _ => False) w wx → Keep (fun _ => False) w (wx.drewN k) := fun wx k h => ⟨h.os, h.tape, h.output, h.size, h.block⟩
 by_cases e : x = y
 · subst e
   go_enter Tryz.func173, Tryz.ntmps173
   go_wp2_with fail
   go_quiet (fail)
   go_wp2_with fail
   go_quiet (fail)
   go_wp2_with fail
   go_ret
   refine ⟨ret_bool ?_, by first | exact hk1 _ _ hK | exact hk1 _ _ (hk1 _ _ hK)⟩
   rw [Bool.eq_iff_iff, decide_eq_true_eq, decide_eq_true_eq, HL.out]
   simp
 · go_enter Tryz.func173, Tryz.ntmps173
   go_wp2_with fail
   go_quiet (fail)
   go_wp2_with fail
   go_quiet (fail)
   go_wp2_with fail
   go_quiet (fail)
   go_wp2_with fail
   go_ret
   refine ⟨ret_bool ?_, hk1 _ _ (hk1 _ _ (hk1 _ _ hK))⟩
   rw [Bool.eq_iff_iff, decide_eq_true_eq, decide_eq_true_eq, HL.out]
   omega
theorem zs_set (h : List Nat) (i x : Nat) : ((zs h).map (Value.int .i64)).set i (.int .i64 x) = (zs (h.set i x)).map (Value.int .i64) := by simp [zs, List.map_set]
theorem Qu.set {B : Nat} {w : World} {qb : Nat} {rp : Option Addr} {rc : Nat} {R : List Int} {g cq : Nat} {h : List Nat} (H : Qu B w qb rp rc R (.slice (some ⟨g, 0, none⟩) (zs h).length cq) h) (i x : Nat) (hx : x < R.length) :
    Qu B (w.setCell ⟨g, i, none⟩ (.int .i64 x)) qb rp rc R (.slice (some ⟨g, 0, none⟩) (zs (h.set i x)).length cq) (h.set i x) ∧ Keep (· = g) w (w.setCell ⟨g, i, none⟩ (.int .i64 x)) := by
 have hg := H.row.lt g rfl
 have hne : qb ≠ g := fun e => H.ne (by rw [e]; rfl)
 have hl : (zs (h.set i x)).length = (zs h).length := by simp [zs]
 have hk : Keep (· = g) w (w.setCell ⟨g, i, none⟩ (.int .i64 x)) := (Keep.refl (· = g) w).setCell (p := ⟨g, i, none⟩) (fun _ => rfl) _
 refine ⟨⟨(hk.block qb (obj_lt H.obj) hne).trans (by rw [hl]; exact H.obj), ?_, H.ne, H.rank.same (Same.of_keep hk fun k hk' => ⟨by have := hg.1; have := hg.2; omega, by have := hg.1; omega⟩), H.le, ?_⟩, hk⟩
 · rw [hl, ← zs_set]
   exact (H.row.stored i _).1
 · intro y hy
   rcases List.mem_or_eq_of_mem_set hy with h' | h'
   · exact H.lt y h'
   · rw [h']; exact hx
theorem swap_any {B : Nat} {w : World} {qb : Nat} {rp : Option Addr} {rc : Nat} {R : List Int} {v : Value} {h : List Nat} (H : Qu B w qb rp rc R v h) (i j : Nat) (hi : i < h.length) (hj : j < h.length) (_hl : h.length ≤ 1000) :
    Calls Tryz.prog 176 #[.pointer (some ⟨qb, 0, none⟩), .int .i64 i, .int .i64 j] w fun e w' => e = .returned (.tuple #[]) ∧ Qu B w' qb rp rc R v (swp h i j) ∧ Keep (v.ownBlock = some ·) w w' := by
 have hc1 := cell_row (cur := [_, _]) H.obj 1 _ rfl
 have hne := H.ne
 obtain ⟨q, cq, rfl, hrd⟩ := H.view
 rcases H.row.2 with ⟨h', _⟩ | ⟨g, cap, cur, h', _⟩
 · simp only [Value.slice.injEq] at h'
   have := zs_len h
   omega
 simp only [Value.slice.injEq, true_and] at h'
 obtain ⟨rfl, rfl⟩ := h'
 obtain ⟨ad, e, _, ci⟩ := hrd.at i 0 (by rw [zs_len]; exact hi)
 cases e
 obtain ⟨ad', e, _, cj⟩ := hrd.at j 0 (by rw [zs_len]; exact hj)
 cases e
 rw [add_flat, Nat.zero_add] at ci cj
 rw [zs_getD] at ci cj
 have fi := H.row.frozenAt i
 have fj := H.row.frozenAt j
 obtain ⟨H1, k1⟩ := H.set i (h.getD j 0) (H.lt _ (getD_inm hj))
 obtain ⟨H2, k2⟩ := H1.set j (h.getD i 0) (H.lt _ (getD_inm hi))
 have HQ : Hid (Qu B ((w.setCell ⟨g, i, none⟩ (.int .i64 (h.getD j 0 : Nat))).setCell ⟨g, j, none⟩ (.int .i64 (h.getD i 0 : Nat))) qb rp rc R (.slice (some ⟨g, 0, none⟩) (zs h).length cq) (swp h i j)) := by
  have e : (zs ((h.set i (h.getD j 0)).set j (h.getD i 0))).length = (zs h).length := by simp [zs]
  rw [e] at H2
  exact H2
 have HK : Hid (Keep (· = g) w ((w.setCell ⟨g, i, none⟩ (.int .i64 (h.getD j 0 : Nat))).setCell ⟨g, j, none⟩ (.int .i64 (h.getD i 0 : Nat)))) := k1.trans k2 fun _ _ h => h
 rw [zs_len] at HQ hc1 ⊢
 clear H H1 H2 hrd k1 k2
 have hqg : (⟨g, i, none⟩ : Addr) ≠ ⟨qb, 1, none⟩ := fun e => hne (by cases e; rfl)
 generalize h.getD i 0 = a at *
 generalize h.getD j 0 = b at *
 generalize hn : h.length = n at *
 clear hne
 have cj2 : (w.setCell ⟨g, i, none⟩ (.int .i64 (b : Int))).cell? ⟨g, j, none⟩ = some (.int .i64 (b : Int)) := by
  by_cases e : i = j
  · subst e
    exact World.cell?_setCell_same _ _ _ ci
  · rw [World.cell?_setCell_other _ _ _ _ (fun h => e (by cases h; rfl))]
    exact cj
 go_enter Tryz.func176, Tryz.ntmps176
 go_region
 go_wp2
 exact bodyPost_end (v := .tuple #[]) (by simp [results, Tryz.results176, go_sem]) rfl ⟨rfl, HQ.out.same ((Keep.refl _ _).drew), (HK.out.mono fun k _ e => by rw [e]; rfl).drew⟩
theorem assert_int (W : World) (z : Int) : (Instr.typeAssert (.iface 3 (.int .i64 z)) 20 3 false).run Tryz.prog W = .ok (.int .i64 z) W := by kernel_rfl
theorem step_push {ops : Array Oper} {w : World} {o : Oper} {a : Act} {K : Act → World → Prop} {Q : Exit → Act → World → Prop} {E : Prop} (hg : o.guard = none) (s x : Operand) (t : TypeId)
    (ho : o.op = .call { callee := .builtin .append, args := #[s, x], argTypes := #[t, t] }) (ht : Tryz.prog.underlying t = some (.slice 3))
    (base : Nat) (v : Value) (L : List Int) (hs : a.eval s = v) (hown : w.ownsRow base 3 1 v L.length (L.map (Value.int .i64)))
    (ad : Addr) (y : Int) (hx : a.eval x = .slice (some ad) 1 1) (hc : w.cell? ad = some (.int .i64 y)) (hlen : L.length ≤ 1000000000) (hbase : base ≤ w.heap.size)
    (h : ∀ v' w', w'.ownsRow base 3 1 v' (L ++ [y]).length ((L ++ [y]).map (Value.int .i64)) → w.grownBy w' v.ownBlock → (v'.ownBlock = v.ownBlock ∨ v'.ownBlock = some w.heap.size) → K (a.put o.dst v') w') :
    if Region.wanted o (yielded ops a.tmps) = true then Oper.wp Tryz.prog o a w K Q else E := by
 rw [if_pos (by simp [Region.wanted, hg])]
 obtain ⟨i0, hi, hz0, hz1, hz2⟩ := info_parts Tryz.info3
 obtain ⟨v', w', hr, h2, h3, h4, h5⟩ := run_append_own_at (P := Tryz.prog) w base t o.type 3 i0 (.int .i64 0) 1 8 ht hi hz0 hz1 hz2 rfl (by decide) v L.length (L.map (Value.int .i64)) hown ad 1 1 [.int .i64 y] rfl (fun j u hj => by
  match j, hj with
  | 0, hj => simp at hj; subst hj; simpa [Addr.add] using hc) (fun u hu => by simp at hu; subst hu; rfl) (by unfold maxLen; omega) (by omega) hbase
 unfold Oper.wp execOp
 simp only [ho, resolve, invoke, builtin, Sem.run_bind, Sem.run_pure, Result.andThen_ok, List.map_toArray, List.map_cons, List.map_nil, hs, hx, hr]
 exact h v' w' (by rw [List.length_append, List.map_append]; exact h2) h3 h5
theorem Qu.put {B : Nat} {w w1 : World} {qb : Nat} {rp : Option Addr} {rc : Nat} {R : List Int} {v v' : Value} {h : List Nat} {x : Nat} (H : Qu B w qb rp rc R v h) (hx : x < R.length)
    (ho : w1.ownsRow B 3 1 v' (zs h ++ [(x : Int)]).length ((zs h ++ [(x : Int)]).map (Value.int .i64))) (hk : Keep (v.ownBlock = some ·) w w1) (hl : v'.ownBlock = v.ownBlock ∨ ∀ k, v'.ownBlock = some k → w.heap.size ≤ k) :
    Qu B (w1.setCell ⟨qb, 1, none⟩ v') qb rp rc R v' (h ++ [x]) ∧ Keep (fun k => k = qb ∨ v.ownBlock = some k) w (w1.setCell ⟨qb, 1, none⟩ v') ∧ (w1.cell? ⟨qb, 1, none⟩ = some v) ∧ w1.frozen? ⟨qb, 1, none⟩ = false := by
 have hq := obj_lt H.obj
 have ho1 : w1.heap[qb]? = some (.cells #[.slice rp R.length rc, v] 100) := (hk.block qb hq H.ne).trans H.obj
 have hne : v'.ownBlock ≠ some qb := by
  intro e
  rcases hl with h' | h'
  · exact H.ne (h'.symm.trans e)
  · have := h' qb e; omega
 have hk2 : Keep (fun k => k = qb ∨ v.ownBlock = some k) w (w1.setCell ⟨qb, 1, none⟩ v') := (hk.mono fun k _ h => .inr h).setCell (p := ⟨qb, 1, none⟩) (fun _ => .inl rfl) _
 refine ⟨⟨?_, ?_, hne, ?_, H.le, ?_⟩, hk2, ?_, ?_⟩
 · rw [heap_setCell_same w1 qb 1 _ _ _ ho1]
   rfl
 · have := ownsRow_setCell_other ho (a := ⟨qb, 1, none⟩) hne v'
   have e : zs (h ++ [x]) = zs h ++ [(x : Int)] := by simp [zs]
   rw [e]
   exact this
 · refine H.rank.same (Same.of_keep hk2 fun k hk' => ⟨by have := H.le; omega, ?_⟩)
   rintro (e | e)
   · have := H.le; omega
   · have := (H.row.lt k e).1; omega
 · intro y hy
   rcases List.mem_append.1 hy with h' | h'
   · exact H.lt y h'
   · rw [List.mem_singleton.1 h']; exact hx
 · exact cell_row (cur := [_, _]) ho1 1 _ rfl
 · exact frozen_of_row w1 qb 1 _ _ ho1
theorem qpush_any {B : Nat} {w : World} {qb : Nat} {rp : Option Addr} {rc : Nat} {R : List Int} {v : Value} {h : List Nat} (H : Qu B w qb rp rc R v h) (x : Nat) (hx : x < R.length) (hl : h.length ≤ 1000) :
    Calls Tryz.prog 175 #[.pointer (some ⟨qb, 0, none⟩), .iface 3 (.int .i64 x)] w fun e w' => e = .returned (.tuple #[]) ∧ ∃ v', Qu B w' qb rp rc R v' (h ++ [x]) ∧ Keep (fun k => k = qb ∨ v.ownBlock = some k) w w' ∧ (v'.ownBlock = v.ownBlock ∨ ∀ k, v'.ownBlock = some k → w.heap.size ≤ k) := by
 have hc1 := cell_row (cur := [_, _]) H.obj 1 _ rfl
 have hq := obj_lt H.obj
 have HH : Hid (Qu B w qb rp rc R v h) := H
 have hle := H.le
 have hzl : (zs h).length ≤ 1000 := by rw [zs_len]; exact hl
 obtain ⟨q, cq, rfl, _⟩ := H.view
 have HO : Hid (w.ownsRow B 3 1 (.slice q (zs h).length cq) (zs h).length ((zs h).map (Value.int .i64))) := H.row
 clear H
 have hta := assert_int
 have HP : Hid (∀ v' w1, w1.ownsRow B 3 1 v' (zs h ++ [(x : Int)]).length ((zs h ++ [(x : Int)]).map (Value.int .i64)) → (w.alloc (.cells #[.int .i64 x] 3)).drew.grownBy w1 (Value.slice q (zs h).length cq).ownBlock → (v'.ownBlock = (Value.slice q (zs h).length cq).ownBlock ∨ v'.ownBlock = some (w.alloc (.cells #[.int .i64 x] 3)).drew.heap.size) →
     (Qu B (w1.setCell ⟨qb, 1, none⟩ v') qb rp rc R v' (h ++ [x]) ∧ Keep (fun k => k = qb ∨ (Value.slice q (zs h).length cq).ownBlock = some k) w (w1.setCell ⟨qb, 1, none⟩ v') ∧ (v'.ownBlock = (Value.slice q (zs h).length cq).ownBlock ∨ ∀ k, v'.ownBlock = some k → w.heap.size ≤ k)) ∧ True ∧ w1.cell? ⟨qb, 1, none⟩ = some (Value.slice q (zs h).length cq) ∧ w1.frozen? ⟨qb, 1, none⟩ = false) := by
  intro v' w1 ho1 hg1 hl1
  have hk : Keep ((Value.slice q (zs h).length cq).ownBlock = some ·) w w1 := (((Keep.refl _ w).alloc (.cells #[.int .i64 x] 3)).drew).trans (Keep.of_grown (S := ((Value.slice q (zs h).length cq).ownBlock = some ·)) hg1 fun k _ e => e) fun _ _ h => h
  have hlo : v'.ownBlock = (Value.slice q (zs h).length cq).ownBlock ∨ ∀ k, v'.ownBlock = some k → w.heap.size ≤ k := by
   refine hl1.imp id fun e k hk => ?_
   rw [e] at hk
   cases hk
   simp
  obtain ⟨h1, h2, h3, h4⟩ := HH.out.put hx ho1 hk hlo
  exact ⟨⟨h1, h2, hlo⟩, trivial, h3, h4⟩
 go_enter Tryz.func175, Tryz.ntmps175
 go_region_law (refine step_push rfl (.tmp 8) (.tmp 11) 28 rfl Tryz.underlying28 B (.slice q (zs h).length cq) (zs h) rfl (HO.out.alloc (.cells #[.int .i64 x] 3)).drew ⟨w.heap.size, 0, none⟩ x rfl (cell_row (w := w.alloc (.cells #[.int .i64 x] 3)) (cur := [_]) (heap_alloc_new _ _) 0 _ rfl) (by omega) (by simp; omega) ?_; intro v' w1 ho1 hg1 hl1; obtain ⟨h1, h2, h3, h4⟩ := HP.out v' w1 ho1 hg1 hl1; have H1 : Hid _ := h1; have H2 : Hid _ := h2; obtain ⟨q', c', rfl, _⟩ := own_rd ho1; clear h1 h2 ho1 hg1)
 all_goals
  rw [show (zs h).length + 1 = (zs h ++ [(x : Int)]).length by simp]
  exact bodyPost_end (v := .tuple #[]) (by simp [results, Tryz.results175, go_sem]) rfl ⟨rfl, _, H1.out⟩
theorem Qu.cut {B : Nat} {w : World} {qb : Nat} {rp : Option Addr} {rc : Nat} {R : List Int} {q : Option Addr} {cq : Nat} {h : List Nat} (H : Qu B w qb rp rc R (.slice q (zs h).length cq) h) (m : Nat) (hm : m ≤ h.length) (hq : q ≠ none) :
    Qu B (w.setCell ⟨qb, 1, none⟩ (.slice q m cq)) qb rp rc R (.slice q m cq) (h.take m) ∧ Keep (· = qb) w (w.setCell ⟨qb, 1, none⟩ (.slice q m cq)) := by
 have hl := obj_lt H.obj
 have hne : (Value.slice q m cq).ownBlock ≠ some qb := by
  have := H.ne
  cases q <;> exact this
 have hk : Keep (· = qb) w (w.setCell ⟨qb, 1, none⟩ (.slice q m cq)) := (Keep.refl (· = qb) w).setCell (p := ⟨qb, 1, none⟩) (fun _ => rfl) _
 refine ⟨⟨?_, ?_, hne, ?_, H.le, fun x hx => H.lt x (List.mem_of_mem_take hx)⟩, hk⟩
 · rw [heap_setCell_same w qb 1 _ _ _ H.obj]
   rfl
 · have := own_take H.row m (by rw [zs_len]; exact hm) hq
   have e : zs (h.take m) = (zs h).take m := by simp [zs, List.map_take]
   rw [e]
   exact ownsRow_setCell_other this hne _
 · exact H.rank.same (Same.of_keep hk fun k hk' => ⟨by have := H.le; omega, by have := H.le; omega⟩)
theorem qpop_any {B : Nat} {w : World} {qb : Nat} {rp : Option Addr} {rc : Nat} {R : List Int} {v : Value} {h : List Nat} (H : Qu B w qb rp rc R v h) (hp : 0 < h.length) (hl : h.length ≤ 1000) :
    Calls Tryz.prog 174 #[.pointer (some ⟨qb, 0, none⟩)] w fun e w' => e = .returned (.iface 3 (.int .i64 (h.getD (h.length - 1) 0 : Nat))) ∧ ∃ v', Qu B w' qb rp rc R v' (h.take (h.length - 1)) ∧ Keep (· = qb) w w' ∧ v'.ownBlock = v.ownBlock := by
 have hc1 := cell_row (cur := [_, _]) H.obj 1 _ rfl
 have hf1 := frozen_of_row w qb 1 _ _ H.obj
 obtain ⟨q, cq, rfl, hrd⟩ := H.view
 obtain ⟨m, hm⟩ : ∃ m, h.length = m + 1 := ⟨h.length - 1, by omega⟩
 obtain ⟨ad, rfl, _, ci⟩ := hrd.at m 0 (by rw [zs_len]; omega)
 have hcl : h.length ≤ cq := by have := hrd.1; rw [zs_len] at this; exact this
 have HC : Hid _ := H.cut m (by omega) (by simp)
 rw [zs_getD] at ci
 rw [zs_len, hm] at hc1
 rw [hm] at hl hcl
 have e : h.length - 1 = m := by omega
 rw [e]
 generalize h.getD m 0 = y at *
 clear H hrd
 go_enter Tryz.func174, Tryz.ntmps174
 go_wp2
 go_ret
 exact ⟨rfl, _, HC.out.1, HC.out.2, rfl⟩
theorem mLess (W : World) (p : Option Addr) : (method 302 98 (.pointer p) "Less").run Tryz.prog W = .ok (173, .pointer p) W := by kernel_rfl
theorem mSwap (W : World) (p : Option Addr) : (method 302 98 (.pointer p) "Swap").run Tryz.prog W = .ok (176, .pointer p) W := by kernel_rfl
theorem mLen (W : World) (p : Option Addr) : (method 302 98 (.pointer p) "Len").run Tryz.prog W = .ok (66, .pointer p) W := by kernel_rfl
theorem mPush (W : World) (p : Option Addr) : (method 302 98 (.pointer p) "Push").run Tryz.prog W = .ok (175, .pointer p) W := by kernel_rfl
theorem mPop (W : World) (p : Option Addr) : (method 302 98 (.pointer p) "Pop").run Tryz.prog W = .ok (174, .pointer p) W := by kernel_rfl
structure Qk (B : Nat) (w w' : World) (qb : Nat) (rp : Option Addr) (rc : Nat) (R : List Int) (v v' : Value) (h : List Nat) : Prop where
 qu : Qu B w' qb rp rc R v' h
 keep : Keep (fun k => k = qb ∨ v.ownBlock = some k) w w'
 loc : v'.ownBlock = v.ownBlock ∨ ∀ k, v'.ownBlock = some k → w.heap.size ≤ k
theorem Qk.refl {B : Nat} {w : World} {qb : Nat} {rp : Option Addr} {rc : Nat} {R : List Int} {v : Value} {h : List Nat} (H : Qu B w qb rp rc R v h) : Qk B w w qb rp rc R v v h := ⟨H, Keep.refl _ _, .inl rfl⟩
theorem Qk.trans {B : Nat} {w w1 w2 : World} {qb : Nat} {rp : Option Addr} {rc : Nat} {R : List Int} {v v1 v2 : Value} {h h' : List Nat} (H : Qk B w w1 qb rp rc R v v1 h) (K : Qk B w1 w2 qb rp rc R v1 v2 h') : Qk B w w2 qb rp rc R v v2 h' := by
 refine ⟨K.qu, H.keep.trans K.keep fun k hk e => ?_, ?_⟩
 · rcases e with e | e
   · exact .inl e
   · rcases H.loc with h1 | h1
     · exact .inr (h1 ▸ e)
     · have := h1 k e; omega
 · have hs := H.keep.size
   rcases K.loc with h2 | h2
   · rw [h2]; exact H.loc
   · exact .inr fun k hk => Nat.le_trans hs (h2 k hk)
theorem Qk.still {B : Nat} {w w1 w2 : World} {qb : Nat} {rp : Option Addr} {rc : Nat} {R : List Int} {v v1 : Value} {h : List Nat} (H : Qk B w w1 qb rp rc R v v1 h) (K : Keep (fun _ => False) w1 w2) : Qk B w w2 qb rp rc R v v1 h :=
 H.trans ⟨H.qu.same K, K.mono fun _ _ h => h.elim, .inl rfl⟩
theorem Qk.mk_swap {B : Nat} {w w1 : World} {qb : Nat} {rp : Option Addr} {rc : Nat} {R : List Int} {v : Value} {h : List Nat} (H : Qu B w1 qb rp rc R v h) (K : Keep (v.ownBlock = some ·) w w1) : Qk B w w1 qb rp rc R v v h :=
 ⟨H, K.mono fun _ _ h => .inr h, .inl rfl⟩
theorem up_any {B : Nat} {w : World} {qb : Nat} {rp : Option Addr} {rc : Nat} {R : List Int} {v : Value} {h : List Nat} (H : Qu B w qb rp rc R v h) (j : Nat) (hj : j < h.length) (hl : h.length ≤ 1000) (hR : R.length ≤ 1000) :
    Calls Tryz.prog 112 #[.iface 98 (.pointer (some ⟨qb, 0, none⟩)), .int .i64 j] w fun e w' => e = .returned (.tuple #[]) ∧ ∃ v', Qk B w w' qb rp rc R v v' (upF R (j + 1) h j) := by
 have hmL := mLess
 have hmS := mSwap
 go_enter Tryz.func112, Tryz.ntmps112
 go_wp2
 go_loopw [1] (fun i wr => ∃ (k f : Nat) (h' : List Nat) (v' : Value), i = .int .i64 k ∧ k < f ∧ k < h'.length ∧ h'.length = h.length ∧ Qk B w wr qb rp rc R v v' h' ∧ Hid (upF R (j + 1) h j = upF R f h' k)) (fun i _ => (intOf i).toNat)
 case atStart => exact ⟨j, j + 1, h, v, rfl, by omega, hj, rfl, Qk.refl H, rfl⟩
 case round =>
  obtain ⟨k, f, h', v', rfl, hkf, hk, hh, hq, HE⟩ := hrel
  obtain ⟨f, rfl⟩ : ∃ f', f = f' + 1 := ⟨f - 1, by omega⟩
  rcases Nat.eq_zero_or_pos k with rfl | hp
  · have HF : Hid (upF R (j + 1) h j = h') := by
      show _ = _
      rw [HE.out, upF, if_neg (by omega)]
    go_wp2
    exact bodyPost_end (v := .tuple #[]) (by simp [results, Tryz.results112, go_sem]) rfl ⟨rfl, v', by rw [HF.out]; exact hq⟩
  · obtain ⟨m, rfl⟩ : ∃ m, k = m + 1 := ⟨k - 1, by omega⟩
    have hm : (m + 1 - 1) / 2 = m / 2 := by simp
    have hd : (m : Int).tdiv 2 = ((m / 2 : Nat) : Int) := by
     rw [Int.tdiv_eq_ediv_of_nonneg (by omega)]
     rfl
    have hne : (((m / 2 : Nat) : Int) == (m : Int) + 1) = false := by rw [beq_eq_false_iff_ne]; omega
    have hls := less_any hq.qu (m + 1) (m / 2) hk (by omega) (by omega) hR
    have HS : Hid (∀ wx, Qu B wx qb rp rc R v' h' → Calls Tryz.prog 176 #[.pointer (some ⟨qb, 0, none⟩), .int .i64 ((m / 2 : Nat) : Int), .int .i64 ((m + 1 : Nat) : Int)] wx fun e w' => e = .returned (.tuple #[]) ∧ Qu B w' qb rp rc R v' (swp h' (m / 2) (m + 1)) ∧ Keep (v'.ownBlock = some ·) wx w') := fun wx hx => swap_any hx (m / 2) (m + 1) (by omega) hk (by omega)
    by_cases hlt : Lt R (h'.getD (m + 1) 0) (h'.getD (m / 2) 0)
    · have HF : Hid (upF R (j + 1) h j = upF R f (swp h' (m / 2) (m + 1)) (m / 2)) := by
        show _ = _
        rw [HE.out, upF, hm, if_pos ⟨by omega, hlt⟩]
      rw [decide_eq_true hlt] at hls
      generalize m / 2 = i at *
      go_wp2_with (first
       | (go_at_call 173; refine hls.mono ?_; rintro e w1 ⟨rfl, hk1⟩; have hq1 := hq.still hk1; clear hk1 hq)
       | (go_at_call 176; refine (HS.out _ hq1.qu).mono ?_; rintro e w2 ⟨rfl, hq2, hk2⟩; have hq3 := hq1.trans (Qk.mk_swap hq2 hk2); clear hq1 hq2 hk2))
      go_roundw
      case rel => exact ⟨i, f, _, v', rfl, by omega, by rw [swp_len]; omega, by rw [swp_len]; exact hh, hq3, HF⟩
      case measure => simp [intOf]; omega
    · have HF : Hid (upF R (j + 1) h j = h') := by
        show _ = _
        rw [HE.out, upF, hm, if_neg (fun h => hlt h.2)]
      rw [decide_eq_false hlt] at hls
      generalize m / 2 = i at *
      go_wp2_with (first
       | (go_at_call 173; refine hls.mono ?_; rintro e w1 ⟨rfl, hk1⟩; have hq1 := hq.still hk1; clear hk1 hq))
      exact bodyPost_end (v := .tuple #[]) (by simp [results, Tryz.results112, go_sem]) rfl ⟨rfl, v', by rw [HF.out]; exact hq1⟩
def LessC (B : Nat) (qb : Nat) (rp : Option Addr) (rc : Nat) (R : List Int) (v : Value) (h : List Nat) (a b : Nat) (t : Bool) : Prop :=
 ∀ wx, Qu B wx qb rp rc R v h → Calls Tryz.prog 173 #[.pointer (some ⟨qb, 0, none⟩), .int .i64 (a : Int), .int .i64 (b : Int)] wx fun e w' => e = .returned (.bool t) ∧ Keep (fun _ => False) wx w'
def SwapC (B : Nat) (qb : Nat) (rp : Option Addr) (rc : Nat) (R : List Int) (v : Value) (h : List Nat) (a b : Nat) : Prop :=
 ∀ wx, Qu B wx qb rp rc R v h → Calls Tryz.prog 176 #[.pointer (some ⟨qb, 0, none⟩), .int .i64 (a : Int), .int .i64 (b : Int)] wx fun e w' => e = .returned (.tuple #[]) ∧ Qu B w' qb rp rc R v (swp h a b) ∧ Keep (v.ownBlock = some ·) wx w'
theorem less_c {B : Nat} {qb : Nat} {rp : Option Addr} {rc : Nat} {R : List Int} {v : Value} {h : List Nat} (hl : h.length ≤ 1000) (hR : R.length ≤ 1000) (a b : Nat) (ha : a < h.length) (hb : b < h.length) (t : Bool) (ht : decide (Lt R (h.getD a 0) (h.getD b 0)) = t) : LessC B qb rp rc R v h a b t := by
 intro wx hx
 rw [← ht]
 exact less_any hx a b ha hb hl hR
theorem swap_c {B : Nat} {qb : Nat} {rp : Option Addr} {rc : Nat} {R : List Int} {v : Value} {h : List Nat} (hl : h.length ≤ 1000) (a b : Nat) (ha : a < h.length) (hb : b < h.length) : SwapC B qb rp rc R v h a b := fun _ hx => swap_any hx a b ha hb hl
theorem son_no {R : List Int} {h : List Nat} {n i : Nat} (hn : n ≤ 2 * i + 2) : son R h n i = 2 * i + 1 := by unfold son; rw [if_neg (by omega)]
theorem son_one {R : List Int} {h : List Nat} {n i : Nat} (hn : ¬ Lt R (h.getD (2 * i + 2) 0) (h.getD (2 * i + 1) 0)) : son R h n i = 2 * i + 1 := by unfold son; rw [if_neg (fun h => hn h.2)]
theorem son_two {R : List Int} {h : List Nat} {n i : Nat} (hn : 2 * i + 2 < n) (hl : Lt R (h.getD (2 * i + 2) 0) (h.getD (2 * i + 1) 0)) : son R h n i = 2 * i + 2 := by unfold son; rw [if_pos ⟨hn, hl⟩]
theorem down_any {B : Nat} {w : World} {qb : Nat} {rp : Option Addr} {rc : Nat} {R : List Int} {v : Value} {h : List Nat} (H : Qu B w qb rp rc R v h) (i0 n : Nat) (hn : n ≤ h.length) (hi0 : i0 < h.length) (hl : h.length ≤ 1000) (hR : R.length ≤ 1000) (f0 : Nat) (hf0 : n < i0 + f0) :
    Calls Tryz.prog 113 #[.iface 98 (.pointer (some ⟨qb, 0, none⟩)), .int .i64 i0, .int .i64 n] w fun e w' => (∃ t, e = .returned (.bool t)) ∧ ∃ v', Qk B w w' qb rp rc R v v' (downF R n f0 h i0) := by
 have hmL := mLess
 have hmS := mSwap
 go_enter Tryz.func113, Tryz.ntmps113
 go_wp2
 go_loopw [7] (fun x wr => ∃ (i f : Nat) (h' : List Nat) (v' : Value), x = .int .i64 i ∧ i < h'.length ∧ n < i + f ∧ h'.length = h.length ∧ Qk B w wr qb rp rc R v v' h' ∧ Hid (downF R n f0 h i0 = downF R n f h' i)) (fun i _ => 1000 - (intOf i).toNat)
 case atStart => exact ⟨i0, f0, h, v, rfl, hi0, hf0, rfl, Qk.refl H, rfl⟩
 case round =>
  obtain ⟨i, f, h', v', rfl, hi, hf, hh, hq, HE⟩ := hrel
  obtain ⟨a, ha⟩ : ∃ a : Nat, 2 * (i : Int) + 1 = (a : Int) := ⟨2 * i + 1, by omega⟩
  obtain ⟨b, hb⟩ : ∃ b : Nat, (a : Int) + 1 = (b : Int) := ⟨a + 1, by omega⟩
  have EA : Hid (a = 2 * i + 1) := by show _ = _; omega
  have EB : Hid (b = 2 * i + 2) := by show _ = _; omega
  have a0 : decide ((a : Int) < 0) = false := by rw [decide_eq_false_iff_not]; omega
  rcases Nat.lt_or_ge a n with hc | hc
  · obtain ⟨f, rfl⟩ : ∃ f', f = f' + 1 := ⟨f - 1, by omega⟩
    have hcI : decide ((n : Int) ≤ (a : Int)) = false := by rw [decide_eq_false_iff_not]; omega
    have fin : ∀ s : Nat, Hid (son R h' n i = s) → Lt R (h'.getD s 0) (h'.getD i 0) → Hid (downF R n f0 h i0 = downF R n f (swp h' i s) s) := by
     intro s hs hlt
     show _ = _
     rw [HE.out, downF, hs.out, if_pos ⟨by omega, hlt⟩]
    have fin' : ∀ s : Nat, Hid (son R h' n i = s) → ¬ Lt R (h'.getD s 0) (h'.getD i 0) → Hid (downF R n f0 h i0 = h') := by
     intro s hs hlt
     show _ = _
     rw [HE.out, downF, hs.out, if_neg (fun h => hlt h.2)]
    rcases Nat.lt_or_ge b n with hc2 | hc2
    · have hcJ : decide ((b : Int) < (n : Int)) = true := by rw [decide_eq_true_eq]; omega
      by_cases ht : Lt R (h'.getD b 0) (h'.getD a 0)
      · have HL1 : Hid (LessC B qb rp rc R v' h' b a true) := less_c (by omega) hR b a (by omega) (by omega) true (decide_eq_true ht)
        have HS : Hid (son R h' n i = b) := by rw [EA.out, EB.out] at ht; rw [EB.out]; exact son_two (by omega) ht
        by_cases hlt : Lt R (h'.getD b 0) (h'.getD i 0)
        · have HL2 : Hid (LessC B qb rp rc R v' h' b i true) := less_c (by omega) hR b i (by omega) hi true (decide_eq_true hlt)
          have HF := fin b HS hlt
          have HW : Hid (SwapC B qb rp rc R v' h' i b) := swap_c (by omega) i b hi (by omega)
          clear fin fin' ht hlt
          have tok1 : True := trivial
          go_wp2_with (first
           | (go_at_call 173; have _t := tok1; refine (HL1.out _ hq.qu).mono ?_; rintro e w1 ⟨rfl, hk1⟩; have hq1 := hq.still hk1; clear tok1 hk1 hq)
           | (go_at_call 173; refine (HL2.out _ hq1.qu).mono ?_; rintro e w2 ⟨rfl, hk2⟩; have hq2 := hq1.still hk2; clear hk2 hq1)
           | (go_at_call 176; refine (HW.out _ hq2.qu).mono ?_; rintro e w3 ⟨rfl, hq3, hk3⟩; have hq4 := hq2.trans (Qk.mk_swap hq3 hk3); clear hq2 hq3 hk3))
          go_roundw
          case rel => exact ⟨b, f, _, v', rfl, by rw [swp_len]; omega, by omega, by rw [swp_len]; exact hh, hq4, HF⟩
          case measure => simp [intOf]; omega
        · have HL2 : Hid (LessC B qb rp rc R v' h' b i false) := less_c (by omega) hR b i (by omega) hi false (decide_eq_false hlt)
          have HF := fin' b HS hlt
          clear fin fin' ht hlt
          have tok1 : True := trivial
          go_wp2_with (first
           | (go_at_call 173; have _t := tok1; refine (HL1.out _ hq.qu).mono ?_; rintro e w1 ⟨rfl, hk1⟩; have hq1 := hq.still hk1; clear tok1 hk1 hq)
           | (go_at_call 173; refine (HL2.out _ hq1.qu).mono ?_; rintro e w2 ⟨rfl, hk2⟩; have hq2 := hq1.still hk2; clear hk2 hq1))
          go_ret
          exact ⟨⟨_, rfl⟩, v', by rw [HF.out]; exact hq2⟩
      · have HL1 : Hid (LessC B qb rp rc R v' h' b a false) := less_c (by omega) hR b a (by omega) (by omega) false (decide_eq_false ht)
        have HS : Hid (son R h' n i = a) := by rw [EA.out, EB.out] at ht; rw [EA.out]; exact son_one ht
        by_cases hlt : Lt R (h'.getD a 0) (h'.getD i 0)
        · have HL2 : Hid (LessC B qb rp rc R v' h' a i true) := less_c (by omega) hR a i (by omega) hi true (decide_eq_true hlt)
          have HF := fin a HS hlt
          have HW : Hid (SwapC B qb rp rc R v' h' i a) := swap_c (by omega) i a hi (by omega)
          clear fin fin' ht hlt
          have tok1 : True := trivial
          go_wp2_with (first
           | (go_at_call 173; have _t := tok1; refine (HL1.out _ hq.qu).mono ?_; rintro e w1 ⟨rfl, hk1⟩; have hq1 := hq.still hk1; clear tok1 hk1 hq)
           | (go_at_call 173; refine (HL2.out _ hq1.qu).mono ?_; rintro e w2 ⟨rfl, hk2⟩; have hq2 := hq1.still hk2; clear hk2 hq1)
           | (go_at_call 176; refine (HW.out _ hq2.qu).mono ?_; rintro e w3 ⟨rfl, hq3, hk3⟩; have hq4 := hq2.trans (Qk.mk_swap hq3 hk3); clear hq2 hq3 hk3))
          go_roundw
          case rel => exact ⟨a, f, _, v', rfl, by rw [swp_len]; omega, by omega, by rw [swp_len]; exact hh, hq4, HF⟩
          case measure => simp [intOf]; omega
        · have HL2 : Hid (LessC B qb rp rc R v' h' a i false) := less_c (by omega) hR a i (by omega) hi false (decide_eq_false hlt)
          have HF := fin' a HS hlt
          clear fin fin' ht hlt
          have tok1 : True := trivial
          go_wp2_with (first
           | (go_at_call 173; have _t := tok1; refine (HL1.out _ hq.qu).mono ?_; rintro e w1 ⟨rfl, hk1⟩; have hq1 := hq.still hk1; clear tok1 hk1 hq)
           | (go_at_call 173; refine (HL2.out _ hq1.qu).mono ?_; rintro e w2 ⟨rfl, hk2⟩; have hq2 := hq1.still hk2; clear hk2 hq1))
          go_ret
          exact ⟨⟨_, rfl⟩, v', by rw [HF.out]; exact hq2⟩
    · have hcJ : decide ((b : Int) < (n : Int)) = false := by rw [decide_eq_false_iff_not]; omega
      have HS : Hid (son R h' n i = a) := by rw [EA.out]; exact son_no (by omega)
      by_cases hlt : Lt R (h'.getD a 0) (h'.getD i 0)
      · have HL2 : Hid (LessC B qb rp rc R v' h' a i true) := less_c (by omega) hR a i (by omega) hi true (decide_eq_true hlt)
        have HF := fin a HS hlt
        have HW : Hid (SwapC B qb rp rc R v' h' i a) := swap_c (by omega) i a hi (by omega)
        clear fin fin' hlt
        go_wp2_with (first
         | (go_at_call 173; refine (HL2.out _ hq.qu).mono ?_; rintro e w2 ⟨rfl, hk2⟩; have hq2 := hq.still hk2; clear hk2 hq)
         | (go_at_call 176; refine (HW.out _ hq2.qu).mono ?_; rintro e w3 ⟨rfl, hq3, hk3⟩; have hq4 := hq2.trans (Qk.mk_swap hq3 hk3); clear hq2 hq3 hk3))
        go_roundw
        case rel => exact ⟨a, f, _, v', rfl, by rw [swp_len]; omega, by omega, by rw [swp_len]; exact hh, hq4, HF⟩
        case measure => simp [intOf]; omega
      · have HL2 : Hid (LessC B qb rp rc R v' h' a i false) := less_c (by omega) hR a i (by omega) hi false (decide_eq_false hlt)
        have HF := fin' a HS hlt
        clear fin fin' hlt
        go_wp2_with (first
         | (go_at_call 173; refine (HL2.out _ hq.qu).mono ?_; rintro e w2 ⟨rfl, hk2⟩; have hq2 := hq.still hk2; clear hk2 hq))
        go_ret
        exact ⟨⟨_, rfl⟩, v', by rw [HF.out]; exact hq2⟩
  · have hcI : decide ((n : Int) ≤ (a : Int)) = true := by rw [decide_eq_true_eq]; omega
    have HF : Hid (downF R n f0 h i0 = h') := by
     show _ = _
     rw [HE.out]
     cases f with
     | zero => rfl
     | succ f => rw [downF, if_neg (by omega)]
    go_wp2
    go_ret
    exact ⟨⟨_, rfl⟩, v', by rw [HF.out]; exact hq⟩
def PutP (B : Nat) (w : World) (qb : Nat) (rp : Option Addr) (rc : Nat) (R : List Int) (v : Value) (h : List Nat) (x : Nat) (e : Ending) (w' : World) : Prop :=
 e = .returned (.tuple #[]) ∧ ∃ v' h', Qk B w w' qb rp rc R v v' h' ∧ Hp R h' ∧ h'.Perm (h ++ [x])
theorem hpush_any {B : Nat} {w : World} {qb : Nat} {rp : Option Addr} {rc : Nat} {R : List Int} {v : Value} {h : List Nat} (H : Qu B w qb rp rc R v h) (HP : Hp R h) (x : Nat) (hx : x < R.length) (hl : h.length < 1000) (hR : R.length ≤ 1000) :
    Calls Tryz.prog 84 #[.iface 98 (.pointer (some ⟨qb, 0, none⟩)), .iface 3 (.int .i64 x)] w (PutP B w qb rp rc R v h x) := by
 have hmP := mPush
 have hmN := mLen
 have hc := qpush_any H x hx (by omega)
 have HL : Hid (∀ v' wx, Qu B wx qb rp rc R v' (h ++ [x]) → Calls Tryz.prog 66 #[.pointer (some ⟨qb, 0, none⟩)] wx fun e w' => e = .returned (.int .i64 ((h.length : Int) + 1)) ∧ wx = w') := fun v' wx hq => by
  have := qlen_any hq
  rw [List.length_append] at this
  exact this
 have HU : Hid (∀ v' wx, Qu B wx qb rp rc R v' (h ++ [x]) → Calls Tryz.prog 112 #[.iface 98 (.pointer (some ⟨qb, 0, none⟩)), .int .i64 h.length] wx fun e w' => e = .returned (.tuple #[]) ∧ ∃ v2, Qk B wx w' qb rp rc R v' v2 (upF R (h.length + 1) (h ++ [x]) h.length)) :=
  fun v' wx hq => up_any hq h.length (by simp) (by simp; omega) hR
 have HG : Hid _ := upF_good R (h.length + 1) (h ++ [x]) h.length (by omega) (by simp) (up_push R h x HP)
 clear H HP
 go_enter Tryz.func84, Tryz.ntmps84
 go_wp2_with (first
  | (go_at_call 175; refine hc.mono ?_; rintro e w1 ⟨rfl, v1, hq1, hk1, hl1⟩; have H1 : Qk B w w1 qb rp rc R v v1 (h ++ [x]) := ⟨hq1, hk1, hl1⟩; clear hk1 hl1)
  | (go_at_call 66; refine (HL.out _ _ hq1).mono ?_; rintro e w2 ⟨rfl, rfl⟩)
  | (go_at_call 112; refine (HU.out _ _ hq1).mono ?_; rintro e w3 ⟨rfl, v3, hq3⟩; have H3 := H1.trans hq3; clear H1 hq3 hq1))
 exact bodyPost_end (v := .tuple #[]) (by simp [results, Tryz.results84, go_sem]) rfl ⟨rfl, _, _, H3, HG.out.1, HG.out.2⟩
theorem put_any {B : Nat} {w : World} {qb : Nat} {rp : Option Addr} {rc : Nat} {R : List Int} {v : Value} {h : List Nat} (H : Qu B w qb rp rc R v h) (HP : Hp R h) (x : Nat) (hx : x < R.length) (hl : h.length < 1000) (hR : R.length ≤ 1000) :
    Calls Tryz.prog 65 #[.pointer (some ⟨qb, 0, none⟩), .int .i64 x] w (PutP B w qb rp rc R v h x) := by
 have hc := hpush_any H HP x hx hl hR
 go_enter Tryz.func65, Tryz.ntmps65
 go_wp2_with (first
  | (go_at_call 84; refine hc.mono ?_; rintro e w1 ⟨rfl, hr⟩))
 exact bodyPost_end (v := .tuple #[]) (by simp [results, Tryz.results65, go_sem]) rfl ⟨rfl, hr⟩
def TakeP (B : Nat) (w : World) (qb : Nat) (rp : Option Addr) (rc : Nat) (R : List Int) (v : Value) (h : List Nat) (w' : World) : Prop :=
 ∃ v' h', Qk B w w' qb rp rc R v v' h' ∧ Hp R h' ∧ (h.getD 0 0 :: h').Perm h
theorem hpop_any {B : Nat} {w : World} {qb : Nat} {rp : Option Addr} {rc : Nat} {R : List Int} {v : Value} {h : List Nat} (H : Qu B w qb rp rc R v h) (HP : Hp R h) (hp : 0 < h.length) (hl : h.length ≤ 1000) (hR : R.length ≤ 1000) :
    Calls Tryz.prog 85 #[.iface 98 (.pointer (some ⟨qb, 0, none⟩))] w fun e w' => e = .returned (.iface 3 (.int .i64 (h.getD 0 0 : Nat))) ∧ TakeP B w qb rp rc R v h w' := by
 have hmP := mPop
 have hmN := mLen
 have hmS := mSwap
 obtain ⟨m, hm⟩ : ∃ m, h.length = m + 1 := ⟨h.length - 1, by omega⟩
 have e1 : h.length - 1 = m := by omega
 have hlen := qlen_any H
 have hsw := swap_any H 0 m hp (by omega) hl
 obtain ⟨g1, g2, g3, g4⟩ := popF_good R h hp HP
 have hdl : (downF R m h.length (swp h 0 m) 0).length = m + 1 := by rw [downF_len, swp_len, hm]
 unfold popF at g1 g2 g4
 rw [e1] at g1 g2 g3 g4
 have HD : Hid (∀ v' wx, Qu B wx qb rp rc R v' (swp h 0 m) → Calls Tryz.prog 113 #[.iface 98 (.pointer (some ⟨qb, 0, none⟩)), .int .i64 0, .int .i64 m] wx fun e w' => (∃ t, e = .returned (.bool t)) ∧ ∃ v2, Qk B wx w' qb rp rc R v' v2 (downF R m h.length (swp h 0 m) 0)) :=
  fun v' wx hq => down_any hq 0 m (by rw [swp_len]; omega) (by rw [swp_len]; omega) (by rw [swp_len]; omega) hR h.length (by omega)
 generalize downF R m h.length (swp h 0 m) 0 = d at *
 have HQ : Hid (∀ v' wx, Qu B wx qb rp rc R v' d → Calls Tryz.prog 174 #[.pointer (some ⟨qb, 0, none⟩)] wx fun e w' => e = .returned (.iface 3 (.int .i64 (h.getD 0 0 : Nat))) ∧ ∃ v2, Qk B wx w' qb rp rc R v' v2 (d.take m)) := by
  intro v' wx hq
  have := qpop_any hq (by omega) (by omega)
  rw [hdl, Nat.add_sub_cancel, g3] at this
  refine this.mono ?_
  rintro e w' ⟨he, v2, q2, k2, l2⟩
  exact ⟨he, v2, q2, k2.mono fun _ _ h => .inl h, .inl l2⟩
 have HG1 : Hid _ := g1
 have HG2 : Hid _ := g2
 rw [hm] at hlen
 generalize swp h 0 m = s at *
 clear g1 g2 g3 g4 hdl H HP
 obtain ⟨y, hy⟩ : ∃ y, h.getD 0 0 = y := ⟨_, rfl⟩
 have HY : Hid (h.getD 0 0 = y) := hy
 rw [hy] at HG2 HQ ⊢
 clear hy
 go_enter Tryz.func85, Tryz.ntmps85
 go_wp2_with (first
  | (go_at_call 66; refine hlen.mono ?_; rintro e w2 ⟨rfl, rfl⟩)
  | (go_at_call 176; refine hsw.mono ?_; rintro e w1 ⟨rfl, hq1, hk1⟩; have H1 := Qk.mk_swap hq1 hk1; clear hk1)
  | (go_at_call 113; refine (HD.out _ _ hq1).mono ?_; rintro e w3 ⟨⟨t, rfl⟩, v3, hq3⟩; have H3 := H1.trans hq3; clear H1 hq3 hq1)
  | (go_at_call 174; refine (HQ.out _ _ H3.qu).mono ?_; rintro e w4 ⟨rfl, v4, hq4⟩; have H4 := H3.trans hq4; clear H3 hq4))
 go_ret
 exact ⟨rfl, _, _, H4, HG1.out, by rw [HY.out]; exact HG2.out⟩
theorem take_any {B : Nat} {w : World} {qb : Nat} {rp : Option Addr} {rc : Nat} {R : List Int} {v : Value} {h : List Nat} (H : Qu B w qb rp rc R v h) (HP : Hp R h) (hp : 0 < h.length) (hl : h.length ≤ 1000) (hR : R.length ≤ 1000) :
    Calls Tryz.prog 67 #[.pointer (some ⟨qb, 0, none⟩)] w fun e w' => e = .returned (.int .i64 (h.getD 0 0 : Nat)) ∧ TakeP B w qb rp rc R v h w' := by
 have hc := hpop_any H HP hp hl hR
 have hta := assert_int
 obtain ⟨y, hy⟩ : ∃ y, h.getD 0 0 = y := ⟨_, rfl⟩
 rw [hy] at hc ⊢
 clear hy
 go_enter Tryz.func67, Tryz.ntmps67
 go_wp2_with (first
  | (go_at_call 85; refine hc.mono ?_; rintro e w1 ⟨rfl, hr⟩))
 go_ret
 exact ⟨rfl, hr⟩
def rowB (n : Nat) (r : List Int) : Bool := r.all fun p => decide (0 ≤ p ∧ p < (n : Int))
def insB (n : Nat) (P : List (List Int)) : Bool := P.all (rowB n)
theorem all_next {α : Type} (f : α → Bool) (l : List α) (k : Nat) (d : α) (hk : k < l.length) : (l.take (k + 1)).all f = ((l.take k).all f && f (l.getD k d)) := by
 rw [take_snoc l k d hk, List.all_append]
 simp
theorem all_bad {α : Type} {f : α → Bool} {l : List α} {k : Nat} {d : α} (hk : k < l.length) (h : f (l.getD k d) = false) : l.all f = false := by
 rw [List.all_eq_false]
 exact ⟨_, getD_inm hk, by rw [h]; simp⟩
theorem inside_any (P : List (List Int)) (p : Option Addr) (c : Nat) (w : World) (r : RdR (· < w.heap.size) w p c P) (hP : P.length ≤ 1000) (hl : ∀ x ∈ P, x.length ≤ 1000) :
    Calls Tryz.prog 63 #[.slice p P.length c] w fun e w' => e = .returned (.bool (insB P.length P)) ∧ w = w' := by
 have HL : Hid (∀ x ∈ P, x.length ≤ 1000) := hl
 clear hl
 obtain ⟨n, hn⟩ : ∃ n, P.length = n := ⟨_, rfl⟩
 have HN : Hid (P.length = n) := hn
 rw [hn] at hP ⊢
 clear hn
 go_enter Tryz.func63, Tryz.ntmps63
 go_wp2
 go_loopw [9] (fun i wr => ∃ k : Nat, k ≤ n ∧ i = .int .i64 k ∧ wr = w ∧ Hid ((P.take k).all (rowB n) = true)) (fun i _ => n - (intOf i).toNat)
 case atStart => exact ⟨0, Nat.zero_le _, rfl, rfl, by show _ = _; simp⟩
 case round =>
  obtain ⟨k, hk, rfl, rfl, HA⟩ := hrel
  by_cases hlt : k < n
  · obtain ⟨ad, p1, c1, rfl, _, hcell, hr⟩ := r.at k (by rw [HN.out]; exact hlt)
    have hrl := HL.out _ (getD_inm (l := P) (j := k) (d := []) (by rw [HN.out]; exact hlt))
    have HT := all_next (rowB n) P k [] (by rw [HN.out]; exact hlt)
    have HB : Hid (rowB n (P.getD k []) = false → insB n P = false) := fun h => all_bad (by rw [HN.out]; exact hlt) h
    rw [HA.out, Bool.true_and] at HT
    have HT' : Hid _ := HT
    clear HT HA
    generalize P.getD k [] = row at *
    go_wp2
    go_loopw [15] (fun i wx => ∃ j : Nat, j ≤ row.length ∧ i = .int .i64 j ∧ wx = wr ∧ Hid ((row.take j).all (fun p => decide (0 ≤ p ∧ p < (n : Int))) = true)) (fun i _ => row.length - (intOf i).toNat)
    case atStart => exact ⟨0, Nat.zero_le _, rfl, rfl, by show _ = _; simp⟩
    case round =>
     obtain ⟨j, hj, rfl, rfl, HA⟩ := hrel
     by_cases hjt : j < row.length
     · obtain ⟨ad, rfl, _, hc1⟩ := hr.at j 0 hjt
       have HT2 : Hid _ := all_next (fun p => decide (0 ≤ p ∧ p < (n : Int))) row j 0 hjt
       have HB2 : Hid ((decide (0 ≤ row.getD j 0 ∧ row.getD j 0 < (n : Int))) = false → rowB n row = false) := fun h => all_bad (d := 0) hjt h
       generalize row.getD j 0 = x at *
       by_cases h0 : x < 0
       · have d0 : decide (x < 0) = true := decide_eq_true h0
         have HF : Hid (insB n P = false) := HB.out (HB2.out (by simp; omega))
         go_wp2
         go_ret
         exact ⟨ret_bool HF.out.symm, rfl⟩
       · have d0 : decide (x < 0) = false := decide_eq_false h0
         by_cases h1 : (n : Int) ≤ x
         · have HF : Hid (insB n P = false) := HB.out (HB2.out (by simp; omega))
           go_wp2
           go_ret
           exact ⟨ret_bool HF.out.symm, rfl⟩
         · go_wp2
           go_roundw
           case rel => exact ⟨j + 1, by omega, by go_num, by first | rfl | trivial, by show _ = _; rw [HT2.out, HA.out]; simp; omega⟩
           case measure => simp [intOf]; omega
     · obtain rfl : j = row.length := by omega
       rw [List.take_length] at HA
       go_wp2
       go_roundw
       case rel => exact ⟨k + 1, by omega, by go_num, by first | rfl | trivial, HT'.out.trans HA.out⟩
       case measure => simp [intOf]; omega
  · obtain rfl : k = n := by omega
    have HF : Hid (insB k P = true) := by
     have := HA.out
     rw [← HN.out, List.take_length] at this
     rw [← HN.out]
     exact this
    go_wp2
    go_ret
    exact ⟨ret_bool HF.out.symm, rfl⟩
end Go.Proofs.YtimhpglfolbomabGreat.Od
namespace Go.Proofs.YtimhpglfolbomabGreat.Od
def kidR (Q : List (List Nat)) : Nat → Nat → List Nat
 | 0, _ => []
 | k + 1, p => kidR Q k p ++ List.replicate ((par Q k).count p) k
def kidJ (Q : List (List Nat)) (k j p : Nat) : List Nat := kidR Q k p ++ List.replicate (((par Q k).take j).count p) k
theorem kidJ_zero (Q : List (List Nat)) (k p : Nat) : kidJ Q k 0 p = kidR Q k p := by simp [kidJ]
theorem kidJ_all (Q : List (List Nat)) (k p : Nat) : kidJ Q k (par Q k).length p = kidR Q (k + 1) p := by simp [kidJ, kidR]
theorem kidJ_same (Q : List (List Nat)) (k j : Nat) (hj : j < (par Q k).length) : kidJ Q k (j + 1) ((par Q k).getD j 0) = kidJ Q k j ((par Q k).getD j 0) ++ [k] := by
 unfold kidJ
 rw [take_snoc _ j 0 hj, List.count_append, List.append_assoc]
 congr 1
 rw [show List.count ((par Q k).getD j 0) [(par Q k).getD j 0] = 1 by simp, List.replicate_succ']
theorem kidJ_other (Q : List (List Nat)) (k j p : Nat) (hj : j < (par Q k).length) (hp : p ≠ (par Q k).getD j 0) : kidJ Q k (j + 1) p = kidJ Q k j p := by
 unfold kidJ
 rw [take_snoc _ j 0 hj, List.count_append]
 congr 2
 have : List.count p [(par Q k).getD j 0] = 0 := by
  rw [List.count_eq_zero]
  simpa using hp
 omega
theorem kidR_mem {Q : List (List Nat)} {p x : Nat} : ∀ {k : Nat}, x ∈ kidR Q k p → x < k ∧ p ∈ par Q x
 | 0, h => by simp [kidR] at h
 | k + 1, h => by
  rw [kidR, List.mem_append] at h
  rcases h with h | h
  · obtain ⟨h1, h2⟩ := kidR_mem h
    exact ⟨by omega, h2⟩
  · rw [List.mem_replicate] at h
    refine ⟨by omega, ?_⟩
    rw [h.2]
    exact List.count_pos_iff.1 (by omega)
theorem kidR_count {Q : List (List Nat)} {p j : Nat} : ∀ {k : Nat}, j < k → (kidR Q k p).count j = (par Q j).count p
 | 0, h => absurd h (by omega)
 | k + 1, h => by
  rw [kidR, List.count_append, List.count_replicate]
  rcases Nat.lt_or_ge j k with h' | h'
  · rw [kidR_count h', if_neg (by simp; omega)]
    rfl
  · have e : j = k := by omega
    subst e
    rw [if_pos (by simp), List.count_eq_zero.2 (fun hm => by have := (kidR_mem hm).1; omega)]
    omega
theorem kidR_len {Q : List (List Nat)} {p m : Nat} (hm : ∀ i, (par Q i).length ≤ m) : ∀ k, (kidR Q k p).length ≤ k * m
 | 0 => by simp [kidR]
 | k + 1 => by
  have h1 := kidR_len (p := p) hm k
  have h2 := hm k
  have h3 : (par Q k).count p ≤ (par Q k).length := List.count_le_length
  rw [kidR, List.length_append, List.length_replicate, Nat.succ_mul]
  omega
theorem kidJ_len {Q : List (List Nat)} {p m : Nat} (hm : ∀ i, (par Q i).length ≤ m) (k j : Nat) : (kidJ Q k j p).length ≤ k * m + m := by
 have h1 := kidR_len (p := p) hm k
 have h2 := hm k
 have h3 : ((par Q k).take j).count p ≤ ((par Q k).take j).length := List.count_le_length
 have h4 : ((par Q k).take j).length ≤ (par Q k).length := by rw [List.length_take]; omega
 unfold kidJ
 rw [List.length_append, List.length_replicate]
 omega
def wl (Q : List (List Nat)) (n k : Nat) : List Int := (List.range n).map fun i => if i < k then ((par Q i).length : Int) else 0
theorem wl_len (Q : List (List Nat)) (n k : Nat) : (wl Q n k).length = n := by simp [wl]
theorem wl_zero (Q : List (List Nat)) (n : Nat) : wl Q n 0 = List.replicate n 0 := by
 apply List.ext_getElem
 · simp [wl]
 · intro i h1 h2
   simp [wl]
theorem wl_set (Q : List (List Nat)) (n k : Nat) : (wl Q n k).set k ((par Q k).length : Int) = wl Q n (k + 1) := by
 apply List.ext_getElem
 · simp [wl]
 · intro i h1 h2
   rw [List.getElem_set]
   simp only [wl, List.getElem_map, List.getElem_range]
   by_cases e : k = i
   · subst e
     rw [if_pos rfl, if_pos (by omega)]
   · rw [if_neg e]
     by_cases h : i < k
     · rw [if_pos h, if_pos (by omega)]
     · rw [if_neg h, if_neg (by omega)]
theorem wl_at (Q : List (List Nat)) (n i : Nat) (hi : i < n) : (wl Q n n).getD i 0 = ((par Q i).length : Int) := by
 rw [getD_in (by rw [wl_len]; exact hi)]
 simp [wl, hi]
end Go.Proofs.YtimhpglfolbomabGreat.Od

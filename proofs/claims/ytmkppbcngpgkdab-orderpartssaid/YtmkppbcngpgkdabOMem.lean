/-
  Rows as they lie in memory: rows of numbers, rows of rows, rows of the call's own.
-/
import Derived.Test.YtmkppbcngpgkdabOMath
import Derived.Test.YtmkppbcngpgkdabRows
import Derived.Test.YtmkppbcngpgkdabShelf
import Derived.WalkKit
import Derived.WalkSpells
import Derived.WalkLawsBesides
import Derived.BigRegion
import Derived.BigQuiet
import Derived.RegionTactic
import Derived.Laws.AppendOwnNone
import Derived.Maps.OwnSet
import Derived.Maps.AppendAt
import Derived.Lib.OwnBridge
import Derived.Sort.Grow
import Derived.OneCell
namespace Go.Proofs.Ytmkppbcngpgkdab
open Go.RowKit Go.Maps

theorem ret_int {k : IntKind} {a b : Int} (h : a = b) : Ending.returned (.int k a) = .returned (.int k b) := by rw [h]
theorem ret_bool {a b : Bool} (h : a = b) : Ending.returned (.bool a) = .returned (.bool b) := by rw [h]
theorem add_block (a : Addr) (m : Nat) : (a.add m).block = a.block := by unfold Addr.add; split <;> rfl
theorem add_flat (b o j : Nat) : (⟨b, o, none⟩ : Addr).add j = ⟨b, o + j, none⟩ := by unfold Addr.add; split <;> simp_all
theorem obj_lt {w : World} {b : Nat} {o : Obj} (h : w.heap[b]? = some o) : b < w.heap.size := (Array.getElem?_eq_some_iff.1 h).1
theorem cell_row {w : World} {g t : Nat} {fr : Nat × Nat} {cur : List Value} (h : w.heap[g]? = some (.cells cur.toArray t fr)) (j : Nat) (v : Value) (hj : cur[j]? = some v) : w.cell? ⟨g, j, none⟩ = some v := by
  simp [World.cell?, h, hj]

/-- All that lay in w lies there still, but for the blocks S. -/
structure Keep (S : Nat → Prop) (w w' : World) : Prop where
  os : w'.os = w.os
  tape : w'.tape = w.tape
  output : w'.output = w.output
  size : w.heap.size ≤ w'.heap.size
  block : ∀ k, k < w.heap.size → ¬ S k → w'.heap[k]? = w.heap[k]?
theorem Keep.refl (S : Nat → Prop) (w : World) : Keep S w w := ⟨rfl, rfl, rfl, Nat.le_refl _, fun _ _ _ => rfl⟩
theorem Keep.trans {S S' : Nat → Prop} {a b c : World} (h : Keep S a b) (k : Keep S' b c) (hS : ∀ i, i < a.heap.size → S' i → S i) : Keep S a c :=
  ⟨k.os.trans h.os, k.tape.trans h.tape, k.output.trans h.output, Nat.le_trans h.size k.size, fun i hi hn => (k.block i (Nat.lt_of_lt_of_le hi h.size) (fun h' => hn (hS i hi h'))).trans (h.block i hi hn)⟩
theorem Keep.mono {S S' : Nat → Prop} {a b : World} (h : Keep S a b) (hS : ∀ i, i < a.heap.size → S i → S' i) : Keep S' a b :=
  ⟨h.os, h.tape, h.output, h.size, fun i hi hn => h.block i hi fun h' => hn (hS i hi h')⟩
theorem Keep.of_below {S : Nat → Prop} {a b : World} (h : Below a.heap.size a b) : Keep S a b := ⟨h.os, h.tape, h.output, h.size, fun k hk _ => h.block k hk⟩
theorem Keep.of_grown {S : Nat → Prop} {a b : World} {row : Option Nat} (h : a.grownBy b row) (hr : ∀ k, k < a.heap.size → row = some k → S k) : Keep S a b :=
  ⟨h.os, h.tape, h.output, h.size, fun k hk hn => h.block k hk fun e => hn (hr k hk e.symm)⟩
theorem Keep.below {S : Nat → Prop} {a b : World} (h : Keep S a b) {B : Nat} (hB : B ≤ a.heap.size) (hS : ∀ k, k < B → ¬ S k) : Below B a b :=
  ⟨h.os, h.tape, h.output, h.size, fun k hk => h.block k (Nat.lt_of_lt_of_le hk hB) (hS k hk)⟩
theorem Keep.drew {S : Nat → Prop} {a b : World} (h : Keep S a b) : Keep S a b.drew := ⟨h.os, h.tape, h.output, h.size, h.block⟩
theorem Keep.alloc {S : Nat → Prop} {a b : World} (h : Keep S a b) (o : Obj) : Keep S a (b.alloc o) :=
  h.trans (S' := fun _ => False) (Keep.of_below ((Below.refl _ _).alloc (Nat.le_refl _) o)) fun _ _ h => h.elim
theorem Keep.setCell {S : Nat → Prop} {a b : World} (h : Keep S a b) {p : Addr} (hp : p.block < a.heap.size → S p.block) (u : Value) : Keep S a (b.setCell p u) :=
  ⟨h.os, h.tape, h.output, by rw [show (b.setCell p u).heap.size = b.heap.size by simp]; exact h.size, fun k hk hn => by
    rw [Below.heap_setCell b p u k (fun e => hn (e ▸ hp (e ▸ hk)))]; exact h.block k hk hn⟩

/-- All blocks of O are as they were. -/
def Same (O : Nat → Prop) (w w' : World) : Prop := ∀ k, O k → w'.heap[k]? = w.heap[k]?
theorem Same.of_below {O : Nat → Prop} {w w' : World} {B : Nat} (h : Below B w w') (hO : ∀ k, O k → k < B) : Same O w w' := fun k hk => h.block k (hO k hk)
theorem Same.of_keep {O S : Nat → Prop} {w w' : World} (h : Keep S w w') (hO : ∀ k, O k → k < w.heap.size ∧ ¬ S k) : Same O w w' := fun k hk => h.block k (hO k hk).1 (hO k hk).2
theorem below_grown {w w' : World} (h : Below w.heap.size w w') : w.grownBy w' none := ⟨h.os, h.tape, h.output, h.size, fun k hk _ => h.block k hk⟩

/-- At p, with room for c, the things xs are read, one cell each; they lie in a block of O. -/
def Rd {α : Type} (enc : α → Value) (O : Nat → Prop) (w : World) (p : Option Addr) (c : Nat) (xs : List α) : Prop :=
  xs.length ≤ c ∧ (xs ≠ [] → ∃ b o, p = some ⟨b, o, none⟩ ∧ O b ∧ ∀ j x, xs[j]? = some x → w.cell? ⟨b, o + j, none⟩ = some (enc x))
abbrev RdI := Rd (Value.int .i64)
abbrev RdB := Rd Value.bool
abbrev RdS := Rd Value.string
theorem Rd.nil {α : Type} (enc : α → Value) (O : Nat → Prop) (w : World) (p : Option Addr) (c : Nat) : Rd enc O w p c [] := ⟨Nat.zero_le _, fun h => absurd rfl h⟩
theorem Rd.at {α : Type} {enc : α → Value} {O : Nat → Prop} {w : World} {p : Option Addr} {c : Nat} {xs : List α} (h : Rd enc O w p c xs) (j : Nat) (d : α) (hj : j < xs.length) :
    ∃ a, p = some a ∧ O a.block ∧ w.cell? (a.add j) = some (enc (xs.getD j d)) := by
  obtain ⟨b, o, hp, hO, hc⟩ := h.2 (by rintro rfl; simp at hj)
  refine ⟨_, hp, hO, ?_⟩
  rw [add_flat]
  exact hc j _ (by rw [getD_in hj, List.getElem?_eq_getElem hj])
theorem Rd.carry {α : Type} {enc : α → Value} {O O' : Nat → Prop} {w w' : World} {p : Option Addr} {c : Nat} {xs : List α} (h : Rd enc O w p c xs) (hs : Same O w w') (hO : ∀ k, O k → O' k) : Rd enc O' w' p c xs :=
  ⟨h.1, fun hn => by
    obtain ⟨b, o, hp, hb, hc⟩ := h.2 hn
    exact ⟨b, o, hp, hO b hb, fun j x hj => (World.cell?_of_block (hs b hb)).trans (hc j x hj)⟩⟩
theorem Rd.same {α : Type} {enc : α → Value} {O : Nat → Prop} {w w' : World} {p : Option Addr} {c : Nat} {xs : List α} (h : Rd enc O w p c xs) (hs : Same O w w') : Rd enc O w' p c xs := h.carry hs fun _ h => h
theorem Rd.below {α : Type} {enc : α → Value} {B : Nat} {w w' : World} {p : Option Addr} {c : Nat} {xs : List α} (h : Rd enc (· < B) w p c xs) (hb : Below B w w') : Rd enc (· < B) w' p c xs := h.same (Same.of_below hb fun _ h => h)
theorem Rd.len {α : Type} {enc : α → Value} {O : Nat → Prop} {w : World} {c : Nat} {xs : List α} (h : Rd enc O w none c xs) : xs = [] := by
  refine Classical.byContradiction fun hn => ?_
  obtain ⟨b, o, hp, _⟩ := h.2 hn
  cases hp
theorem Rd.take {α : Type} {enc : α → Value} {O : Nat → Prop} {w : World} {p : Option Addr} {c : Nat} {xs : List α} (h : Rd enc O w p c xs) (n : Nat) : Rd enc O w p c (xs.take n) := by
  refine ⟨by have := h.1; rw [List.length_take]; omega, fun hn => ?_⟩
  obtain ⟨b, o, hp, hb, hc⟩ := h.2 (by rintro rfl; simp at hn)
  refine ⟨b, o, hp, hb, fun j x hj => hc j x ?_⟩
  rw [List.getElem?_take] at hj
  split at hj
  · exact hj
  · cases hj
theorem own_lt {w : World} {B e size n : Nat} {v : Value} {xs : List Value} (h : w.ownsRow B e size v n xs) : ∀ k, v.ownBlock = some k → B ≤ k ∧ k < w.heap.size := h.lt
/-- What is owned is read. -/
theorem own_rd {α : Type} {enc : α → Value} {w : World} {B e : Nat} {v : Value} {xs : List α} (h : w.ownsRow B e 1 v xs.length (xs.map enc)) :
    ∃ q cq, v = .slice q xs.length cq ∧ Rd enc (fun k => v.ownBlock = some k) w q cq xs := by
  rcases h.2 with ⟨rfl, hn⟩ | ⟨g, cap, cur, rfl, hg, hgg, h1, h2, h3, h4⟩
  · obtain rfl : xs = [] := List.eq_nil_of_length_eq_zero hn
    exact ⟨none, 0, rfl, Rd.nil _ _ _ _ _⟩
  · refine ⟨_, _, rfl, h1, fun _ => ⟨g, 0, rfl, rfl, fun j x hj => ?_⟩⟩
    have hjl : j < xs.length := (List.getElem?_eq_some_iff.1 hj).1
    rw [Nat.zero_add, h.cellAt j (by omega), List.getElem?_map, hj]
    rfl
theorem own_same {w w' : World} {B e size n : Nat} {v : Value} {xs : List Value} (h : w.ownsRow B e size v n xs) (hs : Same (fun k => v.ownBlock = some k) w w') : w'.ownsRow B e size v n xs := by
  refine ⟨h.1, ?_⟩
  rcases h.2 with hn | ⟨g, cap, cur, rfl, hg, hgg, rest⟩
  · exact .inl hn
  · exact .inr ⟨g, cap, cur, rfl, hg, by rw [hs g rfl]; exact hgg, rest⟩
theorem own_below {w w' : World} {B e size n : Nat} {v : Value} {xs : List Value} (h : w.ownsRow B e size v n xs) (hb : Below w.heap.size w w') : w'.ownsRow B e size v n xs := own_same h (Same.of_below hb fun k hk => (h.lt k hk).2)
theorem own_le {w : World} {B B' e size n : Nat} {v : Value} {xs : List Value} (h : w.ownsRow B e size v n xs) (hB : B' ≤ B) : w.ownsRow B' e size v n xs := by
  refine ⟨h.1, ?_⟩
  rcases h.2 with h' | ⟨g, cap, cur, e, hg, r⟩
  · exact .inl h'
  · exact .inr ⟨g, cap, cur, e, Nat.le_trans hB hg, r⟩

/-- Numbers of places. -/
def zs (l : List Nat) : List Int := l.map fun (n : Nat) => (n : Int)
theorem zs_len (l : List Nat) : (zs l).length = l.length := by simp [zs]
theorem zs_getD (l : List Nat) (k : Nat) : (zs l).getD k 0 = ((l.getD k 0 : Nat) : Int) := by
  simp only [zs, List.getD_eq_getElem?_getD, List.getElem?_map]
  cases l[k]? <;> rfl
theorem zs_mem (l : List Nat) (k : Nat) : (k : Int) ∈ zs l ↔ k ∈ l := by
  simp only [zs, List.mem_map]
  exact ⟨fun ⟨x, hx, e⟩ => by rw [← Int.ofNat_inj.1 e]; exact hx, fun h => ⟨k, h, rfl⟩⟩
theorem zs_inj {a b : List Nat} (h : zs a = zs b) : a = b := by
  unfold zs at h
  exact List.map_inj_right (fun x y e => Int.ofNat_inj.1 e) |>.1 h

theorem Try.info3 : (Try.prog.info? 3).map (fun i => (i.zero, i.size, i.bytes)) = some (some (.int .i64 0), 1, 8) := by kernel_rfl
theorem Try.infoI : (Try.prog.info? 24).map (fun i => (i.zero, i.size, i.bytes)) = some (some (.slice none 0 0), 1, 24) := by kernel_rfl
theorem Try.info2 : (Try.prog.info? 2).map (fun i => (i.zero, i.size, i.bytes)) = some (some (.int .i64 0), 1, 8) := by kernel_rfl
/-- One more at the end of a row of the call's own. -/
theorem wpList_push {α : Type} {enc : α → Value} {w : World} {ops : Array Oper} {rest : List Oper} {o : Oper} {a : Act} {Q : Exit → Act → World → Prop} (hgd : o.guard = none) (s x : Operand) (t e : TypeId) (z : Value) (bytes : Nat)
    (ho : o.op = .call { callee := .builtin .append, args := #[s, x], argTypes := #[t, t] }) (ht : Try.prog.underlying t = some (.slice e))
    (hinfo : (Try.prog.info? e).map (fun i => (i.zero, i.size, i.bytes)) = some (some z, 1, bytes)) (hzs : z.cells.size = 1) (hby : bytes ≤ 24) (h1 : ∀ y, (enc y).oneCell' = true)
    (base : Nat) (v : Value) (L : List α) (hs : a.eval s = v) (hown : w.ownsRow base e 1 v L.length (L.map enc))
    (ad : Addr) (y : α) (hx : a.eval x = .slice (some ad) 1 1) (hc : w.cell? ad = some (enc y)) (hlen : L.length ≤ 1000000000) (hbase : base ≤ w.heap.size)
    (h : ∀ v' w', w'.ownsRow base e 1 v' (L ++ [y]).length ((L ++ [y]).map enc) → w.grownBy w' v.ownBlock → (v'.ownBlock = v.ownBlock ∨ v'.ownBlock = some w.heap.size) → wpList Try.prog ops Q rest (a.put o.dst v') w') : wpList Try.prog ops Q (o :: rest) a w := by
  obtain ⟨i0, hi, hz0, hz1, hz2⟩ := info_parts hinfo
  refine wpList_append_own_at w hgd s x t ho base e i0 z 1 bytes ht hi hz0 hz1 hz2 hzs (by decide) v L.length (L.map enc) hs hown ad 1 1 [enc y] hx rfl (fun j u hj => ?_) (fun u hu => ?_) (by unfold maxLen; omega) ?_ hbase ?_
  · match j, hj with
    | 0, hj => simp at hj; subst hj; simpa [Addr.add] using hc
  · simp at hu; subst hu; exact h1 y
  · have : (L.length + 1) * bytes ≤ (L.length + 1) * 24 := Nat.mul_le_mul_left _ hby
    omega
  · intro v' w' hown' hgrow _ hloc
    exact h v' w' (by rw [List.length_append, List.map_append]; exact hown') hgrow hloc
theorem int_one (y : Int) : (Value.int .i64 y).oneCell' = true := rfl
theorem grown_put {α : Type} [Inhabited α] {enc : α → Value} {w : World} {g n : Nat} {d : Array α} : w.grownBy (Sort.putRow enc (Sort.ahead w n) g 0 d) (some g) := by
  refine ⟨rfl, rfl, rfl, by simp [Sort.putRow, Sort.mapBlock, Sort.ahead], fun k hk hne => ?_⟩
  have : g ≠ k := fun e => hne (by rw [e])
  simp [Sort.putRow, Sort.mapBlock, Sort.ahead, Array.getElem?_modify, this]
theorem below_grow (w : World) (os : Array Obj) : Below w.heap.size w (Sort.grow w os) :=
  ⟨rfl, rfl, rfl, by simp [Sort.grow], fun k hk => Sort.heap_grow_old _ _ hk⟩
/-- slices.Sort of a row of the call's own. -/
theorem sort_own {B : Nat} {v : Value} {l : List Int} (w : World) (h : w.ownsRow B 3 1 v l.length (l.map (Value.int .i64))) (hl : l.length ≤ 1000000) :
    Calls Try.prog 14 #[v] w fun e w' => e = .returned (.tuple #[]) ∧ w'.ownsRow B 3 1 v l.length ((l.mergeSort fun x y => decide (x ≤ y)).map (Value.int .i64)) ∧ w.grownBy w' v.ownBlock := by
  by_cases hv : v = .slice none 0 0
  · subst hv
    rcases h.2 with ⟨_, hn⟩ | ⟨g, cap, cur, e, _⟩
    · obtain rfl : l = [] := List.eq_nil_of_length_eq_zero hn
      refine (Try.slices_Sort_int_none none 0 w).mono ?_
      rintro e w' ⟨rfl, rfl⟩
      exact ⟨rfl, by rw [List.mergeSort_nil]; exact h, ⟨rfl, rfl, rfl, Nat.le_refl _, fun _ _ _ => rfl⟩⟩
    · cases e
  · obtain ⟨g, cap, rfl, hbg, hgl, hncap, hcm, _, hH⟩ := Lib.holds_of_ownsRow h hv
    refine (Try.slices_Sort_int g 0 cap l w hH hgl (by omega)).mono ?_
    rintro e w' ⟨rfl, n, os, rfl⟩
    have hp := Lib.ownsRow_putRow (q := n) (k := l.length) (ys := l.mergeSort fun x y => decide (x ≤ y)) h (List.length_mergeSort l) (Nat.le_refl _)
    rw [List.take_of_length_le (by rw [List.length_mergeSort]; exact Nat.le_refl _)] at hp
    refine ⟨rfl, own_below hp (below_grow _ _), ?_⟩
    have h1 := grown_put (enc := Value.int .i64) (w := w) (g := g) (n := n) (d := (l.mergeSort fun x y => decide (x ≤ y)).toArray)
    have h2 := below_grow (Sort.putRow (Value.int .i64) (Sort.ahead w n) g 0 (l.mergeSort fun x y => decide (x ≤ y)).toArray) os
    exact ⟨rfl, rfl, rfl, Nat.le_trans h1.size h2.size, fun k hk hne => (h2.block k (Nat.lt_of_lt_of_le hk h1.size)).trans (h1.block k hk hne)⟩
theorem riseZ_ext : ∀ {a b : List Int}, a.Pairwise (· < ·) → b.Pairwise (· < ·) → (∀ x, x ∈ a ↔ x ∈ b) → a = b
  | [], [], _, _, _ => rfl
  | [], y :: s, _, _, h => absurd ((h y).2 (by simp)) (by simp)
  | x :: r, [], _, _, h => absurd ((h x).1 (by simp)) (by simp)
  | x :: r, y :: s, ha, hb, h => by
    rw [List.pairwise_cons] at ha hb
    have hxy : x = y := by
      have h1 : x = y ∨ x ∈ s := by simpa using (h x).1 (by simp)
      have h2 : y = x ∨ y ∈ r := by simpa using (h y).2 (by simp)
      rcases h1 with h1 | h1
      · exact h1
      · rcases h2 with h2 | h2
        · exact h2.symm
        · have := ha.1 y h2; have := hb.1 x h1; omega
    subst hxy
    rw [riseZ_ext ha.2 hb.2 fun z => ?_]
    constructor
    · intro hz
      have hlt := ha.1 z hz
      rcases List.mem_cons.1 ((h z).1 (List.mem_cons_of_mem _ hz)) with e | e
      · omega
      · exact e
    · intro hz
      have hlt := hb.1 z hz
      rcases List.mem_cons.1 ((h z).2 (List.mem_cons_of_mem _ hz)) with e | e
      · omega
      · exact e

/-- Rows of rows. -/
def RdR (O : Nat → Prop) (w : World) (p : Option Addr) (c : Nat) (P : List (List Int)) : Prop :=
  P.length ≤ c ∧ ∀ j, j < P.length → ∃ b o p1 c1, p = some ⟨b, o, none⟩ ∧ O b ∧ w.cell? ⟨b, o + j, none⟩ = some (.slice p1 (P.getD j []).length c1) ∧ RdI O w p1 c1 (P.getD j [])
theorem RdR.carry {O O' : Nat → Prop} {w w' : World} {p : Option Addr} {c : Nat} {P : List (List Int)} (h : RdR O w p c P) (hs : Same O w w') (hO : ∀ k, O k → O' k) : RdR O' w' p c P :=
  ⟨h.1, fun j hj => by
    obtain ⟨b, o, p1, c1, hp, hb, hc, hr⟩ := h.2 j hj
    exact ⟨b, o, p1, c1, hp, hO b hb, (World.cell?_of_block (hs b hb)).trans hc, hr.carry hs hO⟩⟩
theorem RdR.below {B : Nat} {w w' : World} {p : Option Addr} {c : Nat} {P : List (List Int)} (h : RdR (· < B) w p c P) (hb : Below B w w') : RdR (· < B) w' p c P := h.carry (Same.of_below hb fun _ h => h) fun _ h => h
theorem RdR.at {O : Nat → Prop} {w : World} {p : Option Addr} {c : Nat} {P : List (List Int)} (h : RdR O w p c P) (j : Nat) (hj : j < P.length) :
    ∃ a p1 c1, p = some a ∧ O a.block ∧ w.cell? (a.add j) = some (.slice p1 (P.getD j []).length c1) ∧ RdI O w p1 c1 (P.getD j []) := by
  obtain ⟨b, o, p1, c1, hp, hb, hc, hr⟩ := h.2 j hj
  exact ⟨_, p1, c1, hp, hb, by rw [add_flat]; exact hc, hr⟩
theorem RdR.nil (O : Nat → Prop) (w : World) (p : Option Addr) (c : Nat) : RdR O w p c [] := ⟨Nat.zero_le _, fun j hj => absurd hj (by simp)⟩
/-- Block b is a row of the numbers L. -/
def Ik (w : World) (b : Nat) (L : List Int) : Prop := w.heap[b]? = some (.cells (L.map (Value.int .i64)).toArray 3)
theorem Ik.same {w w' : World} {b : Nat} {L : List Int} (h : Ik w b L) (hs : w'.heap[b]? = w.heap[b]?) : Ik w' b L := hs.trans h
theorem Ik.cell {w : World} {b : Nat} {L : List Int} (h : Ik w b L) (j : Nat) (hj : j < L.length) : w.cell? ⟨b, j, none⟩ = some (.int .i64 (L.getD j 0)) :=
  cell_row (cur := L.map (Value.int .i64)) h j _ (by rw [List.getElem?_map, List.getElem?_eq_getElem hj, getD_in hj]; rfl)
theorem Ik.fz {w : World} {b : Nat} {L : List Int} (h : Ik w b L) (j : Nat) : w.frozen? ⟨b, j, none⟩ = false := frozen_of_row w b j _ _ h
theorem Ik.set {w : World} {b : Nat} {L : List Int} (h : Ik w b L) (j : Nat) (x : Int) : Ik (w.setCell ⟨b, j, none⟩ (.int .i64 x)) b (L.set j x) := by
  unfold Ik
  rw [heap_setCell_same w b j _ _ _ h]
  congr 2
  simp
theorem made_ints (n : Nat) : madeCells (Value.int .i64 0).cells (n * 1) = ((List.replicate n (0 : Int)).map (Value.int .i64)).toArray := by
  rw [← Array.toList_inj]
  apply List.ext_getElem
  · simp [madeCells]
  · intro i h1 h2
    simp [madeCells, Value.cells]
    rw [Nat.mod_one]
    rfl
theorem made_rows (n : Nat) : madeCells (Value.slice none 0 0).cells (n * 1) = (List.replicate n (Value.slice none 0 0)).toArray := by
  rw [← Array.toList_inj]
  apply List.ext_getElem
  · simp [madeCells]
  · intro i h1 h2
    simp [madeCells, Value.cells]
    rw [Nat.mod_one]
    rfl
theorem make_ints (W : World) (m n : Nat) (hm : m ≤ n) (hn : n ≤ 1000000) : (Instr.makeSlice 24 (.int .i64 (m : Int)) (.int .i64 (n : Int))).run Try.prog W = .ok (.slice (some ⟨W.heap.size, 0, none⟩) m n) (W.alloc (.cells ((List.replicate n (0 : Int)).map (Value.int .i64)).toArray 3)) := by
  obtain ⟨i0, hi, hz0, hz1, hz2⟩ := info_parts Try.info3
  have := run_makeSlice (P := Try.prog) W 24 3 i0 (.int .i64 0) Try.underlying24 hi hz0 .i64 .i64 m n (by omega) (by omega) (by rw [hz1]; simp; omega) (by rw [hz2]; omega) (by omega)
  rw [hz1] at this
  simp only [Int.toNat_natCast] at this
  rw [made_ints] at this
  exact this
theorem make_rows (W : World) (n : Nat) (hn : n ≤ 1000000) : (Instr.makeSlice 22 (.int .i64 (n : Int)) (.int .i64 (n : Int))).run Try.prog W = .ok (.slice (some ⟨W.heap.size, 0, none⟩) n n) (W.alloc (.cells (List.replicate n (Value.slice none 0 0)).toArray 24)) := by
  obtain ⟨i0, hi, hz0, hz1, hz2⟩ := info_parts Try.infoI
  have := run_makeSlice (P := Try.prog) W 22 24 i0 (.slice none 0 0) Try.underlying22 hi hz0 .i64 .i64 n n (by omega) (Int.le_refl _) (by rw [hz1]; simp; omega) (by rw [hz2]; omega) (by omega)
  rw [hz1] at this
  simp only [Int.toNat_natCast] at this
  rw [made_rows] at this
  exact this
theorem own_take {w : World} {B : Nat} {q : Option Addr} {c : Nat} {l : List Int} (h : w.ownsRow B 3 1 (.slice q l.length c) l.length (l.map (Value.int .i64))) (m : Nat) (hm : m ≤ l.length) (hq : q ≠ none) : w.ownsRow B 3 1 (.slice q m c) (l.take m).length ((l.take m).map (Value.int .i64)) := by
  have e : (l.take m).length = m := by simp; omega
  rw [e]
  refine ⟨by simp; omega, ?_⟩
  rcases h.2 with ⟨h', _⟩ | ⟨g, cap, cur, h', hb, hg, h1, h2, h3, h4⟩
  · simp only [Value.slice.injEq] at h'
    exact absurd h'.1 hq
  · simp only [Value.slice.injEq, true_and] at h'
    obtain ⟨rfl, rfl⟩ := h'
    refine .inr ⟨g, c, cur, rfl, hb, hg, by omega, h2, h3, ?_⟩
    rw [List.map_take, ← h4, List.take_take]
    congr 1
    omega
end Go.Proofs.Ytmkppbcngpgkdab

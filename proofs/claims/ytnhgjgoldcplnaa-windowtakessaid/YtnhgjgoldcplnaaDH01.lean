/-
  A region that draws its order: what only reads, in every world of a class that the region does not leave, may be taken first.
  Rows as they lie in memory: bytes, rows of bytes, rows of pieces; blocks by their colour.
  Bytes copied; senders as they are read: how wide, how many are left, which is the first.
  Regions that draw their order and write at their end: what is read ahead of the first writing operation k is taken first; steps in one line each.
  Senders: made, and as they are read.
  A sender's Push.
-/
import Derived.Orders
import Derived.Tactics2
import Derived.WalkKit
import Derived.Test.YtnhgjgoldcplnaaRows
import Derived.WalkSpells
import Derived.WalkLawsBesides
import Derived.BigRegion
import Derived.BigQuiet
import Derived.RegionTactic
import Derived.Laws.AppendOwnNone
import Derived.Maps.OwnSet
import Derived.Maps.AppendAt
import Derived.Lib.OwnBridge
import Derived.Sort.Grow
import Derived.OneCell
import Derived.Laws.CopyOwn
import Derived.Deep.RegionWith
import Derived.Deep.Cut
import Derived.Deep.CutRange
import Derived.Deep.CutBlock
import Derived.Shelf.RegionOpen
set_option maxRecDepth 100000
set_option maxHeartbeats 16000000
namespace Go.Proofs.Ytnhgjgoldcplnaa
open Go
section
variable {P : Program} {ops : Array Oper} {Q : Exit → Act → World → Prop} {md : Region.Mode} {C : World → Prop}
theorem upon_late {x y : Oper} {v : Value} {a : Act} {K : Act → World → Prop} {r : Result Next} (hxy : ∀ d, x.dst = some d → y.dst ≠ some d)
    (hQ : ∀ c a w, Q (.panic c) (a.put x.dst v) w → Q (.panic c) a w) (R : Act → Prop) (hR : ∀ u, R (a.put y.dst u)) (hD : ∀ d u, R ({ a with defers := d :: a.defers }.put y.dst u))
    (h : y.upon P (a.put x.dst v) K Q r) : y.upon P a (fun a' w' => R a' ∧ K (a'.put x.dst v) w') Q r := by
 match r with
 | .ok (.value u) w' => exact ⟨hR u, (Act.put_comm a v u hxy) ▸ h⟩
 | .ok .skip w' => exact ⟨hR _, (Act.put_comm a v undef hxy) ▸ h⟩
 | .ok (.defer d) w' =>
  refine ⟨hD d _, ?_⟩
  rw [← Act.put_comm _ v undef hxy, ← Act.put_defers]
  exact h
 | .ok (.enter f args) w' =>
  refine Calls.mono h fun e w'' he => ?_
  match e with
  | .returned u => exact ⟨hR u, (Act.put_comm a v u hxy) ▸ he⟩
  | .panicked c => exact hQ _ _ _ he
  | .outgrown => exact he
 | .ok (.row row args) w' => exact Rows.mono h fun u w'' he => ⟨hR u, (Act.put_comm a v u hxy) ▸ he⟩
 | .halt (.panic u) w' => exact hQ _ _ _ h
 | .halt .blocked _ => exact h
 | .halt .waiting _ => exact h
 | .halt (.stuck _) _ => exact h
 | .halt (.unsupported _) _ => exact h
theorem wpOp_late {j : Nat} {x y : Oper} {v : Value} (hj : ops[j]? = some y) (hap : x.apart ops y = true) (hx : ∀ cs b, x.op ≠ .select cs b) (hy : ∀ cs b, y.op ≠ .select cs b)
    (hQ : ∀ c a w, Q (.panic c) (a.put x.dst v) w → Q (.panic c) a w) {K : Act → World → Prop} {a : Act} {w : World} (h : wpOp P ops Q j K (a.put x.dst v) w) :
    wpOp P ops Q j (fun a' w' => (execOp a'.eval x = execOp a.eval x ∧ Region.wanted x (yielded ops a'.tmps) = Region.wanted x (yielded ops a.tmps)) ∧ K (a'.put x.dst v) w') a w := by
 obtain ⟨h1, h2, h3⟩ := Oper.apart_spec hap
 have hR : ∀ u, execOp (a.put y.dst u).eval x = execOp a.eval x ∧ Region.wanted x (yielded ops (a.put y.dst u).tmps) = Region.wanted x (yielded ops a.tmps) :=
  fun u => ⟨execOp_put x hx a y.dst u h3, wanted_put x a y.dst u h3⟩
 have hD : ∀ (d : Deferred) u, execOp ({ a with defers := d :: a.defers }.put y.dst u : Act).eval x = execOp a.eval x ∧ Region.wanted x (yielded ops ({ a with defers := d :: a.defers }.put y.dst u : Act).tmps) = Region.wanted x (yielded ops a.tmps) :=
  fun d u => ⟨execOp_put x hx { a with defers := d :: a.defers } y.dst u h3, wanted_put x { a with defers := d :: a.defers } y.dst u h3⟩
 have e1 := wanted_put y a x.dst v h1
 have e2 := execOp_put y hy a x.dst v h1
 unfold wpOp at h ⊢
 simp only [hj] at h ⊢
 rw [e1] at h
 by_cases hw : Region.wanted y (yielded ops a.tmps) = true
 · rw [if_pos hw] at h ⊢
   rcases h with h | ⟨ha, hl⟩
   · left
     unfold Oper.wp at h ⊢
     rw [e2] at h
     exact upon_late h2 hQ (fun a' => execOp a'.eval x = execOp a.eval x ∧ Region.wanted x (yielded ops a'.tmps) = Region.wanted x (yielded ops a.tmps)) hR hD h
   · right
     unfold Oper.asks at ha ⊢
     rw [e2] at ha
     exact ⟨ha, hl⟩
 · rw [if_neg hw] at h ⊢
   exact ⟨hR _, (Act.put_comm a v undef h2) ▸ h⟩
def Quiet (P : Program) (ops : Array Oper) (C : World → Prop) (o : Oper) (v : Value) (a : Act) : Prop :=
 (Region.wanted o (yielded ops a.tmps) = true ∧ ∀ w, C w → (execOp a.eval o).run P w = .ok (.value v) w) ∨ (Region.wanted o (yielded ops a.tmps) = false ∧ v = undef)
theorem Quiet.op {i : Nat} {o : Oper} {v : Value} {a : Act} (hi : ops[i]? = some o) (hy : Quiet P ops C o v a) {K : Act → World → Prop} {w : World} (hC : C w) (h : K (a.put o.dst v) w) : wpOp P ops Q i K a w := by
 unfold wpOp
 rw [hi]
 simp only
 rcases hy with ⟨hw, hv⟩ | ⟨hw, rfl⟩
 · rw [if_pos hw]
   left
   unfold Oper.wp
   rw [hv w hC]
   exact h
 · rw [if_neg (by rw [hw]; exact Bool.false_ne_true)]
   exact h
end
end Go.Proofs.Ytnhgjgoldcplnaa
namespace Go.Proofs.Ytnhgjgoldcplnaa
open Go.RowKit Go.Maps
theorem ret_int {k : IntKind} {a b : Int} (h : a = b) : Ending.returned (.int k a) = .returned (.int k b) := by rw [h]
theorem add_flat (b o j : Nat) : (⟨b, o, none⟩ : Addr).add j = ⟨b, o + j, none⟩ := by unfold Addr.add; split <;> simp_all
theorem obj_lt {w : World} {b : Nat} {o : Obj} (h : w.heap[b]? = some o) : b < w.heap.size := (Array.getElem?_eq_some_iff.1 h).1
theorem cell_row {w : World} {g t : Nat} {fr : Nat × Nat} {cur : List Value} (h : w.heap[g]? = some (.cells cur.toArray t fr)) (j : Nat) (v : Value) (hj : cur[j]? = some v) : w.cell? ⟨g, j, none⟩ = some v := by
 simp [World.cell?, h, hj]
theorem belowP {w a b : World} (h : Below w.heap.size w a) (k : Below a.heap.size a b) : Below w.heap.size w b := h.trans (k.mono h.size)
structure Keep (S : Nat → Prop) (w w' : World) : Prop where
 os : w'.os = w.os
 tape : w'.tape = w.tape
 output : w'.output = w.output
 size : w.heap.size ≤ w'.heap.size
 block : ∀ k, k < w.heap.size → ¬ S k → w'.heap[k]? = w.heap[k]?
theorem Keep.refl (S : Nat → Prop) (w : World) : Keep S w w := ⟨rfl, rfl, rfl, Nat.le_refl _, fun _ _ _ => rfl⟩
theorem Keep.trans {S S' : Nat → Prop} {a b c : World} (h : Keep S a b) (k : Keep S' b c) (hS : ∀ i, i < a.heap.size → S' i → S i) : Keep S a c :=
 ⟨k.os.trans h.os, k.tape.trans h.tape, k.output.trans h.output, Nat.le_trans h.size k.size, fun i hi hn => (k.block i (Nat.lt_of_lt_of_le hi h.size) (fun h' => hn (hS i hi h'))).trans (h.block i hi hn)⟩
theorem Keep.mono {S S' : Nat → Prop} {a b : World} (h : Keep S a b) (hS : ∀ i, i < a.heap.size → S i → S' i) : Keep S' a b :=
 ⟨h.os, h.tape, h.output, h.size, fun i hi hn => h.block i hi fun h' => hn (hS i hi h')⟩
theorem Keep.of_below {S : Nat → Prop} {a b : World} (h : Below a.heap.size a b) : Keep S a b := ⟨h.os, h.tape, h.output, h.size, fun k hk _ => h.block k hk⟩
theorem Keep.of_grown {S : Nat → Prop} {a b : World} {row : Option Nat} (h : a.grownBy b row) (hr : ∀ k, k < a.heap.size → row = some k → S k) : Keep S a b :=
 ⟨h.os, h.tape, h.output, h.size, fun k hk hn => h.block k hk fun e => hn (hr k hk e.symm)⟩
theorem Keep.below {S : Nat → Prop} {a b : World} (h : Keep S a b) {B : Nat} (hB : B ≤ a.heap.size) (hS : ∀ k, k < B → ¬ S k) : Below B a b :=
 ⟨h.os, h.tape, h.output, h.size, fun k hk => h.block k (Nat.lt_of_lt_of_le hk hB) (hS k hk)⟩
theorem Keep.drew {S : Nat → Prop} {a b : World} (h : Keep S a b) : Keep S a b.drew := ⟨h.os, h.tape, h.output, h.size, h.block⟩
theorem Keep.setCell {S : Nat → Prop} {a b : World} (h : Keep S a b) {p : Addr} (hp : p.block < a.heap.size → S p.block) (u : Value) : Keep S a (b.setCell p u) :=
 ⟨h.os, h.tape, h.output, by rw [show (b.setCell p u).heap.size = b.heap.size by simp]; exact h.size, fun k hk hn => by
  rw [Below.heap_setCell b p u k (fun e => hn (e ▸ hp (e ▸ hk)))]; exact h.block k hk hn⟩
def Same (O : Nat → Prop) (w w' : World) : Prop := ∀ k, O k → w'.heap[k]? = w.heap[k]?
theorem Same.refl (O : Nat → Prop) (w : World) : Same O w w := fun _ _ => rfl
theorem Same.of_below {O : Nat → Prop} {w w' : World} {B : Nat} (h : Below B w w') (hO : ∀ k, O k → k < B) : Same O w w' := fun k hk => h.block k (hO k hk)
def All2 {α β : Type} (R : α → β → Prop) : List α → List β → Prop
 | [], [] => True
 | a :: l, b :: m => R a b ∧ All2 R l m
 | _, _ => False
section
variable {α β : Type} {R : α → β → Prop}
theorem All2.len : ∀ {l : List α} {m : List β}, All2 R l m → l.length = m.length
 | [], [], _ => rfl
 | _ :: l, _ :: m, h => by rw [List.length_cons, List.length_cons, All2.len h.2]
 | [], _ :: _, h => h.elim
 | _ :: _, [], h => h.elim
theorem All2.app : ∀ {l : List α} {m : List β} {l' : List α} {m' : List β}, All2 R l m → All2 R l' m' → All2 R (l ++ l') (m ++ m')
 | [], [], _, _, _, k => k
 | _ :: _, _ :: _, _, _, h, k => ⟨h.1, All2.app h.2 k⟩
 | [], _ :: _, _, _, h, _ => h.elim
 | _ :: _, [], _, _, h, _ => h.elim
theorem All2.imp {S : α → β → Prop} (hRS : ∀ a b, R a b → S a b) : ∀ {l : List α} {m : List β}, All2 R l m → All2 S l m
 | [], [], _ => trivial
 | _ :: _, _ :: _, h => ⟨hRS _ _ h.1, All2.imp hRS h.2⟩
 | [], _ :: _, h => h.elim
 | _ :: _, [], h => h.elim
theorem All2.at : ∀ {l : List α} {m : List β}, All2 R l m → ∀ (j : Nat) (a : α), l[j]? = some a → ∃ b, m[j]? = some b ∧ R a b
 | [], [], _, j, a, h => by simp at h
 | a :: l, b :: m, h, 0, x, e => by
  simp at e
  subst e
  exact ⟨b, rfl, h.1⟩
 | a :: l, b :: m, h, j + 1, x, e => by
  simp at e
  obtain ⟨y, h1, h2⟩ := All2.at h.2 j x e
  exact ⟨y, by simpa using h1, h2⟩
 | [], _ :: _, h, _, _, _ => h.elim
 | _ :: _, [], h, _, _, _ => h.elim
theorem All2.drop : ∀ {l : List α} {m : List β}, All2 R l m → ∀ (n : Nat), All2 R (l.drop n) (m.drop n)
 | [], [], _, n => by simp [All2]
 | _ :: _, _ :: _, h, 0 => h
 | _ :: _, _ :: _, h, n + 1 => All2.drop h.2 n
 | [], _ :: _, h, _ => h.elim
 | _ :: _, [], h, _ => h.elim
theorem All2.take : ∀ {l : List α} {m : List β}, All2 R l m → ∀ (n : Nat), All2 R (l.take n) (m.take n)
 | [], [], _, n => by simp [All2]
 | _ :: _, _ :: _, h, 0 => trivial
 | _ :: _, _ :: _, h, n + 1 => ⟨h.1, All2.take h.2 n⟩
 | [], _ :: _, h, _ => h.elim
 | _ :: _, [], h, _ => h.elim
end
theorem flat_len {n : Nat} : ∀ (cs : List (List Value)), (∀ c ∈ cs, c.length = n) → cs.flatten.length = cs.length * n
 | [], _ => by simp
 | c :: cs, h => by
  rw [List.flatten_cons, List.length_append, flat_len cs fun x hx => h x (List.mem_cons_of_mem _ hx), h c (by simp), List.length_cons, Nat.succ_mul]
  omega
theorem flat_at {n : Nat} : ∀ (cs : List (List Value)), (∀ c ∈ cs, c.length = n) → ∀ (j : Nat) (c : List Value) (r : Nat), cs[j]? = some c → r < n → cs.flatten[j * n + r]? = c[r]?
 | [], _, j, c, r, h, _ => by simp at h
 | x :: cs, hl, 0, c, r, h, hr => by
  simp at h
  subst h
  rw [List.flatten_cons, Nat.zero_mul, Nat.zero_add, List.getElem?_append_left (by rw [hl x (by simp)]; exact hr)]
 | x :: cs, hl, j + 1, c, r, h, hr => by
  have hx := hl x (by simp)
  rw [List.flatten_cons, List.getElem?_append_right (by rw [hx, Nat.succ_mul]; omega), hx, show (j + 1) * n + r - n = j * n + r by rw [Nat.succ_mul]; omega]
  exact flat_at cs (fun y hy => hl y (List.mem_cons_of_mem _ hy)) j c r (by simpa using h) hr
theorem flat_take {n : Nat} : ∀ (cs : List (List Value)), (∀ c ∈ cs, c.length = n) → ∀ k, (cs.take k).flatten = cs.flatten.take (k * n)
 | [], _, k => by simp
 | x :: cs, hl, 0 => by simp
 | x :: cs, hl, k + 1 => by
  have hx := hl x (by simp)
  rw [List.take_succ_cons, List.flatten_cons, List.flatten_cons, flat_take cs (fun y hy => hl y (List.mem_cons_of_mem _ hy)) k, show (k + 1) * n = x.length + k * n by rw [hx, Nat.succ_mul]; omega, List.take_length_add_append]
structure El (τ : Type) where
 ty : TypeId
 sz : Nat
 zero : Value
 bytes : Nat
 enc : (Nat → Prop) → World → τ → List Value → Prop
 pos : 0 < sz
 len : ∀ {D w x cs}, enc D w x cs → cs.length = sz
 one : ∀ {D w x cs}, enc D w x cs → ∀ u ∈ cs, u.oneCell' = true
 carry : ∀ {D D' w w' x cs}, enc D w x cs → Same D w w' → (∀ k, D k → D' k) → enc D' w' x cs
 info : (Try.prog.info? ty).map (fun i => (i.zero, i.size, i.bytes)) = some (some zero, sz, bytes)
 zsz : zero.cells.size = sz
 le : bytes ≤ 64
section
variable {τ : Type} {E : El τ} {O O' D D' : Nat → Prop} {w w' : World} {v : Value} {L M : List τ}
theorem El.lens {cs : List (List Value)} (h : All2 (E.enc D w) L cs) : ∀ c ∈ cs, c.length = E.sz := by
 intro c hc
 obtain ⟨j, hj⟩ := List.mem_iff_getElem?.1 hc
 have hl : j < L.length := by rw [h.len]; exact (List.getElem?_eq_some_iff.1 hj).1
 obtain ⟨c', e, he⟩ := h.at j _ (List.getElem?_eq_getElem hl)
 rw [hj] at e
 cases e
 exact E.len he
theorem El.ones {cs : List (List Value)} (h : All2 (E.enc D w) L cs) : ∀ u ∈ cs.flatten, u.oneCell' = true := by
 intro u hu
 obtain ⟨c, hc, hu⟩ := List.mem_flatten.1 hu
 obtain ⟨j, hj⟩ := List.mem_iff_getElem?.1 hc
 have hl : j < L.length := by rw [h.len]; exact (List.getElem?_eq_some_iff.1 hj).1
 obtain ⟨c', e, he⟩ := h.at j _ (List.getElem?_eq_getElem hl)
 rw [hj] at e
 cases e
 exact E.one he u hu
def Sl (E : El τ) (O D : Nat → Prop) (w : World) (v : Value) (L : List τ) : Prop :=
 ∃ p c cs, v = .slice p L.length c ∧ L.length ≤ c ∧ (p = none → c = 0) ∧ All2 (E.enc D w) L cs ∧ (L ≠ [] → ∃ b o, p = some ⟨b, o, none⟩ ∧ O b ∧ ∀ j u, cs.flatten[j]? = some u → w.cell? ⟨b, o + j, none⟩ = some u)
theorem Sl.carry (h : Sl E O D w v L) (hs : Same O w w') (hd : Same D w w') (hO : ∀ k, O k → O' k) (hD : ∀ k, D k → D' k) : Sl E O' D' w' v L := by
 obtain ⟨p, c, cs, e, h1, h2, h3, h4⟩ := h
 refine ⟨p, c, cs, e, h1, h2, h3.imp fun a b hab => E.carry hab hd hD, fun hn => ?_⟩
 obtain ⟨b, o, hp, hb, hc⟩ := h4 hn
 exact ⟨b, o, hp, hO b hb, fun j u hj => (World.cell?_of_block (hs b hb)).trans (hc j u hj)⟩
theorem Sl.nil (E : El τ) (O D : Nat → Prop) (w : World) : Sl E O D w (.slice none 0 0) [] := ⟨none, 0, [], rfl, Nat.le_refl _, fun _ => rfl, trivial, fun h => absurd rfl h⟩
theorem Sl.cell (h : Sl E O D w v L) : ∃ p c, v = .slice p L.length c ∧ L.length ≤ c ∧ (p = none → c = 0) ∧ ∀ j x, L[j]? = some x → ∃ a cs, p = some a ∧ a.spot = none ∧ O a.block ∧ E.enc D w x cs ∧ ∀ r u, cs[r]? = some u → w.cell? ⟨a.block, a.off + j * E.sz + r, none⟩ = some u := by
 obtain ⟨p, c, cs, e, h1, h2, h3, h4⟩ := h
 refine ⟨p, c, e, h1, h2, fun j x hj => ?_⟩
 obtain ⟨b, o, rfl, hb, hc⟩ := h4 (by rintro rfl; simp at hj)
 obtain ⟨d, hd, he⟩ := h3.at j x hj
 refine ⟨_, d, rfl, rfl, hb, he, fun r u hr => ?_⟩
 have hrl : r < E.sz := by rw [← E.len he]; exact (List.getElem?_eq_some_iff.1 hr).1
 rw [Nat.add_assoc]
 exact hc _ _ ((flat_at cs (El.lens h3) j d r hd hrl).trans hr)
def Rw (E : El τ) (O D : Nat → Prop) (w : World) (v : Value) (L : List τ) : Prop :=
 ∃ cs, All2 (E.enc D w) L cs ∧ w.ownsRow 0 E.ty E.sz v L.length cs.flatten ∧ ∀ k, v.ownBlock = some k → O k
theorem Rw.nil (E : El τ) (O D : Nat → Prop) (w : World) : Rw E O D w (.slice none 0 0) [] := ⟨[], trivial, World.ownsRow_nil _ _ _ _, fun k h => by cases h⟩
theorem Rw.sl (h : Rw E O D w v L) : Sl E O D w v L := by
 obtain ⟨cs, h1, h2, h3⟩ := h
 rcases h2.2 with ⟨rfl, hn⟩ | ⟨g, cap, cur, rfl, hg, hgg, k1, k2, k3, k4⟩
 · obtain rfl : L = [] := List.eq_nil_of_length_eq_zero hn
   exact Sl.nil _ _ _ _
 · refine ⟨_, _, cs, rfl, k1, fun h => (by cases h), h1, fun _ => ⟨g, 0, rfl, h3 g rfl, fun j u hj => ?_⟩⟩
   have hjl : j < L.length * E.sz := by rw [← h2.1]; exact (List.getElem?_eq_some_iff.1 hj).1
   rw [Nat.zero_add, h2.cellAt j hjl, hj]
theorem own_same {w w' : World} {B e size n : Nat} {v : Value} {xs : List Value} (h : w.ownsRow B e size v n xs) (hs : Same (fun k => v.ownBlock = some k) w w') : w'.ownsRow B e size v n xs := by
 refine ⟨h.1, ?_⟩
 rcases h.2 with hn | ⟨g, cap, cur, rfl, hg, hgg, rest⟩
 · exact .inl hn
 · exact .inr ⟨g, cap, cur, rfl, hg, by rw [hs g rfl]; exact hgg, rest⟩
theorem own_slice {w : World} {B e size n : Nat} {v : Value} {xs : List Value} (h : w.ownsRow B e size v n xs) : ∃ q c, v = .slice q n c := by
 rcases h.2 with ⟨rfl, rfl⟩ | ⟨g, cap, cur, rfl, _⟩
 · exact ⟨_, _, rfl⟩
 · exact ⟨_, _, rfl⟩
theorem Rw.lt (h : Rw E O D w v L) : ∀ k, v.ownBlock = some k → k < w.heap.size := by
 obtain ⟨cs, h1, h2, h3⟩ := h
 exact fun k hk => (h2.lt k hk).2
theorem Rw.own (h : Rw E O D w v L) : ∀ k, v.ownBlock = some k → O k := h.choose_spec.2.2
theorem Rw.slice (h : Rw E O D w v L) : ∃ q c, v = .slice q L.length c := by
 obtain ⟨cs, h1, h2, h3⟩ := h
 exact own_slice h2
theorem Rw.carry (h : Rw E O D w v L) (hs : Same (fun k => v.ownBlock = some k) w w') (hd : Same D w w') (hO : ∀ k, v.ownBlock = some k → O k → O' k) (hD : ∀ k, D k → D' k) : Rw E O' D' w' v L := by
 obtain ⟨cs, h1, h2, h3⟩ := h
 exact ⟨cs, h1.imp fun a b hab => E.carry hab hd hD, own_same h2 hs, fun k hk => hO k hk (h3 k hk)⟩
theorem run_app {t ty : TypeId} (ht : Try.prog.underlying t = some (.slice E.ty)) (h : Rw E O D w v L) {O2 D2 : Nat → Prop} {x : Value} (hx : Sl E O2 D2 w x M) (hn : L.length + M.length ≤ 1000000) :
    ∃ v' w', (Builtin.append_ #[t, t] ty #[v, x]).run Try.prog w = .ok v' w' ∧ w.grownBy w' v.ownBlock ∧ (v'.ownBlock = v.ownBlock ∨ v'.ownBlock = some w.heap.size) ∧ (∃ q c, v' = .slice q (L ++ M).length c) ∧
     ∀ D3 : Nat → Prop, (∀ k, D k → D3 k) → (∀ k, D2 k → D3 k) → (∀ k, D3 k → k < w.heap.size ∧ v.ownBlock ≠ some k) → Rw E (fun k => v'.ownBlock = some k) D3 w' v' (L ++ M) := by
 obtain ⟨cs, h1, h2, h3⟩ := h
 obtain ⟨i0, hi, hz0, hz1, hz2⟩ := info_parts E.info
 obtain ⟨p, c, ds, rfl, k1, k2, k3, k4⟩ := hx
 have hdl := flat_len ds (El.lens k3)
 rw [← k3.len] at hdl
 cases p with
 | none =>
  obtain rfl : c = 0 := k2 rfl
  obtain rfl : M = [] := List.eq_nil_of_length_eq_zero (by omega)
  obtain ⟨q, cq, e⟩ := own_slice h2
  refine ⟨v, w, run_append_owned_none (P := Try.prog) (w := w) 0 t ty E.ty i0 E.sz ht hi v L.length cs.flatten h2, ⟨rfl, rfl, rfl, Nat.le_refl _, fun _ _ _ => rfl⟩, .inl rfl, ⟨q, cq, by rw [List.append_nil]; exact e⟩, fun D3 hD _ _ => ?_⟩
  rw [List.append_nil]
  exact ⟨cs, h1.imp fun a b hab => E.carry hab (Same.refl _ _) hD, h2, fun k hk => hk⟩
 | some a =>
  have hb : (L.length + M.length) * E.bytes ≤ 140737488355328 := by
   have : (L.length + M.length) * E.bytes ≤ 1000000 * 64 := Nat.mul_le_mul hn E.le
   omega
  obtain ⟨v', w', hr, h4, h5, h6, h7⟩ := run_append_own_at (P := Try.prog) w 0 t ty E.ty i0 E.zero E.sz E.bytes ht hi hz0 hz1 hz2 E.zsz E.pos v L.length cs.flatten h2 a M.length c ds.flatten hdl (fun j u hj => by
   have hne : M ≠ [] := by
    rintro rfl
    simp at hdl
    rw [List.getElem?_eq_none (by rw [List.length_flatten]; simp [hdl]; try omega)] at hj
    cases hj
   obtain ⟨b, o, e, _, hc⟩ := k4 hne
   cases e
   rw [add_flat]
   exact hc j u hj) (El.ones k3) (by unfold maxLen; omega) hb (Nat.zero_le _)
  refine ⟨v', w', hr, h5, h7, ?_, fun D3 hD hD2 hD3 => ?_⟩
  · obtain ⟨q, cq, e⟩ := own_slice h4
    exact ⟨q, cq, by rw [List.length_append]; exact e⟩
  · have hs : Same D3 w w' := fun k hk => h5.block k (hD3 k hk).1 (fun e => (hD3 k hk).2 e.symm)
    refine ⟨cs ++ ds, ?_, ?_, fun k hk => hk⟩
    · refine All2.app (h1.imp fun x y hxy => E.carry hxy (fun k hk => hs k (hD k hk)) hD) (k3.imp fun x y hxy => E.carry hxy (fun k hk => hs k (hD2 k hk)) hD2)
    · rw [List.length_append, List.flatten_append]
      exact h4
theorem Sl.one {cs : List Value} {x : τ} (h : E.enc D w x cs) (hD : ∀ k, D k → k < w.heap.size) : Sl E (fun k => k = w.heap.size) D (w.alloc (.cells cs.toArray E.ty)) (.slice (some ⟨w.heap.size, 0, none⟩) 1 1) [x] := by
 have hb : Below w.heap.size w (w.alloc (.cells cs.toArray E.ty)) := (Below.refl _ _).alloc (Nat.le_refl _) _
 refine ⟨_, 1, [cs], rfl, Nat.le_refl _, fun h => (by cases h), ⟨E.carry h (Same.of_below hb hD) fun _ h => h, trivial⟩, fun _ => ⟨_, 0, rfl, rfl, fun j u hj => ?_⟩⟩
 simp only [List.flatten_cons, List.flatten_nil, List.append_nil] at hj
 rw [Nat.zero_add]
 exact cell_row (heap_alloc_new _ _) j u hj
theorem Rw.made (E : El τ) (D : Nat → Prop) (w : World) : Rw E (fun k => k = w.heap.size) D (w.alloc (.cells #[] E.ty)) (.slice (some ⟨w.heap.size, 0, none⟩) 0 0) [] :=
 ⟨[], trivial, ⟨by simp, .inr ⟨w.heap.size, 0, #[], rfl, Nat.zero_le _, heap_alloc_new _ _, Nat.le_refl _, by unfold maxLen; omega, by simp, by simp⟩⟩, fun k hk => by cases hk; rfl⟩
theorem wpList_app {ops : Array Oper} {rest : List Oper} {o : Oper} {a : Act} {Q : Exit → Act → World → Prop} (hgd : o.guard = none) (s x : Operand) (t : TypeId) (ho : o.op = .call { callee := .builtin .append, args := #[s, x], argTypes := #[t, t] }) (ht : Try.prog.underlying t = some (.slice E.ty))
    (hs : a.eval s = v) (h : Rw E O D w v L) {O2 D2 : Nat → Prop} {y : Value} (hy : a.eval x = y) (hx : Sl E O2 D2 w y M) (hn : L.length + M.length ≤ 1000000)
    (hK : ∀ v' w', w.grownBy w' v.ownBlock → (v'.ownBlock = v.ownBlock ∨ v'.ownBlock = some w.heap.size) → (∃ q c, v' = .slice q (L ++ M).length c) → Hid (∀ D3 : Nat → Prop, (∀ k, D k → D3 k) → (∀ k, D2 k → D3 k) → (∀ k, D3 k → k < w.heap.size ∧ v.ownBlock ≠ some k) → Rw E (fun k => v'.ownBlock = some k) D3 w' v' (L ++ M)) → wpList Try.prog ops Q rest (a.put o.dst v') w') : wpList Try.prog ops Q (o :: rest) a w := by
 refine wpList_plain hgd fun K hK' => ?_
 obtain ⟨v', w', hr, h1, h2, h3, h4⟩ := run_app (ty := o.type) ht h hx hn
 unfold Oper.wp execOp
 simp only [ho, resolve, invoke, builtin, Sem.run_bind, Sem.run_pure, Result.andThen_ok, List.map_toArray, List.map_cons, List.map_nil, hs, hy, hr]
 exact hK' _ _ (hK v' w' h1 h2 h3 h4)
theorem wp_app {o : Oper} {a : Act} {K : Act → World → Prop} {Q : Exit → Act → World → Prop} (s x : Operand) (t : TypeId) (d : Option Tmp) (ho : o.op = .call { callee := .builtin .append, args := #[s, x], argTypes := #[t, t] }) (hd : o.dst = d) (ht : Try.prog.underlying t = some (.slice E.ty))
    (hs : a.eval s = v) (h : Rw E O D w v L) {O2 D2 : Nat → Prop} {y : Value} (hy : a.eval x = y) (hx : Sl E O2 D2 w y M) (hn : L.length + M.length ≤ 1000000)
    (hK : ∀ v' w', w.grownBy w' v.ownBlock → (v'.ownBlock = v.ownBlock ∨ v'.ownBlock = some w.heap.size) → (∃ q c, v' = .slice q (L ++ M).length c) → Hid (∀ D3 : Nat → Prop, (∀ k, D k → D3 k) → (∀ k, D2 k → D3 k) → (∀ k, D3 k → k < w.heap.size ∧ v.ownBlock ≠ some k) → Rw E (fun k => v'.ownBlock = some k) D3 w' v' (L ++ M)) → K (a.put d v') w') : o.wp Try.prog a w K Q := by
 subst hd
 obtain ⟨v', w', hr, h1, h2, h3, h4⟩ := run_app (ty := o.type) ht h hx hn
 unfold Oper.wp execOp
 simp only [ho, resolve, invoke, builtin, Sem.run_bind, Sem.run_pure, Result.andThen_ok, List.map_toArray, List.map_cons, List.map_nil, hs, hy, hr]
 exact hK v' w' h1 h2 h3 h4
end
theorem Try.info5 : (Try.prog.info? 5).map (fun i => (i.zero, i.size, i.bytes)) = some (some (.int .u8 0), 1, 1) := by kernel_rfl
theorem Try.infoB : (Try.prog.info? 37).map (fun i => (i.zero, i.size, i.bytes)) = some (some (.slice none 0 0), 1, 24) := by kernel_rfl
theorem Try.infoP : (Try.prog.info? 52).map (fun i => (i.zero, i.size, i.bytes)) = some (some (.agg #[.int .i64 0, .slice none 0 0]), 2, 32) := by kernel_rfl
def EU : El Int where
 ty := 5
 sz := 1
 zero := .int .u8 0
 bytes := 1
 enc := fun _ _ x cs => cs = [.int .u8 x] ∧ 0 ≤ x ∧ x ≤ 255
 pos := by decide
 len := fun h => by rw [h.1]; rfl
 one := fun h u hu => by rw [h.1] at hu; rw [List.mem_singleton.1 hu]; rfl
 carry := fun h _ _ => h
 info := Try.info5
 zsz := rfl
 le := by decide
theorem Sl.one_cell {τ : Type} {E : El τ} {O D : Nat → Prop} {w : World} {v : Value} {L : List τ} (h : Sl E O D w v L) : v.oneCell' = true := by
 obtain ⟨p, c, cs, rfl, _⟩ := h
 rfl
def EB : El (List Int) where
 ty := 37
 sz := 1
 zero := .slice none 0 0
 bytes := 24
 enc := fun D w x cs => ∃ u, cs = [u] ∧ Sl EU D D w u x
 pos := by decide
 len := fun ⟨u, h, _⟩ => by rw [h]; rfl
 one := fun ⟨u, h, k⟩ y hy => by rw [h] at hy; rw [List.mem_singleton.1 hy]; exact k.one_cell
 carry := fun ⟨u, h, k⟩ hs hD => ⟨u, h, k.carry hs hs hD hD⟩
 info := Try.infoB
 zsz := rfl
 le := by decide
def EP : El (Int × List Int) where
 ty := 52
 sz := 2
 zero := .agg #[.int .i64 0, .slice none 0 0]
 bytes := 32
 enc := fun D w x cs => ∃ u, cs = [.int .i64 x.1, u] ∧ Sl EU D D w u x.2
 pos := by decide
 len := fun ⟨u, h, _⟩ => by rw [h]; rfl
 one := fun ⟨u, h, k⟩ y hy => by
  rw [h] at hy
  rcases List.mem_cons.1 hy with e | e
  · rw [e]; rfl
  · rw [List.mem_singleton.1 e]; exact k.one_cell
 carry := fun ⟨u, h, k⟩ hs hD => ⟨u, h, k.carry hs hs hD hD⟩
 info := Try.infoP
 zsz := rfl
 le := by decide
def Cl (col : Nat → Nat) (i : Nat) (w : World) : Nat → Prop := fun k => col k = i ∧ k < w.heap.size
structure Ev (S : Nat → Prop) (col : Nat → Nat) (w : World) (col' : Nat → Nat) (w' : World) : Prop where
 ext : ∀ k, k < w.heap.size → col' k = col k
 keep : Keep (fun k => S (col k)) w w'
section
variable {S S' : Nat → Prop} {col col' col'' : Nat → Nat} {w w' w'' : World}
theorem Ev.refl (S : Nat → Prop) (col : Nat → Nat) (w : World) : Ev S col w col w := ⟨fun _ _ => rfl, Keep.refl _ _⟩
theorem Ev.trans (h : Ev S col w col' w') (k : Ev S' col' w' col'' w'') (hS : ∀ i, S' i → S i) : Ev S col w col'' w'' :=
 ⟨fun i hi => (k.ext i (Nat.lt_of_lt_of_le hi h.keep.size)).trans (h.ext i hi), h.keep.trans k.keep fun i hi hs => by rw [h.ext i hi] at hs; exact hS _ hs⟩
theorem Ev.mono (h : Ev S col w col' w') (hS : ∀ i, S i → S' i) : Ev S' col w col' w' := ⟨h.ext, h.keep.mono fun _ _ h => hS _ h⟩
theorem Ev.same (h : Ev S col w col' w') {i : Nat} (hi : ¬ S i) : Same (Cl col i w) w w' := fun k hk => h.keep.block k hk.2 (by rw [hk.1]; exact hi)
theorem Ev.cl (h : Ev S col w col' w') {i : Nat} : ∀ k, Cl col i w k → Cl col' i w' k := fun k hk => ⟨(h.ext k hk.2).trans hk.1, Nat.lt_of_lt_of_le hk.2 h.keep.size⟩
def paint (col : Nat → Nat) (w : World) (b : Option Nat) (i : Nat) : Nat → Nat := fun k => if k < w.heap.size then col k else if b = some k then i else 0
theorem paint_old {b : Option Nat} {i k : Nat} (h : k < w.heap.size) : paint col w b i k = col k := if_pos h
theorem paint_new {b : Option Nat} {i k : Nat} (h : w.heap.size ≤ k) (hb : b ≠ some k) : paint col w b i k = 0 := by
 unfold paint
 rw [if_neg (by omega), if_neg hb]
theorem paint_it {i k : Nat} (h : w.heap.size ≤ k) : paint col w (some k) i k = i := by
 unfold paint
 rw [if_neg (by omega), if_pos rfl]
theorem Ev.paint (h : Keep (fun k => S (col k)) w w') (b : Option Nat) (i : Nat) : Ev S col w (paint col w b i) w' := ⟨fun _ hk => paint_old hk, h⟩
variable {τ : Type} {E : El τ} {v : Value} {L : List τ}
abbrev Vw (E : El τ) (col : Nat → Nat) (w : World) (v : Value) (L : List τ) : Prop := Sl E (Cl col 0 w) (Cl col 0 w) w v L
theorem Vw.ev (h : Vw E col w v L) (he : Ev S col w col' w') (h0 : ¬ S 0) : Vw E col' w' v L := h.carry (he.same h0) (he.same h0) he.cl he.cl
abbrev Rc (E : El τ) (i : Nat) (col : Nat → Nat) (w : World) (v : Value) (L : List τ) : Prop := Rw E (Cl col i w) (Cl col 0 w) w v L
theorem Rc.ev {i : Nat} (h : Rc E i col w v L) (he : Ev S col w col' w') (h0 : ¬ S 0) (hi : ¬ S i) : Rc E i col' w' v L := Rw.carry h (fun k hk => he.same hi k (h.own k hk)) (he.same h0) (fun k _ hk => he.cl k hk) he.cl
end
theorem eu_flat {D : Nat → Prop} {w : World} : ∀ {xs : List Int} {cs : List (List Value)}, All2 (EU.enc D w) xs cs → cs.flatten = xs.map (Value.int .u8) ∧ ∀ x ∈ xs, 0 ≤ x ∧ x ≤ 255
 | [], [], _ => ⟨rfl, fun _ h => by cases h⟩
 | x :: xs, c :: cs, h => by
  obtain ⟨h1, h2⟩ := eu_flat h.2
  have h3 : c = [.int .u8 x] := h.1.1
  refine ⟨by rw [List.flatten_cons, h1, h3]; rfl, fun y hy => ?_⟩
  rcases List.mem_cons.1 hy with rfl | hy
  · exact h.1.2
  · exact h2 y hy
 | [], _ :: _, h => h.elim
 | _ :: _, [], h => h.elim
theorem eu_all {D : Nat → Prop} {w : World} : ∀ {xs : List Int}, (∀ x ∈ xs, 0 ≤ x ∧ x ≤ 255) → All2 (EU.enc D w) xs (xs.map fun x => [.int .u8 x])
 | [], _ => trivial
 | x :: xs, h => ⟨⟨rfl, h x (by simp)⟩, eu_all fun y hy => h y (List.mem_cons_of_mem _ hy)⟩
theorem eu_map (xs : List Int) : (xs.map fun x => [Value.int .u8 x]).flatten = xs.map (Value.int .u8) := by
 induction xs with
 | nil => rfl
 | cons x xs ih => rw [List.map_cons, List.flatten_cons, ih]; rfl
theorem Sl.bytes {O D : Nat → Prop} {w : World} {v : Value} {xs : List Int} (h : Sl EU O D w v xs) :
    ∃ p c, v = .slice p xs.length c ∧ xs.length ≤ c ∧ (p = none → c = 0) ∧ (∀ x ∈ xs, 0 ≤ x ∧ x ≤ 255) ∧ (xs ≠ [] → ∃ b o, p = some ⟨b, o, none⟩ ∧ O b ∧ ∀ j x, xs[j]? = some x → w.cell? ⟨b, o + j, none⟩ = some (.int .u8 x)) := by
 obtain ⟨p, c, cs, e, h1, h2, h3, h4⟩ := h
 obtain ⟨k1, k2⟩ := eu_flat h3
 refine ⟨p, c, e, h1, h2, k2, fun hn => ?_⟩
 obtain ⟨b, o, hp, hb, hc⟩ := h4 hn
 refine ⟨b, o, hp, hb, fun j x hj => hc j _ ?_⟩
 rw [k1, List.getElem?_map, hj]
 rfl
theorem Sl.of_bytes {O D : Nat → Prop} {w : World} {p : Option Addr} {c : Nat} {xs : List Int} (h1 : xs.length ≤ c) (h2 : p = none → c = 0) (h3 : ∀ x ∈ xs, 0 ≤ x ∧ x ≤ 255) (h4 : xs ≠ [] → ∃ b o, p = some ⟨b, o, none⟩ ∧ O b ∧ ∀ j x, xs[j]? = some x → w.cell? ⟨b, o + j, none⟩ = some (.int .u8 x)) :
    Sl EU O D w (.slice p xs.length c) xs := by
 refine ⟨p, c, _, rfl, h1, h2, eu_all h3, fun hn => ?_⟩
 obtain ⟨b, o, hp, hb, hc⟩ := h4 hn
 refine ⟨b, o, hp, hb, fun j u hj => ?_⟩
 rw [eu_map, List.getElem?_map] at hj
 cases hg : xs[j]? with
 | none => rw [hg] at hj; cases hj
 | some x => rw [hg] at hj; cases hj; exact hc j x hg
theorem Sl.anyD {O D D' : Nat → Prop} {w : World} {v : Value} {xs : List Int} (h : Sl EU O D w v xs) : Sl EU O D' w v xs := by
 obtain ⟨p, c, rfl, h1, h2, h3, h4⟩ := h.bytes
 exact Sl.of_bytes h1 h2 h3 h4
theorem made_bytes (n : Nat) : madeCells (Value.int .u8 0).cells (n * 1) = ((List.replicate n (0 : Int)).map (Value.int .u8)).toArray := by
 rw [← Array.toList_inj]
 apply List.ext_getElem
 · simp [madeCells]
 · intro i h1 h2
   simp [madeCells, Value.cells]
   rw [Nat.mod_one]
   rfl
theorem make_bytes (W : World) (n : Nat) (hn : n ≤ 2000000) : (Instr.makeSlice 37 (.int .i64 (n : Int)) (.int .i64 (n : Int))).run Try.prog W = .ok (.slice (some ⟨W.heap.size, 0, none⟩) n n) (W.alloc (.cells ((List.replicate n (0 : Int)).map (Value.int .u8)).toArray 5)) := by
 obtain ⟨i0, hi, hz0, hz1, hz2⟩ := info_parts Try.info5
 have := run_makeSlice (P := Try.prog) W 37 5 i0 (.int .u8 0) Try.underlying37 hi hz0 .i64 .i64 n n (by omega) (by omega) (by rw [hz1]; simp; omega) (by rw [hz2]; omega) (by omega)
 rw [hz1] at this
 simp only [Int.toNat_natCast] at this
 rw [made_bytes] at this
 exact this
def New (w w' : World) : Nat → Prop := fun k => w.heap.size ≤ k ∧ k < w'.heap.size
theorem own_any {O D : Nat → Prop} {w : World} {v : Value} {xs : List Int} (h : Sl EU O D w v xs) (hO : ∀ k, O k → k < w.heap.size) (hn : xs.length ≤ 2000000) :
    Calls Try.prog 31 #[v] w fun e w' => Below w.heap.size w w' ∧ ∃ v', e = .returned v' ∧ ∀ D', Sl EU (New w w') D' w' v' xs := by
 obtain ⟨p, c, rfl, h1, h2, h3, h4⟩ := h.bytes
 have hb0 : Below w.heap.size w (w.alloc (.cells ((List.replicate xs.length (0 : Int)).map (Value.int .u8)).toArray 5)) := (Below.refl _ _).alloc (Nat.le_refl _) _
 have hmk := make_bytes w xs.length hn
 have hH : (w.alloc (.cells ((List.replicate xs.length (0 : Int)).map (Value.int .u8)).toArray 5)).heap[w.heap.size]? = some (.cells ((List.replicate xs.length (0 : Int)).map (Value.int .u8)).toArray 5 (0, 0)) := heap_alloc_new _ _
 have hS : Hid (0 < (xs.map (Value.int .u8)).length → ∃ ad, p = some ad ∧ ∀ j v, (xs.map (Value.int .u8))[j]? = some v → (w.alloc (.cells ((List.replicate xs.length (0 : Int)).map (Value.int .u8)).toArray 5)).cell? (ad.add j) = some v) := by
  intro hl
  obtain ⟨b, o, rfl, hb, hc⟩ := h4 (by rintro rfl; simp at hl)
  refine ⟨_, rfl, fun j u hj => ?_⟩
  rw [List.getElem?_map] at hj
  cases hg : xs[j]? with
  | none => rw [hg] at hj; cases hj
  | some x =>
   rw [hg] at hj
   cases hj
   rw [add_flat]
   exact (World.cell?_of_block (hb0.block b (hO b hb))).trans (hc j x hg)
 have HP : Hid (∀ w', w'.heap[w.heap.size]? = some (.cells (splice ((List.replicate xs.length (0 : Int)).map (Value.int .u8)) 0 (xs.map (Value.int .u8))).toArray 5 (0, 0)) → Below w.heap.size w w' → Below w.heap.size w w' ∧ ∃ v', Ending.returned (.slice (some ⟨w.heap.size, 0, none⟩) xs.length xs.length) = .returned v' ∧ ∀ D', Sl EU (New w w') D' w' v' xs) := by
  intro w' hw hb
  refine ⟨hb, _, rfl, fun D' => Sl.of_bytes (Nat.le_refl _) (fun h => by cases h) h3 fun _ => ⟨_, 0, rfl, ⟨Nat.le_refl _, obj_lt hw⟩, fun j x hj => ?_⟩⟩
  have hjl := (List.getElem?_eq_some_iff.1 hj).1
  rw [Nat.zero_add]
  refine cell_row hw j _ ?_
  simp only [splice, List.take_zero, List.nil_append]
  rw [List.getElem?_append_left (by simpa using hjl), List.getElem?_map, hj]
  rfl
 have hlen : (List.replicate xs.length (0 : Int)).length = xs.length := by simp
 have HL : Hid (0 + (xs.map (Value.int .u8)).length ≤ ((List.replicate xs.length (0 : Int)).map (Value.int .u8)).length) := by show _ ≤ _; simp
 have HM : Hid ((xs.map (Value.int .u8)).length = Nat.min xs.length xs.length) := by show _ = _; simp
 have H1 : Hid (∀ u ∈ xs.map (Value.int .u8), u.oneCell' = true) := fun u hu => by obtain ⟨x, _, rfl⟩ := List.mem_map.1 hu; rfl
 clear h h4 h3 hlen
 generalize (List.replicate xs.length (0 : Int)).map (Value.int .u8) = Z at *
 obtain ⟨ys, hys⟩ : ∃ ys, xs.map (Value.int .u8) = ys := ⟨_, rfl⟩
 have hyl : ys.length = xs.length := by rw [← hys]; simp
 rw [hys] at hS HP HL HM H1
 generalize w.alloc (.cells Z.toArray 5) = W1 at *
 have HYL : Hid (ys.length = xs.length) := hyl
 clear hys hyl
 generalize xs.length = n at *
 go_enter Try.func31, Try.ntmps31
 go_wp2_with (first
  | (refine wpList_copy_splice rfl (.tmp 7) (.tmp 8) 37 37 rfl 5 Try.underlying37 (by kernel_rfl) (some ⟨w.heap.size, 0, none⟩) p n n n c rfl rfl w.heap.size 0 Z 5 hH ys HM.out (fun h => ⟨rfl, hS.out h⟩) HL.out H1.out w.heap.size w hb0 (Nat.le_refl _) ?_; intro w2 hw2 hb2))
 go_ret
 exact HP.out _ hw2.out hb2
def wideT (n : Int) : Bool := decide (1 ≤ n) && decide (n ≤ 64)
theorem isWidth_any (n : Int) (w : World) : Calls Try.prog 30 #[.int .i64 n] w fun e w' => e = .returned (.bool (wideT n)) ∧ w' = w := by
 unfold wideT
 by_cases h : 1 ≤ n
 · by_cases h2 : n ≤ 64
   · go_enter Try.func30, Try.ntmps30
     go_wp2
     go_ret
     exact ⟨by simp [h, h2], rfl⟩
   · go_enter Try.func30, Try.ntmps30
     go_wp2
     go_ret
     exact ⟨by simp [h2], rfl⟩
 · have h' : ¬ (1 ≤ n) := h
   go_enter Try.func30, Try.ntmps30
   go_wp2
   go_ret
   exact ⟨by simp; omega, rfl⟩
end Go.Proofs.Ytnhgjgoldcplnaa
namespace Go.Proofs.Ytnhgjgoldcplnaa
open Go Go.RowKit Go.Maps
section
variable {P : Program} {ops : Array Oper} {Q : Exit → Act → World → Prop} {md : Region.Mode} {C : World → Prop} {k : Nat}
def wpJ (P : Program) (md : Region.Mode) (ops : Array Oper) (Q : Exit → Act → World → Prop) (k : Nat) (C : World → Prop) : Nat → Array Bool → Act → World → Prop
 | 0, listed, a, w => (listed.getD k false = false → C w) ∧ Region.ready md ops listed = [] ∧ Q .normal a w
 | n + 1, listed, a, w => (listed.getD k false = false → C w) ∧ (Region.ready md ops listed = [] → Q .normal a w) ∧ ∀ i ∈ Region.ready md ops listed, wpOp P ops Q i (wpJ P md ops Q k C n (listed.setIfInBounds i true)) a w
theorem wpJ.any : ∀ {n : Nat} {listed : Array Bool} {a : Act} {w : World}, wpJ P md ops Q k C n listed a w → wpAny P md ops Q n listed a w
 | 0, _, _, _, h => h.2
 | _ + 1, _, _, _, h => ⟨h.2.1, fun i hi => wpOp_mono (fun _ _ h' => wpJ.any h') (h.2.2 i hi)⟩
theorem wpJ_first {i : Nat} {o : Oper} {v : Value} (hi : ops[i]? = some o) (hs : Region.noSelect ops = true) (hQ : ∀ c a w, Q (.panic c) (a.put o.dst v) w → Q (.panic c) a w)
    (hik : i ≠ k) (hk : ∀ listed : Array Bool, k ∈ Region.ready md ops listed → listed.getD i false = true) :
    ∀ (n : Nat) (listed : Array Bool) (a : Act) (w : World),
     (∀ j y, ops[j]? = some y → j ≠ i → listed.getD j true = false → (∀ e ∈ y.after, Region.binds md e = true → e.on ≠ i) → o.apart ops y = true) →
     i ∈ Region.ready md ops listed → listed.getD k false = false → Quiet P ops C o v a → wpJ P md ops Q k C n (listed.setIfInBounds i true) (a.put o.dst v) w → wpJ P md ops Q k C (n + 1) listed a w := by
 intro n
 induction n with
 | zero =>
  intro listed a w _ hr hlk hy H
  have hC : C w := H.1 (by rw [getD_set_ne false hik]; exact hlk)
  refine ⟨fun _ => hC, fun h => (by rw [h] at hr; cases hr), fun j hj => ?_⟩
  by_cases hji : j = i
  · subst hji; exact hy.op hi hC H
  · have h' := ready_mono hj hji
    rw [H.2.1] at h'
    cases h'
 | succ n ih =>
  intro listed a w hfree hr hlk hy H
  have hC : C w := H.1 (by rw [getD_set_ne false hik]; exact hlk)
  refine ⟨fun _ => hC, fun h => (by rw [h] at hr; cases hr), fun j hj => ?_⟩
  by_cases hji : j = i
  · subst hji; exact hy.op hi hC H
  · have hjk : j ≠ k := by
      rintro rfl
      have g1 := hk listed hj
      have g0 := (mem_ready.1 hr).1
      by_cases hin : i < listed.size
      · simp [hin] at g0 g1
        rw [g0] at g1
        cases g1
      · simp [hin] at g1
    obtain ⟨hjun, y, hoy, hall⟩ := mem_ready.1 hj
    have hnot : ∀ e ∈ y.after, Region.binds md e = true → e.on ≠ i := by
     intro e he hb heq
     have g1 := hall e he hb
     have g0 := (mem_ready.1 hr).1
     rw [heq] at g1
     by_cases hin : i < listed.size
     · simp [hin] at g0 g1
       rw [g0] at g1
       cases g1
     · simp [hin] at g1
    have h2 := wpOp_late hoy (hfree j y hoy hji hjun hnot) (fun cs b => Region.noSelect_spec hs i o cs b hi) (fun cs b => Region.noSelect_spec hs j y cs b hoy) hQ (H.2.2 j (ready_mono hj hji))
    refine wpOp_mono (fun a' w' h3 => ih (listed.setIfInBounds j true) a' w' ?_ (ready_mono hr (Ne.symm hji)) ?_ ?_ ?_) h2
    · intro m z hm hmi hun hno
      refine hfree m z hm hmi ?_ hno
      by_cases hjm : j = m
      · subst hjm; exact hjun
      · rw [getD_set_ne true hjm] at hun; exact hun
    · rw [getD_set_ne false hjk]
      exact hlk
    · unfold Quiet at hy ⊢
      rw [h3.1.1, h3.1.2]
      exact hy
    · rw [Array.setIfInBounds_comm _ _ hji]
      exact h3.2
def waits (md : Region.Mode) (ops : Array Oper) (k i : Nat) : Bool := match ops[k]? with
 | none => true
 | some y => y.after.any fun e => Region.binds md e && (e.on == i)
theorem waits_spec {i : Nat} (h : waits md ops k i = true) (listed : Array Bool) (hr : k ∈ Region.ready md ops listed) : listed.getD i false = true := by
 obtain ⟨_, y, hy, hall⟩ := mem_ready.1 hr
 unfold waits at h
 rw [hy] at h
 simp only [Array.any_eq_true] at h
 obtain ⟨j, hj, he⟩ := h
 simp only [Bool.and_eq_true, beq_iff_eq] at he
 have := hall _ (Array.getElem_mem hj) he.1
 rw [he.2] at this
 exact this
theorem wpJ_take {i : Nat} {o : Oper} {v : Value} {d : Option Tmp} {n : Nat} {listed : Array Bool} {a a' : Act} {w : World} (hi : ops[i]? = some o) (hd : o.dst = d)
    (hs : Region.noSelect ops = true) (hf : Region.free md ops listed i = true) (hr : (Region.ready md ops listed).contains i = true) (hlk : listed.getD k false = false) (hw : waits md ops k i = true) (hik : (i == k) = false)
    (hQ : ∀ c a w, Q (.panic c) (a.put d v) w → Q (.panic c) a w) (hy : Quiet P ops C o v a) (ha : a.put d v = a')
    (h : wpJ P md ops Q k C n (listed.setIfInBounds i true) a' w) : wpJ P md ops Q k C (n + 1) listed a w := by
 subst hd ha
 exact wpJ_first hi hs hQ (by simpa using hik) (fun l hl => waits_spec hw l hl) n listed a w (Region.free_spec hi hf) (by simpa using hr) hlk hy h
theorem wpJ_do {i : Nat} {o : Oper} {n : Nat} {listed : Array Bool} {a : Act} {w : World} (hC : listed.getD k false = false → C w) (hr : Region.ready md ops listed = [i]) (hi : ops[i]? = some o) (hw : Region.wanted o (yielded ops a.tmps) = true)
    (h : ∀ K' : Act → World → Prop, (∀ a w, wpJ P md ops Q k C n (listed.setIfInBounds i true) a w → K' a w) → Oper.wp P o a w K' Q) : wpJ P md ops Q k C (n + 1) listed a w := by
 refine ⟨hC, fun h0 => (by rw [hr] at h0; cases h0), fun j hj => ?_⟩
 rw [hr] at hj
 rw [List.mem_singleton.1 hj]
 unfold wpOp
 rw [hi]
 simp only
 rw [if_pos hw]
 exact .inl (h _ fun _ _ h' => h')
theorem wpJ_done {listed : Array Bool} {a : Act} {w : World} (hC : listed.getD k false = false → C w) (hr : Region.ready md ops listed = []) (h : Q .normal a w) : ∀ n, wpJ P md ops Q k C n listed a w
 | 0 => ⟨hC, hr, h⟩
 | _ + 1 => ⟨hC, fun _ => h, fun i hi => by rw [hr] at hi; cases hi⟩
theorem wpJ_end {listed : Array Bool} {a : Act} {w : World} {n : Nat} (h : Q .normal a w) (hl : listed.getD k false = true := by kernel_rfl) (hr : Region.ready md ops listed = [] := by kernel_rfl) : wpJ P md ops Q k C n listed a w :=
 wpJ_done (fun h' => by rw [hl] at h'; cases h') hr h n
theorem wp_region_J {id : Nat} {a : Act} {w : World} (k : Nat) (C : World → Prop) (h : wpJ P .any ops Q k C ops.size (Array.replicate ops.size false) a { w with drawn := w.drawn + 1 }) (hm : P.follows .mixedOrders = true := by kernel_rfl) : (Code.region id ops true).wp P Q a w :=
 wp_region_any hm h.any
theorem wpJ_fr {v : Value} {d : Option Tmp} {n : Nat} {listed : Array Bool} {a a' : Act} {w : World} (h : wpJ P md ops Q k C n listed a' w) (ha : a.put d v = a' := by (go_frame; rfl)) : wpJ P md ops Q k C n listed (a.put d v) w := by
 rw [ha]
 exact h
theorem wpJ_q {i : Nat} {o : Oper} {v : Value} {d : Option Tmp} {n : Nat} {listed : Array Bool} {a a' : Act} {w : World} (hi : ops[i]? = some o)
    (h : wpJ P md ops Q k C n (listed.setIfInBounds i true) a' w) (hd : o.dst = d := by rfl) (hw : Region.wanted o (yielded ops a.tmps) = true := by rfl) (hy : ∀ w, C w → (execOp a.eval o).run P w = .ok (.value v) w := by (intro wq hq; go_simp; first | done | with_reducible rfl)) (ha : a.put d v = a' := by (go_frame; rfl))
    (hs : Region.noSelect ops = true := by kernel_rfl) (hf : Region.free md ops listed i = true := by kernel_rfl) (hr : (Region.ready md ops listed).contains i = true := by kernel_rfl) (hlk : listed.getD k false = false := by kernel_rfl) (hwt : waits md ops k i = true := by kernel_rfl) (hik : (i == k) = false := by kernel_rfl)
    (hQ : ∀ c a w, Q (.panic c) (a.put d v) w → Q (.panic c) a w := by exact fun _ _ _ h => h) : wpJ P md ops Q k C (n + 1) listed a w :=
 wpJ_take hi hd hs hf hr hlk hwt hik hQ (Or.inl ⟨hw, hy⟩) ha h
theorem wpJ_r {i : Nat} {o : Oper} {v : Value} {d : Option Tmp} {n : Nat} {listed : Array Bool} {a a' : Act} {w : World} (hi : ops[i]? = some o)
    (hy : ∀ w, C w → (execOp a.eval o).run P w = .ok (.value v) w) (h : wpJ P md ops Q k C n (listed.setIfInBounds i true) a' w)
    (ha : a.put d v = a' := by (go_frame; rfl)) (hd : o.dst = d := by rfl) (hw : Region.wanted o (yielded ops a.tmps) = true := by rfl)
    (hs : Region.noSelect ops = true := by kernel_rfl) (hf : Region.free md ops listed i = true := by kernel_rfl) (hr : (Region.ready md ops listed).contains i = true := by kernel_rfl) (hlk : listed.getD k false = false := by kernel_rfl) (hwt : waits md ops k i = true := by kernel_rfl) (hik : (i == k) = false := by kernel_rfl)
    (hQ : ∀ c a w, Q (.panic c) (a.put d v) w → Q (.panic c) a w := by exact fun _ _ _ h => h) : wpJ P md ops Q k C (n + 1) listed a w :=
 wpJ_take hi hd hs hf hr hlk hwt hik hQ (Or.inl ⟨hw, hy⟩) ha h
end
end Go.Proofs.Ytnhgjgoldcplnaa
namespace Go.Proofs.Ytnhgjgoldcplnaa
open Go.RowKit Go.Maps
section
variable {S : Nat → Prop} {i j : Nat} {col col' : Nat → Nat} {w w' w3 w4 : World} {τ : Type} {E : El τ} {v v' : Value} {L M : List τ}
theorem Rc.at (h : Rc E i col w v L) (hi : i ≠ 0) : ∀ k, v.ownBlock = some k → col k ≠ 0 := fun k hk => by rw [(h.own k hk).1]; exact hi
theorem row_end {D2 : Nat → Prop} (h : Rc E i col w v L) (hi : i ≠ 0) (hbw : Below w.heap.size w w3) (hg : w3.grownBy w4 v.ownBlock) (hat : v'.ownBlock = v.ownBlock ∨ v'.ownBlock = some w3.heap.size)
    (HD : ∀ D3 : Nat → Prop, (∀ k, Cl col 0 w k → D3 k) → (∀ k, D2 k → D3 k) → (∀ k, D3 k → k < w3.heap.size ∧ v.ownBlock ≠ some k) → Rw E (fun k => v'.ownBlock = some k) D3 w4 v' (L ++ M)) (hD2 : ∀ k, D2 k → Cl col 0 w k ∨ New w w3 k) :
    Ev (· = i) col w (paint col w v'.ownBlock i) w4 ∧ Rc E i (paint col w v'.ownBlock i) w4 v' (L ++ M) ∧ ∀ k, v'.ownBlock = some k → v.ownBlock = some k ∨ w.heap.size ≤ k := by
 have hk : Keep (fun k => col k = i) w w4 := (Keep.of_below hbw).trans (Keep.of_grown (S := fun k => v.ownBlock = some k) hg fun k _ e => e) fun k hk e => (h.own k e).1
 have hat2 : ∀ k, v'.ownBlock = some k → v.ownBlock = some k ∨ w.heap.size ≤ k := by
  intro k hk
  rcases hat with e | e
  · exact .inl (e ▸ hk)
  · rw [e] at hk
    cases hk
    exact .inr hbw.size
 have hz := hg.size
 have hz3 := hbw.size
 have hr := HD (fun k => Cl col 0 w k ∨ New w w3 k) (fun k hk => .inl hk) hD2 (by
  rintro k (hk | hk)
  · exact ⟨Nat.lt_of_lt_of_le hk.2 hz3, fun e => h.at hi k e hk.1⟩
  · exact ⟨hk.2, fun e => by have := h.lt k e; have := hk.1; omega⟩)
 refine ⟨Ev.paint hk _ _, hr.carry (Same.refl _ _) (Same.refl _ _) (fun k e _ => ?_) ?_, hat2⟩
 · refine ⟨?_, hr.lt k e⟩
   rcases hat2 k e with h' | h'
   · rw [paint_old (h.lt k h')]; exact (h.own k h').1
   · rw [e]; exact paint_it h'
 · rintro k (hk | hk)
   · exact ⟨(paint_old hk.2).trans hk.1, by have := hk.2; omega⟩
   · refine ⟨paint_new hk.1 fun e => ?_, by have := hk.2; omega⟩
     rcases hat with e' | e'
     · rw [e'] at e
       have := h.lt k e; have := hk.1; omega
     · rw [e'] at e
       cases e
       have := hk.2; omega
theorem Same.set {O : Nat → Prop} {b o : Nat} {u : Value} (h : ¬ O b) : Same O w (w.setCell ⟨b, o, none⟩ u) := fun k hk => heap_setCell_other w _ k _ (fun e => h (by have e' : k = b := e; rw [← e']; exact hk))
theorem Rc.set {b o : Nat} {u : Value} (h : Rc E i col w v L) (h0 : col b ≠ 0) (hne : v.ownBlock ≠ some b) : Rc E i col (w.setCell ⟨b, o, none⟩ u) v L :=
 Rw.carry h (Same.set hne) (Same.set fun h => h0 h.1) (fun k _ hk => ⟨hk.1, by simpa using hk.2⟩) fun k hk => ⟨hk.1, by simpa using hk.2⟩
theorem Ev.set {b o : Nat} (h : Ev S col w col' w') (hS : S (col b)) (u : Value) : Ev S col w col' (w'.setCell ⟨b, o, none⟩ u) := ⟨h.ext, h.keep.setCell (p := ⟨b, o, none⟩) (fun _ => hS) u⟩
theorem Ev.drewN (S : Nat → Prop) (col : Nat → Nat) (w : World) (k : Nat) : Ev S col w col (w.drewN k) := ⟨fun _ _ => rfl, Keep.of_below (below_drewN (Below.refl _ _) k)⟩
end
def okS (W Q : Int) : Bool := wideT W && (decide (0 ≤ Q) && decide (Q ≤ 4096))
def NewSP (W Q : Int) (w : World) (e : Ending) (w' : World) : Prop :=
 if okS W Q then e = .returned (.tuple #[.pointer (some ⟨w.heap.size, 0, none⟩), .int .i64 0]) ∧ w' = w.alloc (.cells #[.int .i64 W, .int .i64 Q, .int .i64 0, .slice none 0 0] 64)
 else e = .returned (.tuple #[.pointer none, .int .i64 1]) ∧ w' = w
theorem newSender_any (W Q : Int) (w : World) : Calls Try.prog 10 #[.int .i64 W, .int .i64 Q] w (NewSP W Q w) := by
 have hw := isWidth_any W w
 cases h : wideT W with
 | false =>
  have HP : Hid (NewSP W Q w (.returned (.tuple #[.pointer none, .int .i64 1])) w) := by unfold NewSP okS; rw [h]; exact ⟨rfl, rfl⟩
  rw [h] at hw
  clear h
  go_enter Try.func10, Try.ntmps10
  go_wp2_with (go_at_call 30; refine hw.mono ?_; rintro e w' ⟨rfl, rfl⟩)
  go_ret2
  exact HP.out
 | true =>
  rw [h] at hw
  by_cases h1 : 0 ≤ Q
  · by_cases h2 : Q ≤ 4096
    · have HP : Hid (NewSP W Q w (.returned (.tuple #[.pointer (some ⟨w.heap.size, 0, none⟩), .int .i64 0])) (w.alloc (.cells #[.int .i64 W, .int .i64 Q, .int .i64 0, .slice none 0 0] 64))) := by unfold NewSP okS; rw [h, decide_eq_true h1, decide_eq_true h2]; exact ⟨rfl, rfl⟩
      clear h
      have h1' : decide (Q < 0) = false := decide_eq_false (by omega)
      have h2' : decide (4096 < Q) = false := decide_eq_false (by omega)
      go_enter Try.func10, Try.ntmps10
      go_wp2_with (go_at_call 30; refine hw.mono ?_; rintro e w' ⟨rfl, rfl⟩)
      go_ret2
      exact HP.out
    · have HP : Hid (NewSP W Q w (.returned (.tuple #[.pointer none, .int .i64 1])) w) := by unfold NewSP okS; rw [h, decide_eq_true h1, decide_eq_false h2]; exact ⟨rfl, rfl⟩
      clear h
      have h1' : decide (Q < 0) = false := decide_eq_false (by omega)
      have h2' : decide (4096 < Q) = true := decide_eq_true (by omega)
      go_enter Try.func10, Try.ntmps10
      go_wp2_with (go_at_call 30; refine hw.mono ?_; rintro e w' ⟨rfl, rfl⟩)
      go_ret2
      exact HP.out
  · have HP : Hid (NewSP W Q w (.returned (.tuple #[.pointer none, .int .i64 1])) w) := by unfold NewSP okS; rw [h, decide_eq_false h1]; exact ⟨rfl, rfl⟩
    clear h
    have h1' : decide (Q < 0) = true := decide_eq_true (by omega)
    go_enter Try.func10, Try.ntmps10
    go_wp2_with (go_at_call 30; refine hw.mono ?_; rintro e w' ⟨rfl, rfl⟩)
    go_ret2
    exact HP.out
structure PS (i : Nat) (col : Nat → Nat) (w : World) (b : Nat) (W Q : Int) (L : List (List Int)) (d : Nat) : Prop where
 ob : Cl col i w b
 row : ∃ v, w.heap[b]? = some (.cells #[.int .i64 W, .int .i64 Q, .int .i64 (d : Int), v] 64) ∧ Rc EB i col w v (L.drop d) ∧ v.ownBlock ≠ some b
 le : d ≤ L.length
 ok : okS W Q = true
 few : L.length ≤ 100000
section
variable {i : Nat} {col col' : Nat → Nat} {w w' : World} {b : Nat} {W Q : Int} {L : List (List Int)} {d : Nat}
theorem PS.ev {S : Nat → Prop} (h : PS i col w b W Q L d) (he : Ev S col w col' w') (h0 : ¬ S 0) (hi : ¬ S i) : PS i col' w' b W Q L d := by
 obtain ⟨v, h1, h2, h3⟩ := h.row
 exact ⟨he.cl b h.ob, ⟨v, (he.same hi b h.ob).trans h1, h2.ev he h0 hi, h3⟩, h.le, h.ok, h.few⟩
theorem PS.wide (h : PS i col w b W Q L d) : 1 ≤ W ∧ W ≤ 64 ∧ 0 ≤ Q ∧ Q ≤ 4096 := by
 have := h.ok
 unfold okS wideT at this
 simp only [Bool.and_eq_true, decide_eq_true_eq] at this
 omega
theorem PS.new (hok : okS W Q = true) : PS i (paint col w (some w.heap.size) i) (w.alloc (.cells #[.int .i64 W, .int .i64 Q, .int .i64 0, .slice none 0 0] 64)) w.heap.size W Q [] 0 :=
 ⟨⟨paint_it (Nat.le_refl _), by simp⟩, ⟨_, heap_alloc_new _ _, Rw.nil _ _ _ _, fun h => by cases h⟩, Nat.le_refl _, hok, by simp⟩
theorem PS.view (h : PS i col w b W Q L d) : ∃ q c, w.heap[b]? = some (.cells #[.int .i64 W, .int .i64 Q, .int .i64 (d : Int), .slice q (L.length - d) c] 64) ∧ Rc EB i col w (.slice q (L.length - d) c) (L.drop d) ∧ (Value.slice q (L.length - d) c).ownBlock ≠ some b := by
 obtain ⟨v, h1, h2, h3⟩ := h.row
 obtain ⟨q, c, e⟩ := h2.slice
 rw [List.length_drop] at e
 subst e
 exact ⟨q, c, h1, h2, h3⟩
def undT (W : Int) (L : List (List Int)) (d : Nat) : Nat := min W.toNat (L.length - d)
theorem underWay_any (h : PS i col w b W Q L d) : Calls Try.prog 32 #[.pointer (some ⟨b, 0, none⟩)] w fun e w' => e = .returned (.int .i64 (undT W L d : Int)) ∧ ∃ k, w' = w.drewN k := by
 obtain ⟨q, c, h1, h2, _⟩ := h.view
 have hw := h.wide
 have hf := h.few
 have hc := cell_row (cur := [_, _, _, _]) h1 3 _ rfl
 have hc0 := cell_row (cur := [_, _, _, _]) h1 0 _ rfl
 unfold undT
 clear h h1 h2
 obtain ⟨m, rfl⟩ : ∃ m : Nat, W = m := ⟨W.toNat, by omega⟩
 generalize hn : L.length - d = n at *
 have hn2 : n ≤ 100000 := by omega
 clear hn
 go_enter Try.func32, Try.ntmps32
 go_upto_region 1 with fail
 go_quiet (fail)
 go_wp2
 all_goals
  go_ret
  refine ⟨ret_int ?_, nq, rfl⟩
  first | rw [Nat.min_eq_left (by omega)] | rw [Nat.min_eq_right (by omega)]
end
def pushE (W Q : Int) (L : List (List Int)) (d : Nat) (x : List Int) : Int := if 1048576 < x.length then 13 else if W + Q ≤ ((L.length - d : Nat) : Int) then 3 else 0
def pushL (W Q : Int) (L : List (List Int)) (d : Nat) (x : List Int) : List (List Int) := if pushE W Q L d x = 0 then L ++ [x] else L
section
variable {i : Nat} {col col' : Nat → Nat} {w w' : World} {b : Nat} {W Q : Int} {L : List (List Int)} {d : Nat} {x : List Int}
theorem Sl.lenv {τ : Type} {E : El τ} {O D : Nat → Prop} {v : Value} {M : List τ} (h : Sl E O D w v M) : ∃ p c, v = .slice p M.length c := by
 obtain ⟨p, c, cs, e, _⟩ := h
 exact ⟨p, c, e⟩
theorem push_quiet {W Q : Int} (h : PS i col w b W Q L d) {v : Value} (hx : x.length ≤ 2000000) (hv : ∃ p c, v = .slice p x.length c) (he : pushE W Q L d x ≠ 0) :
    Calls Try.prog 13 #[.pointer (some ⟨b, 0, none⟩), v] w fun e w' => e = .returned (.int .i64 (pushE W Q L d x)) ∧ ∃ k, w' = w.drewN k := by
 obtain ⟨p, c, rfl⟩ := hv
 obtain ⟨q, cq, h1, h2, _⟩ := h.view
 have hw := h.wide
 have hf := h.few
 have hc0 := cell_row (cur := [_, _, _, _]) h1 0 _ rfl
 have hc1 := cell_row (cur := [_, _, _, _]) h1 1 _ rfl
 have hc3 := cell_row (cur := [_, _, _, _]) h1 3 _ rfl
 have hwd : wideT W = true := by have := h.ok; unfold okS at this; simp only [Bool.and_eq_true] at this; exact this.1
 have hW := isWidth_any W w
 rw [hwd] at hW
 unfold pushE at he ⊢
 clear h h1 h2 hwd
 generalize hn : L.length - d = n at *
 have hn2 : n ≤ 100000 := by omega
 clear hn
 generalize x.length = m at *
 by_cases hl : 1048576 < m
 · have hl' : decide ((1048576 : Int) < m) = true := decide_eq_true (by omega)
   rw [if_pos hl]
   clear he
   go_enter Try.func13, Try.ntmps13
   go_wp2_with (go_at_call 30; refine hW.mono ?_; rintro e w' ⟨rfl, rfl⟩)
   go_ret
   exact ⟨rfl, 0, rfl⟩
 · rw [if_neg hl] at he ⊢
   have hfu : W + Q ≤ (n : Int) := by
    by_cases h' : W + Q ≤ (n : Int)
    · exact h'
    · rw [if_neg h'] at he; exact absurd rfl he
   rw [if_pos hfu]
   have hl' : decide ((1048576 : Int) < m) = false := decide_eq_false (by omega)
   have hf' : decide (W + Q ≤ (n : Int)) = true := decide_eq_true hfu
   clear he
   go_enter Try.func13, Try.ntmps13
   go_upto_region 5 with (go_at_call 30; refine hW.mono ?_; rintro e w' ⟨rfl, rfl⟩)
   go_quiet (fail)
   go_wp2
   go_ret
   exact ⟨rfl, nq, rfl⟩
theorem push_ok (h : PS i col w b W Q L d) (hi : i ≠ 0) (hL : L.length < 100000) {v : Value} (hx : Vw EU col w v x) (he : pushE W Q L d x = 0) :
    Calls Try.prog 13 #[.pointer (some ⟨b, 0, none⟩), v] w fun e w' => e = .returned (.int .i64 0) ∧ ∃ col', Ev (· = i) col w col' w' ∧ PS i col' w' b W Q (L ++ [x]) d := by
 obtain ⟨q, cq, h1, h2, h3⟩ := h.view
 have hw := h.wide
 have HH : Hid (PS i col w b W Q L d) := h
 have hf := h.few
 have hb := h.ob
 have hle := h.le
 have hlx : x.length ≤ 1048576 := by
  unfold pushE at he
  by_cases h' : 1048576 < x.length
  · rw [if_pos h'] at he; cases he
  · omega
 have hfu : decide (W + Q ≤ ((L.length - d : Nat) : Int)) = false := by
  unfold pushE at he
  rw [if_neg (by omega)] at he
  by_cases h' : W + Q ≤ ((L.length - d : Nat) : Int)
  · rw [if_pos h'] at he; cases he
  · exact decide_eq_false h'
 have hl' : decide ((1048576 : Int) < x.length) = false := decide_eq_false (by omega)
 have hc0 := cell_row (cur := [_, _, _, _]) h1 0 _ rfl
 have hc1 := cell_row (cur := [_, _, _, _]) h1 1 _ rfl
 have hc3 := cell_row (cur := [_, _, _, _]) h1 3 _ rfl
 have hwd : wideT W = true := by have := h.ok; unfold okS at this; simp only [Bool.and_eq_true] at this; exact this.1
 have hW := isWidth_any W w
 rw [hwd] at hW
 have HOW : Hid (∀ X, Below w.heap.size w X → Calls Try.prog 31 #[v] X fun e w' => Below X.heap.size X w' ∧ ∃ v', e = .returned v' ∧ ∀ D', Sl EU (New X w') D' w' v' x) := fun X hX => own_any (hx.carry (Same.of_below hX fun k hk => hk.2) (Same.of_below hX fun k hk => hk.2) (fun _ hk => hk) fun _ hk => hk) (fun k hk => Nat.lt_of_lt_of_le hk.2 hX.size) (by omega)
 have HE : Hid (∀ (v' u : Value) (w2 w4 : World), Below w.heap.size w w2 → (∀ D', Sl EU (New w w2) D' w2 u x) → (w2.alloc (.cells #[u] 37)).grownBy w4 (Value.slice q (L.length - d) cq).ownBlock → (v'.ownBlock = (Value.slice q (L.length - d) cq).ownBlock ∨ v'.ownBlock = some (w2.alloc (.cells #[u] 37)).heap.size) →
     (∀ D3 : Nat → Prop, (∀ k, Cl col 0 w k → D3 k) → (∀ k, New w w2 k → D3 k) → (∀ k, D3 k → k < (w2.alloc (.cells #[u] 37)).heap.size ∧ (Value.slice q (L.length - d) cq).ownBlock ≠ some k) → Rw EB (fun k => v'.ownBlock = some k) D3 w4 v' (L.drop d ++ [x])) →
     w4.heap[b]? = some (.cells #[.int .i64 W, .int .i64 Q, .int .i64 (d : Int), .slice q (L.length - d) cq] 64) ∧ ∃ col', Ev (· = i) col w col' (w4.setCell ⟨b, 3, none⟩ v') ∧ PS i col' (w4.setCell ⟨b, 3, none⟩ v') b W Q (L ++ [x]) d) := by
  intro v' u w2 w4 hb2 hu hg hat HD
  have hb3 : Below w.heap.size w (w2.alloc (.cells #[u] 37)) := hb2.alloc (by have := hb2.size; omega) _
  obtain ⟨e1, e2, e3⟩ := row_end h2 hi hb3 hg hat HD (fun k hk => .inr ⟨hk.1, by have := hk.2; simp; omega⟩)
  have hne : v'.ownBlock ≠ some b := by
   intro e
   rcases e3 b e with h' | h'
   · exact h3 h'
   · have := hb.2; omega
  have ho : w4.heap[b]? = some (.cells #[.int .i64 W, .int .i64 Q, .int .i64 (d : Int), .slice q (L.length - d) cq] 64) := ((hg.block b (Nat.lt_of_lt_of_le hb.2 hb3.size) (fun e => h3 e.symm)).trans (hb3.block b hb.2)).trans h1
  have hcb : paint col w v'.ownBlock i b = i := (paint_old hb.2).trans hb.1
  refine ⟨ho, _, e1.set hb.1 v', ⟨hcb, by have := hb.2; have := hb3.size; have := hg.size; simp; omega⟩, ⟨v', ?_, ?_, hne⟩, by rw [List.length_append]; omega, h.ok, by rw [List.length_append]; simp; omega⟩
  · rw [heap_setCell_same w4 b 3 _ _ _ ho]
    rfl
  · rw [List.drop_append_of_le_length hle]
    exact e2.set (by rw [hcb]; exact hi) hne
 have hRw := h2
 have hxs := hx.lenv
 clear h
 obtain ⟨px, cx, rfl⟩ := hxs
 have HR : Hid (∀ X, Below w.heap.size w X → Rw EB (Cl col i w) (Cl col 0 w) X (.slice q (L.length - d) cq) (L.drop d)) := fun X hX => Rw.carry h2 (fun k hk => hX.block k (h2.lt k hk)) (Same.of_below hX fun k hk => hk.2) (fun _ _ h => h) fun _ h => h
 have HC : Hid (w.heap[b]? = some (.cells #[.int .i64 W, .int .i64 Q, .int .i64 (d : Int), .slice q (L.length - d) cq] 64)) := h1
 have hdl : (L.drop d).length ≤ 100000 := by rw [List.length_drop]; omega
 have hbl := hb.2
 have HXL : Hid (x.length = x.length) := rfl
 obtain ⟨m, hm⟩ : ∃ m, x.length = m := ⟨_, rfl⟩
 rw [hm] at hl'
 rw [hm] at HOW
 rw [hm]
 clear h1 h2 h3 hx he hwd hm HXL
 generalize L.length - d = n at *
 go_enter Try.func13, Try.ntmps13
 go_upto_region 5 with (go_at_call 30; refine hW.mono ?_; rintro e w' ⟨rfl, rfl⟩)
 go_quiet (fail)
 go_upto_region 7 with fail
 have hbq : Below w'.heap.size w' (w'.drewN nq).drew := by exact below_drewN (Below.refl _ _) (nq + 1)
 refine wp_region_J 11 (fun X => X.heap[b]? = some (.cells #[.int .i64 W, .int .i64 Q, .int .i64 (d : Int), .slice q n cq] 64)) ?_
 change wpJ _ _ _ _ _ _ _ _ _ (World.drew _)
 generalize (w'.drewN nq).drew = w1 at *
 have hC1 := (hbq.block b hbl).trans HC.out
 refine wpJ_q (i := 0) (d := some 36) (v := .pointer (some ⟨b, 0, none⟩)) rfl ?_
 refine wpJ_q (i := 1) (d := some 37) (v := .pointer (some ⟨b, 0, none⟩)) rfl ?_
 refine wpJ_q (i := 2) (d := some 38) (v := .pointer (some ⟨b, 0, none⟩)) rfl ?_
 refine wpJ_q (i := 3) (d := some 39) (v := .pointer (some ⟨b, 3, none⟩)) rfl ?_
 refine wpJ_r (i := 4) (d := some 40) (v := .slice q n cq) rfl (by intro wq hq; have g := cell_row (cur := [_, _, _, _]) hq 3 _ rfl; go_simp; first | done | with_reducible rfl) ?_
 refine wpJ_q (i := 5) (d := some 41) (v := .slice px m cx) rfl ?_
 refine wpJ_do (i := 6) (fun _ => hC1) (by kernel_rfl) rfl (by rfl) ?_
 intro K6 hK6
 go_simp
 go_wp2_with (go_at_call 31; refine (HOW.out _ hbq).mono ?_; rintro e w2 ⟨hb2, u, rfl, hu⟩)
 have hb12 := belowP hbq hb2
 have hC2 := (hb2.block b (Nat.lt_of_lt_of_le hbl hbq.size)).trans hC1
 have hu' : ∀ D', Sl EU (New w' w2) D' w2 u x := fun D' => (hu D').carry (Same.refl _ _) (Same.refl _ _) (fun k hk => ⟨Nat.le_trans hbq.size hk.1, hk.2⟩) fun _ h => h
 obtain ⟨pu, cu, rfl⟩ := (hu' (fun _ => True)).lenv
 have HU : Hid (∀ D', Sl EU (New w' w2) D' w2 (.slice pu x.length cu) x) := hu'
 have hb23 : Below w2.heap.size w2 (w2.alloc (.cells #[.slice pu x.length cu] 37)) := (Below.refl _ _).alloc (Nat.le_refl _) _
 have HONE : Hid (Sl EB (fun k => k = w2.heap.size) (New w' w2) (w2.alloc (.cells #[.slice pu x.length cu] 37)) (.slice (some ⟨w2.heap.size, 0, none⟩) 1 1) [x]) := Sl.one (E := EB) (cs := [.slice pu x.length cu]) ⟨_, rfl, hu' _⟩ fun k hk => hk.2
 have HR3 := HR.out _ (belowP hb12 hb23)
 have hC3 := (hb23.block b (by have := hbq.size; have := hb2.size; omega)).trans hC2
 clear hu hu' HOW
 refine wpJ_do (i := 7) (fun _ => hC2) (by kernel_rfl) rfl (by rfl) ?_
 intro K7 hK7
 go_simp
 refine hK7 _ _ ?_
 refine wpJ_do (i := 8) (fun _ => hC3) (by kernel_rfl) rfl (by rfl) ?_
 intro K8 hK8
 refine wp_app (.tmp 40) (.tmp 43) 31 (some 44) rfl rfl Try.underlying31 rfl HR3 rfl HONE.out (by simp only [List.length_singleton]; omega) ?_
 rintro v' w4 hg hat ⟨q', c', hv'⟩ HD
 obtain ⟨nn, hnn⟩ : ∃ nn, (L.drop d ++ [x]).length = nn := ⟨_, rfl⟩
 rw [hnn] at hv'
 subst hv'
 clear hnn
 refine hK8 _ _ ?_
 refine wpJ_fr ?_
 obtain ⟨hC4, hend⟩ := HE.out _ _ w2 w4 hb12 HU.out hg hat HD.out
 have HEND := (show Hid _ from hend)
 clear hend HD hg hat HR3 HONE
 refine wpJ_do (i := 9) (fun _ => hC4) (by kernel_rfl) rfl (by rfl) ?_
 intro K9 hK9
 go_simp
 refine hK9 _ _ ?_
 refine wpJ_q (i := 10) (d := some 46) (v := .pointer (some ⟨b, 3, none⟩)) rfl ?_
 have hc4 := cell_row (cur := [_, _, _, _]) hC4 3 _ rfl
 have hz4 := frozen_of_row w4 b 3 _ _ hC4
 refine wpJ_do (i := 11) (fun _ => hC4) (by kernel_rfl) rfl (by rfl) ?_
 intro K11 hK11
 go_simp
 refine hK11 _ _ ?_
 refine wpJ_end ?_
 go_wp2
 go_ret
 exact ⟨rfl, HEND.out⟩
theorem push_any (h : PS i col w b W Q L d) (hi : i ≠ 0) (hL : L.length < 100000) {v : Value} (hx : Vw EU col w v x) (hl : x.length ≤ 2000000) :
    Calls Try.prog 13 #[.pointer (some ⟨b, 0, none⟩), v] w fun e w' => e = .returned (.int .i64 (pushE W Q L d x)) ∧ ∃ col', Ev (· = i) col w col' w' ∧ PS i col' w' b W Q (pushL W Q L d x) d := by
 by_cases he : pushE W Q L d x = 0
 · refine (push_ok h hi hL hx he).mono ?_
   rintro e w' ⟨rfl, hr⟩
   unfold pushL
   rw [he, if_pos rfl]
   exact ⟨rfl, hr⟩
 · refine (push_quiet h hl hx.lenv he).mono ?_
   rintro e w' ⟨rfl, k, rfl⟩
   unfold pushL
   rw [if_neg he]
   have hev := Ev.drewN (· = i) col w k
   refine ⟨rfl, col, hev, ?_⟩
   obtain ⟨u, h1, h2, h3⟩ := h.row
   exact ⟨h.ob, ⟨u, h1, h2, h3⟩, h.le, h.ok, h.few⟩
end
end Go.Proofs.Ytnhgjgoldcplnaa

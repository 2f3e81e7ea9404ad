/-
  Rows that a call builds anew.
  Pieces that are kept, as a list of numbers and bytes; the map that holds them.
  Receivers: made, and as they are read.
  A receiver's ready.
  A receiver's Take.
  Texts and bytes; rows of bytes that are the same; deeds that are few and small.
  Rows of bytes that are the same; deeds that are few and small.
  Deeds that are few and small; the chapter's examples.
-/
import Derived.Test.YtnhgjgoldcplnaaDH01
import Derived.Laws.BytesArg
import Derived.Lib.Strings
import Derived.Lib.ConvBytes
import Derived.Lib.SlBytesConst
import Derived.Lib.SmallJoins
set_option maxRecDepth 100000
set_option maxHeartbeats 16000000
namespace Go.Proofs.Ytnhgjgoldcplnaa
open Go.RowKit Go.Maps
section
variable {S D0 D2 : Nat → Prop} {i j : Nat} {col col' : Nat → Nat} {w w' wr w3 w4 : World} {τ : Type} {E : El τ} {v v' : Value} {L M : List τ}
def Nr (E : El τ) (D0 : Nat → Prop) (w wr : World) (v : Value) (L : List τ) : Prop := Rw E (New w wr) (fun k => (D0 k ∨ New w wr k) ∧ v.ownBlock ≠ some k) wr v L
theorem Nr.nil (E : El τ) (D0 : Nat → Prop) (w wr : World) : Nr E D0 w wr (.slice none 0 0) [] := Rw.nil _ _ _ _
theorem Nr.keep (h : Nr E D0 w wr v L) (hk : Keep S wr w3) (hS : ∀ k, S k → k < w.heap.size ∧ ¬ D0 k) (hD : ∀ k, D0 k → k < w.heap.size) (hw : w.heap.size ≤ wr.heap.size) : Nr E D0 w w3 v L := by
 have hz := hk.size
 refine Rw.carry h (fun k e => hk.block k (h.lt k e) fun hs => ?_) (fun k e => hk.block k ?_ fun hs => ?_) (fun k e _ => ?_) fun k e => ⟨?_, e.2⟩
 · have := (h.own k e).1; have := (hS k hs).1; omega
 · rcases e.1 with e | e
   · have := hD k e; omega
   · exact e.2
 · rcases e.1 with e | e
   · exact (hS k hs).2 e
   · have := e.1; have := (hS k hs).1; omega
 · exact ⟨(h.own k e).1, by have := h.lt k e; omega⟩
 · rcases e.1 with e | e
   · exact .inl e
   · exact .inr ⟨e.1, by have := e.2; omega⟩
theorem Nr.below (h : Nr E D0 w wr v L) (hb : Below wr.heap.size wr w3) (hD : ∀ k, D0 k → k < w.heap.size) (hw : w.heap.size ≤ wr.heap.size) : Nr E D0 w w3 v L := h.keep (S := fun _ => False) (Keep.of_below hb) (fun _ h => h.elim) hD hw
theorem Nr.app (h : Nr E D0 w w3 v L) (hw : w.heap.size ≤ w3.heap.size) (hg : w3.grownBy w4 v.ownBlock) (hat : v'.ownBlock = v.ownBlock ∨ v'.ownBlock = some w3.heap.size) (hD : ∀ k, D0 k → k < w.heap.size)
    (HD : ∀ D3 : Nat → Prop, (∀ k, (D0 k ∨ New w w3 k) ∧ v.ownBlock ≠ some k → D3 k) → (∀ k, D2 k → D3 k) → (∀ k, D3 k → k < w3.heap.size ∧ v.ownBlock ≠ some k) → Rw E (fun k => v'.ownBlock = some k) D3 w4 v' (L ++ M)) (hD2 : ∀ k, D2 k → (D0 k ∨ New w w3 k) ∧ v.ownBlock ≠ some k) :
    Nr E D0 w w4 v' (L ++ M) ∧ Below w.heap.size w3 w4 := by
 have hz := hg.size
 have hr := HD (fun k => (D0 k ∨ New w w3 k) ∧ v.ownBlock ≠ some k) (fun _ h => h) hD2 (fun k hk => ⟨by
  rcases hk.1 with e | e
  · have := hD k e; omega
  · exact e.2, hk.2⟩)
 refine ⟨hr.carry (Same.refl _ _) (Same.refl _ _) (fun k e _ => ⟨?_, hr.lt k e⟩) fun k hk => ⟨?_, fun e => ?_⟩, ⟨hg.os, hg.tape, hg.output, hg.size, fun k hk => hg.block k (by omega) fun e => ?_⟩⟩
 · rcases hat with e' | e'
   · rw [e'] at e; exact (h.own k e).1
   · rw [e'] at e; cases e; exact hw
 · rcases hk.1 with e | e
   · exact .inl e
   · exact .inr ⟨e.1, by have := e.2; omega⟩
 · rcases hat with e' | e'
   · rw [e'] at e; exact hk.2 e
   · rw [e'] at e
     cases e
     rcases hk.1 with e | e
     · have := hD _ e; omega
     · have := e.2; omega
 · have := (h.own k e.symm).1; omega
theorem Nr.vw (h : Nr E (Cl col 0 w) w w' v L) (hz : w.heap.size ≤ w'.heap.size) (hc : ∀ k, k < w.heap.size → col' k = col k) (hn : ∀ k, New w w' k → col' k = 0) : Vw E col' w' v L :=
 h.sl.carry (Same.refl _ _) (Same.refl _ _) (fun k hk => ⟨hn k hk, hk.2⟩) fun k hk => by
  rcases hk.1 with e | e
  · exact ⟨(hc k e.2).trans e.1, by have := e.2; omega⟩
  · exact ⟨hn k e, e.2⟩
theorem paint_none : ∀ k, New w w' k → paint col w none i k = 0 := fun k hk => paint_new hk.1 (by intro e; cases e)
end
def outK (L : List (List Int)) (d k : Nat) : List (Int × List Int) := (List.range k).map fun j => (((d + j : Nat) : Int), L.getD (d + j) [])
theorem outK_len (L : List (List Int)) (d k : Nat) : (outK L d k).length = k := by simp [outK]
theorem outK_snoc (L : List (List Int)) (d k : Nat) : outK L d (k + 1) = outK L d k ++ [(((d + k : Nat) : Int), L.getD (d + k) [])] := by
 unfold outK
 rw [List.range_succ, List.map_append]
 rfl
theorem getD_drop (L : List (List Int)) (d j : Nat) (h : j < L.length - d) : (L.drop d)[j]? = some (L.getD (d + j) []) := by
 rw [List.getElem?_drop, List.getD_eq_getElem?_getD, List.getElem?_eq_getElem (by omega)]
 rfl
theorem Sl.rows {O D : Nat → Prop} {w : World} {v : Value} {L : List (List Int)} (h : Sl EB O D w v L) :
    ∃ p c, v = .slice p L.length c ∧ L.length ≤ c ∧ (p = none → c = 0) ∧ (L ≠ [] → ∃ b o, p = some ⟨b, o, none⟩ ∧ O b) ∧ ∀ b o, p = some ⟨b, o, none⟩ → ∀ j x, L[j]? = some x → ∃ u, w.cell? ⟨b, o + j, none⟩ = some u ∧ Sl EU D D w u x := by
 have h0 := h
 obtain ⟨p, c, e, h1, h2, h3⟩ := h.cell
 refine ⟨p, c, e, h1, h2, fun hn => ?_, fun b o hp j x hj => ?_⟩
 · obtain ⟨p', c', cs, e', _, _, _, h4⟩ := h0
   rw [e] at e'
   cases e'
   obtain ⟨b, o, hp, hb, _⟩ := h4 hn
   exact ⟨b, o, hp, hb⟩
 · obtain ⟨a, cs, ha, _, _, ⟨u, hcs, hu⟩, hc⟩ := h3 j x hj
   rw [hp] at ha
   cases ha
   refine ⟨u, ?_, hu⟩
   have := hc 0 u (by rw [hcs]; rfl)
   have e1 : EB.sz = 1 := rfl
   rw [e1, Nat.mul_one] at this
   exact this
theorem Sl.pieces {O D : Nat → Prop} {w : World} {v : Value} {L : List (Int × List Int)} (h : Sl EP O D w v L) :
    ∃ p c, v = .slice p L.length c ∧ L.length ≤ c ∧ (p = none → c = 0) ∧ (L ≠ [] → ∃ b o, p = some ⟨b, o, none⟩ ∧ O b) ∧ ∀ b o, p = some ⟨b, o, none⟩ → ∀ j x, L[j]? = some x → ∃ u, w.cell? ⟨b, o + j * 2, none⟩ = some (.int .i64 x.1) ∧ w.cell? ⟨b, o + j * 2 + 1, none⟩ = some u ∧ Sl EU D D w u x.2 := by
 have h0 := h
 obtain ⟨p, c, e, h1, h2, h3⟩ := h.cell
 refine ⟨p, c, e, h1, h2, fun hn => ?_, fun b o hp j x hj => ?_⟩
 · obtain ⟨p', c', cs, e', _, _, _, h4⟩ := h0
   rw [e] at e'
   cases e'
   obtain ⟨b, o, hp, hb, _⟩ := h4 hn
   exact ⟨b, o, hp, hb⟩
 · obtain ⟨a, cs, ha, _, _, ⟨u, hcs, hu⟩, hc⟩ := h3 j x hj
   rw [hp] at ha
   cases ha
   have e1 : EP.sz = 2 := rfl
   rw [e1] at hc
   exact ⟨u, hc 0 _ (by rw [hcs]; rfl), hc 1 u (by rw [hcs]; rfl), hu⟩
abbrev Kp := List (Int × List Int)
def look (K : Kp) (x : Int) : Option (List Int) := (K.find? fun p => p.1 == x).map (·.2)
def less (K : Kp) (x : Int) : Kp := K.eraseP fun p => p.1 == x
theorem look_none {K : Kp} {x : Int} : look K x = none ↔ ∀ p ∈ K, p.1 ≠ x := by
 unfold look
 rw [Option.map_eq_none_iff, List.find?_eq_none]
 constructor
 · intro h p hp e; exact h p hp (by simp [e])
 · intro h p hp; simpa using h p hp
theorem look_some {K : Kp} {x : Int} {y : List Int} (h : look K x = some y) : (x, y) ∈ K := by
 unfold look at h
 rw [Option.map_eq_some_iff] at h
 obtain ⟨p, hp, rfl⟩ := h
 have h1 := List.mem_of_find?_eq_some hp
 have h2 := List.find?_some hp
 simp at h2
 obtain ⟨a, c⟩ := p
 simp at h2
 subst h2
 exact h1
theorem look_snoc {K : Kp} {x z : Int} {y : List Int} (h : look K x = none) : look (K ++ [(x, y)]) z = if z = x then some y else look K z := by
 by_cases e : z = x
 · subst e
   rw [if_pos rfl]
   unfold look at h ⊢
   rw [List.find?_append]
   rw [Option.map_eq_none_iff] at h
   rw [h]
   simp
 · rw [if_neg e]
   unfold look
   rw [List.find?_append]
   have : List.find? (fun p => p.1 == z) [(x, y)] = none := by
    simp
    omega
   rw [this]
   simp
theorem less_len {K : Kp} {x : Int} {y : List Int} (h : look K x = some y) : (less K x).length + 1 = K.length := by
 unfold less
 have hm := look_some h
 rw [List.length_eraseP_of_mem hm (by simp)]
 have : 0 < K.length := List.length_pos_of_mem hm
 omega
theorem less_mem {K : Kp} {x : Int} {p : Int × List Int} (h : p ∈ less K x) : p ∈ K := List.mem_of_mem_eraseP h
theorem less_other : ∀ {K : Kp} {x z : Int}, z ≠ x → look (less K x) z = look K z
 | [], _, _, _ => rfl
 | p :: K, x, z, hz => by
  unfold less look
  by_cases hp : p.1 = x
  · rw [List.eraseP_cons_of_pos (by simp [hp]), List.find?_cons_of_neg (by simp; omega)]
  · rw [List.eraseP_cons_of_neg (by simpa using hp)]
    by_cases hq : p.1 = z
    · rw [List.find?_cons_of_pos (by simp [hq]), List.find?_cons_of_pos (by simp [hq])]
    · rw [List.find?_cons_of_neg (by simpa using hq), List.find?_cons_of_neg (by simpa using hq)]
      have := less_other (K := K) hz
      unfold less look at this
      exact this
def Apart (K : Kp) : Prop := (K.map (·.1)).Nodup
theorem less_same : ∀ {K : Kp} {x : Int}, Apart K → look (less K x) x = none
 | [], _, _ => rfl
 | p :: K, x, hA => by
  unfold Apart at hA
  rw [List.map_cons, List.nodup_cons] at hA
  by_cases hp : p.1 = x
  · unfold less
    rw [List.eraseP_cons_of_pos (by simp [hp])]
    refine look_none.2 fun q hq e => hA.1 ?_
    rw [hp, ← e]
    exact List.mem_map_of_mem hq
  · have := less_same (K := K) (x := x) hA.2
    unfold less
    rw [List.eraseP_cons_of_neg (by simpa using hp)]
    refine look_none.2 fun q hq => ?_
    rcases List.mem_cons.1 hq with rfl | hq
    · exact hp
    · exact look_none.1 this q hq
theorem Apart.less {K : Kp} {x : Int} (h : Apart K) : Apart (less K x) := h.sublist ((List.eraseP_sublist (p := fun p : Int × List Int => p.1 == x) (l := K)).map _)
theorem Apart.snoc {K : Kp} {x : Int} {y : List Int} (h : Apart K) (hn : look K x = none) : Apart (K ++ [(x, y)]) := by
 unfold Apart at h ⊢
 rw [List.map_append, List.nodup_append]
 refine ⟨h, by simp, fun a ha b hb => ?_⟩
 simp at hb
 subst hb
 obtain ⟨p, hp, rfl⟩ := List.mem_map.1 ha
 exact look_none.1 hn p hp
def runR : Nat → Int → Kp → List (List Int) × Int × Kp
 | 0, t, K => ([], t, K)
 | n + 1, t, K => match look K t with
  | none => ([], t, K)
  | some y => (y :: (runR n (t + 1) (less K t)).1, (runR n (t + 1) (less K t)).2)
theorem runR_none {n : Nat} {t : Int} {K : Kp} (h : look K t = none) : runR n t K = ([], t, K) := by
 cases n with
 | zero => rfl
 | succ n => simp only [runR, h]
theorem runR_some {n : Nat} {t : Int} {K : Kp} {y : List Int} (h : look K t = some y) : runR (n + 1) t K = (y :: (runR n (t + 1) (less K t)).1, (runR n (t + 1) (less K t)).2) := by
 simp only [runR, h]
def wf64 (x : Int) : Prop := -9223372036854775808 ≤ x ∧ x ≤ 9223372036854775807
theorem wf_lit {x : Int} (h : wf64 x) : (Lit.int .i64 x).wf = true := by
 have h1 : IntKind.i64.min = -9223372036854775808 := rfl
 have h2 : IntKind.i64.max = 9223372036854775807 := rfl
 unfold wf64 at h
 simp only [Lit.wf, Bool.and_eq_true, decide_eq_true_eq]
 omega
def klI (x : Int) : Lit := .int .i64 x
theorem klI_inj {x y : Int} (h : klI x = klI y) : x = y := by
 unfold klI at h
 simpa using h
theorem klI_key (x : Int) : WideAt.IsKeyLit (klI x) := trivial
theorem lawK : Keyed Try.prog 2 := int_keyed Try.underlying2
theorem keyK {x : Int} (h : wf64 x) : keyOf Try.prog 2 (.int .i64 x) = some (klI x) := keyOf_int_mk Try.underlying2 (wf_lit h)
def slElem : Value → Option (DataW Value × List MemPlace)
 | .slice p n c => some (.held (.slice p n c), [])
 | _ => none
theorem slElem_inv {v u : Value} {ps : List MemPlace} (h : slElem v = some (.held u, ps)) : v = u ∧ ∃ p n c, v = .slice p n c := by
 cases v <;> simp only [slElem, Option.some.injEq, Prod.mk.injEq, DataW.held.injEq, reduceCtorEq] at h
 exact ⟨h.1, _, _, _, rfl⟩
theorem zeroB (w : World) : (zeroValue 37).run Try.prog w = .ok (.slice none 0 0) w := by kernel_rfl
structure MK (col : Nat → Nat) (w : World) (m : Nat) (K : Kp) : Prop where
 data : ∃ D : DataW Value, w.ownsMap Try.prog 2 slElem m K.length D ∧ Tidy D ∧ Maps.size D = K.length ∧ (∀ x, wf64 x → Maps.has D (klI x) = (look K x).isSome) ∧ ∀ x y, wf64 x → look K x = some y → ∃ v, (∀ z, D.atKey (klI x) z = .held v) ∧ Vw EU col w v y
 apart : Apart K
section
variable {S : Nat → Prop} {col col' : Nat → Nat} {w w' : World} {m : Nat} {K : Kp}
theorem own_tight {D : DataW Value} {n : Nat} (h : w.ownsMap Try.prog 2 slElem m n D) : w.ownsMap Try.prog 2 slElem m (Maps.size D) D := by
 obtain ⟨es, clock, hb, F, hs, rfl⟩ := h
 exact ⟨es, clock, hb, F, by simp [Maps.size, length_sorted], rfl⟩
theorem MK.lt (h : MK col w m K) : m < w.heap.size := by
 obtain ⟨D, h1, _⟩ := h.data
 exact h1.lt
theorem MK.bare (h : MK col w m K) {c : Array Value} {t : TypeId} {f : Nat × Nat} : w.heap[m]? ≠ some (.cells c t f) := by
 obtain ⟨D, ⟨es, clock, hb, _⟩, _⟩ := h.data
 rw [hb]
 intro h'
 cases h'
theorem MK.made (col : Nat → Nat) (w : World) : MK col (w.alloc (.map #[] 0)) w.heap.size [] :=
 ⟨⟨.map [], World.ownsMap_made _ _ _ _, tidy_empty, rfl, fun x _ => by simp [has_eq, look], fun x y _ h => by simp [look] at h⟩, by simp [Apart]⟩
theorem MK.ev (h : MK col w m K) (he : Ev S col w col' w') (h0 : ¬ S 0) (hm : w'.heap[m]? = w.heap[m]?) : MK col' w' m K := by
 obtain ⟨D, ⟨es, clock, hb, r⟩, h2, h3, h4, h5⟩ := h.data
 exact ⟨⟨D, ⟨es, clock, by rw [hm]; exact hb, r⟩, h2, h3, h4, fun x y hx hy => by obtain ⟨v, k1, k2⟩ := h5 x y hx hy; exact ⟨v, k1, k2.ev he h0⟩⟩, h.apart⟩
theorem MK.look (h : MK col w m K) {x : Int} (hx : wf64 x) : ∃ p n c, (∀ X : World, X.heap[m]? = w.heap[m]? → (Instr.lookup 67 (.map (some m)) (.int .i64 x) true).run Try.prog X = .ok (.tuple #[.slice p n c, .bool (look K x).isSome]) X) ∧ ∀ y, Go.Proofs.Ytnhgjgoldcplnaa.look K x = some y → Vw EU col w (.slice p n c) y := by
 obtain ⟨D, h1, h2, h3, h4, h5⟩ := h.data
 have hl : ∀ X : World, X.heap[m]? = w.heap[m]? → ∃ v ps, (Instr.lookup 67 (.map (some m)) (.int .i64 x) true).run Try.prog X = .ok (.tuple #[v, .bool (Go.Proofs.Ytnhgjgoldcplnaa.look K x).isSome]) X ∧ slElem v = some (D.atKey (klI x) (.held (.slice none 0 0)), ps) := by
  intro X hX
  obtain ⟨es, clock, hb, r⟩ := h1
  have h1' : X.ownsMap Try.prog 2 slElem m K.length D := ⟨es, clock, by rw [hX]; exact hb, r⟩
  obtain ⟨v, ps, hr, hv⟩ := h1'.look_ok lawK Try.underlying67 (zeroB X) (zd := .held (.slice none 0 0)) (zp := []) rfl (keyK hx)
  rw [h4 x hx] at hr
  exact ⟨v, ps, hr, hv⟩
 cases hlk : Go.Proofs.Ytnhgjgoldcplnaa.look K x with
 | none =>
  have hh := h4 x hx
  rw [hlk] at hh
  refine ⟨none, 0, 0, fun X hX => ?_, fun y hy => by cases hy⟩
  obtain ⟨v, ps, hr, hv⟩ := hl X hX
  rw [atKey_of_not_has hh] at hv
  obtain ⟨e1, _⟩ := slElem_inv hv
  rw [e1, hlk] at hr
  exact hr
 | some y =>
  obtain ⟨u, k1, k2⟩ := h5 x y hx hlk
  obtain ⟨p, c, rfl⟩ := k2.lenv
  refine ⟨p, y.length, c, fun X hX => ?_, fun z hz => by cases hz; exact k2⟩
  obtain ⟨v, ps, hr, hv⟩ := hl X hX
  rw [k1] at hv
  obtain ⟨e1, _⟩ := slElem_inv hv
  rw [e1, hlk] at hr
  exact hr
theorem MK.put {i : Nat} (h : MK col w m K) (hi : i ≠ 0) (hm : col m = i) (hK : K.length ≤ 1000000) {x : Int} (hx : wf64 x) (hn : Go.Proofs.Ytnhgjgoldcplnaa.look K x = none) {v : Value} {y : List Int} (hv : Vw EU col w v y) :
    ∃ w', (Instr.mapUpdate 67 (.map (some m)) (.int .i64 x) v).run Try.prog w = .ok () w' ∧ MK col w' m (K ++ [(x, y)]) ∧ Ev (· = i) col w col w' ∧ w.grownBy w' (some m) := by
 obtain ⟨D, h1, h2, h3, h4, h5⟩ := h.data
 obtain ⟨p, c, rfl⟩ := hv.lenv
 obtain ⟨w', hr, k1, k2⟩ := h1.update lawK Try.underlying67 (by unfold maxLen; omega) (keyK hx) (d := .held (.slice p y.length c)) (ps := []) (val := .slice p y.length c) rfl
 have he : Ev (· = i) col w col w' := ⟨fun _ _ => rfl, Keep.of_grown k2 fun k _ e => by cases e; exact hm⟩
 have hh := h4 x hx
 rw [hn] at hh
 refine ⟨w', hr, ⟨⟨D.put (klI x) (.held (.slice p y.length c)), by rw [List.length_append]; exact k1, h2.put (klI_key _) _, ?_, fun z hz => ?_, fun z u hz hu => ?_⟩, h.apart.snoc hn⟩, he, k2⟩
 · rw [size_put h2, hh, h3, List.length_append]
   rfl
 · rw [look_snoc hn]
   by_cases e : z = x
   · rw [if_pos e, e, has_put_same h2.isMap (klI_key _)]; rfl
   · rw [if_neg e, has_put_other (fun h' => e (klI_inj h')), h4 z hz]
 · rw [look_snoc hn] at hu
   by_cases e : z = x
   · rw [if_pos e] at hu
     cases hu
     exact ⟨_, fun z' => by rw [e, atKey_put_same h2.isMap (klI_key _)], hv.ev he (fun e => hi e.symm)⟩
   · rw [if_neg e] at hu
     obtain ⟨v', g1, g2⟩ := h5 z u hz hu
     exact ⟨v', fun z' => by rw [atKey_put_other (fun h' => e (klI_inj h'))]; exact g1 z', g2.ev he (fun e => hi e.symm)⟩
theorem MK.del {i : Nat} (h : MK col w m K) (hi : i ≠ 0) (hm : col m = i) {x : Int} (hx : wf64 x) {y : List Int} (hn : Go.Proofs.Ytnhgjgoldcplnaa.look K x = some y) (ty : TypeId) :
    ∃ w', (Builtin.delete_ #[67, 2] ty #[.map (some m), .int .i64 x]).run Try.prog w = .ok (.tuple #[]) w' ∧ MK col w' m (less K x) ∧ Ev (· = i) col w col w' ∧ w.grownBy w' (some m) := by
 obtain ⟨D, h1, h2, h3, h4, h5⟩ := h.data
 obtain ⟨w', hr, k1, k2⟩ := h1.drop lawK Try.underlying67 (keyK hx) ty
 have he : Ev (· = i) col w col w' := ⟨fun _ _ => rfl, Keep.of_grown k2.grown fun k _ e => by cases e; exact hm⟩
 have hh := h4 x hx
 rw [hn] at hh
 have hsz := size_del (k := klI x) h2
 rw [hh, h3] at hsz
 have hll := less_len hn
 have hs2 : Maps.size (D.del (klI x)) = (less K x).length := by simp at hsz; omega
 refine ⟨w', hr, ⟨⟨D.del (klI x), ?_, h2.del _, hs2, fun z hz => ?_, fun z u hz hu => ?_⟩, h.apart.less⟩, he, k2.grown⟩
 · have := own_tight k1
   rw [hs2] at this
   exact this
 · by_cases e : z = x
   · rw [e, has_del_same, less_same h.apart]; rfl
   · rw [has_del_other (fun h' => e (klI_inj h')), h4 z hz, less_other e]
 · by_cases e : z = x
   · rw [e, less_same h.apart] at hu; cases hu
   · rw [less_other e] at hu
     obtain ⟨v', g1, g2⟩ := h5 z u hz hu
     exact ⟨v', fun z' => by rw [atKey_del_other (fun h' => e (klI_inj h'))]; exact g1 z', g2.ev he (fun e => hi e.symm)⟩
theorem MK.len (h : MK col w m K) (ty : TypeId) : (Builtin.len_ #[67] ty #[.map (some m)]).run Try.prog w = .ok (.int .i64 (K.length : Int)) w := by
 obtain ⟨D, h1, h2, h3, _⟩ := h.data
 have := h1.len Try.underlying67 ty
 rw [h3] at this
 exact this
end
structure PR (i : Nat) (col : Nat → Nat) (w : World) (b : Nat) (W t : Int) (K : Kp) : Prop where
 ob : Cl col i w b
 row : ∃ m, w.heap[b]? = some (.cells #[.int .i64 W, .int .i64 t, .map (some m)] 69) ∧ MK col w m K ∧ col m = i
 ok : wideT W = true
 pos : 0 ≤ t
section
variable {S : Nat → Prop} {i : Nat} {col col' : Nat → Nat} {w w' : World} {b : Nat} {W t : Int} {K : Kp}
theorem PR.ev (h : PR i col w b W t K) (he : Ev S col w col' w') (h0 : ¬ S 0) (hi : ¬ S i) : PR i col' w' b W t K := by
 obtain ⟨m, h1, h2, h3⟩ := h.row
 exact ⟨he.cl b h.ob, ⟨m, (he.same hi b h.ob).trans h1, h2.ev he h0 (he.same hi m ⟨h3, h2.lt⟩), (he.ext m h2.lt).trans h3⟩, h.ok, h.pos⟩
theorem PR.recol (h : PR i col w b W t K) (h0 : ∀ k, Cl col 0 w k → col' k = 0) (hi : ∀ k, Cl col i w k → col' k = i) : PR i col' w b W t K := by
 obtain ⟨m, h1, h2, h3⟩ := h.row
 obtain ⟨D, k1, k2, k3, k4, k5⟩ := h2.data
 exact ⟨⟨hi b h.ob, h.ob.2⟩, ⟨m, h1, ⟨⟨D, k1, k2, k3, k4, fun x y hx hy => by obtain ⟨v, g1, g2⟩ := k5 x y hx hy; exact ⟨v, g1, g2.carry (Same.refl _ _) (Same.refl _ _) (fun k hk => ⟨h0 k hk, hk.2⟩) fun k hk => ⟨h0 k hk, hk.2⟩⟩⟩, h2.apart⟩, hi m ⟨h3, h2.lt⟩⟩, h.ok, h.pos⟩
theorem PR.wide (h : PR i col w b W t K) : 1 ≤ W ∧ W ≤ 64 := by
 have := h.ok
 unfold wideT at this
 simp only [Bool.and_eq_true, decide_eq_true_eq] at this
 exact this
def NewRP (W : Int) (w : World) (e : Ending) (w' : World) : Prop :=
 if wideT W then e = .returned (.tuple #[.pointer (some ⟨w.heap.size + 1, 0, none⟩), .int .i64 0]) ∧ w' = (w.alloc (.map #[] 0)).alloc (.cells #[.int .i64 W, .int .i64 0, .map (some w.heap.size)] 69)
 else e = .returned (.tuple #[.pointer none, .int .i64 1]) ∧ w' = w
theorem newReceiver_any (W : Int) (w : World) : Calls Try.prog 22 #[.int .i64 W] w (NewRP W w) := by
 have hw := isWidth_any W w
 have hmm := @run_makeMap Try.prog
 cases h : wideT W with
 | false =>
  have HP : Hid (NewRP W w (.returned (.tuple #[.pointer none, .int .i64 1])) w) := by unfold NewRP; rw [h]; exact ⟨rfl, rfl⟩
  rw [h] at hw
  clear h
  go_enter Try.func22, Try.ntmps22
  go_wp2_with (go_at_call 30; refine hw.mono ?_; rintro e w' ⟨rfl, rfl⟩)
  go_ret2
  exact HP.out
 | true =>
  have HP : Hid (NewRP W w (.returned (.tuple #[.pointer (some ⟨w.heap.size + 1, 0, none⟩), .int .i64 0])) ((w.alloc (.map #[] 0)).alloc (.cells #[.int .i64 W, .int .i64 0, .map (some w.heap.size)] 69))) := by unfold NewRP; rw [h]; exact ⟨rfl, rfl⟩
  rw [h] at hw
  clear h
  go_enter Try.func22, Try.ntmps22
  go_wp2_with (go_at_call 30; refine hw.mono ?_; rintro e w' ⟨rfl, rfl⟩)
  go_ret2
  exact HP.out
def paintAll (col : Nat → Nat) (w : World) (i : Nat) : Nat → Nat := fun k => if k < w.heap.size then col k else i
theorem paintAll_old {k : Nat} (h : k < w.heap.size) : paintAll col w i k = col k := if_pos h
theorem paintAll_new {k : Nat} (h : w.heap.size ≤ k) : paintAll col w i k = i := if_neg (by omega)
theorem Ev.paintAll (h : Keep (fun k => S (col k)) w w') (i : Nat) : Ev S col w (paintAll col w i) w' := ⟨fun _ hk => paintAll_old hk, h⟩
theorem PR.new (hok : wideT W = true) : PR i (Go.Proofs.Ytnhgjgoldcplnaa.paintAll col w i) ((w.alloc (.map #[] 0)).alloc (.cells #[.int .i64 W, .int .i64 0, .map (some w.heap.size)] 69)) (w.heap.size + 1) W 0 [] := by
 refine ⟨⟨paintAll_new (by omega), by simp⟩, ⟨w.heap.size, ?_, ?_, paintAll_new (Nat.le_refl _)⟩, hok, Int.le_refl _⟩
 · have := heap_alloc_new (w.alloc (.map #[] 0)) (.cells #[.int .i64 W, .int .i64 0, .map (some w.heap.size)] 69)
   simpa using this
 · have h1 := MK.made (Go.Proofs.Ytnhgjgoldcplnaa.paintAll col w i) w
   have hb : Below (w.alloc (.map #[] 0)).heap.size (w.alloc (.map #[] 0)) ((w.alloc (.map #[] 0)).alloc (.cells #[.int .i64 W, .int .i64 0, .map (some w.heap.size)] 69)) := (Below.refl _ _).alloc (Nat.le_refl _) _
   exact h1.ev (S := fun _ => False) ⟨fun _ _ => rfl, Keep.of_below hb⟩ (fun h => h) (hb.block _ (by simp))
theorem want_any (h : PR i col w b W t K) : Calls Try.prog 26 #[.pointer (some ⟨b, 0, none⟩)] w fun e w' => e = .returned (.int .i64 t) ∧ w' = w := by
 obtain ⟨m, h1, _⟩ := h.row
 have hc := cell_row (cur := [_, _, _]) h1 1 _ rfl
 clear h h1
 go_enter Try.func26, Try.ntmps26
 go_wp2
 go_ret
 exact ⟨rfl, rfl⟩
theorem kept_any (h : PR i col w b W t K) : Calls Try.prog 27 #[.pointer (some ⟨b, 0, none⟩)] w fun e w' => e = .returned (.int .i64 (K.length : Int)) ∧ w' = w := by
 obtain ⟨m, h1, h2, _⟩ := h.row
 have hc := cell_row (cur := [_, _, _]) h1 2 _ rfl
 have hl := h2.len 3
 clear h h1 h2
 go_enter Try.func27, Try.ntmps27
 go_wp2
 go_ret
 exact ⟨rfl, rfl⟩
def nearT (W t n : Int) : Bool := decide (t ≤ n) && decide (n - t < W)
theorem near_any (h : PR i col w b W t K) (n : Int) (hn : wf64 n) : Calls Try.prog 35 #[.pointer (some ⟨b, 0, none⟩), .int .i64 n] w fun e w' => e = .returned (.bool (nearT W t n)) ∧ ∃ k, w' = w.drewN k := by
 obtain ⟨m, h1, _⟩ := h.row
 have hc0 := cell_row (cur := [_, _, _]) h1 0 _ rfl
 have hc1 := cell_row (cur := [_, _, _]) h1 1 _ rfl
 have hw := h.wide
 have hp := h.pos
 unfold wf64 at hn
 unfold nearT
 clear h h1
 by_cases h' : t ≤ n
 · have hd : decide (t ≤ n) = true := decide_eq_true h'
   rw [hd, Bool.true_and]
   go_enter Try.func35, Try.ntmps35
   go_upto_region 1 with fail
   go_quiet (fail)
   go_wp2
   go_ret
   exact ⟨rfl, nq, rfl⟩
 · have hd : decide (t ≤ n) = false := decide_eq_false h'
   rw [hd, Bool.false_and]
   go_enter Try.func35, Try.ntmps35
   go_upto_region 1 with fail
   go_quiet (fail)
   go_wp2
   go_ret
   exact ⟨rfl, nq, rfl⟩
end
section
variable {S : Nat → Prop} {i : Nat} {col col' : Nat → Nat} {w w' : World} {b : Nat} {W t : Int} {K : Kp}
theorem wp_del {w' : World} {o : Oper} {a : Act} {P : Act → World → Prop} {Q : Exit → Act → World → Prop} {x y : Operand} {u v : Value} {tt k : TypeId} (ho : o.op = .call { callee := .builtin .delete, args := #[x, y], argTypes := #[tt, k] }) (hd : o.dst = none) (hx : a.eval x = u) (hy : a.eval y = v)
    (hr : (Builtin.delete_ #[tt, k] o.type #[u, v]).run Try.prog w = .ok (.tuple #[]) w') (hK : P a w') : o.wp Try.prog a w P Q := by
 unfold Oper.wp execOp
 simp only [ho, resolve, invoke, builtin, Sem.run_bind, Sem.run_pure, Result.andThen_ok, List.map_toArray, List.map_cons, List.map_nil, hx, hy, hr]
 simp only [Oper.upon, hd, Act.put]
 exact hK
def lenV : Value → Nat
 | .slice _ n _ => n
 | _ => 0
theorem ready_any (h : PR i col w b W t K) (hi : i ≠ 0) (n : Nat) (hn : K.length ≤ n) (hn9 : n ≤ 900000) (ht : t + n ≤ 1000000000) : Calls Try.prog 36 #[.pointer (some ⟨b, 0, none⟩)] w fun e w' => ∃ v, e = .returned v ∧ Ev (· = i) col w (paint col w none 0) w' ∧ PR i (paint col w none 0) w' b W (runR n t K).2.1 (runR n t K).2.2 ∧ Vw EB (paint col w none 0) w' v (runR n t K).1 := by
 have hbl := h.ob.2
 obtain ⟨cb, hcb⟩ : ∃ cb, cb = paintAll col w (i + 1) := ⟨_, rfl⟩
 have HOLD : Hid (∀ k, k < w.heap.size → cb k = col k) := fun k hk => by rw [hcb]; exact paintAll_old hk
 have HNEW : Hid (∀ k, w.heap.size ≤ k → cb k = i + 1) := fun k hk => by rw [hcb]; exact paintAll_new hk
 have H0 : Hid (PR i cb w b W t K) := h.recol (fun k hk => by rw [HOLD.out k hk.2]; exact hk.1) fun k hk => by rw [HOLD.out k hk.2]; exact hk.1
 have HFIN : Hid (∀ (w' : World) (v : Value), Keep (fun k => col k = i) w w' → PR i cb w' b W (runR n t K).2.1 (runR n t K).2.2 → Nr EB (Cl col 0 w) w w' v (runR n t K).1 → ∃ u, Ending.returned v = .returned u ∧ Ev (· = i) col w (paint col w none 0) w' ∧ PR i (paint col w none 0) w' b W (runR n t K).2.1 (runR n t K).2.2 ∧ Vw EB (paint col w none 0) w' u (runR n t K).1) := by
  intro w' v hk hp hr
  refine ⟨v, rfl, Ev.paint hk _ _, hp.recol (fun k hk' => ?_) (fun k hk' => ?_), hr.vw hk.size (fun k hk => paint_old hk) paint_none⟩
  · rcases Nat.lt_or_ge k w.heap.size with hl | hl
    · rw [paint_old hl, ← HOLD.out k hl]; exact hk'.1
    · have := hk'.1; rw [HNEW.out k hl] at this; omega
  · rcases Nat.lt_or_ge k w.heap.size with hl | hl
    · rw [paint_old hl, ← HOLD.out k hl]; exact hk'.1
    · have := hk'.1; rw [HNEW.out k hl] at this; omega
 obtain ⟨R, hR⟩ : ∃ R, runR n t K = R := ⟨_, rfl⟩
 have HR : Hid (runR n t K = R) := hR
 rw [hR] at HFIN ⊢
 clear hR h hcb
 go_enter Try.func36, Try.ntmps36
 go_upto_region 2 with fail
 go_loopw [3] (fun ov wr => ∃ (n' : Nat) (t' : Int) (K' : Kp) (T : List (List Int)), K'.length ≤ n' ∧ t' + n' ≤ 1000000000 ∧ Hid (T ++ (runR n' t' K').1 = R.1 ∧ (runR n' t' K').2 = R.2 ∧ T.length + n' ≤ n) ∧ Keep (fun k => col k = i) w wr ∧ Hid (PR i cb wr b W t' K') ∧ Hid (Nr EB (Cl col 0 w) w wr ov T)) (fun ov _ => n - lenV ov)
 case atStart => exact ⟨n, t, K, [], hn, ht, by rw [HR.out]; exact ⟨rfl, rfl, by simp⟩, Keep.refl _ _, H0.out, Nr.nil _ _ _ _⟩
 case round =>
  obtain ⟨n', t', K', T, hKn, htn, HT, hkp, HP, HNR⟩ := hrel
  have hok := HP.out.ok
  have hpos := HP.out.pos
  obtain ⟨m, hrow, hMK, hmi⟩ := HP.out.row
  have HMK : Hid (MK cb wr m K') := hMK
  have HROW : Hid (wr.heap[b]? = some (.cells #[.int .i64 W, .int .i64 t', .map (some m)] 69)) := hrow
  have hmlt := hMK.lt
  have hmw : m < w.heap.size := by
   rcases Nat.lt_or_ge m w.heap.size with hl | hl
   · exact hl
   · have := HNEW.out m hl; omega
  have hbm : b ≠ m := by
   rintro rfl
   exact hMK.bare hrow
  have htw : wf64 t' := by unfold wf64; omega
  have hsz := hkp.size
  have hblr : b < wr.heap.size := by omega
  obtain ⟨pk, nk, ck, hLK, hVK⟩ := hMK.look htw
  have HLK : Hid (∀ X : World, X.heap[m]? = wr.heap[m]? → (Instr.lookup 67 (.map (some m)) (.int .i64 t') true).run Try.prog X = .ok (.tuple #[.slice pk nk ck, .bool (look K' t').isSome]) X) := hLK
  obtain ⟨qo, co, hqo⟩ := HNR.out.slice
  obtain ⟨tl, htl⟩ : ∃ tl, T.length = tl := ⟨_, rfl⟩
  have HTL : Hid (T.length = tl) := htl
  rw [htl] at hqo
  subst hqo
  clear hLK hMK hrow htl
  have hbd : Below wr.heap.size wr wr.drew := below_drewN (Below.refl _ _) 1
  have hC1 : wr.drew.heap[b]? = some (.cells #[.int .i64 W, .int .i64 t', .map (some m)] 69) ∧ wr.drew.heap[m]? = wr.heap[m]? := ⟨(hbd.block b hblr).trans HROW.out, hbd.block m hmlt⟩
  cases hlk : look K' t' with
  | none =>
   have HLN : Hid (look K' t' = none) := hlk
   rw [hlk] at HLK
   have HF1 : Hid (Nr EB (Cl col 0 w) w wr.drew (.slice qo tl co) R.1 ∧ PR i cb wr.drew b W R.2.1 R.2.2) := by
    have e1 := HT.out.1
    have e2 := HT.out.2.1
    rw [runR_none HLN.out] at e1 e2
    simp only [List.append_nil] at e1
    rw [← e1, ← e2]
    exact ⟨HNR.out.below hbd (fun _ hk => hk.2) hsz, HP.out.ev (S := fun _ => False) (Ev.drewN _ _ _ 1) (fun h => h) fun h => h⟩
   clear hlk
   go_upto_region 2 with fail
   refine wp_region_J 99 (fun X => X.heap[b]? = some (.cells #[.int .i64 W, .int .i64 t', .map (some m)] 69) ∧ X.heap[m]? = wr.heap[m]?) ?_
   change wpJ _ _ _ _ _ _ _ _ _ (World.drew _)
   have HB1 : Hid (Below wr.heap.size wr wr.drew) := hbd
   generalize hw1 : wr.drew = w1 at *
   clear hw1
   refine wpJ_q (i := 0) (d := some 7) (v := .pointer (some ⟨b, 0, none⟩)) rfl ?_
   refine wpJ_q (i := 1) (d := some 8) (v := .pointer (some ⟨b, 0, none⟩)) rfl ?_
   refine wpJ_q (i := 2) (d := some 9) (v := .pointer (some ⟨b, 2, none⟩)) rfl ?_
   refine wpJ_r (i := 3) (d := some 10) (v := .map (some m)) rfl (by intro wq hq; have g := cell_row (cur := [_, _, _]) hq.1 2 _ rfl; go_simp; first | done | with_reducible rfl) ?_
   refine wpJ_q (i := 4) (d := some 11) (v := .pointer (some ⟨b, 0, none⟩)) rfl ?_
   refine wpJ_q (i := 5) (d := some 12) (v := .pointer (some ⟨b, 0, none⟩)) rfl ?_
   refine wpJ_q (i := 6) (d := some 13) (v := .pointer (some ⟨b, 1, none⟩)) rfl ?_
   refine wpJ_r (i := 7) (d := some 14) (v := .int .i64 t') rfl (by intro wq hq; have g := cell_row (cur := [_, _, _]) hq.1 1 _ rfl; go_simp; first | done | with_reducible rfl) ?_
   refine wpJ_r (i := 8) (d := some 15) (v := .tuple #[.slice pk nk ck, .bool false]) rfl (by intro wq hq; have g := HLK.out wq hq.2; go_simp; first | done | with_reducible rfl) ?_
   refine wpJ_q (i := 9) (d := some 6) (v := .tuple #[.slice pk nk ck, .bool false]) rfl ?_
   refine wpJ_q (i := 10) (d := some 16) (v := .slice pk nk ck) rfl ?_
   refine wpJ_q (i := 11) (d := some 17) (v := .bool false) rfl ?_
   refine wpJ_q (i := 12) (d := some 4) (v := .slice pk nk ck) rfl ?_
   refine wpJ_q (i := 13) (d := some 5) (v := .bool false) rfl ?_
   refine wpJ_done (fun _ => hC1) (by kernel_rfl) ?_ _
   go_wp2
   go_ret
   exact HFIN.out _ _ (hkp.trans (Keep.of_below (S := fun _ => False) hbd) fun _ _ h => h.elim) HF1.out.2 HF1.out.1
  | some y =>
   have HV : Hid (Vw EU cb wr (.slice pk nk ck) y) := hVK y hlk
   have HLS : Hid (look K' t' = some y) := hlk
   rw [hlk] at HLK
   obtain ⟨n'', rfl⟩ : ∃ k, n' = k + 1 := ⟨n' - 1, by have := less_len hlk; omega⟩
   have HT2 : Hid ((T ++ [y]) ++ (runR n'' (t' + 1) (less K' t')).1 = R.1 ∧ (runR n'' (t' + 1) (less K' t')).2 = R.2 ∧ (T ++ [y]).length + n'' ≤ n) := by
    obtain ⟨e1, e2, e3⟩ := HT.out
    rw [runR_some hlk] at e1 e2
    refine ⟨by rw [← e1]; simp, e2, by rw [List.length_append]; simp only [List.length_singleton]; omega⟩
   have HLL : Hid ((less K' t').length ≤ n'') := by show _ ≤ _; have := less_len hlk; omega
   clear hlk
   have HV0 : Hid (Sl EU (Cl col 0 w) (Cl col 0 w) wr (.slice pk nk ck) y) := HV.out.carry (Same.refl _ _) (Same.refl _ _) (fun k hk => by
    rcases Nat.lt_or_ge k w.heap.size with hl | hl
    · exact ⟨(HOLD.out k hl).symm.trans hk.1, hl⟩
    · have := hk.1; rw [HNEW.out k hl] at this; omega) fun k hk => by
    rcases Nat.lt_or_ge k w.heap.size with hl | hl
    · exact ⟨(HOLD.out k hl).symm.trans hk.1, hl⟩
    · have := hk.1; rw [HNEW.out k hl] at this; omega
   have hTn : tl < n := by have e1 := HTL.out; have e2 := HT.out.2.2; omega
   go_upto_region 2 with fail
   refine wp_region_J 99 (fun X => X.heap[b]? = some (.cells #[.int .i64 W, .int .i64 t', .map (some m)] 69) ∧ X.heap[m]? = wr.heap[m]?) ?_
   change wpJ _ _ _ _ _ _ _ _ _ (World.drew _)
   have HB1 : Hid (Below wr.heap.size wr wr.drew) := hbd
   generalize hw1 : wr.drew = w1 at *
   clear hw1
   refine wpJ_q (i := 0) (d := some 7) (v := .pointer (some ⟨b, 0, none⟩)) rfl ?_
   refine wpJ_q (i := 1) (d := some 8) (v := .pointer (some ⟨b, 0, none⟩)) rfl ?_
   refine wpJ_q (i := 2) (d := some 9) (v := .pointer (some ⟨b, 2, none⟩)) rfl ?_
   refine wpJ_r (i := 3) (d := some 10) (v := .map (some m)) rfl (by intro wq hq; have g := cell_row (cur := [_, _, _]) hq.1 2 _ rfl; go_simp; first | done | with_reducible rfl) ?_
   refine wpJ_q (i := 4) (d := some 11) (v := .pointer (some ⟨b, 0, none⟩)) rfl ?_
   refine wpJ_q (i := 5) (d := some 12) (v := .pointer (some ⟨b, 0, none⟩)) rfl ?_
   refine wpJ_q (i := 6) (d := some 13) (v := .pointer (some ⟨b, 1, none⟩)) rfl ?_
   refine wpJ_r (i := 7) (d := some 14) (v := .int .i64 t') rfl (by intro wq hq; have g := cell_row (cur := [_, _, _]) hq.1 1 _ rfl; go_simp; first | done | with_reducible rfl) ?_
   refine wpJ_r (i := 8) (d := some 15) (v := .tuple #[.slice pk nk ck, .bool true]) rfl (by intro wq hq; have g := HLK.out wq hq.2; go_simp; first | done | with_reducible rfl) ?_
   refine wpJ_q (i := 9) (d := some 6) (v := .tuple #[.slice pk nk ck, .bool true]) rfl ?_
   refine wpJ_q (i := 10) (d := some 16) (v := .slice pk nk ck) rfl ?_
   refine wpJ_q (i := 11) (d := some 17) (v := .bool true) rfl ?_
   refine wpJ_q (i := 12) (d := some 4) (v := .slice pk nk ck) rfl ?_
   refine wpJ_q (i := 13) (d := some 5) (v := .bool true) rfl ?_
   refine wpJ_done (fun _ => hC1) (by kernel_rfl) ?_ _
   have hbd1 : Below wr.heap.size wr w1 := HB1.out
   have hbx : Below w1.heap.size w1 (w1.alloc (.cells #[.slice pk nk ck] 37)) := (Below.refl _ _).alloc (Nat.le_refl _) _
   have hb3 := belowP hbd1 hbx
   have HR3 := HNR.out.below hb3 (fun _ hk => hk.2) hsz
   have HONE : Hid (Sl EB (fun k => k = w1.heap.size) (Cl col 0 w) (w1.alloc (.cells #[.slice pk nk ck] 37)) (.slice (some ⟨w1.heap.size, 0, none⟩) 1 1) [y]) := Sl.one (E := EB) (cs := [.slice pk nk ck]) ⟨_, rfl, HV0.out.carry (Same.of_below hbd1 fun k hk => by have := hk.2; omega) (Same.of_below hbd1 fun k hk => by have := hk.2; omega) (fun _ h => h) fun _ h => h⟩ fun k hk => by have := hk.2; have := hbd1.size; omega
   have HB3 : Hid (Below wr.heap.size wr (w1.alloc (.cells #[.slice pk nk ck] 37))) := hb3
   have hlt2 : T.length + 1 ≤ 1000000 := by have e1 := HTL.out; have e2 := HT.out.2.2; omega
   clear hbx hb3 hbd1 HV HV0
   have hT1 : T.length + ([y] : List (List Int)).length ≤ 1000000 := hlt2
   go_upto_region 6 with (first
    | (at_builtin; refine wpList_app rfl (.tmp 21) (.tmp 23) 31 rfl Try.underlying31 rfl HR3 rfl HONE.out hT1 ?_; rintro v' w4 hg hat ⟨q', c', hv'⟩ HD
       obtain ⟨nn, hnn⟩ : ∃ nn, (T ++ [y]).length = nn := ⟨_, rfl⟩
       have HNN : Hid ((T ++ [y]).length = nn) := hnn
       rw [hnn] at hv'
       subst hv'
       obtain ⟨hr4, hb34⟩ := HR3.app (by have := HB3.out.size; omega) hg hat (fun _ hk => hk.2) HD.out (fun k hk => ⟨.inl hk, fun e => by have := (HNR.out.own k e).1; have := hk.2; omega⟩)
       have HR4 : Hid (Nr EB (Cl col 0 w) w w4 (.slice q' nn c') (T ++ [y])) := hr4
       have HB4 : Hid (Below w.heap.size wr w4) := (HB3.out.mono hsz).trans hb34
       clear hnn hr4 hb34 hg hat HD HR3 HONE))
   have hP4 : PR i cb w4 b W t' K' := HP.out.ev (S := fun c => c = i + 1) (col' := cb) ⟨fun _ _ => rfl, ⟨HB4.out.os, HB4.out.tape, HB4.out.output, HB4.out.size, fun k hk hs => HB4.out.block k (by
    rcases Nat.lt_or_ge k w.heap.size with hl | hl
    · exact hl
    · exact absurd (HNEW.out k hl) hs)⟩⟩ (by omega) (by omega)
   have hE5 : Ev (fun _ => False) cb w4 cb w4.drew := Ev.drewN _ _ _ 1
   have hP5 := hP4.ev hE5 (fun h => h) fun h => h
   have hb45 : Below w4.heap.size w4 w4.drew := below_drewN (Below.refl _ _) 1
   have hC5 : w4.drew.heap[b]? = some (.cells #[.int .i64 W, .int .i64 t', .map (some m)] 69) := (HB4.out.block b hbl).trans HROW.out
   have hz5 : wr.heap.size ≤ w4.drew.heap.size := HB4.out.size
   obtain ⟨m5, hrow5, hM5, hm5⟩ := hP5.row
   obtain rfl : m5 = m := by rw [hC5] at hrow5; simp at hrow5; exact hrow5.symm
   have HR5 : Hid (Nr EB (Cl col 0 w) w w4.drew (.slice q' nn c') (T ++ [y])) := HR4.out.below hb45 (fun _ hk => hk.2) (by have := HB4.out.size; omega)
   have HK5 : Hid (Keep (fun k => col k = i) w w4.drew) := hkp.trans ((⟨HB4.out.os, HB4.out.tape, HB4.out.output, HB4.out.size, fun k hk hs => HB4.out.block k (by
    rcases Nat.lt_or_ge k w.heap.size with hl | hl
    · exact hl
    · exact absurd hl hs)⟩ : Keep (fun k => w.heap.size ≤ k) wr w4).drew) (fun k hk h => by omega)
   have hlk := HLS.out
   clear hP4 hE5 hP5 hb45 HR4 hrow5 hm5 HLK
   refine wp_region_J 99 (fun X => X.heap[b]? = some (.cells #[.int .i64 W, .int .i64 t', .map (some m5)] 69)) ?_
   change wpJ _ _ _ _ _ _ _ _ _ (World.drew _)
   generalize hw4 : w4.drew = w5 at *
   clear hw4
   refine wpJ_q (i := 0) (d := some 25) (v := .pointer (some ⟨b, 0, none⟩)) rfl ?_
   refine wpJ_q (i := 1) (d := some 26) (v := .pointer (some ⟨b, 0, none⟩)) rfl ?_
   refine wpJ_q (i := 2) (d := some 27) (v := .pointer (some ⟨b, 2, none⟩)) rfl ?_
   refine wpJ_r (i := 3) (d := some 28) (v := .map (some m5)) rfl (by intro wq hq; have g := cell_row (cur := [_, _, _]) hq 2 _ rfl; go_simp; first | done | with_reducible rfl) ?_
   refine wpJ_q (i := 4) (d := some 29) (v := .pointer (some ⟨b, 0, none⟩)) rfl ?_
   refine wpJ_q (i := 5) (d := some 30) (v := .pointer (some ⟨b, 0, none⟩)) rfl ?_
   refine wpJ_q (i := 6) (d := some 31) (v := .pointer (some ⟨b, 1, none⟩)) rfl ?_
   refine wpJ_r (i := 7) (d := some 32) (v := .int .i64 t') rfl (by intro wq hq; have g := cell_row (cur := [_, _, _]) hq 1 _ rfl; go_simp; first | done | with_reducible rfl) ?_
   refine wpJ_do (i := 8) (fun _ => hC5) (by kernel_rfl) rfl (by rfl) ?_
   intro K8 hK8
   obtain ⟨w6, hrun6, hM6, hE6, hG6⟩ := hM5.del hi hmi htw hlk 0
   have hC6 := (hG6.block b (by have := hz5; omega) (fun e => hbm (Option.some.inj e))).trans hC5
   refine wp_del rfl (by rfl) rfl rfl hrun6 ?_
   refine hK8 _ _ ?_
   refine wpJ_done (fun _ => hC6) (by kernel_rfl) ?_ _
   have hE6b : Below w.heap.size w w := Below.refl _ _
   have hx1 := cell_row (cur := [_, _, _]) hC6 1 _ rfl
   have hz1 := frozen_of_row w6 b 1 _ _ hC6
   have hob : cb b = i := HP.out.ob.1
   have HP7 : Hid (PR i cb (w6.setCell ⟨b, 1, none⟩ (.int .i64 (t' + 1))) b W (t' + 1) (less K' t')) := by
    refine ⟨⟨hob, by simp; exact obj_lt hC6⟩, ⟨m5, ?_, ?_, hmi⟩, hok, by omega⟩
    · rw [heap_setCell_same w6 b 1 _ _ _ hC6]
      rfl
    · exact hM6.ev (S := fun c => c = i) ((Ev.refl _ _ _).set hob _) (fun e => hi e.symm) (heap_setCell_other w6 _ m5 _ (fun e => hbm e.symm))
   have HK7 : Hid (Keep (fun k => col k = i) w (w6.setCell ⟨b, 1, none⟩ (.int .i64 (t' + 1)))) := (HK5.out.trans hE6.keep (fun k hk h => by rw [← HOLD.out k hk]; exact h)).setCell (p := ⟨b, 1, none⟩) (fun _ => by show col b = i; rw [← HOLD.out b hbl]; exact hob) _
   have HR7 : Hid (Nr EB (Cl col 0 w) w (w6.setCell ⟨b, 1, none⟩ (.int .i64 (t' + 1))) (.slice q' nn c') (T ++ [y])) := by
    have hk1 : Keep (fun k => some m5 = some k) w5 w6 := Keep.of_grown hG6 fun k _ e => e
    have hcm : col m5 = i := (HOLD.out m5 hmw).symm.trans hmi
    have hcb0 : col b = i := (HOLD.out b hbl).symm.trans hob
    have hk2 : Keep (fun k => k = m5 ∨ k = b) w5 (w6.setCell ⟨b, 1, none⟩ (.int .i64 (t' + 1))) := (hk1.mono fun k _ e => .inl (Option.some.inj e).symm).setCell (p := ⟨b, 1, none⟩) (fun _ => .inr rfl) _
    refine HR5.out.keep hk2 ?_ (fun _ hk => hk.2) (by have := HK5.out.size; exact this)
    rintro k (rfl | rfl)
    · exact ⟨hmw, fun h => hi (hcm.symm.trans h.1)⟩
    · exact ⟨hbl, fun h => hi (hcb0.symm.trans h.1)⟩
   clear hM6 hE6 hG6 hE6b hrun6 hM5
   go_wp2
   go_roundw
   case rel => exact ⟨n'', t' + 1, less K' t', T ++ [y], HLL.out, by omega, HT2.out, HK7.out, HP7.out, HR7.out⟩
   case measure =>
    have e1 := HNN.out
    rw [List.length_append] at e1
    have e2 := HTL.out
    simp only [List.length_singleton] at e1
    simp [lenV]
    omega
end
def keepT (K : Kp) (s : Int) (x : List Int) : Kp := if (look K s).isSome then K else K ++ [(s, x)]
def takeT (W t : Int) (K : Kp) (s : Int) (x : List Int) : List (List Int) × Int × Kp := if nearT W t s && decide (x.length ≤ 1048576) then runR (K.length + 1) t (keepT K s x) else ([], t, K)
theorem keepT_len (K : Kp) (s : Int) (x : List Int) : (keepT K s x).length ≤ K.length + 1 := by
 unfold keepT
 split
 · omega
 · rw [List.length_append]; simp
section
variable {S : Nat → Prop} {i : Nat} {col col' : Nat → Nat} {w w' : World} {b : Nat} {W t : Int} {K : Kp} {s : Int} {x : List Int}
abbrev Vi {τ : Type} (E : El τ) (ix : Nat) (col : Nat → Nat) (w : World) (v : Value) (L : List τ) : Prop := Sl E (Cl col ix w) (Cl col ix w) w v L
theorem Vi.ev {τ : Type} {E : El τ} {ix : Nat} {v : Value} {L : List τ} (h : Vi E ix col w v L) (he : Ev S col w col' w') (h0 : ¬ S ix) : Vi E ix col' w' v L := h.carry (he.same h0) (he.same h0) he.cl he.cl
def TakeP (i : Nat) (col : Nat → Nat) (w : World) (b : Nat) (W t : Int) (K : Kp) (s : Int) (x : List Int) (e : Ending) (w' : World) : Prop :=
 ∃ v, e = .returned v ∧ ∃ col', Ev (· = i) col w col' w' ∧ PR i col' w' b W (takeT W t K s x).2.1 (takeT W t K s x).2.2 ∧ Vw EB col' w' v (takeT W t K s x).1
theorem take_no (h : PR i col w b W t K) {ix : Nat} {u : Value} (hx : Vi EU ix col w u x) (hs : wf64 s) (hl : x.length ≤ 100000000) (hno : (nearT W t s && decide (x.length ≤ 1048576)) = false) : Calls Try.prog 24 #[.pointer (some ⟨b, 0, none⟩), .agg #[.int .i64 s, u]] w (TakeP i col w b W t K s x) := by
 have HP : Hid (∀ w', Below w.heap.size w w' → TakeP i col w b W t K s x (.returned (.slice none 0 0)) w') := by
  intro w' hb
  have he : Ev (fun _ => False) col w (paint col w none 0) w' := Ev.paint (Keep.of_below hb) _ _
  refine ⟨_, rfl, _, he.mono fun _ h => h.elim, ?_, ?_⟩
  · unfold takeT; rw [hno]; exact h.ev he (fun h => h) fun h => h
  · unfold takeT; rw [hno]; exact Sl.nil _ _ _ _
 obtain ⟨pu, cu, rfl⟩ := hx.lenv
 obtain ⟨ml, hml⟩ : ∃ ml, x.length = ml := ⟨_, rfl⟩
 rw [hml] at hno hl ⊢
 have hb0 : Below w.heap.size w (w.alloc (.cells #[.int .i64 s, .slice pu ml cu] 52)) := (Below.refl _ _).alloc (Nat.le_refl _) _
 have hB0 : (w.alloc (.cells #[.int .i64 s, .slice pu ml cu] 52)).heap[w.heap.size]? = some (.cells #[.int .i64 s, .slice pu ml cu] 52 (0, 0)) := heap_alloc_new _ _
 have hnr := near_any (h.ev (S := fun _ => False) (Ev.paint (Keep.of_below hb0) none 0) (fun h => h) fun h => h) s hs
 obtain ⟨W0, hW0⟩ : ∃ W0, W0 = w.alloc (.cells #[.int .i64 s, .slice pu ml cu] 52) := ⟨_, rfl⟩
 rw [← hW0] at hb0 hB0 hnr
 have HB : Hid (Below w.heap.size w W0) := hb0
 have hc0 := cell_row (cur := [_, _]) hB0 0 _ rfl
 have hc1 := cell_row (cur := [_, _]) hB0 1 _ rfl
 clear h hx hml hb0 hB0
 cases hnT : nearT W t s with
 | false =>
  rw [hnT] at hnr
  clear hno
  go_enter Try.func24, Try.ntmps24
  go_upto_region 1 with fail
  rw [← hW0]
  clear hW0
  go_wp2_with (go_at_call 35; refine hnr.mono ?_; rintro e w1 ⟨rfl, k, rfl⟩)
  go_ret
  exact HP.out _ (below_drewN HB.out k)
 | true =>
  rw [hnT] at hnr hno
  rw [Bool.true_and] at hno
  have hlg : decide ((1048576 : Int) < ml) = true := by
   have := of_decide_eq_false hno
   exact decide_eq_true (by omega)
  clear hno
  go_enter Try.func24, Try.ntmps24
  go_upto_region 1 with fail
  rw [← hW0]
  clear hW0
  go_wp2_with (go_at_call 35; refine hnr.mono ?_; rintro e w1 ⟨rfl, k, rfl⟩)
  go_ret
  exact HP.out _ (below_drewN HB.out k)
theorem take_yes (h : PR i col w b W t K) (hi : i ≠ 0) (hK : K.length ≤ 100000) (htt : t ≤ 100000000) {ix : Nat} {u : Value} (hx : Vi EU ix col w u x) (hs : wf64 s) (hyes : (nearT W t s && decide (x.length ≤ 1048576)) = true) : Calls Try.prog 24 #[.pointer (some ⟨b, 0, none⟩), .agg #[.int .i64 s, u]] w (TakeP i col w b W t K s x) := by
 obtain ⟨pu, cu, rfl⟩ := hx.lenv
 have hyes2 := hyes
 rw [Bool.and_eq_true] at hyes
 obtain ⟨hnT, hxl⟩ := hyes
 have hxl := of_decide_eq_true hxl
 have HTK : Hid (takeT W t K s x = runR (K.length + 1) t (keepT K s x)) := by show _ = _; unfold takeT; rw [hyes2]; rfl
 obtain ⟨ml, hml⟩ : ∃ ml, x.length = ml := ⟨_, rfl⟩
 have HML : Hid (x.length = ml) := hml
 rw [hml] at hxl ⊢
 have hb0 : Below w.heap.size w (w.alloc (.cells #[.int .i64 s, .slice pu ml cu] 52)) := (Below.refl _ _).alloc (Nat.le_refl _) _
 have hB0 : (w.alloc (.cells #[.int .i64 s, .slice pu ml cu] 52)).heap[w.heap.size]? = some (.cells #[.int .i64 s, .slice pu ml cu] 52 (0, 0)) := heap_alloc_new _ _
 obtain ⟨W0, hW0⟩ : ∃ W0, W0 = w.alloc (.cells #[.int .i64 s, .slice pu ml cu] 52) := ⟨_, rfl⟩
 rw [← hW0] at hb0 hB0
 obtain ⟨c1, hc1⟩ : ∃ c1, c1 = paint col w none 0 := ⟨_, rfl⟩
 have HN1 : Hid (∀ k, w.heap.size ≤ k → c1 k = 0) := fun k hk => by rw [hc1]; exact paint_new hk (by intro e; cases e)
 have he0 : Ev (fun _ => False) col w c1 W0 := by rw [hc1]; exact Ev.paint (Keep.of_below hb0) _ _
 have hp0 := h.ev he0 (fun h => h) fun h => h
 have HX0 : Hid (Vi EU ix c1 W0 (.slice pu ml cu) x) := by have := Vi.ev hx he0 (fun h => h); rw [hml] at this; exact this
 have HE0 : Hid (Ev (fun _ => False) col w c1 W0) := he0
 have hnr := near_any hp0 s hs
 rw [hnT] at hnr
 have hlg : decide ((1048576 : Int) < ml) = false := decide_eq_false (by omega)
 have HDR : Hid (∀ k, PR i c1 (W0.drewN k) b W t K ∧ Vi EU ix c1 (W0.drewN k) (.slice pu ml cu) x ∧ (W0.drewN k).heap[w.heap.size]? = some (.cells #[.int .i64 s, .slice pu ml cu] 52 (0, 0)) ∧ Ev (fun _ => False) col w c1 (W0.drewN k)) := fun k =>
  ⟨hp0.ev (Ev.drewN (fun _ => False) c1 W0 k) (fun h => h) fun h => h, Vi.ev HX0.out (Ev.drewN (fun _ => False) c1 W0 k) fun h => h, hB0, he0.trans (Ev.drewN (fun _ => False) c1 W0 k) fun _ h => h⟩
 have hk0 := cell_row (cur := [_, _]) hB0 0 _ rfl
 have hk1 := cell_row (cur := [_, _]) hB0 1 _ rfl
 have hbw := h.ob.2
 clear h hx hml hyes2 hnT he0 hp0 HX0 HE0 hc1
 go_enter Try.func24, Try.ntmps24
 go_upto_region 1 with fail
 rw [← hW0]
 clear hW0
 go_upto_region 3 with (go_at_call 35; refine hnr.mono ?_; rintro e w1 ⟨rfl, k, rfl⟩)
 obtain ⟨hP1, hX1, hB1, hE1⟩ := HDR.out k
 have HX1 : Hid (Vi EU ix c1 (W0.drewN k) (.slice pu ml cu) x) := hX1
 have HE1 : Hid (Ev (fun _ => False) col w c1 (W0.drewN k)) := hE1
 have HP1 : Hid (PR i c1 (W0.drewN k) b W t K) := hP1
 clear HDR hX1 hE1 hnr hk0 hk1 hB0
 generalize W0.drewN k = W1 at *
 obtain ⟨m, hrow, hM1, hmi⟩ := hP1.row
 have hmlt := hM1.lt
 have hbm : b ≠ m := by
  rintro rfl
  exact hM1.bare hrow
 have hBm : w.heap.size ≠ m := by
  rintro rfl
  exact hM1.bare hB1
 obtain ⟨pk, nk, ck, hLK, _⟩ := hM1.look hs
 have HLK : Hid (∀ X : World, X.heap[m]? = W1.heap[m]? → (Instr.lookup 67 (.map (some m)) (.int .i64 s) true).run Try.prog X = .ok (.tuple #[.slice pk nk ck, .bool (look K s).isSome]) X) := hLK
 have hob := hP1.ob
 have hB1l := obj_lt hB1
 have HE12 : Hid (Ev (fun _ => False) c1 W1 c1 W1.drew) := Ev.drewN _ _ _ 1
 have hC3 : W1.drew.heap[b]? = some (.cells #[.int .i64 W, .int .i64 t, .map (some m)] 69) ∧ W1.drew.heap[m]? = W1.heap[m]? ∧ W1.drew.heap[w.heap.size]? = some (.cells #[.int .i64 s, .slice pu ml cu] 52) := ⟨hrow, rfl, hB1⟩
 have hP2 : PR i c1 W1.drew b W t K := hP1.ev HE12.out (fun h => h) fun h => h
 have hz12 : W1.drew.heap.size = W1.heap.size := rfl
 clear hLK hP1 hM1 hrow hB1
 cases hlk : look K s with
 | some y =>
  have HKT : Hid (keepT K s x = K) := by show _ = _; unfold keepT; rw [hlk]; rfl
  rw [hlk] at HLK
  clear hlk
  have hrd := ready_any hP2 hi (K.length + 1) (by omega) (by omega) (by omega)
  have HFN : Hid (∀ (v : Value) (w' : World), Ev (· = i) c1 W1.drew (paint c1 W1.drew none 0) w' → PR i (paint c1 W1.drew none 0) w' b W (runR (K.length + 1) t K).2.1 (runR (K.length + 1) t K).2.2 → Vw EB (paint c1 W1.drew none 0) w' v (runR (K.length + 1) t K).1 → TakeP i col w b W t K s x (.returned v) w') := by
   intro v w' h1 h2 h3
   refine ⟨v, rfl, _, ((HE1.out.trans HE12.out fun _ h => h).mono fun _ h => h.elim).trans h1 fun _ h => h, ?_, ?_⟩
   · rw [HTK.out, HKT.out]; exact h2
   · rw [HTK.out, HKT.out]; exact h3
  clear hP2
  refine wp_region_J 99 (fun X => X.heap[b]? = some (.cells #[.int .i64 W, .int .i64 t, .map (some m)] 69) ∧ X.heap[m]? = W1.heap[m]? ∧ X.heap[w.heap.size]? = some (.cells #[.int .i64 s, .slice pu ml cu] 52)) ?_
  change wpJ _ _ _ _ _ _ _ _ _ (World.drew _)
  generalize hw2 : W1.drew = W2 at *
  clear hw2
  refine wpJ_q (i := 0) (d := some 23) (v := .pointer (some ⟨b, 0, none⟩)) rfl ?_
  refine wpJ_q (i := 1) (d := some 24) (v := .pointer (some ⟨b, 0, none⟩)) rfl ?_
  refine wpJ_q (i := 2) (d := some 25) (v := .pointer (some ⟨b, 2, none⟩)) rfl ?_
  refine wpJ_r (i := 3) (d := some 26) (v := .map (some m)) rfl (by intro wq hq; have g := cell_row (cur := [_, _, _]) hq.1 2 _ rfl; go_simp; first | done | with_reducible rfl) ?_
  refine wpJ_q (i := 4) (d := some 27) (v := .pointer (some ⟨w.heap.size, 0, none⟩)) rfl ?_
  refine wpJ_r (i := 5) (d := some 28) (v := .int .i64 s) rfl (by intro wq hq; have g := cell_row (cur := [_, _]) hq.2.2 0 _ rfl; go_simp; first | done | with_reducible rfl) ?_
  refine wpJ_r (i := 6) (d := some 29) (v := .tuple #[.slice pk nk ck, .bool true]) rfl (by intro wq hq; have g := HLK.out wq hq.2.1; go_simp; first | done | with_reducible rfl) ?_
  refine wpJ_q (i := 7) (d := some 22) (v := .tuple #[.slice pk nk ck, .bool true]) rfl ?_
  refine wpJ_q (i := 8) (d := some 30) (v := .slice pk nk ck) rfl ?_
  refine wpJ_q (i := 9) (d := some 31) (v := .bool true) rfl ?_
  refine wpJ_q (i := 10) (d := some 5) (v := .slice pk nk ck) rfl ?_
  refine wpJ_q (i := 11) (d := some 6) (v := .bool true) rfl ?_
  refine wpJ_done (fun _ => hC3) (by kernel_rfl) ?_ _
  go_wp2_with (go_at_call 36; refine hrd.mono ?_; rintro e w6 ⟨v6, rfl, h61, h62, h63⟩; have HF6 := (show Hid _ from HFN.out v6 w6 h61 h62 h63); clear h61 h62 h63)
  go_ret
  exact HF6.out
 | none =>
  have HKT : Hid (keepT K s x = K ++ [(s, x)]) := by show _ = _; unfold keepT; rw [hlk]; rfl
  have HLN : Hid (look K s = none) := hlk
  rw [hlk] at HLK
  clear hlk
  have HX2 : Hid (Vi EU ix c1 W1.drew (.slice pu ml cu) x) := Vi.ev HX1.out HE12.out fun h => h
  have HP2 : Hid (PR i c1 W1.drew b W t K) := hP2
  clear hP2
  refine wp_region_J 99 (fun X => X.heap[b]? = some (.cells #[.int .i64 W, .int .i64 t, .map (some m)] 69) ∧ X.heap[m]? = W1.heap[m]? ∧ X.heap[w.heap.size]? = some (.cells #[.int .i64 s, .slice pu ml cu] 52)) ?_
  change wpJ _ _ _ _ _ _ _ _ _ (World.drew _)
  generalize hw2 : W1.drew = W2 at *
  clear hw2
  refine wpJ_q (i := 0) (d := some 23) (v := .pointer (some ⟨b, 0, none⟩)) rfl ?_
  refine wpJ_q (i := 1) (d := some 24) (v := .pointer (some ⟨b, 0, none⟩)) rfl ?_
  refine wpJ_q (i := 2) (d := some 25) (v := .pointer (some ⟨b, 2, none⟩)) rfl ?_
  refine wpJ_r (i := 3) (d := some 26) (v := .map (some m)) rfl (by intro wq hq; have g := cell_row (cur := [_, _, _]) hq.1 2 _ rfl; go_simp; first | done | with_reducible rfl) ?_
  refine wpJ_q (i := 4) (d := some 27) (v := .pointer (some ⟨w.heap.size, 0, none⟩)) rfl ?_
  refine wpJ_r (i := 5) (d := some 28) (v := .int .i64 s) rfl (by intro wq hq; have g := cell_row (cur := [_, _]) hq.2.2 0 _ rfl; go_simp; first | done | with_reducible rfl) ?_
  refine wpJ_r (i := 6) (d := some 29) (v := .tuple #[.slice pk nk ck, .bool false]) rfl (by intro wq hq; have g := HLK.out wq hq.2.1; go_simp; first | done | with_reducible rfl) ?_
  refine wpJ_q (i := 7) (d := some 22) (v := .tuple #[.slice pk nk ck, .bool false]) rfl ?_
  refine wpJ_q (i := 8) (d := some 30) (v := .slice pk nk ck) rfl ?_
  refine wpJ_q (i := 9) (d := some 31) (v := .bool false) rfl ?_
  refine wpJ_q (i := 10) (d := some 5) (v := .slice pk nk ck) rfl ?_
  refine wpJ_q (i := 11) (d := some 6) (v := .bool false) rfl ?_
  refine wpJ_done (fun _ => hC3) (by kernel_rfl) ?_ _
  go_upto_region 5 with fail
  have HE23 : Hid (Ev (fun _ => False) c1 W2 c1 W2.drew) := Ev.drewN _ _ _ 1
  have hC5 : W2.drew.heap[b]? = some (.cells #[.int .i64 W, .int .i64 t, .map (some m)] 69) ∧ W2.drew.heap[w.heap.size]? = some (.cells #[.int .i64 s, .slice pu ml cu] 52) := ⟨hC3.1, hC3.2.2⟩
  have HX3 : Hid (Vi EU ix c1 W2.drew (.slice pu ml cu) x) := Vi.ev HX2.out HE23.out fun h => h
  have hown := own_any HX3.out (fun k hk => hk.2) (by have := HML.out; omega)
  have hb3 : b < W2.drew.heap.size := obj_lt hC5.1
  have hB3 : w.heap.size < W2.drew.heap.size := obj_lt hC5.2
  have HP3 : Hid (PR i c1 W2.drew b W t K) := HP2.out.ev HE23.out (fun h => h) fun h => h
  have HPUT : Hid (∀ (X : World) (v : Value), Below W2.drew.heap.size W2.drew X → Sl EU (New W2.drew X) (New W2.drew X) X v x → ∃ w', (Instr.mapUpdate 67 (.map (some m)) (.int .i64 s) v).run Try.prog X = .ok () w' ∧ PR i (paint c1 W2.drew none 0) w' b W t (K ++ [(s, x)]) ∧ Ev (· = i) c1 W2.drew (paint c1 W2.drew none 0) w' ∧ X.grownBy w' (some m)) := by
   intro X v hX hv
   have heX : Ev (fun _ => False) c1 W2.drew (paint c1 W2.drew none 0) X := Ev.paint (Keep.of_below hX) _ _
   have hPX := HP3.out.ev heX (fun h => h) fun h => h
   obtain ⟨m', hr', hM', hm'⟩ := hPX.row
   obtain rfl : m' = m := by
    have e1 := (hX.block b hb3).trans hC5.1
    rw [hr'] at e1
    simp at e1
    exact e1
   obtain ⟨w', hr, k1, k2, k3⟩ := hM'.put hi hm' (by omega) hs HLN.out (v := v) (y := x) (hv.carry (Same.refl _ _) (Same.refl _ _) (fun k hk => ⟨paint_none k hk, hk.2⟩) fun k hk => ⟨paint_none k hk, hk.2⟩)
   refine ⟨w', hr, ⟨k2.cl b hPX.ob, ⟨m', (k3.block b (obj_lt hr') (fun e => hbm (Option.some.inj e))).trans hr', k1, hm'⟩, hPX.ok, hPX.pos⟩, (heX.mono fun _ h => h.elim).trans k2 fun _ h => h, k3⟩
  refine wp_region_J 99 (fun X => X.heap[b]? = some (.cells #[.int .i64 W, .int .i64 t, .map (some m)] 69) ∧ X.heap[w.heap.size]? = some (.cells #[.int .i64 s, .slice pu ml cu] 52)) ?_
  change wpJ _ _ _ _ _ _ _ _ _ (World.drew _)
  generalize hw3 : W2.drew = W3 at *
  clear hw3
  refine wpJ_q (i := 0) (d := some 34) (v := .pointer (some ⟨b, 0, none⟩)) rfl ?_
  refine wpJ_q (i := 1) (d := some 35) (v := .pointer (some ⟨b, 0, none⟩)) rfl ?_
  refine wpJ_q (i := 2) (d := some 36) (v := .pointer (some ⟨b, 2, none⟩)) rfl ?_
  refine wpJ_r (i := 3) (d := some 37) (v := .map (some m)) rfl (by intro wq hq; have g := cell_row (cur := [_, _, _]) hq.1 2 _ rfl; go_simp; first | done | with_reducible rfl) ?_
  refine wpJ_q (i := 4) (d := some 38) (v := .pointer (some ⟨w.heap.size, 0, none⟩)) rfl ?_
  refine wpJ_r (i := 5) (d := some 39) (v := .int .i64 s) rfl (by intro wq hq; have g := cell_row (cur := [_, _]) hq.2 0 _ rfl; go_simp; first | done | with_reducible rfl) ?_
  refine wpJ_q (i := 6) (d := some 40) (v := .pointer (some ⟨w.heap.size, 1, none⟩)) rfl ?_
  refine wpJ_r (i := 7) (d := some 41) (v := .slice pu ml cu) rfl (by intro wq hq; have g := cell_row (cur := [_, _]) hq.2 1 _ rfl; go_simp; first | done | with_reducible rfl) ?_
  refine wpJ_do (i := 8) (fun _ => hC5) (by kernel_rfl) rfl (by rfl) ?_
  intro K8 hK8
  go_simp
  go_wp2_with (go_at_call 31; refine hown.mono ?_; rintro e w4 ⟨hb4, u4, rfl, hu4⟩)
  obtain ⟨pv, cv, hpv⟩ := (hu4 (fun _ => True)).lenv
  have HU : Hid (∀ D', Sl EU (New W3 w4) D' w4 u4 x) := hu4
  rw [HML.out] at hpv
  subst hpv
  clear hu4
  obtain ⟨w5, hrun5, hM5, hE5, hG5⟩ := HPUT.out w4 (.slice pv ml cv) hb4 (HU.out _)
  have hC6 : w4.heap[b]? = _ ∧ w4.heap[w.heap.size]? = _ := ⟨(hb4.block b hb3).trans hC5.1, (hb4.block _ hB3).trans hC5.2⟩
  have hC7 : w5.heap[b]? = _ ∧ w5.heap[w.heap.size]? = _ := ⟨(hG5.block b (Nat.lt_of_lt_of_le hb3 hb4.size) (fun e => hbm (Option.some.inj e))).trans hC6.1, (hG5.block _ (Nat.lt_of_lt_of_le hB3 hb4.size) (fun e => hBm (Option.some.inj e))).trans hC6.2⟩
  refine wpJ_do (i := 9) (fun _ => hC6) (by kernel_rfl) rfl (by rfl) ?_
  intro K9 hK9
  go_simp
  refine hK9 _ _ ?_
  refine wpJ_done (fun _ => hC7) (by kernel_rfl) ?_ _
  have HP5 : Hid (PR i (paint c1 W3 none 0) w5 b W t (K ++ [(s, x)])) := hM5
  have hrd := ready_any hM5 hi (K.length + 1) (by rw [List.length_append]; exact Nat.le_refl _) (by omega) (by omega)
  have HFN : Hid (∀ (v : Value) (w' : World), Ev (· = i) (paint c1 W3 none 0) w5 (paint (paint c1 W3 none 0) w5 none 0) w' → PR i (paint (paint c1 W3 none 0) w5 none 0) w' b W (runR (K.length + 1) t (K ++ [(s, x)])).2.1 (runR (K.length + 1) t (K ++ [(s, x)])).2.2 → Vw EB (paint (paint c1 W3 none 0) w5 none 0) w' v (runR (K.length + 1) t (K ++ [(s, x)])).1 → TakeP i col w b W t K s x (.returned v) w') := by
   intro v w' h1 h2 h3
   refine ⟨v, rfl, _, ((((HE1.out.trans HE12.out fun _ h => h).trans HE23.out fun _ h => h).mono fun _ h => h.elim).trans hE5 fun _ h => h).trans h1 fun _ h => h, ?_, ?_⟩
   · rw [HTK.out, HKT.out]; exact h2
   · rw [HTK.out, HKT.out]; exact h3
  clear hM5 hE5 hG5 hrun5
  go_wp2_with (go_at_call 36; refine hrd.mono ?_; rintro e w6 ⟨v6, rfl, h61, h62, h63⟩; have HF6 := (show Hid _ from HFN.out v6 w6 h61 h62 h63); clear h61 h62 h63)
  go_ret
  exact HF6.out
theorem take_far (h : PR i col w b W t K) (hi : i ≠ 0) (hK : K.length ≤ 100000) (htt : t ≤ 100000000) {ix : Nat} {u : Value} (hx : Vi EU ix col w u x) (hs : wf64 s) (hl : x.length ≤ 100000000) : Calls Try.prog 24 #[.pointer (some ⟨b, 0, none⟩), .agg #[.int .i64 s, u]] w (TakeP i col w b W t K s x) := by
 cases hy : (nearT W t s && decide (x.length ≤ 1048576)) with
 | false => exact take_no h hx hs hl hy
 | true => exact take_yes h hi hK htt hx hs hy
theorem take_any (h : PR i col w b W t K) (hi : i ≠ 0) (hK : K.length ≤ 100000) (htt : t ≤ 100000000) {u : Value} (hx : Vw EU col w u x) (hs : wf64 s) (hl : x.length ≤ 100000000) : Calls Try.prog 24 #[.pointer (some ⟨b, 0, none⟩), .agg #[.int .i64 s, u]] w (TakeP i col w b W t K s x) := take_far h hi hK htt hx hs hl
end
def ints (s : ByteArray) : List Int := s.data.toList.map fun c => (c.toNat : Int)
theorem ints_str (l : List Int) (h : ∀ x ∈ l, 0 ≤ x ∧ x ≤ 255) : ints (strOfNums l) = l := by
 simp only [ints, strOfNums, List.map_map]
 conv => rhs; rw [← List.map_id l]
 refine List.map_congr_left fun x hx => ?_
 have := h x hx
 simp only [Function.comp, id_eq]
 have hx : x.toNat < 256 := by omega
 rw [UInt8.toNat_ofNat_of_lt' hx]
 omega
theorem str_inj {a b : List Int} (ha : ∀ x ∈ a, 0 ≤ x ∧ x ≤ 255) (hb : ∀ x ∈ b, 0 ≤ x ∧ x ≤ 255) (h : strOfNums a = strOfNums b) : a = b := by
 rw [← ints_str a ha, ← ints_str b hb, h]
theorem conv_bytes {O D : Nat → Prop} {w : World} {v : Value} {xs : List Int} (h : Sl EU O D w v xs) : (convert 37 9 v).run Try.prog w = .ok (.string (strOfNums xs)) w := by
 obtain ⟨p, c, rfl, h1, h2, h3, h4⟩ := h.bytes
 cases xs with
 | nil =>
  cases p with
  | none => exact run_convert_bytes_nil w 37 5 Try.underlying37 Try.underlying5 0 c 9 Try.underlying9
  | some a => exact run_convert_bytes_arg w 37 5 Try.underlying37 Try.underlying5 a.block a.off 0 c [] rfl (fun i hi => absurd hi (Nat.not_lt_zero _)) 9 Try.underlying9
 | cons x r =>
  obtain ⟨b, o, rfl, _, hc⟩ := h4 (by simp)
  refine run_convert_bytes_arg w 37 5 Try.underlying37 Try.underlying5 b o (x :: r).length c (x :: r) rfl (fun i hi => ?_) 9 Try.underlying9
  rw [hc i _ (List.getElem?_eq_getElem hi), List.getD_eq_getElem?_getD, List.getElem?_eq_getElem hi]
  rfl
theorem take_eq {α : Type} {A B : List α} {k : Nat} (h : A.take k = B.take k) (ha : k < A.length) (hb : k < B.length) (e : A[k] = B[k]) : A.take (k + 1) = B.take (k + 1) := by
 rw [List.take_add_one, List.take_add_one, h, List.getElem?_eq_getElem ha, List.getElem?_eq_getElem hb, e]
theorem texts_any {Oa Da Ob Db : Nat → Prop} {w : World} {va vb : Value} {A B : List (List Int)} (ha : Sl EB Oa Da w va A) (hb : Sl EB Ob Db w vb B) (hl : A.length ≤ 1000000 ∧ B.length ≤ 1000000) :
    Calls Try.prog 23 #[va, vb] w fun e w' => e = .returned (.bool (decide (A = B))) ∧ ∃ k, w' = w.drewN k := by
 obtain ⟨pa, ca, rfl, a1, a2, a3, a4⟩ := ha.rows
 obtain ⟨pb, cb, rfl, b1, b2, b3, b4⟩ := hb.rows
 clear ha hb
 by_cases hne : A.length = B.length
 · obtain ⟨n, hn⟩ : ∃ n, A.length = n := ⟨_, rfl⟩
   have HA : Hid (A.length = n) := hn
   have HB : Hid (B.length = n) := by show _ = _; rw [← hne]; exact hn
   have HEQ : Hid (∀ k, n ≤ k → A.take k = B.take k → A = B) := fun k hk h => by
    rw [List.take_of_length_le (by rw [HA.out]; exact hk), List.take_of_length_le (by rw [HB.out]; exact hk)] at h
    exact h
   have HK : Hid (∀ k, k < n → ∃ sa oa sb ob pua la cua pub lb cub sx sy, pa = some ⟨sa, oa, none⟩ ∧ pb = some ⟨sb, ob, none⟩ ∧ w.cell? ⟨sa, oa + k, none⟩ = some (.slice pua la cua) ∧ w.cell? ⟨sb, ob + k, none⟩ = some (.slice pub lb cub) ∧ (∀ X : World, X.heap = w.heap → (convert 37 9 (.slice pua la cua)).run Try.prog X = .ok (.string sx) X) ∧ (∀ X : World, X.heap = w.heap → (convert 37 9 (.slice pub lb cub)).run Try.prog X = .ok (.string sy) X) ∧ (sx = sy ↔ A.getD k [] = B.getD k [])) := by
    intro k hk
    have hak : k < A.length := by rw [HA.out]; exact hk
    have hbk : k < B.length := by rw [HB.out]; exact hk
    obtain ⟨sa, oa, ea, _⟩ := a3 (by rintro rfl; simp at hak)
    obtain ⟨sb, ob, eb, _⟩ := b3 (by rintro rfl; simp at hbk)
    obtain ⟨ua, h1, h2⟩ := a4 sa oa ea k (A.getD k []) (by rw [List.getD_eq_getElem?_getD, List.getElem?_eq_getElem hak]; rfl)
    obtain ⟨ub, h3, h4⟩ := b4 sb ob eb k (B.getD k []) (by rw [List.getD_eq_getElem?_getD, List.getElem?_eq_getElem hbk]; rfl)
    obtain ⟨pua, cua, rfl⟩ := h2.lenv
    obtain ⟨pub, cub, rfl⟩ := h4.lenv
    obtain ⟨_, _, _, _, _, ra, _⟩ := h2.bytes
    obtain ⟨_, _, _, _, _, rb, _⟩ := h4.bytes
    refine ⟨sa, oa, sb, ob, pua, _, cua, pub, _, cub, strOfNums (A.getD k []), strOfNums (B.getD k []), ea, eb, h1, h3, fun X hX => conv_bytes (O := Da) (D := Da) (w := X) (h2.carry (fun _ _ => by rw [hX]) (fun _ _ => by rw [hX]) (fun _ h => h) fun _ h => h), fun X hX => conv_bytes (O := Db) (D := Db) (w := X) (h4.carry (fun _ _ => by rw [hX]) (fun _ _ => by rw [hX]) (fun _ h => h) fun _ h => h), fun h => str_inj ra rb h, fun h => by rw [h]⟩
   have HST : Hid (∀ k, k < n → A.take k = B.take k → A.getD k [] = B.getD k [] → A.take (k + 1) = B.take (k + 1)) := fun k hk h e => by
    have hak : k < A.length := by rw [HA.out]; exact hk
    have hbk : k < B.length := by rw [HB.out]; exact hk
    refine take_eq h hak hbk ?_
    rw [List.getD_eq_getElem?_getD, List.getD_eq_getElem?_getD, List.getElem?_eq_getElem hak, List.getElem?_eq_getElem hbk] at e
    exact e
   have HNE : Hid (∀ k, A.getD k [] ≠ B.getD k [] → decide (A = B) = false) := fun k h => decide_eq_false (by rintro rfl; exact h rfl)
   have hca : n ≤ ca := by omega
   have hcb : n ≤ cb := by omega
   have hn6 : n ≤ 1000000 := by omega
   rw [← hne, hn]
   clear a1 a2 a3 a4 b1 b2 b3 b4 hne hn hl
   go_enter Try.func23, Try.ntmps23
   go_wp2
   go_loopw [5] (fun iv wr => ∃ k : Nat, k ≤ n ∧ iv = .int .i64 (k : Int) ∧ Hid (A.take k = B.take k) ∧ Hid (∃ q, wr = w.drewN q)) (fun iv _ => n - (intOf iv).toNat)
   case atStart => exact ⟨0, Nat.zero_le _, rfl, rfl, 0, rfl⟩
   case round =>
    obtain ⟨k, hk, rfl, HT, HQ⟩ := hrel
    have HH : Hid (wr.heap = w.heap) := by obtain ⟨q0, hq⟩ := HQ.out; show _ = _; rw [hq]; rfl
    have HQN : Hid (∀ j, ∃ q, wr.drewN j = w.drewN q) := fun j => by obtain ⟨q0, hq⟩ := HQ.out; exact ⟨q0 + j, by rw [hq, World.drewN_drewN]⟩
    by_cases hkn : k < n
    · obtain ⟨sa, oa, sb, ob, pua, la, cua, pub, lb, cub, sx, sy, rfl, rfl, h10, h20, h3, h4, h5⟩ := HK.out k hkn
      have h1 : wr.cell? ⟨sa, oa + k, none⟩ = some (.slice pua la cua) := (World.cell?_of_block (by rw [HH.out])).trans h10
      have h2 : wr.cell? ⟨sb, ob + k, none⟩ = some (.slice pub lb cub) := (World.cell?_of_block (by rw [HH.out])).trans h20
      have hva : ∀ X : Nat, (convert 37 9 (.slice pua la cua)).run Try.prog (wr.drewN X) = .ok (.string sx) (wr.drewN X) := fun X => h3 _ HH.out
      have hvb : ∀ X : Nat, (convert 37 9 (.slice pub lb cub)).run Try.prog (wr.drewN X) = .ok (.string sy) (wr.drewN X) := fun X => h4 _ HH.out
      clear h3 h4 h10 h20
      by_cases he : sx = sy
      · have HS1 : Hid (A.take (k + 1) = B.take (k + 1)) := HST.out k hkn HT.out (h5.1 he)
        subst he
        clear h5
        go_upto_region 6 with fail
        go_quiet (fail)
        go_wp2
        go_roundw
        case rel => exact ⟨k + 1, by omega, by go_num, HS1.out, HQN.out _⟩
        case measure => simp [intOf]; omega
      · have HD2 : Hid (decide (A = B) = false) := HNE.out k fun h => he (h5.2 h)
        have hne2 : (sx.toList == sy.toList) = false := by
         rw [Bool.eq_false_iff]
         intro h
         rw [beq_iff_eq, ByteArray.toList_eq, ByteArray.toList_eq] at h
         exact he (ByteArray.ext (Array.toList_inj.1 h))
        have hne3 : ¬ (sx.toList = sy.toList) := by simpa using hne2
        clear h5
        go_upto_region 6 with fail
        go_quiet (fail)
        go_wp2
        go_ret
        exact ⟨by rw [HD2.out]; rfl, HQN.out _⟩
    · obtain rfl : k = n := by omega
      have HF : Hid (decide (A = B) = true) := decide_eq_true (HEQ.out k (Nat.le_refl _) HT.out)
      go_wp2
      go_ret
      exact ⟨by rw [HF.out]; rfl, HQ.out⟩
 · have hd : decide (A = B) = false := decide_eq_false (by rintro rfl; exact hne rfl)
   rw [hd]
   clear a3 a4 b3 b4 hd
   generalize A.length = n at *
   generalize B.length = m at *
   have hnm : decide ((n : Int) = (m : Int)) = false := decide_eq_false (by omega)
   go_enter Try.func23, Try.ntmps23
   go_wp2
   go_ret
   exact ⟨rfl, 0, rfl⟩
end Go.Proofs.Ytnhgjgoldcplnaa

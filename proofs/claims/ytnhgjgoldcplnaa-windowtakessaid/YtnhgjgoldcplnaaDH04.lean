/-
  The document's Take: its parts.
  The document's Take.
  The document's Take.
-/
import Derived.Test.YtnhgjgoldcplnaaDH03
set_option maxRecDepth 100000
set_option maxHeartbeats 16000000
namespace Go.Proofs.Ytnhgjgoldcplnaa
open Go.RowKit Go.Maps
theorem slice_upto {t e : TypeId} (hu : Try.prog.underlying t = some (.slice e)) (p : Option Addr) (len cap k : Nat) (hk : k ≤ cap) {z : Nat} (hz : ∀ X, (sizeOf e).run Try.prog X = .ok z X) (X : World) : (Instr.slice t (.slice p len cap) none (some (.int .i64 (k : Int))) none).run Try.prog X = .ok (.slice p k cap) X := by
 cases p <;> simp [Instr.slice, Instr.sliceBounds, Instr.sliceBound, run_underlying hu, go_sem, asIntOf, hk, hz X]
theorem slice_past {t e : TypeId} (hu : Try.prog.underlying t = some (.slice e)) (b o : Nat) (len cap k : Nat) (hk : k ≤ len) (hc : len ≤ cap) {z : Nat} (hz : ∀ X, (sizeOf e).run Try.prog X = .ok z X) (X : World) : (Instr.slice t (.slice (some ⟨b, o, none⟩) len cap) (some (.int .i64 (k : Int))) none none).run Try.prog X = .ok (.slice (some ⟨b, if k < cap then o + k * z else o, none⟩) (len - k) (cap - k)) X := by
 by_cases hkc : k < cap
 · simp [Instr.slice, Instr.sliceBounds, Instr.sliceBound, run_underlying hu, go_sem, asIntOf, hk, hkc, hz X, add_flat]
   intro h
   omega
 · simp [Instr.slice, Instr.sliceBounds, Instr.sliceBound, run_underlying hu, go_sem, asIntOf, hk, hkc, hz X, add_flat]
   intro h
   omega
theorem fresh_col (col : Nat → Nat) (i : Nat) : ∀ n, ∃ j, j ≠ 0 ∧ j ≠ i ∧ ∀ k, k < n → col k ≠ j := by
 intro n
 have : ∃ M, ∀ k, k < n → col k ≤ M := by
  induction n with
  | zero => exact ⟨0, fun k h => by omega⟩
  | succ n ih =>
   obtain ⟨M, hM⟩ := ih
   refine ⟨M + col n, fun k hk => ?_⟩
   by_cases e : k = n
   · subst e; omega
   · have := hM k (by omega); omega
 obtain ⟨M, hM⟩ := this
 exact ⟨M + i + 1, by omega, by omega, fun k hk e => by have := hM k hk; omega⟩
theorem RR.recol {i : Nat} {col col' : Nat → Nat} {w : World} {b : Nat} {W t : Int} {K : Kp} (h : RR i col w b W t K) (h0 : ∀ k, Cl col 0 w k → col' k = 0) (hi : ∀ k, Cl col i w k → col' k = i) : RR i col' w b W t K := by
 obtain ⟨v, h1, h2, h3⟩ := h.row
 exact ⟨⟨hi b h.ob, h.ob.2⟩, ⟨v, h1, h2.carry (Same.refl _ _) (Same.refl _ _) (fun k _ hk => ⟨hi k hk, hk.2⟩) fun k hk => ⟨h0 k hk, hk.2⟩, h3⟩, h.ok, h.pos⟩
theorem Sl.upto {τ : Type} {E : El τ} {O D : Nat → Prop} {w : World} {p : Option Addr} {len c : Nat} {L : List τ} (h : Sl E O D w (.slice p len c) L) {k : Nat} (hk : k ≤ L.length) : Sl E O D w (.slice p k c) (L.take k) := by
 obtain ⟨p', c', cs, e, h1, h2, h3, h4⟩ := h
 cases e
 have e : (L.take k).length = k := by rw [List.length_take]; omega
 refine ⟨p, c, cs.take k, by rw [e], by rw [e]; omega, h2, h3.take k, fun hn => ?_⟩
 obtain ⟨b, o, hp, hb, hc⟩ := h4 (by rintro rfl; simp at hn)
 refine ⟨b, o, hp, hb, fun j u hj => hc j u ?_⟩
 rw [flat_take cs (El.lens h3), List.getElem?_take] at hj
 split at hj
 · exact hj
 · cases hj
theorem Sl.drop {τ : Type} {E : El τ} {O D : Nat → Prop} {w : World} {b o len c : Nat} {L : List τ} (h : Sl E O D w (.slice (some ⟨b, o, none⟩) len c) L) {k : Nat} (hk : k ≤ L.length) {o' : Nat} (ho : k < L.length → o' = o + k * E.sz) : Sl E O D w (.slice (some ⟨b, o', none⟩) (len - k) (c - k)) (L.drop k) := by
 obtain ⟨p', c', cs, e, h1, h2, h3, h4⟩ := h
 cases e
 refine ⟨_, _, cs.drop k, by rw [List.length_drop], by rw [List.length_drop]; omega, (fun h => by cases h), h3.drop k, fun hn => ?_⟩
 have hkl : k < L.length := by
  rcases Nat.lt_or_ge k L.length with h | h
  · exact h
  · rw [List.drop_eq_nil_of_le h] at hn; exact absurd rfl hn
 obtain ⟨b', o2, hp, hb, hc⟩ := h4 (by rintro rfl; simp at hkl)
 cases hp
 refine ⟨b, o', rfl, hb, fun j u hj => ?_⟩
 rw [ho hkl, Nat.add_assoc]
 refine hc _ _ ?_
 have e1 : cs.flatten = (cs.take k).flatten ++ (cs.drop k).flatten := by rw [← List.flatten_append, List.take_append_drop]
 have e2 : (cs.take k).flatten.length = k * E.sz := by rw [flat_len _ (fun c hc => El.lens h3 c (List.mem_of_mem_take hc)), List.length_take, ← h3.len, Nat.min_eq_left (by omega)]
 rw [e1, List.getElem?_append_right (by omega), e2, show k * E.sz + j - k * E.sz = j by omega]
 exact hj
theorem findT_none {K : Kp} {x : Int} (h : look K x = none) : findT K x = -1 := by
 have h1 := look_place (K := K) (x := x)
 rw [h] at h1
 unfold findT
 rw [if_neg (by simpa using h1)]
theorem findT_some {K : Kp} {x : Int} {y : List Int} (h : look K x = some y) : placeT K x < K.length ∧ findT K x = (placeT K x : Int) := by
 have h1 := look_place (K := K) (x := x)
 rw [h] at h1
 have h2 : placeT K x < K.length := by simpa using h1
 exact ⟨h2, by unfold findT; rw [if_pos h2]⟩
section
variable {S D2 : Nat → Prop} {i : Nat} {col col' : Nat → Nat} {w w' w3 w4 : World} {b : Nat} {W t : Int} {K M : Kp} {v v' : Value}
theorem RR.app (h : RR i col w b W t K) (hi : i ≠ 0) (hrow : w.heap[b]? = some (.cells #[.int .i64 W, .int .i64 t, v] 50)) (h2 : Rc EP i col w v K) (h3 : v.ownBlock ≠ some b) (hbw : Below w.heap.size w w3) (hg : w3.grownBy w4 v.ownBlock) (hat : v'.ownBlock = v.ownBlock ∨ v'.ownBlock = some w3.heap.size)
    (HD : ∀ D3 : Nat → Prop, (∀ k, Cl col 0 w k → D3 k) → (∀ k, D2 k → D3 k) → (∀ k, D3 k → k < w3.heap.size ∧ v.ownBlock ≠ some k) → Rw EP (fun k => v'.ownBlock = some k) D3 w4 v' (K ++ M)) (hD2 : ∀ k, D2 k → Cl col 0 w k ∨ New w w3 k) :
    w4.heap[b]? = some (.cells #[.int .i64 W, .int .i64 t, v] 50) ∧ Ev (· = i) col w (paint col w v'.ownBlock i) (w4.setCell ⟨b, 2, none⟩ v') ∧ RR i (paint col w v'.ownBlock i) (w4.setCell ⟨b, 2, none⟩ v') b W t (K ++ M) := by
 have hb := h.ob
 obtain ⟨e1, e2, e3⟩ := row_end h2 hi hbw hg hat HD hD2
 have hne : v'.ownBlock ≠ some b := by
  intro e
  rcases e3 b e with h' | h'
  · exact h3 h'
  · have := hb.2; omega
 have ho : w4.heap[b]? = some (.cells #[.int .i64 W, .int .i64 t, v] 50) := ((hg.block b (Nat.lt_of_lt_of_le hb.2 hbw.size) (fun e => h3 e.symm)).trans (hbw.block b hb.2)).trans hrow
 have hcb : paint col w v'.ownBlock i b = i := (paint_old hb.2).trans hb.1
 refine ⟨ho, e1.set hb.1 v', ⟨hcb, by have := hb.2; have := hbw.size; have := hg.size; simp; omega⟩, ⟨v', ?_, e2.set (by rw [hcb]; exact hi) hne, hne⟩, h.ok, h.pos⟩
 rw [heap_setCell_same w4 b 2 _ _ _ ho]
 rfl
theorem RR.put (h : RR i col w b W t K) (hi : i ≠ 0) (hrow : w.heap[b]? = some (.cells #[.int .i64 W, .int .i64 t, v] 50)) (hb4 : Below w.heap.size w w4) (hn : Nr EP (Cl col 0 w) w w4 v' M) :
    w4.heap[b]? = some (.cells #[.int .i64 W, .int .i64 t, v] 50) ∧ Ev (· = i) col w (paint col w v'.ownBlock i) (w4.setCell ⟨b, 2, none⟩ v') ∧ RR i (paint col w v'.ownBlock i) (w4.setCell ⟨b, 2, none⟩ v') b W t M := by
 have hb := h.ob
 have hz := hb4.size
 have hne : v'.ownBlock ≠ some b := fun e => by have := (hn.own b e).1; have := hb.2; omega
 have ho : w4.heap[b]? = some (.cells #[.int .i64 W, .int .i64 t, v] 50) := (hb4.block b hb.2).trans hrow
 have hcb : paint col w v'.ownBlock i b = i := (paint_old hb.2).trans hb.1
 have e1 : Ev (· = i) col w (paint col w v'.ownBlock i) w4 := Ev.paint (Keep.of_below hb4) _ _
 have e2 : Rc EP i (paint col w v'.ownBlock i) w4 v' M := Rw.carry hn (Same.refl _ _) (Same.refl _ _) (fun k e _ => ⟨by rw [e]; exact paint_it (hn.own k e).1, hn.lt k e⟩) fun k hk => by
  rcases hk.1 with e | e
  · exact ⟨(paint_old e.2).trans e.1, by have := e.2; omega⟩
  · exact ⟨paint_new e.1 hk.2, e.2⟩
 refine ⟨ho, e1.set hb.1 v', ⟨hcb, by have := hb.2; simp; omega⟩, ⟨v', ?_, e2.set (by rw [hcb]; exact hi) hne, hne⟩, h.ok, h.pos⟩
 rw [heap_setCell_same w4 b 2 _ _ _ ho]
 rfl
theorem RR.next (h : RR i col w b W t K) (hi : i ≠ 0) : Ev (· = i) col w col (w.setCell ⟨b, 1, none⟩ (.int .i64 (t + 1))) ∧ RR i col (w.setCell ⟨b, 1, none⟩ (.int .i64 (t + 1))) b W (t + 1) K := by
 obtain ⟨v, h1, h2, h3⟩ := h.row
 refine ⟨(Ev.refl _ _ _).set h.ob.1 _, ⟨h.ob.1, by simp; exact h.ob.2⟩, ⟨v, ?_, h2.set (by rw [h.ob.1]; exact hi) h3, h3⟩, h.ok, by have := h.pos; omega⟩
 rw [heap_setCell_same w b 1 _ _ _ h1]
 rfl
theorem told_end {j : Nat} {c : Nat → Nat} {ov : Value} {T : List (List Int)} (hj0 : j ≠ 0) (hji : j ≠ i) (hjo : ∀ k, k < w.heap.size → col k ≠ j) (he : Ev (fun m => m = i ∨ m = j) col w c w') (h : RR i c w' b W t K) (ho : Rc EB j c w' ov T) :
    ∃ col', Ev (· = i) col w col' w' ∧ RR i col' w' b W t K ∧ Vw EB col' w' ov T := by
 refine ⟨fun k => if c k = j then 0 else c k, ⟨fun k hk => ?_, he.keep.mono fun k hk hs => ?_⟩, h.recol (fun k hk => ?_) (fun k hk => ?_), ho.sl.carry (Same.refl _ _) (Same.refl _ _) (fun k hk => ⟨if_pos hk.1, hk.2⟩) fun k hk => ⟨?_, hk.2⟩⟩
 · show (if c k = j then 0 else c k) = col k
   rw [he.ext k hk, if_neg (hjo k hk)]
 · exact hs.resolve_right (hjo k hk)
 · show (if c k = j then 0 else c k) = 0
   rw [hk.1, if_neg (Ne.symm hj0)]
 · show (if c k = j then 0 else c k) = i
   rw [hk.1, if_neg (Ne.symm hji)]
 · show (if c k = j then 0 else c k) = 0
   rw [hk.1, if_neg (Ne.symm hj0)]
end
theorem Rc.under {τ : Type} {E : El τ} {i : Nat} {col : Nat → Nat} {w X : World} {v : Value} {L : List τ} (h : Rc E i col w v L) (hb : Below w.heap.size w X) : Rw E (Cl col i w) (Cl col 0 w) X v L := Rw.carry h (fun k hk => hb.block k (h.lt k hk)) (Same.of_below hb fun _ hk => hk.2) (fun _ _ h => h) fun _ h => h
section
variable {S : Nat → Prop} {i : Nat} {col col' : Nat → Nat} {w w' : World} {b : Nat} {W t : Int} {K : Kp} {s : Int} {x : List Int}
def RTakeP (i : Nat) (col : Nat → Nat) (w : World) (b : Nat) (W t : Int) (K : Kp) (s : Int) (x : List Int) (e : Ending) (w' : World) : Prop :=
 ∃ v, e = .returned v ∧ ∃ col', Ev (· = i) col w col' w' ∧ RR i col' w' b W (takeT W t K s x).2.1 (takeT W t K s x).2.2 ∧ Vw EB col' w' v (takeT W t K s x).1
theorem RR.wide (h : RR i col w b W t K) : 1 ≤ W ∧ W ≤ 64 := by
 have := h.ok
 unfold wideT at this
 simp only [Bool.and_eq_true, decide_eq_true_eq] at this
 exact this
theorem rtake_no (h : RR i col w b W t K) (htt : t ≤ 1000000000) {ix : Nat} {u : Value} (hx : Vi EU ix col w u x) (hs : wf64 s) (hl : x.length ≤ 100000000) (hno : (nearT W t s && decide (x.length ≤ 1048576)) = false) : Calls Try.prog 25 #[.pointer (some ⟨b, 0, none⟩), .agg #[.int .i64 s, u]] w (RTakeP i col w b W t K s x) := by
 have HP : Hid (∀ w', Below w.heap.size w w' → RTakeP i col w b W t K s x (.returned (.slice none 0 0)) w') := by
  intro w' hb
  have he : Ev (fun _ => False) col w (paint col w none 0) w' := Ev.paint (Keep.of_below hb) _ _
  refine ⟨_, rfl, _, he.mono fun _ h => h.elim, ?_, ?_⟩
  · unfold takeT; rw [hno]; exact h.ev he (fun h => h) fun h => h
  · unfold takeT; rw [hno]; exact Sl.nil _ _ _ _
 obtain ⟨pu, cu, rfl⟩ := hx.lenv
 obtain ⟨ml, hml⟩ : ∃ ml, x.length = ml := ⟨_, rfl⟩
 rw [hml] at hno hl ⊢
 have hw := h.wide
 have hpos := h.pos
 have hb0 : Below w.heap.size w (w.alloc (.cells #[.int .i64 s, .slice pu ml cu] 52)) := (Below.refl _ _).alloc (Nat.le_refl _) _
 have hB0 : (w.alloc (.cells #[.int .i64 s, .slice pu ml cu] 52)).heap[w.heap.size]? = some (.cells #[.int .i64 s, .slice pu ml cu] 52 (0, 0)) := heap_alloc_new _ _
 obtain ⟨v, hrow, _, _⟩ := h.row
 have hr0 := (hb0.block b h.ob.2).trans hrow
 obtain ⟨W0, hW0⟩ : ∃ W0, W0 = w.alloc (.cells #[.int .i64 s, .slice pu ml cu] 52) := ⟨_, rfl⟩
 rw [← hW0] at hb0 hB0 hr0
 have HB : Hid (Below w.heap.size w W0) := hb0
 have hc0 := cell_row (cur := [_, _]) hB0 0 _ rfl
 have hc1 := cell_row (cur := [_, _]) hB0 1 _ rfl
 have hd0 := cell_row (cur := [_, _, _]) hr0 0 _ rfl
 have hd1 := cell_row (cur := [_, _, _]) hr0 1 _ rfl
 clear h hx hml hb0 hB0 hrow hr0
 unfold nearT at hno
 unfold wf64 at hs
 by_cases h1 : s < t
 · have hg1 : decide (s < t) = true := decide_eq_true h1
   clear hno
   go_enter Try.func25, Try.ntmps25
   go_upto_region 1 with fail
   rw [← hW0]
   clear hW0
   go_quiet (fail)
   go_wp2
   go_ret
   exact HP.out _ (below_drewN HB.out _)
 · have hg1 : decide (s < t) = false := decide_eq_false h1
   have hi := IntWalk.i64_in (s - t) (by omega)
   by_cases h2 : W ≤ s - t
   · have hg2 : decide (W ≤ s - t) = true := decide_eq_true h2
     clear hno
     go_enter Try.func25, Try.ntmps25
     go_upto_region 1 with fail
     rw [← hW0]
     clear hW0
     go_quiet (fail)
     go_wp2
     go_ret
     exact HP.out _ (below_drewN HB.out _)
   · have hg2 : decide (W ≤ s - t) = false := decide_eq_false h2
     have hg3 : decide ((1048576 : Int) < ml) = true := by
      rw [decide_eq_true (by omega : t ≤ s), decide_eq_true (by omega : s - t < W), Bool.true_and, Bool.true_and] at hno
      have := of_decide_eq_false hno
      exact decide_eq_true (by omega)
     clear hno
     go_enter Try.func25, Try.ntmps25
     go_upto_region 1 with fail
     rw [← hW0]
     clear hW0
     go_quiet (fail)
     go_wp2
     go_ret
     exact HP.out _ (below_drewN HB.out _)
end
section
variable {S : Nat → Prop} {i : Nat} {col col' : Nat → Nat} {w w' : World} {b : Nat} {W t : Int} {K : Kp} {s : Int} {x : List Int}
theorem rfind_any (h : RR i col w b W t K) (hK : K.length ≤ 100000) (y : Int) : Calls Try.prog 37 #[.pointer (some ⟨b, 0, none⟩), .int .i64 y] w fun e w' => e = .returned (.int .i64 (findT K y)) ∧ w' = w := by
 obtain ⟨v, h1, h2, _⟩ := h.row
 exact find_row h1 h2.sl hK y
theorem rtake_yes (h : RR i col w b W t K) (hi : i ≠ 0) (hK : K.length ≤ 90000) (htt : t ≤ 100000000) (hx5 : x.length ≤ 1000000) {ix : Nat} {u : Value} (hx : Vi EU ix col w u x) (hyes : (nearT W t s && decide (x.length ≤ 1048576)) = true) : Calls Try.prog 25 #[.pointer (some ⟨b, 0, none⟩), .agg #[.int .i64 s, u]] w (RTakeP i col w b W t K s x) := by
 obtain ⟨pu, cu, rfl⟩ := hx.lenv
 have hyes2 := hyes
 rw [Bool.and_eq_true] at hyes
 obtain ⟨hnT, hxl⟩ := hyes
 have hxl := of_decide_eq_true hxl
 obtain ⟨R, hR⟩ : ∃ R, runR (K.length + 1) t (keepT K s x) = R := ⟨_, rfl⟩
 have HR : Hid (runR (K.length + 1) t (keepT K s x) = R) := hR
 have HFIN : Hid (∀ (v : Value) (w' : World), (∃ col', Ev (· = i) col w col' w' ∧ RR i col' w' b W R.2.1 R.2.2 ∧ Vw EB col' w' v R.1) → RTakeP i col w b W t K s x (.returned v) w') := by
  rintro v w' ⟨col', h1, h2, h3⟩
  have e : takeT W t K s x = R := by unfold takeT; rw [hyes2]; exact hR
  refine ⟨v, rfl, col', h1, ?_, ?_⟩
  · rw [e]; exact h2
  · rw [e]; exact h3
 obtain ⟨ml, hml⟩ : ∃ ml, x.length = ml := ⟨_, rfl⟩
 have HML : Hid (x.length = ml) := hml
 rw [hml] at hxl hx5 ⊢
 have hw := h.wide
 have hpos := h.pos
 have hb0 : Below w.heap.size w (w.alloc (.cells #[.int .i64 s, .slice pu ml cu] 52)) := (Below.refl _ _).alloc (Nat.le_refl _) _
 have hB0 : (w.alloc (.cells #[.int .i64 s, .slice pu ml cu] 52)).heap[w.heap.size]? = some (.cells #[.int .i64 s, .slice pu ml cu] 52 (0, 0)) := heap_alloc_new _ _
 obtain ⟨W0, hW0⟩ : ∃ W0, W0 = w.alloc (.cells #[.int .i64 s, .slice pu ml cu] 52) := ⟨_, rfl⟩
 rw [← hW0] at hb0 hB0
 obtain ⟨c1, hc1⟩ : ∃ c1, c1 = paint col w none 0 := ⟨_, rfl⟩
 have HN1 : Hid (c1 w.heap.size = 0) := by show _ = _; rw [hc1]; exact paint_new (Nat.le_refl _) (by intro e; cases e)
 have he0 : Ev (fun _ => False) col w c1 W0 := by rw [hc1]; exact Ev.paint (Keep.of_below hb0) _ _
 have hp0 := h.ev he0 (fun h => h) fun h => h
 have HX0 : Hid (Vi EU ix c1 W0 (.slice pu ml cu) x) := by have := Vi.ev hx he0 (fun h => h); rw [hml] at this; exact this
 have HDR : Hid (∀ k, RR i c1 (W0.drewN k) b W t K ∧ Vi EU ix c1 (W0.drewN k) (.slice pu ml cu) x ∧ (W0.drewN k).heap[w.heap.size]? = some (.cells #[.int .i64 s, .slice pu ml cu] 52 (0, 0)) ∧ Ev (fun _ => False) col w c1 (W0.drewN k)) := fun k =>
  ⟨hp0.ev (Ev.drewN (fun _ => False) c1 W0 k) (fun h => h) fun h => h, Vi.ev HX0.out (Ev.drewN (fun _ => False) c1 W0 k) fun h => h, hB0, he0.trans (Ev.drewN (fun _ => False) c1 W0 k) fun _ h => h⟩
 obtain ⟨v0, hrow0, _, _⟩ := hp0.row
 have hk0 := cell_row (cur := [_, _]) hB0 0 _ rfl
 have hk1 := cell_row (cur := [_, _]) hB0 1 _ rfl
 have hd0 := cell_row (cur := [_, _, _]) hrow0 0 _ rfl
 have hd1 := cell_row (cur := [_, _, _]) hrow0 1 _ rfl
 unfold nearT at hnT
 rw [Bool.and_eq_true] at hnT
 have hn1 := of_decide_eq_true hnT.1
 have hn2 := of_decide_eq_true hnT.2
 have hg1 : decide (s < t) = false := decide_eq_false (by omega)
 have hii := IntWalk.i64_in (s - t) (by omega)
 have hg2 : decide (W ≤ s - t) = false := decide_eq_false (by omega)
 have hg3 : decide ((1048576 : Int) < ml) = false := decide_eq_false (by omega)
 have hbw := h.ob.2
 clear h hx hml hyes2 hnT he0 hp0 HX0 hc1 hrow0 hR
 go_enter Try.func25, Try.ntmps25
 go_upto_region 1 with fail
 rw [← hW0]
 clear hW0
 go_quiet (fail)
 go_upto_region 3 with fail
 obtain ⟨hP1, hX1, hB1, hE1⟩ := HDR.out nq
 have HX1 : Hid (Vi EU ix c1 (W0.drewN nq) (.slice pu ml cu) x) := hX1
 have HE1 : Hid (Ev (fun _ => False) col w c1 (W0.drewN nq)) := hE1
 have HP1 : Hid (RR i c1 (W0.drewN nq) b W t K) := hP1
 clear HDR hX1 hE1 hk0 hk1 hd0 hd1 hB0 hb0 hg1 hg2 hg3
 generalize W0.drewN nq = W1 at *
 have hfs := rfind_any hP1 (by omega) s
 obtain ⟨v1, hrow1, hRK1, hne⟩ := hP1.row
 obtain ⟨pv, cv, rfl⟩ := hRK1.slice
 obtain ⟨nv, hnv⟩ : ∃ nv, K.length = nv := ⟨_, rfl⟩
 have HKL : Hid (K.length = nv) := hnv
 rw [hnv] at hrow1 hRK1 hne hK HR
 have hfs0 := hfs
 clear hnv hP1
 have hq0 := cell_row (cur := [_, _]) hB1 0 _ rfl
 cases hlk : look K s with
 | some y0 =>
  have HL : Hid ((keepT K s x).length ≤ nv + 1) := by show _ ≤ _; unfold keepT; rw [hlk, ← HKL.out]; simp
  have HP5 : Hid (RR i c1 W1 b W t (keepT K s x)) := by
   have : keepT K s x = K := by unfold keepT; rw [hlk]; rfl
   show RR _ _ _ _ _ _ _
   rw [this]
   exact HP1.out
  have HE5 : Hid (Ev (· = i) col w c1 W1) := HE1.out.mono fun _ h => h.elim
  obtain ⟨hpl0, hfe0⟩ := findT_some hlk
  obtain ⟨pl0, hpl0'⟩ : ∃ pl0, placeT K s = pl0 := ⟨_, rfl⟩
  rw [hfe0, hpl0'] at hfs
  have hgf : decide ((pl0 : Int) < 0) = false := decide_eq_false (by omega)
  clear hlk hpl0 hfe0 hpl0' hRK1 hrow1 hfs0
  go_upto_region 5 with (go_at_call 37; refine hfs.mono ?_; rintro e W1 ⟨rfl, rfl⟩)
  clear hfs hq0 hgf hB1
  obtain ⟨K2, hK2⟩ : ∃ K2, keepT K s x = K2 := ⟨_, rfl⟩
  rw [hK2] at HP5 HL HR
  clear hK2
  obtain ⟨j, hj0, hji, hjo⟩ := fresh_col c1 i W1.heap.size
  have HJO : Hid (∀ k, k < W1.heap.size → c1 k ≠ j) := hjo
  have hfd := rfind_any HP5.out (by have := HL.out; omega) t
  obtain ⟨v5, hrow5, _, _⟩ := HP5.out.row
  have hd1 := cell_row (cur := [_, _, _]) hrow5 1 _ rfl
  have HFT : Hid (∀ (v : Value) (c : Nat → Nat) (w' : World) (t' : Int) (K' : Kp) (T : List (List Int)), T = R.1 → (t', K') = R.2 → Ev (fun m => m = i ∨ m = j) c1 W1 c w' → RR i c w' b W t' K' → Rc EB j c w' v T → RTakeP i col w b W t K s x (.returned v) w') := by
   intro v c w' t' K' T e1 e2 h1 h2 h3
   obtain ⟨col', g1, g2, g3⟩ := told_end hj0 hji HJO.out h1 h2 h3
   refine HFIN.out v w' ⟨col', HE5.out.trans g1 fun _ h => h, ?_, ?_⟩
   · rw [← e2]; exact g2
   · rw [← e1]; exact g3
  clear hrow5 hjo HFIN HE5 HJO
  go_upto_region 7 with (go_at_call 37; refine hfd.mono ?_; rintro e W1 ⟨rfl, rfl⟩)
  clear hfd hd1
  go_loopw [5, 6] (fun ov iv wr => ∃ (n' : Nat) (t' : Int) (K' : Kp) (T : List (List Int)) (c : Nat → Nat) (f : Int), K'.length ≤ n' ∧ t' + n' ≤ 200000000 ∧ iv = .int .i64 f ∧ Hid (findT K' t' = f) ∧ Hid (T ++ (runR n' t' K').1 = R.1 ∧ (runR n' t' K').2 = R.2 ∧ T.length + n' ≤ nv + 1) ∧ Hid (Ev (fun m => m = i ∨ m = j) c1 W1 c wr) ∧ Hid (RR i c wr b W t' K') ∧ Hid (Rc EB j c wr ov T)) (fun ov _ _ => nv + 1 - lenV ov)
  case atStart => exact ⟨nv + 1, t, K2, [], c1, _, HL.out, by omega, rfl, rfl, by rw [HR.out]; exact ⟨rfl, rfl, by simp⟩, Ev.refl _ _ _, HP5.out, Rw.nil _ _ _ _⟩
  case round =>
   obtain ⟨n', t', K', T, c, f, hKn, htn, rfl, HF, HT, HE, HP, HO⟩ := hrel
   obtain ⟨qo, co, hqo⟩ := HO.out.slice
   obtain ⟨tl, htl⟩ : ∃ tl, T.length = tl := ⟨_, rfl⟩
   have HTL : Hid (T.length = tl) := htl
   rw [htl] at hqo
   subst hqo
   clear htl
   cases hlk : look K' t' with
   | none =>
    obtain rfl : f = -1 := by rw [← HF.out]; exact findT_none hlk
    have HFN : Hid (RTakeP i col w b W t K s x (.returned (.slice qo tl co)) wr) := by
     have e1 := HT.out.1
     have e2 := HT.out.2.1
     rw [runR_none hlk] at e1 e2
     simp only [List.append_nil] at e1
     exact HFT.out _ c wr t' K' T e1 e2 HE.out HP.out HO.out
    clear hlk HFT
    go_wp2
    go_ret
    exact HFN.out
   | some y =>
    obtain ⟨hpl, hfe⟩ := findT_some hlk
    obtain ⟨n'', rfl⟩ : ∃ k, n' = k + 1 := ⟨n' - 1, by have := less_len hlk; omega⟩
    have HT2 : Hid ((T ++ [y]) ++ (runR n'' (t' + 1) (less K' t')).1 = R.1 ∧ (runR n'' (t' + 1) (less K' t')).2 = R.2 ∧ (T ++ [y]).length + n'' ≤ nv + 1) := by
     obtain ⟨e1, e2, e3⟩ := HT.out
     rw [runR_some hlk] at e1 e2
     refine ⟨by rw [← e1]; simp, e2, by rw [List.length_append]; simp only [List.length_singleton]; omega⟩
    have hnn : n'' ≤ nv := by have e1 := HT2.out.2.2; rw [List.length_append] at e1; simp only [List.length_singleton] at e1; omega
    have HLL : Hid ((less K' t').length ≤ n'') := by show _ ≤ _; have := less_len hlk; omega
    have HLP : Hid (less K' t' = K'.take (placeT K' t') ++ K'.drop (placeT K' t' + 1)) := less_place
    have hat0 := look_at hlk
    obtain ⟨pl, hple⟩ : ∃ pl, placeT K' t' = pl := ⟨_, rfl⟩
    rw [hple] at hpl hfe HLP hat0
    obtain rfl : f = (pl : Int) := by rw [← HF.out]; exact hfe
    obtain ⟨v, hrow, hRK, hne⟩ := HP.out.row
    obtain ⟨pk, ck, e, hck, -, hpk, hcells⟩ := hRK.sl.pieces
    subst e
    obtain ⟨kb, ko, rfl, -⟩ := hpk (by rintro rfl; simp at hpl)
    obtain ⟨uy, hcy, hcy1, hvy⟩ := hcells kb ko rfl pl (t', y) hat0
    obtain ⟨py, cy, rfl⟩ := hvy.lenv
    obtain ⟨ny, hny⟩ : ∃ ny, y.length = ny := ⟨_, rfl⟩
    obtain ⟨kl, hkl⟩ : ∃ kl, K'.length = kl := ⟨_, rfl⟩
    have HKL2 : Hid (K'.length = kl) := hkl
    have HNY : Hid (y.length = ny) := hny
    simp only at hcy1 hvy
    rw [hny] at hcy1 hvy
    rw [hkl] at hrow hRK hne hpl hck hKn
    have HROWr : Hid (wr.heap[b]? = some (.cells #[.int .i64 W, .int .i64 t', .slice (some ⟨kb, ko, none⟩) kl ck] 50)) := hrow
    have HRK2 : Hid (Rc EP i c wr (.slice (some ⟨kb, ko, none⟩) kl ck) K') := hRK
    have HVY : Hid (Vw EU c wr (.slice py ny cy) y) := hvy
    have hr2 := cell_row (cur := [_, _, _]) hrow 2 _ rfl
    have hge : decide ((0 : Int) ≤ (pl : Int)) = true := decide_eq_true (by omega)
    have HOB : Hid (Cl c i wr b) := HP.out.ob
    have htl1 : tl ≤ nv := by have e1 := HTL.out; have e2 := HT.out.2.2; omega
    have hbx : Below wr.heap.size wr (wr.alloc (.cells #[.slice py ny cy] 37)) := (Below.refl _ _).alloc (Nat.le_refl _) _
    have HBX : Hid (Below wr.heap.size wr (wr.alloc (.cells #[.slice py ny cy] 37))) := hbx
    have HONE : Hid (Sl EB (fun k => k = wr.heap.size) (Cl c 0 wr) (wr.alloc (.cells #[.slice py ny cy] 37)) (.slice (some ⟨wr.heap.size, 0, none⟩) 1 1) [y]) := Sl.one (E := EB) (cs := [.slice py ny cy]) ⟨_, rfl, hvy⟩ fun k hk => hk.2
    have HO3 := HO.out.under hbx
    have hT1 : T.length + ([y] : List (List Int)).length ≤ 1000000 := by have := HTL.out; simp only [List.length_singleton]; omega
    clear hlk hat0 hple hfe hrow hRK hcells hpk hcy hkl hny hvy hbx HT HF HFT
    go_upto_region 9 with (first
     | (at_builtin; refine wpList_app rfl (.tmp 63) (.tmp 72) 31 rfl Try.underlying31 rfl HO3 rfl HONE.out hT1 ?_; rintro v' w4 hg hat ⟨q', c', hv'⟩ HD
        obtain ⟨nn, hnn'⟩ : ∃ nn, (T ++ [y]).length = nn := ⟨_, rfl⟩
        have HNN : Hid ((T ++ [y]).length = nn) := hnn'
        rw [hnn'] at hv'
        subst hv'
        obtain ⟨he4, hO4, -⟩ := row_end HO.out hj0 HBX.out hg hat HD.out (fun k hk => .inl hk)
        have HE4 : Hid (Ev (· = j) c wr (paint c wr (Value.slice q' nn c').ownBlock j) w4) := he4
        have HO4 : Hid (Rc EB j (paint c wr (Value.slice q' nn c').ownBlock j) w4 (.slice q' nn c') (T ++ [y])) := hO4
        clear hnn' hg hat HD HO3 HONE he4 hO4))
    clear hcy1 hr2 hge
    obtain ⟨c4, hc4⟩ : ∃ c4, paint c wr (Value.slice q' nn c').ownBlock j = c4 := ⟨_, rfl⟩
    rw [hc4] at HE4 HO4
    clear hc4
    have HP4 : Hid (RR i c4 w4 b W t' K') := HP.out.ev HE4.out (fun h => hj0 h.symm) (fun h => hji h.symm)
    have HROW4 : Hid (w4.heap[b]? = some (.cells #[.int .i64 W, .int .i64 t', .slice (some ⟨kb, ko, none⟩) kl ck] 50)) := (HE4.out.same (fun h => hji h.symm) b HOB.out).trans HROWr.out
    have HBL4 : Hid (b < w4.heap.size) := obj_lt HROW4.out
    have HRK4 : Hid (Rc EP i c4 w4 (.slice (some ⟨kb, ko, none⟩) kl ck) K') := HRK2.out.ev HE4.out (fun h => hj0 h.symm) (fun h => hji h.symm)
    have HPI : Hid _ := IntWalk.i64_in ((pl : Int) + 1) (by have := HP.out.pos; omega)
    have HSU : Hid (∀ X, (Instr.slice 40 (.slice (some ⟨kb, ko, none⟩) kl ck) none (some (.int .i64 (pl : Int))) none).run Try.prog X = .ok (.slice (some ⟨kb, ko, none⟩) pl ck) X) := slice_upto Try.underlying40 _ kl ck pl (by omega) Try.sizeOf52
    have HSP0 : ∀ X, (Instr.slice 40 (.slice (some ⟨kb, ko, none⟩) kl ck) (some (.int .i64 ((pl + 1 : Nat) : Int))) none none).run Try.prog X = .ok (.slice (some ⟨kb, if pl + 1 < ck then ko + (pl + 1) * 2 else ko, none⟩) (kl - (pl + 1)) (ck - (pl + 1))) X := slice_past Try.underlying40 kb ko kl ck (pl + 1) (by omega) hck Try.sizeOf52
    rw [show ((pl + 1 : Nat) : Int) = (pl : Int) + 1 by omega] at HSP0
    have HTK : Hid (∀ X, Below w4.heap.size w4 X → Sl EP (Cl c4 i w4) (Cl c4 0 w4) X (.slice (some ⟨kb, ko, none⟩) pl ck) (K'.take pl)) := fun X hX => Sl.upto (HRK4.out.under hX).sl (by have := HKL2.out; omega)
    have HDK0 : ∀ X, Below w4.heap.size w4 X → Sl EP (Cl c4 i w4) (Cl c4 0 w4) X (.slice (some ⟨kb, if pl + 1 < ck then ko + (pl + 1) * 2 else ko, none⟩) (kl - (pl + 1)) (ck - (pl + 1))) (K'.drop (pl + 1)) := fun X hX => Sl.drop (HRK4.out.under hX).sl (by have := HKL2.out; omega) (fun h => if_pos (by have := HKL2.out; omega))
    obtain ⟨po, hpo⟩ : ∃ po, po = (⟨kb, if pl + 1 < ck then ko + (pl + 1) * 2 else ko, none⟩ : Addr) := ⟨_, rfl⟩
    rw [← hpo] at HSP0 HDK0
    have HSP := (show Hid _ from HSP0)
    have HDK := (show Hid _ from HDK0)
    clear HSP0 HDK0 hpo HROWr HRK2 HOB HVY hne HBX
    refine wp_region_J 19 (fun X => X.heap[b]? = some (.cells #[.int .i64 W, .int .i64 t', .slice (some ⟨kb, ko, none⟩) kl ck] 50)) ?_
    change wpJ _ _ _ _ _ _ _ _ _ (World.drew _)
    have HB6 : Hid (Below w4.heap.size w4 w4.drew) := below_drewN (Below.refl _ _) 1
    have hC6 : w4.drew.heap[b]? = some (.cells #[.int .i64 W, .int .i64 t', .slice (some ⟨kb, ko, none⟩) kl ck] 50) := HROW4.out
    generalize w4.drew = w6 at *
    refine wpJ_q (i := 0) (d := some 74) (v := .pointer (some ⟨b, 0, none⟩)) rfl ?_
    refine wpJ_q (i := 2) (d := some 76) (v := .pointer (some ⟨b, 0, none⟩)) rfl ?_
    refine wpJ_q (i := 3) (d := some 77) (v := .pointer (some ⟨b, 0, none⟩)) rfl ?_
    refine wpJ_q (i := 4) (d := some 78) (v := .pointer (some ⟨b, 2, none⟩)) rfl ?_
    refine wpJ_r (i := 5) (d := some 79) (v := .slice (some ⟨kb, ko, none⟩) kl ck) rfl (by intro wq hq; have g := cell_row (cur := [_, _, _]) hq 2 _ rfl; go_simp; first | done | with_reducible rfl) ?_
    refine wpJ_q (i := 6) (d := some 80) (v := .int .i64 (pl : Int)) rfl ?_
    refine wpJ_r (i := 7) (d := some 81) (v := .slice (some ⟨kb, ko, none⟩) pl ck) rfl (by intro wq hq; have g := HSU.out wq; go_simp; first | done | with_reducible rfl) ?_
    refine wpJ_q (i := 9) (d := some 83) (v := .pointer (some ⟨b, 0, none⟩)) rfl ?_
    refine wpJ_q (i := 10) (d := some 84) (v := .pointer (some ⟨b, 0, none⟩)) rfl ?_
    refine wpJ_q (i := 11) (d := some 85) (v := .pointer (some ⟨b, 2, none⟩)) rfl ?_
    refine wpJ_r (i := 12) (d := some 86) (v := .slice (some ⟨kb, ko, none⟩) kl ck) rfl (by intro wq hq; have g := cell_row (cur := [_, _, _]) hq 2 _ rfl; go_simp; first | done | with_reducible rfl) ?_
    refine wpJ_q (i := 13) (d := some 87) (v := .int .i64 (pl : Int)) rfl ?_
    refine wpJ_r (i := 14) (d := some 88) (v := .int .i64 ((pl : Int) + 1)) rfl (by intro wq hq; have g := HPI.out; go_simp; first | done | with_reducible rfl) ?_
    refine wpJ_r (i := 15) (d := some 89) (v := .slice (some po) (kl - (pl + 1)) (ck - (pl + 1))) rfl (by intro wq hq; have g := HSP.out wq; go_simp; first | done | with_reducible rfl) ?_
    refine wpJ_do (i := 1) (fun _ => hC6) (by kernel_rfl) rfl (by rfl) ?_
    intro K1 hK1
    go_simp
    refine hK1 _ _ ?_
    have hba : Below w6.heap.size w6 (w6.alloc (.cells #[] 52)) := (Below.refl _ _).alloc (Nat.le_refl _) _
    have hC6a := (hba.block b (obj_lt hC6)).trans hC6
    have HB6a : Hid (Below w4.heap.size w4 (w6.alloc (.cells #[] 52))) := belowP HB6.out hba
    have hMa : Nr EP (Cl c4 0 w4) w4 (w6.alloc (.cells #[] 52)) (.slice (some ⟨w6.heap.size, 0, none⟩) 0 0) [] := (Rw.made EP (fun _ => False) w6).carry (Same.refl _ _) (Same.refl _ _) (fun k e hk => ⟨by rw [hk]; exact HB6.out.size, by rw [hk]; simp⟩) fun _ h => h.elim
    have hTa := HTK.out _ HB6a.out
    refine wpJ_do (i := 8) (fun _ => hC6a) (by kernel_rfl) rfl (by rfl) ?_
    intro K8 hK8
    refine wp_app (.tmp 75) (.tmp 81) 40 (some 82) rfl rfl Try.underlying40 rfl hMa rfl hTa (by have := HKL2.out; rw [List.length_take]; simp only [List.length_nil]; omega) ?_
    rintro v7 w7 hg hat ⟨q7, c7, hv7⟩ HD
    obtain ⟨hn7, hb7⟩ := hMa.app HB6a.out.size hg hat (fun _ hk => hk.2) HD.out (fun k hk => ⟨.inl hk, fun e => by have e2 : w6.heap.size = k := Option.some.inj e; have := hk.2; have := HB6.out.size; omega⟩)
    rw [List.nil_append] at hn7 hv7
    obtain ⟨n7, hn7'⟩ : ∃ n7, (K'.take pl).length = n7 := ⟨_, rfl⟩
    rw [hn7'] at hv7
    subst hv7
    have HB7 : Hid (Below w4.heap.size w4 w7) := HB6a.out.trans hb7
    have hC7 := (HB7.out.block b HBL4.out).trans HROW4.out
    clear hn7' hg hat HD hMa hTa hC6a hba hb7
    refine hK8 _ _ ?_
    refine wpJ_fr ?_
    have hTb := HDK.out _ HB7.out
    refine wpJ_do (i := 16) (fun _ => hC7) (by kernel_rfl) rfl (by rfl) ?_
    intro K16 hK16
    refine wp_app (.tmp 82) (.tmp 89) 40 (some 90) rfl rfl Try.underlying40 rfl hn7 rfl hTb (by have := HKL2.out; rw [List.length_take, List.length_drop]; omega) ?_
    rintro v8 w8 hg hat ⟨q8, c8, hv8⟩ HD
    obtain ⟨hn8, hb8⟩ := hn7.app HB7.out.size hg hat (fun _ hk => hk.2) HD.out (fun k hk => ⟨.inl hk, fun e => by have := (hn7.own k e).1; have := hk.2; omega⟩)
    rw [← HLP.out] at hn8 hv8
    obtain ⟨n8, hn8'⟩ : ∃ n8, (less K' t').length = n8 := ⟨_, rfl⟩
    rw [hn8'] at hv8
    subst hv8
    obtain ⟨hC8, he8, hR8⟩ := HP4.out.put hi HROW4.out (HB7.out.trans hb8) hn8
    have HE8 := (show Hid _ from he8)
    have HR8 := (show Hid _ from hR8)
    clear hn8' hg hat HD hn7 hn8 hTb hb8 he8 hR8
    refine hK16 _ _ ?_
    refine wpJ_fr ?_
    refine wpJ_do (i := 17) (fun _ => hC8) (by kernel_rfl) rfl (by rfl) ?_
    intro K17 hK17
    go_simp
    refine hK17 _ _ ?_
    refine wpJ_q (i := 18) (d := some 92) (v := .pointer (some ⟨b, 2, none⟩)) rfl ?_
    have hc8 := cell_row (cur := [_, _, _]) hC8 2 _ rfl
    have hz8 := frozen_of_row w8 b 2 _ _ hC8
    refine wpJ_do (i := 19) (fun _ => hC8) (by kernel_rfl) rfl (by rfl) ?_
    intro K19 hK19
    go_simp
    refine hK19 _ _ ?_
    refine wpJ_end ?_
    obtain ⟨c9, hc9⟩ : ∃ c9, paint c4 w4 (Value.slice q8 n8 c8).ownBlock i = c9 := ⟨_, rfl⟩
    rw [hc9] at HE8 HR8
    clear hc9 hc8 hz8 hC8 hC7 hC6 HB7 HB6 HB6a HTK HDK HSU HSP HPI HRK4 HROW4 HBL4 HKL2 HNY HLP
    generalize w8.setCell ⟨b, 2, none⟩ (.slice q8 n8 c8) = w9 at *
    have HO9 : Hid (Rc EB j c9 w9 (.slice q' nn c') (T ++ [y])) := HO4.out.ev HE8.out (fun h => hi h.symm) hji
    have HE9 : Hid (Ev (fun m => m = i ∨ m = j) c1 W1 c9 w9) := (HE.out.trans HE4.out fun _ h => .inr h).trans HE8.out fun _ h => .inl h
    obtain ⟨v9, hrow9, _, _⟩ := HR8.out.row
    have hk1 := cell_row (cur := [_, _, _]) hrow9 1 _ rfl
    have hz1 := frozen_of_row w9 b 1 _ _ hrow9
    have hti := IntWalk.i64_in (t' + 1) (by have := HP.out.pos; omega)
    obtain ⟨he10, hR10⟩ := HR8.out.next hi
    have HR10 := (show Hid _ from hR10)
    have HO10 : Hid (Rc EB j c9 (w9.setCell ⟨b, 1, none⟩ (.int .i64 (t' + 1))) (.slice q' nn c') (T ++ [y])) := HO9.out.ev he10 (fun h => hi h.symm) hji
    have HE10 : Hid (Ev (fun m => m = i ∨ m = j) c1 W1 c9 (w9.setCell ⟨b, 1, none⟩ (.int .i64 (t' + 1)))) := HE9.out.trans he10 fun _ h => .inl h
    obtain ⟨f2, hf2⟩ : ∃ f2, findT (less K' t') (t' + 1) = f2 := ⟨_, rfl⟩
    have HF2 : Hid (findT (less K' t') (t' + 1) = f2) := hf2
    have hfd := rfind_any hR10 (by have := HLL.out; omega) (t' + 1)
    obtain ⟨v10, hrow10, _, _⟩ := hR10.row
    have hk10 := cell_row (cur := [_, _, _]) hrow10 1 _ rfl
    rw [hf2] at hfd
    have HPOS : Hid (0 ≤ t') := HP.out.pos
    clear hf2 hrow9 he10 hR10 HO9 HE9 HE8 HR8 HO4 HE4 HP4 HE HP HO hrow10
    go_wp2_with (go_at_call 37; refine hfd.mono ?_; rintro e w11 ⟨rfl, rfl⟩)
    go_roundw
    case rel => exact ⟨n'', t' + 1, less K' t', T ++ [y], c9, f2, HLL.out, by omega, rfl, HF2.out, HT2.out, HE10.out, HR10.out, HO10.out⟩
    case measure =>
     have e1 := HNN.out
     rw [List.length_append] at e1
     have e2 := HTL.out
     simp only [List.length_singleton] at e1
     simp [lenV]
     omega
 | none =>
  have HL : Hid ((keepT K s x).length ≤ nv + 1) := by show _ ≤ _; unfold keepT; rw [hlk, ← HKL.out]; simp
  have HKE : Hid (keepT K s x = K ++ [(s, x)]) := by show _ = _; unfold keepT; rw [hlk]; rfl
  rw [findT_none hlk] at hfs
  have HROW : Hid (W1.heap[b]? = some (.cells #[.int .i64 W, .int .i64 t, .slice pv nv cv] 50)) := hrow1
  have HRK : Hid (Rc EP i c1 W1 (.slice pv nv cv) K) := hRK1
  have HBX : Hid ((Value.slice pv nv cv).ownBlock ≠ some w.heap.size) := fun e => by
   have e1 := (hRK1.own _ e).1
   rw [HN1.out] at e1
   exact hi e1.symm
  have hCB : W1.heap[b]? = some (.cells #[.int .i64 W, .int .i64 t, .slice pv nv cv] 50) ∧ W1.heap[w.heap.size]? = some (.cells #[.int .i64 s, .slice pu ml cu] 52) := ⟨hrow1, hB1⟩
  have HX : Hid (∀ X, Below W1.heap.size W1 X → Sl EU (Cl c1 ix W1) (fun _ => False) X (.slice pu ml cu) x) := fun X hX => (HX1.out.carry (w' := X) (Same.of_below hX fun k hk => hk.2) (Same.of_below hX fun k hk => hk.2) (fun _ hk => hk) fun _ hk => hk).anyD
  clear hlk hRK1 hrow1 hfs0 HX1 hB1
  go_upto_region 4 with (go_at_call 37; refine hfs.mono ?_; rintro e W1 ⟨rfl, rfl⟩)
  clear hfs hq0
  refine wp_region_J 16 (fun X => X.heap[b]? = some (.cells #[.int .i64 W, .int .i64 t, .slice pv nv cv] 50) ∧ X.heap[w.heap.size]? = some (.cells #[.int .i64 s, .slice pu ml cu] 52)) ?_
  change wpJ _ _ _ _ _ _ _ _ _ (World.drew _)
  have HB1 : Hid (Below W1.heap.size W1 W1.drew) := below_drewN (Below.refl _ _) 1
  have hC1 : W1.drew.heap[b]? = some (.cells #[.int .i64 W, .int .i64 t, .slice pv nv cv] 50) ∧ W1.drew.heap[w.heap.size]? = some (.cells #[.int .i64 s, .slice pu ml cu] 52) := hCB
  generalize W1.drew = w1 at *
  refine wpJ_q (i := 0) (d := some 39) (v := .pointer (some ⟨b, 0, none⟩)) rfl ?_
  refine wpJ_q (i := 1) (d := some 40) (v := .pointer (some ⟨b, 0, none⟩)) rfl ?_
  refine wpJ_q (i := 2) (d := some 41) (v := .pointer (some ⟨b, 0, none⟩)) rfl ?_
  refine wpJ_q (i := 3) (d := some 42) (v := .pointer (some ⟨b, 2, none⟩)) rfl ?_
  refine wpJ_r (i := 4) (d := some 43) (v := .slice pv nv cv) rfl (by intro wq hq; have g := cell_row (cur := [_, _, _]) hq.1 2 _ rfl; go_simp; first | done | with_reducible rfl) ?_
  refine wpJ_q (i := 5) (d := some 44) (v := .pointer (some ⟨w.heap.size, 0, none⟩)) rfl ?_
  refine wpJ_r (i := 6) (d := some 45) (v := .int .i64 s) rfl (by intro wq hq; have g := cell_row (cur := [_, _]) hq.2 0 _ rfl; go_simp; first | done | with_reducible rfl) ?_
  refine wpJ_q (i := 8) (d := some 47) (v := .pointer (some ⟨w.heap.size, 1, none⟩)) rfl ?_
  refine wpJ_r (i := 9) (d := some 48) (v := .slice pu ml cu) rfl (by intro wq hq; have g := cell_row (cur := [_, _]) hq.2 1 _ rfl; go_simp; first | done | with_reducible rfl) ?_
  refine wpJ_do (i := 7) (fun _ => hC1) (by kernel_rfl) rfl (by rfl) ?_
  intro K7 hK7
  go_simp
  refine hK7 _ _ ?_
  have hba : Below w1.heap.size w1 (w1.alloc (.cells #[] 5)) := (Below.refl _ _).alloc (Nat.le_refl _) _
  have hC1a := And.intro ((hba.block b (obj_lt hC1.1)).trans hC1.1) ((hba.block _ (obj_lt hC1.2)).trans hC1.2)
  have hXa := HX.out _ (belowP HB1.out hba)
  have hMa : Rw EU (fun k => k = w1.heap.size) (fun _ => False) (w1.alloc (.cells #[] 5)) (.slice (some ⟨w1.heap.size, 0, none⟩) 0 0) [] := Rw.made EU _ w1
  refine wpJ_do (i := 10) (fun _ => hC1a) (by kernel_rfl) rfl (by rfl) ?_
  intro K10 hK10
  refine wp_app (.tmp 46) (.tmp 48) 37 (some 49) rfl rfl Try.underlying37 rfl hMa rfl hXa (by have := HML.out; simp; omega) ?_
  rintro u w2 hg hat ⟨p2, c2, hu⟩ HD
  obtain ⟨hb2, hv2⟩ := copy_end (x := x) hg hat HD.out
  rw [List.nil_append, HML.out] at hu
  subst hu
  have HU : Hid (∀ D', Sl EU (New w1 w2) D' w2 (.slice p2 ml c2) x) := hv2
  have hb12 := belowP HB1.out hb2
  have HB2 : Hid (Below W1.heap.size W1 w2) := hb12
  have hC2 := And.intro ((hb2.block b (obj_lt hC1.1)).trans hC1.1) ((hb2.block _ (obj_lt hC1.2)).trans hC1.2)
  clear hg hat HD hMa hXa hC1a hba hv2 hb12
  refine hK10 _ _ ?_
  refine wpJ_fr ?_
  refine wpJ_do (i := 11) (fun _ => hC2) (by kernel_rfl) rfl (by rfl) ?_
  intro K11 hK11
  go_simp
  refine hK11 _ _ ?_
  have hb23 : Below w2.heap.size w2 (w2.alloc (.cells #[.int .i64 s, .slice p2 ml c2] 52)) := (Below.refl _ _).alloc (Nat.le_refl _) _
  have HONE : Hid (Sl EP (fun k => k = w2.heap.size) (New W1 w2) (w2.alloc (.cells #[.int .i64 s, .slice p2 ml c2] 52)) (.slice (some ⟨w2.heap.size, 0, none⟩) 1 1) [(s, x)]) := Sl.one (E := EP) (x := (s, x)) (cs := [.int .i64 s, .slice p2 ml c2]) ⟨_, rfl, (HU.out (New W1 w2)).carry (Same.refl _ _) (Same.refl _ _) (fun k hk => ⟨Nat.le_trans HB1.out.size hk.1, hk.2⟩) fun _ h => h⟩ fun k hk => hk.2
  have HB3 : Hid (Below W1.heap.size W1 (w2.alloc (.cells #[.int .i64 s, .slice p2 ml c2] 52))) := belowP HB2.out hb23
  have hC3 := And.intro ((hb23.block b (obj_lt hC2.1)).trans hC2.1) ((hb23.block _ (obj_lt hC2.2)).trans hC2.2)
  have HR3 := HRK.out.under HB3.out
  clear HU
  refine wpJ_do (i := 12) (fun _ => hC2) (by kernel_rfl) rfl (by rfl) ?_
  intro K12 hK12
  go_simp
  refine hK12 _ _ ?_
  refine wpJ_do (i := 13) (fun _ => hC3) (by kernel_rfl) rfl (by rfl) ?_
  intro K13 hK13
  refine wp_app (.tmp 43) (.tmp 51) 40 (some 52) rfl rfl Try.underlying40 rfl HR3 rfl HONE.out (by have := HKL.out; simp only [List.length_singleton]; omega) ?_
  rintro v' w4 hg hat ⟨q', c', hv'⟩ HD
  obtain ⟨nn, hnn⟩ : ∃ nn, (K ++ [(s, x)]).length = nn := ⟨_, rfl⟩
  rw [hnn] at hv'
  subst hv'
  clear hnn
  refine hK13 _ _ ?_
  refine wpJ_fr ?_
  obtain ⟨hC4, he4, hR4⟩ := HP1.out.app hi HROW.out HRK.out hne HB3.out hg hat HD.out (fun k hk => .inr ⟨hk.1, by have := hk.2; simp; omega⟩)
  have HE4 := (show Hid _ from he4)
  have HR4 := (show Hid _ from hR4)
  have hC4b : w4.heap[w.heap.size]? = some (.cells #[.int .i64 s, .slice pu ml cu] 52) := (hg.block _ (obj_lt hC3.2) (fun e => HBX.out e.symm)).trans hC3.2
  clear he4 hR4 HD hg hat HR3 HONE
  refine wpJ_do (i := 14) (fun _ => ⟨hC4, hC4b⟩) (by kernel_rfl) rfl (by rfl) ?_
  intro K14 hK14
  go_simp
  refine hK14 _ _ ?_
  refine wpJ_q (i := 15) (d := some 54) (v := .pointer (some ⟨b, 2, none⟩)) rfl ?_
  have hc4 := cell_row (cur := [_, _, _]) hC4 2 _ rfl
  have hz4 := frozen_of_row w4 b 2 _ _ hC4
  refine wpJ_do (i := 16) (fun _ => ⟨hC4, hC4b⟩) (by kernel_rfl) rfl (by rfl) ?_
  intro K16 hK16
  go_simp
  refine hK16 _ _ ?_
  refine wpJ_end ?_
  have HP5 : Hid (RR i (paint c1 W1 (Value.slice q' nn c').ownBlock i) (w4.setCell ⟨b, 2, none⟩ (.slice q' nn c')) b W t (keepT K s x)) := by rw [HKE.out]; exact HR4.out
  have HE5 : Hid (Ev (· = i) col w (paint c1 W1 (Value.slice q' nn c').ownBlock i) (w4.setCell ⟨b, 2, none⟩ (.slice q' nn c'))) := (HE1.out.mono fun _ h => h.elim).trans HE4.out fun _ h => h
  clear hc4 hz4 hC4 hC4b HE4 HR4 HKE HROW HRK HBX HX hC3 hC2 hC1 hb2 hb23 HB1 HB2 HB3
  go_upto_region 5 with fail
  generalize (paint c1 W1 (Value.slice q' nn c').ownBlock i) = c5 at *
  generalize (w4.setCell ⟨b, 2, none⟩ (.slice q' nn c')) = W5 at *
  obtain ⟨K2, hK2⟩ : ∃ K2, keepT K s x = K2 := ⟨_, rfl⟩
  rw [hK2] at HP5 HL HR
  clear hK2
  obtain ⟨j, hj0, hji, hjo⟩ := fresh_col c5 i W5.heap.size
  have HJO : Hid (∀ k, k < W5.heap.size → c5 k ≠ j) := hjo
  have hfd := rfind_any HP5.out (by have := HL.out; omega) t
  obtain ⟨v5, hrow5, _, _⟩ := HP5.out.row
  have hd1 := cell_row (cur := [_, _, _]) hrow5 1 _ rfl
  have HFT : Hid (∀ (v : Value) (c : Nat → Nat) (w' : World) (t' : Int) (K' : Kp) (T : List (List Int)), T = R.1 → (t', K') = R.2 → Ev (fun m => m = i ∨ m = j) c5 W5 c w' → RR i c w' b W t' K' → Rc EB j c w' v T → RTakeP i col w b W t K s x (.returned v) w') := by
   intro v c w' t' K' T e1 e2 h1 h2 h3
   obtain ⟨col', g1, g2, g3⟩ := told_end hj0 hji HJO.out h1 h2 h3
   refine HFIN.out v w' ⟨col', HE5.out.trans g1 fun _ h => h, ?_, ?_⟩
   · rw [← e2]; exact g2
   · rw [← e1]; exact g3
  clear hrow5 hjo HFIN HE5 HJO
  go_upto_region 7 with (go_at_call 37; refine hfd.mono ?_; rintro e W5 ⟨rfl, rfl⟩)
  clear hfd hd1
  go_loopw [5, 6] (fun ov iv wr => ∃ (n' : Nat) (t' : Int) (K' : Kp) (T : List (List Int)) (c : Nat → Nat) (f : Int), K'.length ≤ n' ∧ t' + n' ≤ 200000000 ∧ iv = .int .i64 f ∧ Hid (findT K' t' = f) ∧ Hid (T ++ (runR n' t' K').1 = R.1 ∧ (runR n' t' K').2 = R.2 ∧ T.length + n' ≤ nv + 1) ∧ Hid (Ev (fun m => m = i ∨ m = j) c5 W5 c wr) ∧ Hid (RR i c wr b W t' K') ∧ Hid (Rc EB j c wr ov T)) (fun ov _ _ => nv + 1 - lenV ov)
  case atStart => exact ⟨nv + 1, t, K2, [], c5, _, HL.out, by omega, rfl, rfl, by rw [HR.out]; exact ⟨rfl, rfl, by simp⟩, Ev.refl _ _ _, HP5.out, Rw.nil _ _ _ _⟩
  case round =>
   obtain ⟨n', t', K', T, c, f, hKn, htn, rfl, HF, HT, HE, HP, HO⟩ := hrel
   obtain ⟨qo, co, hqo⟩ := HO.out.slice
   obtain ⟨tl, htl⟩ : ∃ tl, T.length = tl := ⟨_, rfl⟩
   have HTL : Hid (T.length = tl) := htl
   rw [htl] at hqo
   subst hqo
   clear htl
   cases hlk : look K' t' with
   | none =>
    obtain rfl : f = -1 := by rw [← HF.out]; exact findT_none hlk
    have HFN : Hid (RTakeP i col w b W t K s x (.returned (.slice qo tl co)) wr) := by
     have e1 := HT.out.1
     have e2 := HT.out.2.1
     rw [runR_none hlk] at e1 e2
     simp only [List.append_nil] at e1
     exact HFT.out _ c wr t' K' T e1 e2 HE.out HP.out HO.out
    clear hlk HFT
    go_wp2
    go_ret
    exact HFN.out
   | some y =>
    obtain ⟨hpl, hfe⟩ := findT_some hlk
    obtain ⟨n'', rfl⟩ : ∃ k, n' = k + 1 := ⟨n' - 1, by have := less_len hlk; omega⟩
    have HT2 : Hid ((T ++ [y]) ++ (runR n'' (t' + 1) (less K' t')).1 = R.1 ∧ (runR n'' (t' + 1) (less K' t')).2 = R.2 ∧ (T ++ [y]).length + n'' ≤ nv + 1) := by
     obtain ⟨e1, e2, e3⟩ := HT.out
     rw [runR_some hlk] at e1 e2
     refine ⟨by rw [← e1]; simp, e2, by rw [List.length_append]; simp only [List.length_singleton]; omega⟩
    have hnn : n'' ≤ nv := by have e1 := HT2.out.2.2; rw [List.length_append] at e1; simp only [List.length_singleton] at e1; omega
    have HLL : Hid ((less K' t').length ≤ n'') := by show _ ≤ _; have := less_len hlk; omega
    have HLP : Hid (less K' t' = K'.take (placeT K' t') ++ K'.drop (placeT K' t' + 1)) := less_place
    have hat0 := look_at hlk
    obtain ⟨pl, hple⟩ : ∃ pl, placeT K' t' = pl := ⟨_, rfl⟩
    rw [hple] at hpl hfe HLP hat0
    obtain rfl : f = (pl : Int) := by rw [← HF.out]; exact hfe
    obtain ⟨v, hrow, hRK, hne⟩ := HP.out.row
    obtain ⟨pk, ck, e, hck, -, hpk, hcells⟩ := hRK.sl.pieces
    subst e
    obtain ⟨kb, ko, rfl, -⟩ := hpk (by rintro rfl; simp at hpl)
    obtain ⟨uy, hcy, hcy1, hvy⟩ := hcells kb ko rfl pl (t', y) hat0
    obtain ⟨py, cy, rfl⟩ := hvy.lenv
    obtain ⟨ny, hny⟩ : ∃ ny, y.length = ny := ⟨_, rfl⟩
    obtain ⟨kl, hkl⟩ : ∃ kl, K'.length = kl := ⟨_, rfl⟩
    have HKL2 : Hid (K'.length = kl) := hkl
    have HNY : Hid (y.length = ny) := hny
    simp only at hcy1 hvy
    rw [hny] at hcy1 hvy
    rw [hkl] at hrow hRK hne hpl hck hKn
    have HROWr : Hid (wr.heap[b]? = some (.cells #[.int .i64 W, .int .i64 t', .slice (some ⟨kb, ko, none⟩) kl ck] 50)) := hrow
    have HRK2 : Hid (Rc EP i c wr (.slice (some ⟨kb, ko, none⟩) kl ck) K') := hRK
    have HVY : Hid (Vw EU c wr (.slice py ny cy) y) := hvy
    have hr2 := cell_row (cur := [_, _, _]) hrow 2 _ rfl
    have hge : decide ((0 : Int) ≤ (pl : Int)) = true := decide_eq_true (by omega)
    have HOB : Hid (Cl c i wr b) := HP.out.ob
    have htl1 : tl ≤ nv := by have e1 := HTL.out; have e2 := HT.out.2.2; omega
    have hbx : Below wr.heap.size wr (wr.alloc (.cells #[.slice py ny cy] 37)) := (Below.refl _ _).alloc (Nat.le_refl _) _
    have HBX : Hid (Below wr.heap.size wr (wr.alloc (.cells #[.slice py ny cy] 37))) := hbx
    have HONE : Hid (Sl EB (fun k => k = wr.heap.size) (Cl c 0 wr) (wr.alloc (.cells #[.slice py ny cy] 37)) (.slice (some ⟨wr.heap.size, 0, none⟩) 1 1) [y]) := Sl.one (E := EB) (cs := [.slice py ny cy]) ⟨_, rfl, hvy⟩ fun k hk => hk.2
    have HO3 := HO.out.under hbx
    have hT1 : T.length + ([y] : List (List Int)).length ≤ 1000000 := by have := HTL.out; simp only [List.length_singleton]; omega
    clear hlk hat0 hple hfe hrow hRK hcells hpk hcy hkl hny hvy hbx HT HF HFT
    go_upto_region 9 with (first
     | (at_builtin; refine wpList_app rfl (.tmp 63) (.tmp 72) 31 rfl Try.underlying31 rfl HO3 rfl HONE.out hT1 ?_; rintro v' w4 hg hat ⟨q', c', hv'⟩ HD
        obtain ⟨nn, hnn'⟩ : ∃ nn, (T ++ [y]).length = nn := ⟨_, rfl⟩
        have HNN : Hid ((T ++ [y]).length = nn) := hnn'
        rw [hnn'] at hv'
        subst hv'
        obtain ⟨he4, hO4, -⟩ := row_end HO.out hj0 HBX.out hg hat HD.out (fun k hk => .inl hk)
        have HE4 : Hid (Ev (· = j) c wr (paint c wr (Value.slice q' nn c').ownBlock j) w4) := he4
        have HO4 : Hid (Rc EB j (paint c wr (Value.slice q' nn c').ownBlock j) w4 (.slice q' nn c') (T ++ [y])) := hO4
        clear hnn' hg hat HD HO3 HONE he4 hO4))
    clear hcy1 hr2 hge
    obtain ⟨c4, hc4⟩ : ∃ c4, paint c wr (Value.slice q' nn c').ownBlock j = c4 := ⟨_, rfl⟩
    rw [hc4] at HE4 HO4
    clear hc4
    have HP4 : Hid (RR i c4 w4 b W t' K') := HP.out.ev HE4.out (fun h => hj0 h.symm) (fun h => hji h.symm)
    have HROW4 : Hid (w4.heap[b]? = some (.cells #[.int .i64 W, .int .i64 t', .slice (some ⟨kb, ko, none⟩) kl ck] 50)) := (HE4.out.same (fun h => hji h.symm) b HOB.out).trans HROWr.out
    have HBL4 : Hid (b < w4.heap.size) := obj_lt HROW4.out
    have HRK4 : Hid (Rc EP i c4 w4 (.slice (some ⟨kb, ko, none⟩) kl ck) K') := HRK2.out.ev HE4.out (fun h => hj0 h.symm) (fun h => hji h.symm)
    have HPI : Hid _ := IntWalk.i64_in ((pl : Int) + 1) (by have := HP.out.pos; omega)
    have HSU : Hid (∀ X, (Instr.slice 40 (.slice (some ⟨kb, ko, none⟩) kl ck) none (some (.int .i64 (pl : Int))) none).run Try.prog X = .ok (.slice (some ⟨kb, ko, none⟩) pl ck) X) := slice_upto Try.underlying40 _ kl ck pl (by omega) Try.sizeOf52
    have HSP0 : ∀ X, (Instr.slice 40 (.slice (some ⟨kb, ko, none⟩) kl ck) (some (.int .i64 ((pl + 1 : Nat) : Int))) none none).run Try.prog X = .ok (.slice (some ⟨kb, if pl + 1 < ck then ko + (pl + 1) * 2 else ko, none⟩) (kl - (pl + 1)) (ck - (pl + 1))) X := slice_past Try.underlying40 kb ko kl ck (pl + 1) (by omega) hck Try.sizeOf52
    rw [show ((pl + 1 : Nat) : Int) = (pl : Int) + 1 by omega] at HSP0
    have HTK : Hid (∀ X, Below w4.heap.size w4 X → Sl EP (Cl c4 i w4) (Cl c4 0 w4) X (.slice (some ⟨kb, ko, none⟩) pl ck) (K'.take pl)) := fun X hX => Sl.upto (HRK4.out.under hX).sl (by have := HKL2.out; omega)
    have HDK0 : ∀ X, Below w4.heap.size w4 X → Sl EP (Cl c4 i w4) (Cl c4 0 w4) X (.slice (some ⟨kb, if pl + 1 < ck then ko + (pl + 1) * 2 else ko, none⟩) (kl - (pl + 1)) (ck - (pl + 1))) (K'.drop (pl + 1)) := fun X hX => Sl.drop (HRK4.out.under hX).sl (by have := HKL2.out; omega) (fun h => if_pos (by have := HKL2.out; omega))
    obtain ⟨po, hpo⟩ : ∃ po, po = (⟨kb, if pl + 1 < ck then ko + (pl + 1) * 2 else ko, none⟩ : Addr) := ⟨_, rfl⟩
    rw [← hpo] at HSP0 HDK0
    have HSP := (show Hid _ from HSP0)
    have HDK := (show Hid _ from HDK0)
    clear HSP0 HDK0 hpo HROWr HRK2 HOB HVY hne HBX
    refine wp_region_J 19 (fun X => X.heap[b]? = some (.cells #[.int .i64 W, .int .i64 t', .slice (some ⟨kb, ko, none⟩) kl ck] 50)) ?_
    change wpJ _ _ _ _ _ _ _ _ _ (World.drew _)
    have HB6 : Hid (Below w4.heap.size w4 w4.drew) := below_drewN (Below.refl _ _) 1
    have hC6 : w4.drew.heap[b]? = some (.cells #[.int .i64 W, .int .i64 t', .slice (some ⟨kb, ko, none⟩) kl ck] 50) := HROW4.out
    generalize w4.drew = w6 at *
    refine wpJ_q (i := 0) (d := some 74) (v := .pointer (some ⟨b, 0, none⟩)) rfl ?_
    refine wpJ_q (i := 2) (d := some 76) (v := .pointer (some ⟨b, 0, none⟩)) rfl ?_
    refine wpJ_q (i := 3) (d := some 77) (v := .pointer (some ⟨b, 0, none⟩)) rfl ?_
    refine wpJ_q (i := 4) (d := some 78) (v := .pointer (some ⟨b, 2, none⟩)) rfl ?_
    refine wpJ_r (i := 5) (d := some 79) (v := .slice (some ⟨kb, ko, none⟩) kl ck) rfl (by intro wq hq; have g := cell_row (cur := [_, _, _]) hq 2 _ rfl; go_simp; first | done | with_reducible rfl) ?_
    refine wpJ_q (i := 6) (d := some 80) (v := .int .i64 (pl : Int)) rfl ?_
    refine wpJ_r (i := 7) (d := some 81) (v := .slice (some ⟨kb, ko, none⟩) pl ck) rfl (by intro wq hq; have g := HSU.out wq; go_simp; first | done | with_reducible rfl) ?_
    refine wpJ_q (i := 9) (d := some 83) (v := .pointer (some ⟨b, 0, none⟩)) rfl ?_
    refine wpJ_q (i := 10) (d := some 84) (v := .pointer (some ⟨b, 0, none⟩)) rfl ?_
    refine wpJ_q (i := 11) (d := some 85) (v := .pointer (some ⟨b, 2, none⟩)) rfl ?_
    refine wpJ_r (i := 12) (d := some 86) (v := .slice (some ⟨kb, ko, none⟩) kl ck) rfl (by intro wq hq; have g := cell_row (cur := [_, _, _]) hq 2 _ rfl; go_simp; first | done | with_reducible rfl) ?_
    refine wpJ_q (i := 13) (d := some 87) (v := .int .i64 (pl : Int)) rfl ?_
    refine wpJ_r (i := 14) (d := some 88) (v := .int .i64 ((pl : Int) + 1)) rfl (by intro wq hq; have g := HPI.out; go_simp; first | done | with_reducible rfl) ?_
    refine wpJ_r (i := 15) (d := some 89) (v := .slice (some po) (kl - (pl + 1)) (ck - (pl + 1))) rfl (by intro wq hq; have g := HSP.out wq; go_simp; first | done | with_reducible rfl) ?_
    refine wpJ_do (i := 1) (fun _ => hC6) (by kernel_rfl) rfl (by rfl) ?_
    intro K1 hK1
    go_simp
    refine hK1 _ _ ?_
    have hba : Below w6.heap.size w6 (w6.alloc (.cells #[] 52)) := (Below.refl _ _).alloc (Nat.le_refl _) _
    have hC6a := (hba.block b (obj_lt hC6)).trans hC6
    have HB6a : Hid (Below w4.heap.size w4 (w6.alloc (.cells #[] 52))) := belowP HB6.out hba
    have hMa : Nr EP (Cl c4 0 w4) w4 (w6.alloc (.cells #[] 52)) (.slice (some ⟨w6.heap.size, 0, none⟩) 0 0) [] := (Rw.made EP (fun _ => False) w6).carry (Same.refl _ _) (Same.refl _ _) (fun k e hk => ⟨by rw [hk]; exact HB6.out.size, by rw [hk]; simp⟩) fun _ h => h.elim
    have hTa := HTK.out _ HB6a.out
    refine wpJ_do (i := 8) (fun _ => hC6a) (by kernel_rfl) rfl (by rfl) ?_
    intro K8 hK8
    refine wp_app (.tmp 75) (.tmp 81) 40 (some 82) rfl rfl Try.underlying40 rfl hMa rfl hTa (by have := HKL2.out; rw [List.length_take]; simp only [List.length_nil]; omega) ?_
    rintro v7 w7 hg hat ⟨q7, c7, hv7⟩ HD
    obtain ⟨hn7, hb7⟩ := hMa.app HB6a.out.size hg hat (fun _ hk => hk.2) HD.out (fun k hk => ⟨.inl hk, fun e => by have e2 : w6.heap.size = k := Option.some.inj e; have := hk.2; have := HB6.out.size; omega⟩)
    rw [List.nil_append] at hn7 hv7
    obtain ⟨n7, hn7'⟩ : ∃ n7, (K'.take pl).length = n7 := ⟨_, rfl⟩
    rw [hn7'] at hv7
    subst hv7
    have HB7 : Hid (Below w4.heap.size w4 w7) := HB6a.out.trans hb7
    have hC7 := (HB7.out.block b HBL4.out).trans HROW4.out
    clear hn7' hg hat HD hMa hTa hC6a hba hb7
    refine hK8 _ _ ?_
    refine wpJ_fr ?_
    have hTb := HDK.out _ HB7.out
    refine wpJ_do (i := 16) (fun _ => hC7) (by kernel_rfl) rfl (by rfl) ?_
    intro K16 hK16
    refine wp_app (.tmp 82) (.tmp 89) 40 (some 90) rfl rfl Try.underlying40 rfl hn7 rfl hTb (by have := HKL2.out; rw [List.length_take, List.length_drop]; omega) ?_
    rintro v8 w8 hg hat ⟨q8, c8, hv8⟩ HD
    obtain ⟨hn8, hb8⟩ := hn7.app HB7.out.size hg hat (fun _ hk => hk.2) HD.out (fun k hk => ⟨.inl hk, fun e => by have := (hn7.own k e).1; have := hk.2; omega⟩)
    rw [← HLP.out] at hn8 hv8
    obtain ⟨n8, hn8'⟩ : ∃ n8, (less K' t').length = n8 := ⟨_, rfl⟩
    rw [hn8'] at hv8
    subst hv8
    obtain ⟨hC8, he8, hR8⟩ := HP4.out.put hi HROW4.out (HB7.out.trans hb8) hn8
    have HE8 := (show Hid _ from he8)
    have HR8 := (show Hid _ from hR8)
    clear hn8' hg hat HD hn7 hn8 hTb hb8 he8 hR8
    refine hK16 _ _ ?_
    refine wpJ_fr ?_
    refine wpJ_do (i := 17) (fun _ => hC8) (by kernel_rfl) rfl (by rfl) ?_
    intro K17 hK17
    go_simp
    refine hK17 _ _ ?_
    refine wpJ_q (i := 18) (d := some 92) (v := .pointer (some ⟨b, 2, none⟩)) rfl ?_
    have hc8 := cell_row (cur := [_, _, _]) hC8 2 _ rfl
    have hz8 := frozen_of_row w8 b 2 _ _ hC8
    refine wpJ_do (i := 19) (fun _ => hC8) (by kernel_rfl) rfl (by rfl) ?_
    intro K19 hK19
    go_simp
    refine hK19 _ _ ?_
    refine wpJ_end ?_
    obtain ⟨c9, hc9⟩ : ∃ c9, paint c4 w4 (Value.slice q8 n8 c8).ownBlock i = c9 := ⟨_, rfl⟩
    rw [hc9] at HE8 HR8
    clear hc9 hc8 hz8 hC8 hC7 hC6 HB7 HB6 HB6a HTK HDK HSU HSP HPI HRK4 HROW4 HBL4 HKL2 HNY HLP
    generalize w8.setCell ⟨b, 2, none⟩ (.slice q8 n8 c8) = w9 at *
    have HO9 : Hid (Rc EB j c9 w9 (.slice q' nn c') (T ++ [y])) := HO4.out.ev HE8.out (fun h => hi h.symm) hji
    have HE9 : Hid (Ev (fun m => m = i ∨ m = j) c5 W5 c9 w9) := (HE.out.trans HE4.out fun _ h => .inr h).trans HE8.out fun _ h => .inl h
    obtain ⟨v9, hrow9, _, _⟩ := HR8.out.row
    have hk1 := cell_row (cur := [_, _, _]) hrow9 1 _ rfl
    have hz1 := frozen_of_row w9 b 1 _ _ hrow9
    have hti := IntWalk.i64_in (t' + 1) (by have := HP.out.pos; omega)
    obtain ⟨he10, hR10⟩ := HR8.out.next hi
    have HR10 := (show Hid _ from hR10)
    have HO10 : Hid (Rc EB j c9 (w9.setCell ⟨b, 1, none⟩ (.int .i64 (t' + 1))) (.slice q' nn c') (T ++ [y])) := HO9.out.ev he10 (fun h => hi h.symm) hji
    have HE10 : Hid (Ev (fun m => m = i ∨ m = j) c5 W5 c9 (w9.setCell ⟨b, 1, none⟩ (.int .i64 (t' + 1)))) := HE9.out.trans he10 fun _ h => .inl h
    obtain ⟨f2, hf2⟩ : ∃ f2, findT (less K' t') (t' + 1) = f2 := ⟨_, rfl⟩
    have HF2 : Hid (findT (less K' t') (t' + 1) = f2) := hf2
    have hfd := rfind_any hR10 (by have := HLL.out; omega) (t' + 1)
    obtain ⟨v10, hrow10, _, _⟩ := hR10.row
    have hk10 := cell_row (cur := [_, _, _]) hrow10 1 _ rfl
    rw [hf2] at hfd
    have HPOS : Hid (0 ≤ t') := HP.out.pos
    clear hf2 hrow9 he10 hR10 HO9 HE9 HE8 HR8 HO4 HE4 HP4 HE HP HO hrow10
    go_wp2_with (go_at_call 37; refine hfd.mono ?_; rintro e w11 ⟨rfl, rfl⟩)
    go_roundw
    case rel => exact ⟨n'', t' + 1, less K' t', T ++ [y], c9, f2, HLL.out, by omega, rfl, HF2.out, HT2.out, HE10.out, HR10.out, HO10.out⟩
    case measure =>
     have e1 := HNN.out
     rw [List.length_append] at e1
     have e2 := HTL.out
     simp only [List.length_singleton] at e1
     simp [lenV]
     omega
theorem rtake_far (h : RR i col w b W t K) (hi : i ≠ 0) (hK : K.length ≤ 90000) (htt : t ≤ 100000000) {ix : Nat} {u : Value} (hx : Vi EU ix col w u x) (hs : wf64 s) (hl : x.length ≤ 1000000) : Calls Try.prog 25 #[.pointer (some ⟨b, 0, none⟩), .agg #[.int .i64 s, u]] w (RTakeP i col w b W t K s x) := by
 cases hy : (nearT W t s && decide (x.length ≤ 1048576)) with
 | false => exact rtake_no h (by omega) hx hs (by omega) hy
 | true => exact rtake_yes h hi hK htt hl hx hy
end
end Go.Proofs.Ytnhgjgoldcplnaa

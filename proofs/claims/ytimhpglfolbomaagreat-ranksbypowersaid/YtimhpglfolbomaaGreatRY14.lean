/-
  How far back in a line a place stands: by a contract.
  What each of some places leans on, by where it stands among them: by a contract.
  Comparisons: by contracts.
  In which order places are ranked: as plain functions.
-/
import Derived.Test.YtimhpglfolbomaaGreatRY13
import Derived.Maps.OwnIn
set_option maxRecDepth 100000
set_option maxHeartbeats 16000000
namespace Go.Proofs.YtimhpglfolbomaaGreat.Od
open Go.RowKit Go.Maps Go.Shelf
section
attribute [local go_sem] Oper.semAt_some
def nearT (F : Int → Option Int) (k0 : Int) : List Nat → Int
 | [] => k0
 | x :: r => match F (x : Int) with | some c => c | none => nearT F k0 r
def goneT (F : Int → Option Int) : List Nat → List Nat
 | [] => []
 | x :: r => match F (x : Int) with | some _ => [] | none => x :: goneT F r
theorem near_all {F : Int → Option Int} {k0 : Int} : ∀ {l : List Nat}, (∀ x ∈ l, F (x : Int) = none) → nearT F k0 l = k0 ∧ goneT F l = l
 | [], _ => ⟨rfl, rfl⟩
 | x :: r, h => by
  obtain ⟨h1, h2⟩ := near_all (k0 := k0) (l := r) fun y hy => h y (List.mem_cons_of_mem _ hy)
  unfold nearT goneT
  rw [h x (List.mem_cons_self ..)]
  exact ⟨h1, by simp only [h2]⟩
theorem near_hit {F : Int → Option Int} {k0 c : Int} {x : Nat} {t : List Nat} (hx : F (x : Int) = some c) : ∀ {l : List Nat}, (∀ y ∈ l, F (y : Int) = none) → nearT F k0 (l ++ x :: t) = c ∧ goneT F (l ++ x :: t) = l
 | [], _ => by
  simp only [List.nil_append]
  unfold nearT goneT
  rw [hx]
  exact ⟨rfl, rfl⟩
 | y :: r, h => by
  obtain ⟨h1, h2⟩ := near_hit (k0 := k0) (t := t) hx (l := r) fun z hz => h z (List.mem_cons_of_mem _ hz)
  simp only [List.cons_append]
  unfold nearT goneT
  rw [h y (List.mem_cons_self ..)]
  exact ⟨h1, by simp only [h2]⟩
theorem at_alloc {w : World} {o o' : Obj} {k : Nat} (h : w.heap[k]? = some o') : (w.alloc o).heap[k]? = some o' := (Below.heap_alloc _ _ _ (objP_lt h)).trans h
theorem new_at (w : World) (o : Obj) {k : Nat} (h : w.heap.size = k) : (w.alloc o).heap[k]? = some o := by rw [← h]; exact newP o
theorem six_at {w : World} {s : Nat} (hs : w.heap.size = s) (o0 o1 o2 o3 o4 o5 : Obj) {W : World} (hW : W = (((((w.alloc o0).alloc o1).alloc o2).alloc o3).alloc o4).alloc o5) :
    Below s w W ∧ W.heap.size = s + 6 ∧ W.heap[s]? = some o0 ∧ W.heap[s + 1]? = some o1 ∧ W.heap[s + 2]? = some o2 ∧ W.heap[s + 3]? = some o3 ∧ W.heap[s + 4]? = some o4 ∧ W.heap[s + 5]? = some o5 := by
 have s1 : (w.alloc o0).heap.size = s + 1 := by rw [World.size_alloc, hs]
 have s2 : ((w.alloc o0).alloc o1).heap.size = s + 2 := by rw [World.size_alloc, s1]
 have s3 : (((w.alloc o0).alloc o1).alloc o2).heap.size = s + 3 := by rw [World.size_alloc, s2]
 have s4 : ((((w.alloc o0).alloc o1).alloc o2).alloc o3).heap.size = s + 4 := by rw [World.size_alloc, s3]
 have s5 : (((((w.alloc o0).alloc o1).alloc o2).alloc o3).alloc o4).heap.size = s + 5 := by rw [World.size_alloc, s4]
 subst hW
 refine ⟨?_, by rw [World.size_alloc, s5], at_alloc (at_alloc (at_alloc (at_alloc (at_alloc (new_at _ _ hs))))), at_alloc (at_alloc (at_alloc (at_alloc (new_at _ _ s1)))), at_alloc (at_alloc (at_alloc (new_at _ _ s2))), at_alloc (at_alloc (new_at _ _ s3)), at_alloc (new_at _ _ s4), new_at _ _ s5⟩
 rw [← hs]
 exact ((((((Below.refl _ w).alloc (Nat.le_refl _) _).alloc (by omega) _).alloc (by omega) _).alloc (by omega) _).alloc (by omega) _).alloc (by omega) _
theorem way_small {p : Pa} (hr : backT p.auth p.evs.length = true) (i : Int) : ∀ x ∈ wayT p i, x < p.evs.length := by
 have key : ∀ m x, x < p.evs.length → x ≤ m → ∀ y ∈ lineT p x, y < p.evs.length := by
  intro m
  induction m with
  | zero =>
   intro x hx hm y hy
   rw [lineT_eq hr] at hy
   rcases List.mem_cons.1 hy with rfl | hy
   · exact hx
   · cases hj : leansT p x tPower with
     | none => rw [hj] at hy; cases hy
     | some j => exact absurd (leans_lt hr hj) (by omega)
  | succ m ih =>
   intro x hx hm y hy
   rw [lineT_eq hr] at hy
   rcases List.mem_cons.1 hy with rfl | hy
   · exact hx
   · cases hj : leansT p x tPower with
     | none => rw [hj] at hy; cases hy
     | some j =>
      rw [hj] at hy
      have := leans_lt hr hj
      exact ih j (by omega) (by omega) y hy
 intro x hx
 unfold wayT at hx
 split at hx
 · rename_i h
   exact key i.toNat i.toNat (by omega) (Nat.le_refl _) x hx
 · cases hx
def putAll (F : Int → Option Int) (c : Int) (l : List Int) : Int → Option Int := fun x => if x ∈ l then some c else F x
theorem putAll_nil (F : Int → Option Int) (c : Int) : putAll F c [] = F := by funext x; unfold putAll; simp
theorem putAll_snoc (F : Int → Option Int) (c : Int) (l : List Int) (x : Int) : putAll F c (l ++ [x]) = more (putAll F c l) x c := by
 funext y
 unfold putAll more
 by_cases e : y = x
 · rw [if_pos (by simp [e]), if_pos e]
 · rw [if_neg e]
   by_cases hl : y ∈ l
   · show _ = if y ∈ l then some c else F y
     rw [if_pos (by simp [hl]), if_pos hl]
   · show _ = if y ∈ l then some c else F y
     rw [if_neg (by simp [hl, e]), if_neg hl]
structure NearI (WR : World) (s : Nat) (F : Int → Option Int) (pre : List Nat) (W : World) : Prop where
 keep : Keep (fun k => k = s + 3 ∨ s + 6 ≤ k) WR W
 gone : ∃ v, W.heap[s + 3]? = some (.cells #[v] 28 (0, 0)) ∧ W.ownsRow (s + 6) 3 1 v (zs (pre.map (· % 64))).length ((zs (pre.map (· % 64))).map (Value.int .i64))
 none : ∀ x ∈ pre, F ((x % 64 : Nat) : Int) = none
structure NearX (WR : World) (s : Nat) (F : Int → Option Int) (pre : List Nat) (W : World) : Prop where
 keep : Keep (fun k => k = s + 2 ∨ k = s + 3 ∨ s + 6 ≤ k) WR W
 hit : ∃ pre' x c, pre = pre' ++ [x] ∧ (∀ y ∈ pre', F ((y % 64 : Nat) : Int) = Option.none) ∧ F ((x % 64 : Nat) : Int) = some c ∧ W.heap[s + 2]? = some (.cells #[.int .i64 c] 3 (0, 0)) ∧ ∃ v, W.heap[s + 3]? = some (.cells #[v] 28 (0, 0)) ∧ W.ownsRow (s + 6) 3 1 v (zs (pre'.map (· % 64))).length ((zs (pre'.map (· % 64))).map (Value.int .i64))
structure NearD (WR : World) (s : Nat) (kk : Int) (gg : List Nat) (W : World) : Prop where
 keep : Keep (fun k => k = s + 2 ∨ k = s + 3 ∨ s + 6 ≤ k) WR W
 near : W.heap[s + 2]? = some (.cells #[.int .i64 kk] 3 (0, 0))
 gone : ∃ v, W.heap[s + 3]? = some (.cells #[v] 28 (0, 0)) ∧ W.ownsRow (s + 6) 3 1 v (zs gg).length ((zs gg).map (Value.int .i64))
theorem mod_small {l : List Nat} (h : ∀ x ∈ l, x < 64) : l.map (· % 64) = l := by
 induction l with
 | nil => rfl
 | cons a r ih => rw [List.map_cons, ih fun x hx => h x (List.mem_cons_of_mem _ hx), Nat.mod_eq_of_lt (h a (List.mem_cons_self ..))]
theorem NearI.done {WR W : World} {s : Nat} {k0 : Int} {F : Int → Option Int} {l : List Nat} (h : NearI WR s F l W) (hl : ∀ x ∈ l, x < 64) (hs : WR.heap.size = s + 6) (h2 : WR.heap[s + 2]? = some (.cells #[.int .i64 k0] 3 (0, 0))) : NearD WR s (nearT F k0 l) (goneT F l) W := by
 obtain ⟨e1, e2⟩ := near_all (F := F) (k0 := k0) (l := l) fun x hx => by have := h.none x hx; rwa [Nat.mod_eq_of_lt (hl x hx)] at this
 have hg := h.gone
 rw [mod_small hl] at hg
 rw [e1, e2]
 exact ⟨h.keep.mono fun k _ hk => .inr hk, (h.keep.block (s + 2) (by omega) (by omega)).trans h2, hg⟩
theorem NearX.stop {WR W : World} {s : Nat} {k0 : Int} {F : Int → Option Int} {pre l : List Nat} (h : NearX WR s F pre W) (hp : pre <+: l) (hl : ∀ x ∈ l, x < 64) : NearD WR s (nearT F k0 l) (goneT F l) W := by
 obtain ⟨hk, pre', x, c, rfl, h1, h2, h3, h4⟩ := h
 obtain ⟨t, rfl⟩ := hp
 have hlp : ∀ y ∈ pre', y < 64 := fun y hy => hl y (by simp [hy])
 rw [Nat.mod_eq_of_lt (hl x (by simp))] at h2
 obtain ⟨e1, e2⟩ := near_hit (F := F) (k0 := k0) (t := t) h2 (l := pre') fun y hy => by have := h1 y hy; rwa [Nat.mod_eq_of_lt (hlp y hy)] at this
 rw [mod_small hlp] at h4
 rw [show pre' ++ [x] ++ t = pre' ++ x :: t by simp, e1, e2]
 exact ⟨hk, h3, h4⟩
theorem keep_own {β : Type} {S : Nat → Prop} {B : Nat} {w₀ : World} (hS : ∀ k, B ≤ k → S k) : OwnFrom B (fun (_ : β) W => Keep S w₀ W) :=
 fun _ _ _ _ hs hg hr => ⟨hg.os.trans hs.os, hg.tape.trans hs.tape, hg.output.trans hs.output, Nat.le_trans hs.size hg.size, fun k hk hk2 => (hg.block k (Nat.lt_of_lt_of_le hk hs.size) (fun e => hk2 (hS k (hr k e.symm).1))).trans (hs.block k hk hk2)⟩
theorem row_own {A B' : World} {B n : Nat} {v : Value} {xs : List Value} {row : Option Nat} (h : A.ownsRow B 3 1 v n xs) (hg : A.grownBy B' row) (hr : ∀ r, row = some r → B ≤ r ∧ ∃ o : Obj, A.heap[r]? = some o ∧ o.isCells = false) : B'.ownsRow B 3 1 v n xs := by
 refine h.kept hg ?_
 rcases h.2 with ⟨rfl, _⟩ | ⟨g, cap, cur, rfl, _, hgg, _⟩
 · exact .inl rfl
 · refine .inr fun e => ?_
   obtain ⟨_, o, ho, hc⟩ := hr g e.symm
   rw [hgg] at ho
   cases ho
   cases hc
theorem obj_own {A B' : World} {B k : Nat} {o : Obj} {row : Option Nat} (h : A.heap[k]? = some o) (hk : k < B) (hg : A.grownBy B' row) (hr : ∀ r, row = some r → B ≤ r ∧ ∃ o : Obj, A.heap[r]? = some o ∧ o.isCells = false) : B'.heap[k]? = some o :=
 (hg.block k (objP_lt h) fun e => by have := (hr k e.symm).1; omega).trans h
theorem nearI_own (WR : World) (s : Nat) (F : Int → Option Int) : OwnFrom (s + 6) (NearI WR s F) := fun pre A B row hs hg hr => by
 obtain ⟨v, hv, ho⟩ := hs.gone
 exact ⟨keep_own (β := Unit) (fun k hk => .inr hk) () A B row hs.keep hg hr, ⟨v, obj_own hv (by omega) hg hr, row_own ho hg hr⟩, hs.none⟩
theorem nearX_own (WR : World) (s : Nat) (F : Int → Option Int) : OwnFrom (s + 6) (NearX WR s F) := fun pre A B row hs hg hr => by
 obtain ⟨hk, pre', x, c, e, h1, h2, h3, v, hv, ho⟩ := hs
 exact ⟨keep_own (β := Unit) (fun k hk => .inr (.inr hk)) () A B row hk hg hr, pre', x, c, e, h1, h2, obj_own h3 (by omega) hg hr, v, obj_own hv (by omega) hg hr, row_own ho hg hr⟩
theorem box_set {W : World} {B : Nat} {v : Value} {t : TypeId} (v' : Value) (h : W.heap[B]? = some (.cells #[v] t (0, 0))) : (W.setCell ⟨B, 0, none⟩ v').heap[B]? = some (.cells #[v'] t (0, 0)) := by
 obtain ⟨hlt, hk⟩ := Array.getElem?_eq_some_iff.1 h
 show (W.heap.modify B _)[B]? = _
 rw [Array.getElem?_eq_getElem (by rw [Array.size_modify]; exact hlt), Array.getElem_modify_self, hk]
 rfl
theorem row_cells {w : World} {B n : Nat} {v : Value} {xs : List Value} (h : w.ownsRow B 3 1 v n xs) {j : Nat} {o : Obj} (hj : v.ownBlock = some j) (ho : w.heap[j]? = some o) : o.isCells = true := by
 rcases h.2 with ⟨rfl, _⟩ | ⟨g, cap, cur, rfl, _, hgg, _⟩
 · cases hj
 · cases hj
   rw [hgg] at ho
   cases ho
   rfl
theorem near_wf {F : Int → Option Int} {k0 : Int} (hF : ∀ x c, F x = some c → wf64 c) (h0 : wf64 k0) : ∀ l : List Nat, wf64 (nearT F k0 l)
 | [] => h0
 | x :: r => by
  unfold nearT
  cases hx : F (x : Int) with
  | some c => exact hF _ _ hx
  | none => exact near_wf hF h0 r
theorem gone_len (F : Int → Option Int) : ∀ l : List Nat, (goneT F l).length ≤ l.length ∧ ∀ x ∈ goneT F l, x ∈ l
 | [] => ⟨Nat.le_refl _, fun x hx => hx⟩
 | x :: r => by
  obtain ⟨h1, h2⟩ := gone_len F r
  unfold goneT
  cases hx : F (x : Int) with
  | some c => exact ⟨by simp, fun y hy => by cases hy⟩
  | none =>
   refine ⟨by simp only [List.length_cons]; omega, fun y hy => ?_⟩
   rcases List.mem_cons.1 hy with rfl | hy
   · exact List.mem_cons_self ..
   · exact List.mem_cons_of_mem _ (h2 y hy)
theorem way_len {p : Pa} (hz : SzPa p) (hr : backT p.auth p.evs.length = true) (i : Int) : (wayT p i).length ≤ 30 := by
 unfold wayT
 split
 · rename_i h
   have := lineT_len hr i.toNat
   have := hz.evs
   omega
 · simp
theorem leaves_mark1 {fn : Func} {tmps : Array Value} {r : Tmp} {R : Ending → World → Prop} (hf : fn.results = #[.tmp r]) {D : Nat} {W : World} {v : Value} (ht : tmps.getD r undef = v) (hK : W.heap[D]? = some (.deferred (some []))) (hR : R (.returned v) (W.putObj D (.deferred none))) :
    LeavesInM Fence.wide 3 Tryz.prog fn tmps R [{ target := .collected D, args := #[] }] .returning W := by
 refine ⟨by simp, .inl ⟨D, W.putObj D (.deferred none), rfl, run_takeDeferred hK, v, ?_, hR⟩⟩
 rw [Array.getD_eq_getD_getElem?] at ht
 simp [results, hf, ht]
section
variable {nF : Nat} {F0 : Fence} {w : World} {ops : Array Oper} {rest : List Oper} {o : Oper} {a : Act} {Q : Exit → Act → World → Prop}
theorem wpListIn_lookupI (hg : o.guard = none) (m x : Operand) (hop : o.op = Op.lookup 66 m x true) (b N : Nat) (f : Int → Option Int) (hm : a.eval m = .map (some b)) (h : MapI w b N f) (z : Int) (hz : wf64 z) (hx : a.eval x = .int .i64 z)
    (hK : wpListIn F0 nF Tryz.prog ops Q rest (a.put o.dst (.tuple #[.int .i64 ((f z).getD 0), .bool (f z).isSome])) w) : wpListIn F0 nF Tryz.prog ops Q (o :: rest) a w := by
 obtain ⟨D, h1, h2⟩ := h
 refine wpListIn_lookup_own_ok_int w hg m x 66 hop 3 3 .i64 lawI Tryz.underlying66 Tryz.underlying3 (zero3 _) b N D hm h1 _ _ hx (keyI hz) ?_
 intro c hat _
 obtain ⟨e1, e2⟩ := unM_look h2 hz hat
 rw [e1, e2]
 exact hK
theorem wpListIn_pushI (hgd : o.guard = none) (s x : Operand) (ho : o.op = .call { callee := .builtin .append, args := #[s, x], argTypes := #[28, 28] }) (base : Nat) (v : Value) (L : List Int) (hs : a.eval s = v) (hown : w.ownsRow base 3 1 v L.length (L.map (Value.int .i64)))
    (ad : Addr) (y : Int) (hx : a.eval x = .slice (some ad) 1 1) (hc : w.cell? ad = some (.int .i64 y)) (hlen : L.length ≤ 1000000000) (hbase : base ≤ w.heap.size)
    (h : ∀ v' w', w'.ownsRow base 3 1 v' (L ++ [y]).length ((L ++ [y]).map (Value.int .i64)) → w.grownBy w' v.ownBlock → wpListIn F0 nF Tryz.prog ops Q rest (a.put o.dst v') w') : wpListIn F0 nF Tryz.prog ops Q (o :: rest) a w := by
 obtain ⟨i0, hi, hz0, hz1, hz2⟩ := info_parts Tryz.info3
 refine wpListIn_append_own w hgd s x 28 ho base 3 i0 (.int .i64 0) 1 8 Tryz.underlying28 hi hz0 hz1 hz2 rfl (by decide) v L.length (L.map (Value.int .i64)) hs hown ad 1 1 [.int .i64 y] hx rfl (fun j u hj => ?_) (fun u hu => ?_) (by unfold maxLen; omega) (by omega) hbase ?_
 · match j, hj with
   | 0, hj => simp at hj; subst hj; simpa [Addr.add] using hc
 · simp at hu; subst hu; rfl
 · intro v' w' hown' hgrow _
   exact h v' w' (by rw [List.length_append, List.map_append]; exact hown') hgrow
end
theorem near_any {w : World} {p : Pa} {q : Pq} {mb N : Nat} {k0 : Int} {F : Int → Option Int} (h : IsPa (· < w.heap.size) w p q) (hz : SzPa p) (hr : backT p.auth p.evs.length = true) (hm : MapI w mb N F) (hN : N ≤ 1000) (hF : ∀ x c, F x = some c → wf64 c) (hk0 : wf64 k0) (i : Int) :
    Calls Tryz.prog 55 #[.agg #[.map (some mb), .int .i64 k0], valPa p q, .int .i64 i] w fun e w' => e = .returned (.int .i64 (nearT F k0 (wayT p i))) ∧ (∃ N' F', N' ≤ N + 31 ∧ MapI w' mb N' F' ∧ ∀ x, F' x = if x ∈ zs (goneT F (wayT p i)) then some (nearT F k0 (wayT p i)) else F x) ∧ Keep (· = mb) w w' := by
 obtain ⟨s, hs⟩ : ∃ s, w.heap.size = s := ⟨_, rfl⟩
 obtain ⟨WR, hWR⟩ : ∃ WR, WR = (((((w.alloc (.cells #[.map (some mb), .int .i64 k0] 81)).alloc (.cells (cellsPa p q).toArray 27)).alloc (.cells #[.int .i64 k0] 3)).alloc (.cells #[.slice none 0 0] 28)).alloc (.cells (cellsPa p q).toArray 27)).alloc (.cells #[.int .i64 i] 3) := ⟨_, rfl⟩
 obtain ⟨hbR, hsR, hB0, hB1, hB2, hB3, hB4, hB5⟩ := six_at hs _ _ _ _ _ _ hWR
 have HWF1 : Hid (∀ x ∈ wayT p i, x < 64) := fun x hx => by have := way_small hr i x hx; have := hz.evs; omega
 obtain ⟨KK, hKK⟩ : ∃ KK, nearT F k0 (wayT p i) = KK := ⟨_, rfl⟩
 obtain ⟨GG, hGG⟩ : ∃ GG, goneT F (wayT p i) = GG := ⟨_, rfl⟩
 have HKK : Hid (nearT F k0 (wayT p i) = KK ∧ goneT F (wayT p i) = GG) := ⟨hKK, hGG⟩
 have HKW : Hid (wf64 KK) := by show wf64 KK; rw [← hKK]; exact near_wf hF hk0 _
 have hGn : (zs GG).length ≤ 30 := by rw [zs_len, ← hGG]; exact Nat.le_trans (gone_len F _).1 (way_len hz hr i)
 have HGX : Hid (∀ x ∈ zs GG, wf64 x) := fun x hx => by
  simp only [zs, List.mem_map] at hx
  obtain ⟨y, hy, rfl⟩ := hx
  rw [← hGG] at hy
  have := HWF1.out y ((gone_len F _).2 y hy)
  unfold wf64
  omega
 rw [hKK, hGG]
 clear hKK hGG
 have HIS : Hid (IsPa (· < w.heap.size) w p q) := h
 have HB : Hid (WR.heap[s]? = some (.cells #[.map (some mb), .int .i64 k0] 81 (0, 0)) ∧ WR.heap[s + 1]? = some (.cells (cellsPa p q).toArray 27 (0, 0)) ∧ WR.heap[s + 2]? = some (.cells #[.int .i64 k0] 3 (0, 0)) ∧ WR.heap[s + 3]? = some (.cells #[.slice none 0 0] 28 (0, 0)) ∧ WR.heap[s + 4]? = some (.cells (cellsPa p q).toArray 27 (0, 0)) ∧ WR.heap[s + 5]? = some (.cells #[.int .i64 i] 3 (0, 0))) := ⟨hB0, hB1, hB2, hB3, hB4, hB5⟩
 clear h hB0 hB1 hB2 hB3 hB4 hB5
 refine callsIn_wide.1 (callsIn_of_wp_marks (n := 3) Tryz.func55 rfl trivial (wpIn_wide.2 ?_) rfl)
 have HWF : Hid (∀ X : World, Calls Tryz.prog 53 #[.agg (cellsPa p q).toArray, .int .i64 i] X fun e w' => e = .returned (.func (.func 87) #[] #[.pointer (some ⟨X.heap.size + 1, 0, none⟩), .pointer (some ⟨X.heap.size, 0, none⟩)]) ∧ w' = (X.alloc (.cells (cellsPa p q).toArray 27)).alloc (.cells #[.int .i64 i] 3)) := fun X => way_fn i
 have HLD : Hid (∀ X : World, X.heap[s + 1]? = some (.cells (cellsPa p q).toArray 27 (0, 0)) → (Instr.loadAt 27 (.pointer (some ⟨s + 1, 0, none⟩))).run Tryz.prog X = .ok (.agg (cellsPa p q).toArray) X) := fun X hX => run_loadAt_mid X (s + 1) 0 27 (cellsPa p q) _ (rangeK_of hX) Tryz.underlying27 rfl infoPa
 simp only [Tryz.ntmps55, List.size_toArray, List.length_cons, List.length_nil, Nat.reduceAdd, Nat.reduceSub, Array.replicate_succ, Array.replicate_zero, List.push_toArray, List.append_toArray, List.nil_append, List.cons_append]
 unfold valPa
 have HWR : Hid (WR = (((((w.alloc (.cells #[.map (some mb), .int .i64 k0] 81)).alloc (.cells (cellsPa p q).toArray 27)).alloc (.cells #[.int .i64 k0] 3)).alloc (.cells #[.slice none 0 0] 28)).alloc (.cells (cellsPa p q).toArray 27)).alloc (.cells #[.int .i64 i] 3)) := hWR
 clear hWR
 obtain ⟨CP, hCP⟩ : ∃ CP, cellsPa p q = CP := ⟨_, rfl⟩
 have HCP : Hid (cellsPa p q = CP) := hCP
 rw [hCP] at HB HWF HLD HWR ⊢
 clear hCP
 go_upto_region 3 with fail
 simp only [Nat.add_assoc, Nat.reduceAdd]
 obtain ⟨W3, hW3⟩ : ∃ W3, W3 = (((w.alloc (.cells #[.map (some mb), .int .i64 k0] 81)).alloc (.cells CP.toArray 27)).alloc (.cells #[.int .i64 k0] 3)).alloc (.cells #[.slice none 0 0] 28) := ⟨_, rfl⟩
 rw [← hW3]
 have HWR3 : Hid (WR = (W3.alloc (.cells CP.toArray 27)).alloc (.cells #[.int .i64 i] 3)) := by show _ = _; rw [HWR.out, hW3]
 have hs3 : W3.heap.size = s + 4 := by rw [hW3]; simp only [World.size_alloc, hs]
 have h31 : W3.heap[s + 1]? = some (.cells CP.toArray 27 (0, 0)) := by rw [hW3]; exact at_alloc (at_alloc (new_at _ _ (by rw [World.size_alloc, hs])))
 clear hW3 HWR
 go_wp2_with (first
  | (refine wpList_loadK rfl 27 _ rfl (s + 1) 0 rfl CP (HLD.out _ h31) ?_)
  | (go_at_call 53; refine (HWF.out _).mono ?_; rintro e w1 ⟨rfl, hw1⟩; have HW1 := (show Hid _ from hw1); clear hw1))
 have e1 : w1 = WR := HW1.out.trans HWR3.out.symm
 rw [e1]
 clear e1 hs3 h31 HW1 HWR3
 simp only [Nat.add_assoc, Nat.reduceAdd]
 refine (wpIn_wide (n := 3)).1 ?_
 have HP : Hid (∀ k, (k < s ∨ k = s + 4 ∨ k = s + 5) → k < WR.heap.size) := fun k hk => by omega
 have hRP : IsPa (fun k => k < s ∨ k = s + 4 ∨ k = s + 5) WR p q := HIS.out.carry fun k hk => ⟨.inl (hs ▸ hk), hbR.block k (hs ▸ hk)⟩
 have hmb := hm.lt
 have HSM : Hid (∀ x ∈ wayT p i, x < 64) := HWF1
 have HM : Hid (MapI WR mb N F) := hm.same (hbR.block mb (by omega))
 refine wpIn_rangeFunc_ownH rfl (by omega) (gf := 87) (lb := #[.pointer (some ⟨s + 5, 0, none⟩), .pointer (some ⟨s + 4, 0, none⟩)]) rfl trivial (enters_of Tryz.func87 (by kernel_rfl) rfl)
  (way_seq (3 - 1) (s + 5) (s + 4) (by omega) i hRP HP.out hz hr (cellP HB.out.2.2.2.2.2 0 _ rfl) (by have := HB.out.2.2.2.2.1; rw [HCP.out]; exact this) (.inr (.inr rfl)) (.inr (.inl rfl)))
  LayP.trans (fun W l o o' hl _ _ _ => LayP.putObj HP.out W l o' hl) (Below.refl _ _) (fun _ => rfl)
  (NearI WR s F) (fun c pre W => c = .exit 0 ∧ NearX WR s F pre W) (hsR ▸ nearI_own WR s F) (fun c => OwnFrom.and (ownFrom_pure _ (fun _ => c = .exit 0)) (hsR ▸ nearX_own WR s F))
  ⟨Keep.refl _ _, ⟨_, HB.out.2.2.2.1, World.ownsRow_nil _ _ _ _⟩, fun x hx => by cases hx⟩
  (fun x a' _ => ∃ u, u = ((x % 64 : Nat) : Int) ∧ a' = { tmps := #[.agg #[.map (some mb), .int .i64 k0], .agg CP.toArray, .int .i64 i, .pointer (some ⟨s, 0, none⟩), .pointer (some ⟨s + 1, 0, none⟩), undef, .int .i64 0, .pointer (some ⟨s + 2, 0, none⟩), .pointer (some ⟨s + 3, 0, none⟩), .int .i64 u, undef, undef, undef, undef, .pointer (some ⟨s, 1, none⟩), .int .i64 k0, .agg CP.toArray, .int .i64 i, .func (.func 87) #[] #[.pointer (some ⟨s + 5, 0, none⟩), .pointer (some ⟨s + 4, 0, none⟩)], .int .i64 u, undef, undef, undef, undef, undef, undef, undef, undef, undef, undef, undef, undef, undef, undef, undef, undef, undef, undef, undef, undef, undef, undef, undef, undef, undef], defers := [] })
  (fun x a' => ownFrom_pure _ (fun _ => ∃ u, u = ((x % 64 : Nat) : Int) ∧ a' = { tmps := #[.agg #[.map (some mb), .int .i64 k0], .agg CP.toArray, .int .i64 i, .pointer (some ⟨s, 0, none⟩), .pointer (some ⟨s + 1, 0, none⟩), undef, .int .i64 0, .pointer (some ⟨s + 2, 0, none⟩), .pointer (some ⟨s + 3, 0, none⟩), .int .i64 u, undef, undef, undef, undef, .pointer (some ⟨s, 1, none⟩), .int .i64 k0, .agg CP.toArray, .int .i64 i, .func (.func 87) #[] #[.pointer (some ⟨s + 5, 0, none⟩), .pointer (some ⟨s + 4, 0, none⟩)], .int .i64 u, undef, undef, undef, undef, undef, undef, undef, undef, undef, undef, undef, undef, undef, undef, undef, undef, undef, undef, undef, undef, undef, undef, undef, undef, undef], defers := [] }))
  ?assign ?body ?done ?stop
 case assign =>
  intro l pre x W K hI hK
  have HK : Hid (∀ a' W', KeepsFrom WR.heap.size W W' → LayP (fun k => k < s ∨ k = s + 4 ∨ k = s + 5) W W' → NearI WR s F pre W' → _ → K a' W') := hK
  clear hK
  gi_wp2
  exact HK.out _ W (KeepsFrom.refl _ _) (LayP.refl _ _) hI ⟨_, rfl, rfl⟩
 case body =>
  rintro l pre x a' W _ _ hI ⟨u, hu, rfl⟩ hlen
  have HI : Hid (NearI WR s F pre W) := hI
  have hk := hI.keep
  have hsW := hk.size
  have hb0 : W.heap[s]? = some (.cells #[.map (some mb), .int .i64 k0] 81 (0, 0)) := (hk.block s (by omega) (by omega)).trans HB.out.1
  have hb2 : W.heap[s + 2]? = some (.cells #[.int .i64 k0] 3 (0, 0)) := (hk.block (s + 2) (by omega) (by omega)).trans HB.out.2.2.1
  obtain ⟨v, hv, ho⟩ := hI.gone
  have hMW : MapI W mb N F := HM.out.same (hk.block mb (by omega) (by omega))
  have hz64 : wf64 u := by rw [hu]; unfold wf64; omega
  have HU : Hid (u = ((x % 64 : Nat) : Int)) := hu
  obtain ⟨L, hL⟩ : ∃ L, zs (pre.map (· % 64)) = L := ⟨_, rfl⟩
  have HL : Hid (zs (pre.map (· % 64)) = L) := hL
  have hLn : L.length ≤ 1000 := by rw [← hL, zs_len, List.length_map]; omega
  rw [hL] at ho
  have HV : Hid (W.heap[s + 3]? = some (.cells #[v] 28 (0, 0))) := hv
  have HB2 : Hid (W.heap[s + 2]? = some (.cells #[.int .i64 k0] 3 (0, 0))) := hb2
  have m0 := cellP hb0 0 _ rfl
  have g0 := cellP hv 0 _ rfl
  have n0 := cellP hb2 0 _ rfl
  have nz := fzP hb2 0
  have HKW : Hid (Keep (fun k => k = s + 3 ∨ s + 6 ≤ k) WR W) := hk
  have HMM : Hid (MapI W mb N F) := hMW
  clear hI hk hb0 hb2 hv hu hL hMW
  cases hf : F u with
  | none =>
   have HF : Hid (F u = none) := hf
   clear hf
   gi_wp2_with (first
    | (gi_at_lookup; refine wpListIn_lookupI rfl _ _ rfl mb N F rfl HMM.out u hz64 rfl ?_; rw [HF.out])
    | (gi_at_builtin; refine wpListIn_pushI rfl _ _ rfl (s + 6) v L rfl ?a0 _ u rfl ?a1 ?a2 ?a3 ?_))
   case a0 => exact ho.alloc _
   case a1 => exact cellP (newP _) 0 _ rfl
   case a2 => omega
   case a3 => simp only [World.size_alloc]; omega
   intro v' w5 ho5a hg5
   have ho5 := own_snoc ho5a
   clear ho5a
   obtain ⟨q5, c5, rfl, _⟩ := own_rd ho5
   have hlt := objP_lt HV.out
   have h5 : ∀ k, k < W.heap.size → k < s + 6 → w5.heap[k]? = W.heap[k]? := fun k hk hk6 => (hg5.block k (by simp only [World.size_alloc]; omega) (fun e => by have := (ho.lt k e.symm).1; omega)).trans (Below.heap_alloc _ _ _ hk)
   have h53 := (h5 (s + 3) hlt (by omega)).trans HV.out
   have r0 := cellP h53 0 _ rfl
   have rz := fzP h53 0
   have H5 : Hid (∀ k, k < W.heap.size → k < s + 6 → w5.heap[k]? = W.heap[k]?) := h5
   have HG5 : Hid ((W.alloc (.cells #[.int .i64 u] 3)).grownBy w5 v.ownBlock) := hg5
   have HO5 : Hid (w5.ownsRow (s + 6) 3 1 (.slice q5 (L ++ [u]).length c5) (L ++ [u]).length ((L ++ [u]).map (Value.int .i64))) := ho5
   have H53 : Hid (w5.heap[s + 3]? = some (.cells #[v] 28 (0, 0))) := h53
   clear h5 h53 hg5 ho5
   gi_wp2
   have hgs := HG5.out.size
   simp only [World.size_alloc] at hgs
   have hkp : Keep (fun k => k = s + 3 ∨ s + 6 ≤ k) W w5 := ⟨HG5.out.os, HG5.out.tape, HG5.out.output, by omega, fun k hk hn => H5.out k hk (by omega)⟩
   have hkf : KeepsFrom WR.heap.size W w5 := ((KeepsOthers.alloc W _).trans (KeepsOthers.of_grownBy HG5.out fun j o hj ho' => by
    exact row_cells (ho.alloc (.cells #[.int .i64 u] 3)) hj ho')).from _
   refine ⟨hkf.trans ((KeepsOthers.setCell _ _ _).from _), ⟨by simp only [World.size_setCell]; omega, fun k hk => ?_⟩, ⟨(HKW.out.trans hkp fun _ _ h => h).setCell (fun _ => .inl rfl) _, ⟨_, box_set _ H53.out, ?_⟩, ?_⟩⟩
   · rw [Below.heap_setCell _ _ _ _ (by show k ≠ s + 3; omega)]
     exact H5.out k (by omega) (by omega)
   · have e : zs ((pre ++ [x]).map (· % 64)) = L ++ [u] := by rw [List.map_append, List.map_singleton, ← HL.out, HU.out]; simp [zs]
     rw [e]
     have e2 : (L ++ [u]).length = L.length + 1 := by simp
     have h6 := HO5.out
     rw [e2] at h6 ⊢
     exact ownsRow_setCell_below (a := ⟨s + 3, 0, none⟩) h6 (by show s + 3 < s + 6; omega) _
   · intro y hy
     rcases List.mem_append.1 hy with hy | hy
     · exact HI.out.none y hy
     · rw [List.mem_singleton.1 hy, ← HU.out]
       exact HF.out
  | some c =>
   have HF : Hid (F u = some c) := hf
   clear hf
   gi_wp2_with (first
    | (gi_at_lookup; refine wpListIn_lookupI rfl _ _ rfl mb N F rfl HMM.out u hz64 rfl ?_; rw [HF.out]))
   refine ⟨(KeepsOthers.setCell _ _ _).from _, rfl, (HKW.out.mono fun k _ hk => .inr hk).setCell (fun _ => .inl rfl) _, pre, x, c, rfl, HI.out.none, by rw [← HU.out]; exact HF.out, box_set _ HB2.out, v, ?_, ?_⟩
   · rw [Below.heap_setCell _ _ _ _ (by show s + 3 ≠ s + 2; omega)]
     exact HV.out
   · rw [HL.out]
     exact ownsRow_setCell_below (a := ⟨s + 2, 0, none⟩) ho (by show s + 2 < s + 6; omega) _
 case done =>
  intro D xs W hD hxs hI hD2
  have hND := hI.done (hxs ▸ HSM.out) hsR HB.out.2.2.1
  rw [hxs] at hND
  clear hI hxs
  rw [HKK.out.1, HKK.out.2] at hND
  obtain ⟨hk, hn2, v, hv, ho⟩ := hND
  have hsW := hk.size
  have hb0 : W.heap[s]? = some (.cells #[.map (some mb), .int .i64 k0] 81 (0, 0)) := (hk.block s (by omega) (by omega)).trans HB.out.1
  obtain ⟨n, hn⟩ : ∃ n, (zs GG).length = n := ⟨_, rfl⟩
  have HN : Hid ((zs GG).length = n) := hn
  obtain ⟨q0, cq, rfl, hrd⟩ := own_rd ho
  have hMW : MapI W mb N F := HM.out.same (hk.block mb (by omega) (by omega))
  have hsD := objP_lt hD2
  have hD6 : s + 6 ≤ D := by omega
  have hmbW : mb < W.heap.size := hMW.lt
  have HX : Hid (∀ X, Keep (· = mb) W X → X.heap[s]? = some (.cells #[.map (some mb), .int .i64 k0] 81 (0, 0)) ∧ X.heap[s + 2]? = some (.cells #[.int .i64 KK] 3 (0, 0)) ∧ X.heap[D]? = some (.deferred (some [])) ∧ RdI (fun _ => True) X q0 cq (zs GG)) := fun X hX => ⟨(hX.block s (by omega) (by omega)).trans hb0, (hX.block (s + 2) (by omega) (by omega)).trans hn2, (hX.block D hsD (by omega)).trans hD2, hrd.carry (fun k hk => hX.block k (ho.lt k hk).2 (by have := (ho.lt k hk).1; omega)) fun _ _ => trivial⟩
  have g0 := cellP hv 0 _ rfl
  rw [hn] at g0 hGn
  have HKE : Hid (Keep (· = mb) w W) := ⟨hk.os.trans hbR.os, hk.tape.trans hbR.tape, hk.output.trans hbR.output, by omega, fun k h1 h2 => (hk.block k (by omega) (by omega)).trans (hbR.block k (by omega))⟩
  have HMW : Hid (MapI W mb N (putAll F KK ((zs GG).take 0))) := by rw [List.take_zero, putAll_nil]; exact hMW
  clear hk hn2 hv ho hb0 hn hrd hMW hD2 hbR hF hz hr hm
  go_wp2
  clear g0
  go_loopw [35] (fun ix wr => ∃ k N', k ≤ n ∧ ix = .int .i64 (k : Int) ∧ N' ≤ N + k ∧ MapI wr mb N' (putAll F KK ((zs GG).take k)) ∧ Keep (· = mb) W wr) (fun ix _ => n - (intOf ix).toNat)
  case atStart => exact ⟨0, N, Nat.zero_le _, rfl, Nat.le_refl _, HMW.out, Keep.refl _ _⟩
  case round =>
   clear HMW
   obtain ⟨k, N', hk, rfl, hN', hM, hK'⟩ := hrel
   obtain ⟨x0, x2, xD, xr⟩ := HX.out wr hK'
   by_cases hlt : k < n
   · have hkl : k < (zs GG).length := by rw [HN.out]; exact hlt
     obtain ⟨ad, rfl, _, hc⟩ := xr.at k 0 hkl
     have hwx := HGX.out _ (getD_inm (d := 0) hkl)
     have HT : Hid (putAll F KK ((zs GG).take (k + 1)) = more (putAll F KK ((zs GG).take k)) ((zs GG).getD k 0) KK) := by show _ = _; rw [take_snoc (zs GG) k 0 hkl, putAll_snoc]
     generalize (zs GG).getD k 0 = x at *
     have hwk := HKW.out
     have m0 := cellP x0 0 _ rfl
     have n0 := cellP x2 0 _ rfl
     clear x0 x2 xD xr
     go_wp2_with (first
      | (at_mapUpdate; refine wpList_updateI rfl _ _ _ rfl mb N' _ rfl hM (by omega) x KK hwx hwk rfl rfl ?_; intro w5 hM5 hg5))
     go_roundw
     case rel => exact ⟨k + 1, N' + 1, by omega, by go_num, by omega, by rw [HT.out]; exact hM5, hK'.trans (Keep.of_grown (S := (· = mb)) hg5 fun k _ e => by cases e; rfl) fun _ _ h => h⟩
     case measure => simp [intOf]; omega
   · obtain rfl : k = n := by omega
     rw [← HN.out, List.take_length] at hM
     have n0 := cellP x2 0 _ rfl
     have HXD : Hid (wr.heap[D]? = some (.deferred (some []))) := xD
     have HMR : Hid (MapI wr mb N' (putAll F KK (zs GG))) := hM
     clear x0 x2 xD xr hM
     go_wp2
     refine leaves_mark1 rfl rfl HXD.out ⟨rfl, ⟨N', _, by omega, HMR.out.same ?_, fun x => rfl⟩, ?_⟩
     · unfold World.putObj
       simp only [Array.getElem?_setIfInBounds]
       rw [if_neg (by omega)]
     · have hke := HKE.out.trans hK' fun _ _ h => h
       have hsz := hK'.size
       refine ⟨hke.os, hke.tape, hke.output, by unfold World.putObj; simp; exact hke.size, fun k h1 h2 => ?_⟩
       rw [← hke.block k h1 h2]
       unfold World.putObj
       simp only [Array.getElem?_setIfInBounds]
       rw [if_neg (by omega)]
 case stop =>
  rintro D c pre W hD hpre ⟨rfl, hX⟩ hD2
  have hND := hX.stop (k0 := k0) hpre HSM.out
  clear hX
  refine wpIn_wide.2 ?_
  refine wp_exit ?_
  rw [HKK.out.1, HKK.out.2] at hND
  obtain ⟨hk, hn2, v, hv, ho⟩ := hND
  have hsW := hk.size
  have hb0 : W.heap[s]? = some (.cells #[.map (some mb), .int .i64 k0] 81 (0, 0)) := (hk.block s (by omega) (by omega)).trans HB.out.1
  obtain ⟨n, hn⟩ : ∃ n, (zs GG).length = n := ⟨_, rfl⟩
  have HN : Hid ((zs GG).length = n) := hn
  obtain ⟨q0, cq, rfl, hrd⟩ := own_rd ho
  have hMW : MapI W mb N F := HM.out.same (hk.block mb (by omega) (by omega))
  have hsD := objP_lt hD2
  have hD6 : s + 6 ≤ D := by omega
  have hmbW : mb < W.heap.size := hMW.lt
  have HX : Hid (∀ X, Keep (· = mb) W X → X.heap[s]? = some (.cells #[.map (some mb), .int .i64 k0] 81 (0, 0)) ∧ X.heap[s + 2]? = some (.cells #[.int .i64 KK] 3 (0, 0)) ∧ X.heap[D]? = some (.deferred (some [])) ∧ RdI (fun _ => True) X q0 cq (zs GG)) := fun X hX => ⟨(hX.block s (by omega) (by omega)).trans hb0, (hX.block (s + 2) (by omega) (by omega)).trans hn2, (hX.block D hsD (by omega)).trans hD2, hrd.carry (fun k hk => hX.block k (ho.lt k hk).2 (by have := (ho.lt k hk).1; omega)) fun _ _ => trivial⟩
  have g0 := cellP hv 0 _ rfl
  rw [hn] at g0 hGn
  have HKE : Hid (Keep (· = mb) w W) := ⟨hk.os.trans hbR.os, hk.tape.trans hbR.tape, hk.output.trans hbR.output, by omega, fun k h1 h2 => (hk.block k (by omega) (by omega)).trans (hbR.block k (by omega))⟩
  have HMW : Hid (MapI W mb N (putAll F KK ((zs GG).take 0))) := by rw [List.take_zero, putAll_nil]; exact hMW
  clear hk hn2 hv ho hb0 hn hrd hMW hD2 hbR hF hz hr hm
  go_wp2
  clear g0
  go_loopw [35] (fun ix wr => ∃ k N', k ≤ n ∧ ix = .int .i64 (k : Int) ∧ N' ≤ N + k ∧ MapI wr mb N' (putAll F KK ((zs GG).take k)) ∧ Keep (· = mb) W wr) (fun ix _ => n - (intOf ix).toNat)
  case atStart => exact ⟨0, N, Nat.zero_le _, rfl, Nat.le_refl _, HMW.out, Keep.refl _ _⟩
  case round =>
   clear HMW
   obtain ⟨k, N', hk, rfl, hN', hM, hK'⟩ := hrel
   obtain ⟨x0, x2, xD, xr⟩ := HX.out wr hK'
   by_cases hlt : k < n
   · have hkl : k < (zs GG).length := by rw [HN.out]; exact hlt
     obtain ⟨ad, rfl, _, hc⟩ := xr.at k 0 hkl
     have hwx := HGX.out _ (getD_inm (d := 0) hkl)
     have HT : Hid (putAll F KK ((zs GG).take (k + 1)) = more (putAll F KK ((zs GG).take k)) ((zs GG).getD k 0) KK) := by show _ = _; rw [take_snoc (zs GG) k 0 hkl, putAll_snoc]
     generalize (zs GG).getD k 0 = x at *
     have hwk := HKW.out
     have m0 := cellP x0 0 _ rfl
     have n0 := cellP x2 0 _ rfl
     clear x0 x2 xD xr
     go_wp2_with (first
      | (at_mapUpdate; refine wpList_updateI rfl _ _ _ rfl mb N' _ rfl hM (by omega) x KK hwx hwk rfl rfl ?_; intro w5 hM5 hg5))
     go_roundw
     case rel => exact ⟨k + 1, N' + 1, by omega, by go_num, by omega, by rw [HT.out]; exact hM5, hK'.trans (Keep.of_grown (S := (· = mb)) hg5 fun k _ e => by cases e; rfl) fun _ _ h => h⟩
     case measure => simp [intOf]; omega
   · obtain rfl : k = n := by omega
     rw [← HN.out, List.take_length] at hM
     have n0 := cellP x2 0 _ rfl
     have HXD : Hid (wr.heap[D]? = some (.deferred (some []))) := xD
     have HMR : Hid (MapI wr mb N' (putAll F KK (zs GG))) := hM
     clear x0 x2 xD xr hM
     go_wp2
     refine leaves_mark1 rfl rfl HXD.out ⟨rfl, ⟨N', _, by omega, HMR.out.same ?_, fun x => rfl⟩, ?_⟩
     · unfold World.putObj
       simp only [Array.getElem?_setIfInBounds]
       rw [if_neg (by omega)]
     · have hke := HKE.out.trans hK' fun _ _ h => h
       have hsz := hK'.size
       refine ⟨hke.os, hke.tape, hke.output, by unfold World.putObj; simp; exact hke.size, fun k h1 h2 => ?_⟩
       rw [← hke.block k h1 h2]
       unfold World.putObj
       simp only [Array.getElem?_setIfInBounds]
       rw [if_neg (by omega)]
end
end Go.Proofs.YtimhpglfolbomaaGreat.Od
namespace Go.Proofs.YtimhpglfolbomaaGreat.Od
open Go.RowKit Go.Maps
theorem run_lookupI {w : World} {b N : Nat} {f : Int → Option Int} (h : MapI w b N f) {z : Int} (hz : wf64 z) : (Instr.lookup 66 (.map (some b)) (.int .i64 z) false).run Tryz.prog w = .ok (.int .i64 ((f z).getD 0)) w := by
 obtain ⟨D, h1, h2⟩ := h
 obtain ⟨c, hrun, hat, _⟩ := h1.lookup_int lawI Tryz.underlying66 Tryz.underlying3 (zero3 w) (keyI hz)
 obtain ⟨e1, _⟩ := unM_look h2 hz hat
 rw [hrun, e1]
def rwT (Q : List (List Nat)) (Th : List Nat) (p : Nat) : List Nat := (par Q (Th.getD p 0)).map fun (j : Nat) => (zs Th).idxOf (j : Int)
def rwsT (Q : List (List Nat)) (Th : List Nat) : List (List Nat) := (List.range Th.length).map (rwT Q Th)
def rwJ (Q : List (List Nat)) (Th : List Nat) (m j p : Nat) : List Nat := if p < m then rwT Q Th p else if p = m then (rwT Q Th m).take j else []
theorem rwJ_zero (Q : List (List Nat)) (Th : List Nat) (m p : Nat) : rwJ Q Th m 0 p = if p < m then rwT Q Th p else [] := by
 unfold rwJ
 split
 · rfl
 · split <;> simp
theorem rwJ_all (Q : List (List Nat)) (Th : List Nat) (m p : Nat) : rwJ Q Th m (par Q (Th.getD m 0)).length p = rwJ Q Th (m + 1) 0 p := by
 rw [rwJ_zero]
 unfold rwJ
 by_cases h : p < m
 · rw [if_pos h, if_pos (by omega)]
 · by_cases e : p = m
   · subst e
     rw [if_neg h, if_pos rfl, if_pos (by omega), List.take_of_length_le (by simp [rwT])]
   · rw [if_neg h, if_neg e, if_neg (by omega)]
theorem rwJ_next {Q : List (List Nat)} {Th : List Nat} {m j : Nat} (hj : j < (par Q (Th.getD m 0)).length) (p : Nat) : rwJ Q Th m (j + 1) p = if p = m then rwJ Q Th m j m ++ [(zs Th).idxOf (((par Q (Th.getD m 0)).getD j 0 : Nat) : Int)] else rwJ Q Th m j p := by
 unfold rwJ
 by_cases e : p = m
 · subst e
   rw [if_neg (by omega), if_pos rfl, if_pos rfl, if_neg (by omega), if_pos rfl, take_snoc _ j 0 (by simpa [rwT] using hj)]
   congr 2
   unfold rwT
   rw [getD_in (by simpa using hj), getD_in hj]
   simp
 · rw [if_neg e, if_neg e, if_neg e]
theorem rwJ_len (Q : List (List Nat)) (Th : List Nat) (m j : Nat) : (rwJ Q Th m j m).length ≤ j := by
 unfold rwJ
 rw [if_neg (by omega), if_pos rfl, List.length_take]
 omega
def RowsP (Q : List (List Nat)) (Th : List Nat) (w : World) (e : Ending) (w' : World) : Prop :=
 ∃ c, e = .returned (.slice (some ⟨c, 0, none⟩) Th.length Th.length) ∧ RdR (fun k => w.heap.size ≤ k ∧ k < w'.heap.size) w' (some ⟨c, 0, none⟩) Th.length ((rwsT Q Th).map zs) ∧ Below w.heap.size w w'
theorem rows_any {O : Nat → Prop} {w : World} {p : Pa} {q : Pq} {Th : List Nat} {pl : Option Addr} {cl : Nat} (h : IsPa (· < w.heap.size) w p q) (hz : SzPa p) (hr : backT p.auth p.evs.length = true) (hl : RdI O w pl cl (zs Th)) (hO : ∀ k, O k → k < w.heap.size) (hTl : Th.length ≤ 30) (hb : ∀ x ∈ Th, x < p.evs.length) (hc : ∀ x ∈ Th, ∀ y ∈ par (toQ p.auth) x, y ∈ Th) :
    Calls Tryz.prog 49 #[valPa p q, .slice pl (zs Th).length cl] w (RowsP (toQ p.auth) Th w) := by
 obtain ⟨W0, hW0⟩ : ∃ W0, W0 = w.alloc (.cells (cellsPa p q).toArray 27) := ⟨_, rfl⟩
 have hb0 : Below w.heap.size w W0 := by rw [hW0]; exact (Below.refl _ _).alloc (Nat.le_refl _) _
 have V : IsVP W0 w.heap.size p q := by rw [hW0]; exact isVP_new h
 have hen := hz.evs
 have hwz : ∀ x ∈ zs Th, wf64 x := fun x hx => by
  obtain ⟨y, hy, rfl⟩ := List.mem_map.1 hx
  have := hb y hy
  unfold wf64
  omega
 have hst := stands_any (w := W0) (hl.same (Same.of_below hb0 hO)) (fun k hk => Nat.lt_of_lt_of_le (hO k hk) hb0.size) (by rw [zs_len]; omega) hwz
 have HV : Hid (∀ X, Below W0.heap.size W0 X → IsVP X w.heap.size p q) := fun X hX => V.below hX
 have HC3 : Hid (∀ X, Below W0.heap.size W0 X → X.cell? ⟨w.heap.size, 3, none⟩ = some (.slice q.a p.evs.length q.ca)) := fun X hX => by rw [← (back_of hr).2.2]; exact (V.below hX).c3
 have HRW : Hid (∀ X, Below W0.heap.size W0 X → ∀ i, i < p.evs.length → ∃ ad p1 c1, q.a = some ad ∧ X.cell? (ad.add i) = some (.slice p1 (par (toQ p.auth) i).length c1) ∧ RdI (· < W0.heap.size) X p1 c1 (zs (par (toQ p.auth) i))) := fun X hX i hi => by
  obtain ⟨ad, p1, c1, h1, _, h3, h4, _⟩ := row_at (V.pa.auth.below hX) hr hi
  exact ⟨ad, p1, c1, h1, h3, h4⟩
 have HRL : Hid (∀ i, i < p.evs.length → (par (toQ p.auth) i).length ≤ 30) := fun i hi => row_len hz hr hi
 have HLI : Hid (∀ X, Below W0.heap.size W0 X → RdI O X pl cl (zs Th)) := fun X hX => hl.same (Same.of_below (belowP hb0 hX) hO)
 have HIN : Hid (∀ x ∈ Th, x < p.evs.length) := hb
 have HCH : Hid (∀ x ∈ Th, ∀ y ∈ par (toQ p.auth) x, y ∈ Th) := hc
 generalize toQ p.auth = Q at *
 obtain ⟨s, hsl⟩ : ∃ s, (zs Th).length = s := ⟨_, rfl⟩
 have HSL : Hid ((zs Th).length = s) := hsl
 have HSN : Hid (Th.length = s) := by show _ = _; rw [← zs_len]; exact hsl
 have hs30 : s ≤ 30 := by rw [← HSN.out]; exact hTl
 have HB0 : Hid (Below w.heap.size w W0) := hb0
 rw [hsl] at hst ⊢
 clear V h hz hr hl hO hb hc hwz hTl hsl hb0
 unfold valPa
 generalize cellsPa p q = CP at *
 generalize p.evs.length = n1 at *
 go_enter Tryz.func49, Tryz.ntmps49
 go_upto_region 1 with fail
 rw [← hW0]
 clear hW0
 go_wp2_with (first
  | (go_at_call 44; refine hst.mono ?_; rintro e w1 ⟨mb, N, rfl, hmb, hN, hM, hb1⟩; clear hst)
  | (refine wpList_rows rfl _ _ rfl s (by omega) rfl rfl ?_; intro w2 hw2))
 have hml := hM.lt
 have hb2 : Below w1.heap.size w1 w2 := by rw [hw2.out]; exact (Below.refl _ _).alloc (Nat.le_refl _) _
 have hCh0 : Ch w1.heap.size w2 w1.heap.size mb (List.replicate s nilS) (rwJ Q Th 0 0) := by rw [hw2.out]; exact (Ch.start _ _ _).congr fun p _ => by rw [rwJ_zero]; simp
 have hs2 : w2.heap.size = w1.heap.size + 1 := by rw [hw2.out]; simp
 have HB1 : Hid (Below W0.heap.size W0 w1) := hb1
 have hB01 := hb1.size
 have HM : Hid (MapI w2 mb N (posI (zs Th))) := hM.same (hb2.block mb hml)
 obtain ⟨B, hB⟩ : ∃ B, w1.heap.size = B := ⟨_, rfl⟩
 have HBB : Hid (w1.heap.size = B) := hB
 rw [hB] at hCh0 hb2 hs2 hml hB01 ⊢
 obtain ⟨cb, hcb⟩ : ∃ cb, B = cb := ⟨_, rfl⟩
 have hBcb : B ≤ cb := by omega
 have hcbm : cb ≠ mb := by omega
 have hcb2 : cb < w2.heap.size := by omega
 have HC0 : Hid (Ch B w2 cb mb (List.replicate s nilS) (rwJ Q Th 0 0)) := by rw [← hcb]; exact hCh0
 have HB2 : Hid (Below B w1 w2) := hb2
 rw [show (Value.slice (some ⟨B, 0, none⟩) s s) = Value.slice (some ⟨cb, 0, none⟩) s s by rw [hcb]]
 have HKW : Hid (∀ X, Keep (fun k => B ≤ k) w2 X → Below W0.heap.size W0 X) := fun X hX => HB1.out.trans ((HB2.out.trans (hX.below (by omega) (fun k hk => by omega))).mono (by omega))
 clear hw2 hCh0 hb2 hM hb1 hcb hB
 go_loopw [18] (fun i wr => ∃ (m : Nat) (cs : List Value), m ≤ s ∧ i = .int .i64 m ∧ cs.length = s ∧ Keep (fun k => B ≤ k) w2 wr ∧ Hid (Ch B wr cb mb cs (rwJ Q Th m 0))) (fun i _ => s - (intOf i).toNat)
 case atStart => exact ⟨0, _, Nat.zero_le _, rfl, by simp, Keep.refl _ _, HC0⟩
 case round =>
  clear HC0
  obtain ⟨m, cs, hm, rfl, hcs, hkp, HC⟩ := hrel
  by_cases hlt : m < s
  · have hml2 : m < (zs Th).length := by rw [HSL.out]; exact hlt
    have hmT : m < Th.length := by rw [HSN.out]; exact hlt
    obtain ⟨adl, rfl, _, hcl⟩ := (HLI.out wr (HKW.out wr hkp)).at m 0 hml2
    rw [zs_getD] at hcl
    have hx := HIN.out _ (getD_inm (d := 0) hmT)
    have HCX : Hid (∀ y ∈ par Q (Th.getD m 0), y ∈ Th) := HCH.out _ (getD_inm (d := 0) hmT)
    have HNX : Hid (∀ j, j < (par Q (Th.getD m 0)).length → ∀ p, rwJ Q Th m (j + 1) p = if p = m then rwJ Q Th m j m ++ [(zs Th).idxOf (((par Q (Th.getD m 0)).getD j 0 : Nat) : Int)] else rwJ Q Th m j p) := fun j hj p => rwJ_next hj p
    have HAL : Hid (∀ p, rwJ Q Th m (par Q (Th.getD m 0)).length p = rwJ Q Th (m + 1) 0 p) := fun p => rwJ_all Q Th m p
    generalize Th.getD m 0 = x at *
    have hca := HC3.out wr (HKW.out wr hkp)
    obtain ⟨ada, p1, k1, hqa, hcr, hrr⟩ := HRW.out wr (HKW.out wr hkp) x hx
    have hrl := HRL.out x hx
    have HRR : Hid (∀ X, Keep (fun k => B ≤ k) wr X → RdI (· < W0.heap.size) X p1 k1 (zs (par Q x))) := fun X hX => hrr.same (Same.of_keep hX fun k hk => ⟨by have := hkp.size; have : k < W0.heap.size := hk; omega, by have : k < W0.heap.size := hk; omega⟩)
    rw [hqa] at hca
    obtain ⟨r, hrlen⟩ : ∃ r, (par Q x).length = r := ⟨_, rfl⟩
    have HRN : Hid ((par Q x).length = r) := hrlen
    rw [hrlen] at hcr hrl HNX HAL
    clear hrlen hrr
    obtain ⟨W3, hW3⟩ : ∃ W3, W3 = wr := ⟨_, rfl⟩
    have HW3 : Hid (W3 = wr) := hW3
    have HCW : Hid (Ch B W3 cb mb cs (rwJ Q Th m 0)) := by rw [hW3]; exact HC
    have HKP : Hid (Keep (fun k => B ≤ k) w2 W3) := by rw [hW3]; exact hkp
    rw [← hW3] at HRR
    have HK0 : Hid (Keep (fun k => B ≤ k) W3 wr) := by rw [hW3]; exact Keep.refl _ _
    clear HC hkp hW3
    go_upto_region 7 with fail
    go_loopw [29] (fun i wx => ∃ (j : Nat) (cs : List Value), j ≤ r ∧ i = .int .i64 j ∧ cs.length = s ∧ Keep (fun k => B ≤ k) W3 wx ∧ Hid (Ch B wx cb mb cs (rwJ Q Th m j))) (fun i _ => r - (intOf i).toNat)
    case atStart => exact ⟨0, cs, Nat.zero_le _, rfl, hcs, HK0.out, by rw [← HW3.out]; exact HCW⟩
    case round =>
     clear hcr hca hcl HCW HK0 HW3 hcs
     obtain ⟨j, cs, hj, rfl, hcs, hkp, HC⟩ := hrel
     by_cases hjt : j < r
     · have hjr : j < (par Q x).length := by rw [HRN.out]; exact hjt
       obtain ⟨adr, rfl, _, hcj⟩ := (HRR.out wr hkp).at j 0 (by rw [zs_len]; exact hjr)
       rw [zs_getD] at hcj
       have hyT := HCX.out _ (getD_inm (d := 0) hjr)
       have HNJ : Hid (∀ p, rwJ Q Th m (j + 1) p = if p = m then rwJ Q Th m j m ++ [(zs Th).idxOf (((par Q x).getD j 0 : Nat) : Int)] else rwJ Q Th m j p) := HNX.out j hjt
       have hyn := HIN.out _ hyT
       generalize (par Q x).getD j 0 = y at *
       have hwy : wf64 (y : Int) := wf_nat (by omega)
       have hpos : posI (zs Th) (y : Int) = some ((zs Th).idxOf (y : Int) : Int) := by unfold posI; rw [if_pos ((zs_mem _ _).2 hyT)]
       generalize (zs Th).idxOf (y : Int) = i0 at *
       have hk2 : Keep (fun k => B ≤ k) w2 wr := HKP.out.trans hkp fun _ _ h => h
       have HMW : Hid (MapI wr mb N (posI (zs Th))) := HM.out.same (hk2.block mb (by omega) (by omega))
       have HLK : Hid (∀ X, Keep (fun k => B ≤ k) wr X → (Instr.lookup 66 (.map (some mb)) (.int .i64 (y : Int)) false).run Tryz.prog X = .ok (.int .i64 (i0 : Int)) X) := fun X hX => by
        have h1 := run_lookupI (w := X) (b := mb) (N := N) (HMW.out.same (hX.block mb (by have := HMW.out.lt; omega) (by omega))) hwy
        rw [hpos] at h1
        exact h1
       have hlen := rwJ_len Q Th m j
       have hzl := zs_len (rwJ Q Th m j m)
       have hsz : B ≤ wr.heap.size := by have := hk2.size; omega
       have hmw : mb < wr.heap.size := HMW.out.lt
       have hown := HC.out.own m (by omega)
       have hfz := frozen_of_row wr cb m _ _ HC.out.obj
       have hcx := cell_row (cur := cs) HC.out.obj m _ (by rw [List.getElem?_eq_getElem (by omega), ← getD_in (d := nilS) (by omega)])
       obtain ⟨Kk, hKk⟩ : ∃ Kk, Kk = rwJ Q Th m j := ⟨_, rfl⟩
       rw [← hKk] at hown HC hlen hzl
       have HP : Hid (∀ v' w1, w1.ownsRow B 3 1 v' (zs (Kk m) ++ [(i0 : Int)]).length ((zs (Kk m) ++ [(i0 : Int)]).map (Value.int .i64)) → (wr.drew.alloc (.cells #[.int .i64 (i0 : Int)] 3)).grownBy w1 (cs.getD m nilS).ownBlock → (v'.ownBlock = (cs.getD m nilS).ownBlock ∨ v'.ownBlock = some (wr.drew.alloc (.cells #[.int .i64 (i0 : Int)] 3)).heap.size) →
           Ch B (w1.setCell ⟨cb, m, none⟩ v') cb mb (cs.set m v') (rwJ Q Th m (j + 1)) ∧ Keep (fun k => B ≤ k) wr w1 ∧ w1.cell? ⟨cb, m, none⟩ = some (cs.getD m nilS) ∧ w1.frozen? ⟨cb, m, none⟩ = false) := by
        intro v' w1 ho hg hl
        have hk1 : Keep ((cs.getD m nilS).ownBlock = some ·) wr w1 := (((Keep.refl _ wr).drew).alloc (.cells #[.int .i64 (i0 : Int)] 3)).trans (Keep.of_grown (S := ((cs.getD m nilS).ownBlock = some ·)) hg fun k _ e => e) fun _ _ h => h
        have hlo : v'.ownBlock = (cs.getD m nilS).ownBlock ∨ ∀ k, v'.ownBlock = some k → wr.heap.size ≤ k := by
         refine hl.imp id fun e k hk => ?_
         rw [e] at hk
         cases hk
         simp
        obtain ⟨s1, s2, s3, s4⟩ := HC.out.step (p := m) (i := i0) (by omega) hmw ho hk1 hlo
        refine ⟨s1.congr fun p _ => ?_, hk1.mono fun k _ e => (hown.lt k e).1, s3, s4⟩
        rw [HNJ.out p, hKk]
       have hvs := own_rd hown
       obtain ⟨q0, c0, hv, _⟩ := hvs
       rw [hv] at hcx hown HP
       have hownA : (wr.drew.alloc (.cells #[.int .i64 (i0 : Int)] 3)).ownsRow B 3 1 (.slice q0 (zs (Kk m)).length c0) (zs (Kk m)).length ((zs (Kk m)).map (Value.int .i64)) := (show wr.drew.ownsRow B 3 1 _ _ _ from hown).alloc _
       have hnew : ∀ j u, ([.int .i64 (i0 : Int)] : List Value)[j]? = some u → (wr.drew.alloc (.cells #[.int .i64 (i0 : Int)] 3)).cell? (Addr.add ⟨wr.drew.heap.size, 0, none⟩ j) = some u := fun j u hu => by
        match j, hu with
        | 0, hu => simp at hu; subst hu; exact cell_row (cur := [_]) (heap_alloc_new _ _) 0 _ rfl
       have hC0 : Keep (fun k => B ≤ k) wr wr.drew := (Keep.refl _ _).drew
       have hC1 : Keep (fun k => B ≤ k) wr (wr.drew.alloc (.cells #[.int .i64 (i0 : Int)] 3)) := hC0.alloc _
       have hcx1 : (wr.drew.alloc (.cells #[.int .i64 (i0 : Int)] 3)).cell? ⟨cb, m, none⟩ = some (.slice q0 (zs (Kk m)).length c0) := (World.cell?_of_block (a := ⟨cb, m, none⟩) ((Below.refl wr.drew.heap.size wr.drew).alloc (Nat.le_refl _) (.cells #[.int .i64 (i0 : Int)] 3) |>.block cb (by show cb < wr.heap.size; exact obj_lt HC.out.obj))).trans hcx
       have HKk : Hid (Kk = rwJ Q Th m j) := hKk
       have hcx2 : (wr.alloc (.cells #[.int .i64 (i0 : Int)] 3)).cell? ⟨cb, m, none⟩ = some (.slice q0 (zs (Kk m)).length c0) := hcx1
       have hzn : (zs (Kk m)).length ≤ 30 := by rw [hzl]; omega
       clear hpos hown HC hv HMW hKk hzl hlen
       go_upto_region 9 with fail
       refine wp_region_in (by kernel_rfl) (fun w' => Keep (fun k => B ≤ k) wr w') ?_
       change wpIn _ _ _ _ _ _ _ _ (World.drew _)
       refine wpIn_tk (i := 0) (d := some 33) rfl ?_
       refine wpIn_tk (i := 1) (d := some 34) rfl ?_
       refine wpIn_tk (i := 2) (d := some 35) rfl ?_
       refine wpIn_tk (i := 3) (d := some 36) rfl ?_
       refine wpIn_tk (i := 4) (d := some 37) rfl ?_
       refine wpIn_tk (i := 6) (d := some 39) rfl ?_
       refine wpIn_tk (i := 7) (d := some 40) rfl ?_
       refine wpIn_take (i := 8) (d := (some 41)) (v := .int .i64 (i0 : Int)) (a' := ?ar8) rfl rfl (by kernel_rfl) (by kernel_rfl) (by kernel_rfl) (fun _ _ _ h => h) (Or.inl ⟨by rfl, ?yr8⟩) ?fr8 ?_
       case yr8 => (intro wq hq; have hlk := HLK.out wq hq; go_simp; first | done | with_reducible rfl)
       case fr8 => (go_frame; rfl)
       refine wpIn_pair (i := 5) (j := 9) hC0 (by kernel_rfl) rfl rfl (by rfl) (by rfl) ?_ ?_
       · intro K hK
         go_simp
         refine hK _ _ ?_
         clear hK K
         refine wpIn_do (i := 9) hC0 (by kernel_rfl) rfl (by rfl) ?_
         intro K hK
         go_simp
         refine hK _ _ ?_
         clear hK K
         refine wpIn_do (i := 10) hC1 (by kernel_rfl) rfl (by rfl) ?_
         intro K hK
         refine wp_append_at (.tmp 38) (.tmp 42) 28 rfl B 3 (.int .i64 0) 1 8 Tryz.underlying28 Tryz.info3 rfl (by decide) (by decide) _ (zs (Kk m)).length ((zs (Kk m)).map (Value.int .i64)) rfl hownA _ [.int .i64 (i0 : Int)] rfl rfl hnew (fun u hu => by simp at hu; subst hu; rfl) (by omega) (by show B ≤ (wr.alloc _).heap.size; simp; omega) ?_
         intro v' w5 ho5 hg5 hl5
         refine hK _ _ ?_
         clear hK K
         have ho6 := own_snoc ho5
         obtain ⟨g1, g2, g3, g4⟩ := HP.out v' w5 ho6 hg5 hl5
         have G1 : Hid _ := g1
         have hC5 : Keep (fun k => B ≤ k) wr w5 := g2
         clear ho5 hg5 hl5 g1 g2
         obtain ⟨q', c', rfl, _⟩ := own_rd ho6
         rw [show (zs (Kk m) ++ [(i0 : Int)]).length = (zs (Kk m)).length + 1 by simp] at G1 ⊢
         refine wpIn_tk (i := 11) (d := some 44) rfl ?_
         refine wpIn_do (i := 12) hC5 (by kernel_rfl) rfl (by rfl) ?_
         intro K hK
         go_simp
         refine hK _ _ ?_
         clear hK K
         refine wpIn_done (hC5.setCell (p := ⟨cb, m, none⟩) (fun _ => hBcb) _) (by kernel_rfl) ?_ _
         go_wp2
         go_roundw
         case rel => exact ⟨j + 1, _, by omega, by go_num, by rw [List.length_set]; exact hcs, hkp.trans (hC5.setCell (p := ⟨cb, m, none⟩) (fun _ => hBcb) _) (fun _ _ h => h), G1⟩
         case measure => simp [intOf]; try omega
       · intro K hK
         go_simp
         refine hK _ _ ?_
         clear hK K
         refine wpIn_do (i := 5) hC1 (by kernel_rfl) rfl (by rfl) ?_
         intro K hK
         go_simp
         refine hK _ _ ?_
         clear hK K
         refine wpIn_do (i := 10) hC1 (by kernel_rfl) rfl (by rfl) ?_
         intro K hK
         refine wp_append_at (.tmp 38) (.tmp 42) 28 rfl B 3 (.int .i64 0) 1 8 Tryz.underlying28 Tryz.info3 rfl (by decide) (by decide) _ (zs (Kk m)).length ((zs (Kk m)).map (Value.int .i64)) rfl hownA _ [.int .i64 (i0 : Int)] rfl rfl hnew (fun u hu => by simp at hu; subst hu; rfl) (by omega) (by show B ≤ (wr.alloc _).heap.size; simp; omega) ?_
         intro v' w5 ho5 hg5 hl5
         refine hK _ _ ?_
         clear hK K
         have ho6 := own_snoc ho5
         obtain ⟨g1, g2, g3, g4⟩ := HP.out v' w5 ho6 hg5 hl5
         have G1 : Hid _ := g1
         have hC5 : Keep (fun k => B ≤ k) wr w5 := g2
         clear ho5 hg5 hl5 g1 g2
         obtain ⟨q', c', rfl, _⟩ := own_rd ho6
         rw [show (zs (Kk m) ++ [(i0 : Int)]).length = (zs (Kk m)).length + 1 by simp] at G1 ⊢
         refine wpIn_tk (i := 11) (d := some 44) rfl ?_
         refine wpIn_do (i := 12) hC5 (by kernel_rfl) rfl (by rfl) ?_
         intro K hK
         go_simp
         refine hK _ _ ?_
         clear hK K
         refine wpIn_done (hC5.setCell (p := ⟨cb, m, none⟩) (fun _ => hBcb) _) (by kernel_rfl) ?_ _
         go_wp2
         go_roundw
         case rel => exact ⟨j + 1, _, by omega, by go_num, by rw [List.length_set]; exact hcs, hkp.trans (hC5.setCell (p := ⟨cb, m, none⟩) (fun _ => hBcb) _) (fun _ _ h => h), G1⟩
         case measure => simp [intOf]; try omega
     · obtain rfl : j = r := by omega
       have HC3 : Hid (Ch B wr cb mb cs (rwJ Q Th (m + 1) 0)) := HC.out.congr fun p _ => by rw [HAL.out]
       go_wp2
       go_roundw
       case rel => exact ⟨m + 1, cs, by omega, by go_num, hcs, HKP.out.trans hkp fun _ _ h => h, HC3⟩
       case measure => simp [intOf]; try omega
  · obtain rfl : m = s := by omega
    have hrd := HC.out.read hBcb hcbm
    rw [hcs, ← HSN.out] at hrd
    have HRD : Hid _ := hrd
    go_wp2
    go_ret
    have hk := HKW.out wr hkp
    have hbb := HB0.out.size
    have hkz := hk.size
    refine ⟨cb, by rw [HSN.out]; rfl, ?_, belowP HB0.out hk⟩
    have e1 : (List.range Th.length).map (fun p => zs (rwJ Q Th Th.length 0 p)) = (rwsT Q Th).map zs := by
     unfold rwsT
     rw [List.map_map]
     refine List.map_congr_left fun p hp => ?_
     rw [rwJ_zero, if_pos (List.mem_range.1 hp)]
     rfl
    rw [← e1]
    exact RdR.carry (O := fun k => B ≤ k ∧ k ≠ mb ∧ k < wr.heap.size) HRD.out (fun _ _ => rfl) fun k hk => ⟨by omega, hk.2.2⟩
def cmpZ (a b : Int) : Int := if a < b then -1 else if b < a then 1 else 0
def cmpB (a b : ByteArray) : Int := if ltK a b = true then -1 else if ltK b a = true then 1 else 0
theorem nan3_any {w : World} (a : Int) : Calls Tryz.prog 105 #[.int .i64 a] w fun e w' => e = .returned (.bool false) ∧ w = w' := by
 go_enter Tryz.func105, Tryz.ntmps105
 go_wp2
 go_ret
 exact ⟨ret_bool (by simp), rfl⟩
theorem nan2_any {w : World} (a : Int) : Calls Tryz.prog 101 #[.int .i64 a] w fun e w' => e = .returned (.bool false) ∧ w = w' := by
 go_enter Tryz.func101, Tryz.ntmps101
 go_wp2
 go_ret
 exact ⟨ret_bool (by simp), rfl⟩
theorem cmp3_any {w : World} (a b : Int) : Calls Tryz.prog 78 #[.int .i64 a, .int .i64 b] w fun e w' => e = .returned (.int .i64 (cmpZ a b)) ∧ w = w' := by
 have h1 := nan3_any (w := w) a
 have h2 := nan3_any (w := w) b
 unfold cmpZ
 by_cases c1 : a < b
 · have d1 : decide (a < b) = true := decide_eq_true c1
   go_enter Tryz.func78, Tryz.ntmps78
   go_wp2_with (first
    | (go_at_call 105; refine h1.mono ?_; rintro e w' ⟨rfl, rfl⟩; clear h1)
    | (go_at_call 105; refine h2.mono ?_; rintro e w' ⟨rfl, rfl⟩; clear h2))
   go_ret
   exact ⟨ret_int (by first | rfl | simp [*]), rfl⟩
 · by_cases c2 : b < a
   · go_enter Tryz.func78, Tryz.ntmps78
     go_wp2_with (first
      | (go_at_call 105; refine h1.mono ?_; rintro e w' ⟨rfl, rfl⟩; clear h1)
      | (go_at_call 105; refine h2.mono ?_; rintro e w' ⟨rfl, rfl⟩; clear h2))
     go_ret
     exact ⟨ret_int (by first | rfl | simp [*]), rfl⟩
   · go_enter Tryz.func78, Tryz.ntmps78
     go_wp2_with (first
      | (go_at_call 105; refine h1.mono ?_; rintro e w' ⟨rfl, rfl⟩; clear h1)
      | (go_at_call 105; refine h2.mono ?_; rintro e w' ⟨rfl, rfl⟩; clear h2))
     go_ret
     exact ⟨ret_int (by first | rfl | simp [*]), rfl⟩
theorem cmp2_any {w : World} (a b : Int) : Calls Tryz.prog 71 #[.int .i64 a, .int .i64 b] w fun e w' => e = .returned (.int .i64 (cmpZ a b)) ∧ w = w' := by
 have h1 := nan2_any (w := w) a
 have h2 := nan2_any (w := w) b
 unfold cmpZ
 by_cases c1 : a < b
 · go_enter Tryz.func71, Tryz.ntmps71
   go_wp2_with (first
    | (go_at_call 101; refine h1.mono ?_; rintro e w' ⟨rfl, rfl⟩; clear h1)
    | (go_at_call 101; refine h2.mono ?_; rintro e w' ⟨rfl, rfl⟩; clear h2))
   go_ret
   exact ⟨ret_int (by first | rfl | simp [*]), rfl⟩
 · by_cases c2 : b < a
   · go_enter Tryz.func71, Tryz.ntmps71
     go_wp2_with (first
      | (go_at_call 101; refine h1.mono ?_; rintro e w' ⟨rfl, rfl⟩; clear h1)
      | (go_at_call 101; refine h2.mono ?_; rintro e w' ⟨rfl, rfl⟩; clear h2))
     go_ret
     exact ⟨ret_int (by first | rfl | simp [*]), rfl⟩
   · go_enter Tryz.func71, Tryz.ntmps71
     go_wp2_with (first
      | (go_at_call 101; refine h1.mono ?_; rintro e w' ⟨rfl, rfl⟩; clear h1)
      | (go_at_call 101; refine h2.mono ?_; rintro e w' ⟨rfl, rfl⟩; clear h2))
     go_ret
     exact ⟨ret_int (by first | rfl | simp [*]), rfl⟩
theorem cmpS_any {w : World} (a b : ByteArray) : Calls Tryz.prog 74 #[.string a, .string b] w fun e w' => e = .returned (.int .i64 (cmpB a b)) ∧ w = w' := by
 have h1 := cNaN_any (w := w) a
 have h2 := cNaN_any (w := w) b
 have l1 := lessP_ltK a b
 have l2 := lessP_ltK b a
 unfold cmpB
 cases c1 : ltK a b with
 | true =>
  rw [c1] at l1
  go_enter Tryz.func74, Tryz.ntmps74
  go_wp2_with (first
   | (go_at_call 102; refine h1.mono ?_; rintro e w' ⟨rfl, rfl⟩; clear h1)
   | (go_at_call 102; refine h2.mono ?_; rintro e w' ⟨rfl, rfl⟩; clear h2))
  go_ret
  exact ⟨ret_int (by first | rfl | simp [*]), rfl⟩
 | false =>
  rw [c1] at l1
  cases c2 : ltK b a with
  | true =>
   rw [c2] at l2
   have e1 : (a.toList == b.toList) = false := by
    rw [beq_eq_false_iff_ne]
    intro h
    exact ltK_ne c2 (toList_inj h).symm
   go_enter Tryz.func74, Tryz.ntmps74
   go_wp2_with (first
    | (go_at_call 102; refine h1.mono ?_; rintro e w' ⟨rfl, rfl⟩; clear h1)
    | (go_at_call 102; refine h2.mono ?_; rintro e w' ⟨rfl, rfl⟩; clear h2))
   go_ret
   exact ⟨ret_int (by first | rfl | simp [*]), rfl⟩
  | false =>
   rw [c2] at l2
   have e1 : (a.toList == b.toList) = true := by
    by_cases h : a = b
    · rw [h]; exact beq_self_eq_true _
    · rcases ltK_total h with h' | h'
      · rw [c1] at h'; cases h'
      · rw [c2] at h'; cases h'
   go_enter Tryz.func74, Tryz.ntmps74
   go_wp2_with (first
    | (go_at_call 102; refine h1.mono ?_; rintro e w' ⟨rfl, rfl⟩; clear h1)
    | (go_at_call 102; refine h2.mono ?_; rintro e w' ⟨rfl, rfl⟩; clear h2))
   go_ret
   exact ⟨ret_int (by first | rfl | simp [*]), rfl⟩
theorem num_in {z : Int} {o : Option J} (h : (numT z o).2 = false) (hz : -1073741824 ≤ z ∧ z ≤ 1073741824) : -1073741824 ≤ (numT z o).1 ∧ (numT z o).1 ≤ 1073741824 := by
 cases o with
 | none => exact hz
 | some v =>
  simp only [numT, Bool.not_eq_false'] at h ⊢
  unfold lvOk at h
  simp only [Bool.and_eq_true, decide_eq_true_eq] at h
  exact h.2
theorem fnd_mem {l : Nms} {s : ByteArray} {x : Int} (h : fnd l s = some x) : ∃ p ∈ l, p.2 = x := by
 induction l with
 | nil => cases h
 | cons p r ih =>
  unfold fnd at h
  split at h
  · cases h
    exact ⟨p, List.mem_cons_self .., rfl⟩
  · obtain ⟨y, hy, e⟩ := ih h
    exact ⟨y, List.mem_cons_of_mem _ hy, e⟩
theorem usr_in {c : J} (h : (parseT c).2 = 0) (s : ByteArray) : -1073741824 ≤ usr (parseT c).1 s ∧ usr (parseT c).1 s ≤ 1073741824 := by
 unfold parseT at h ⊢
 split at h
 · cases h
 · rename_i hb
   rw [if_neg hb]
   unfold parseB at hb
   simp only [Bool.or_eq_true, not_or, Bool.not_eq_true] at hb
   obtain ⟨⟨⟨_, hu⟩, hrow⟩, _⟩ := hb
   show _ ≤ (fnd (parseL c).byUser s).getD (parseL c).users ∧ (fnd (parseL c).byUser s).getD (parseL c).users ≤ _
   cases hf : fnd (parseL c).byUser s with
   | none => exact num_in hu (by omega)
   | some x =>
    obtain ⟨q, hq, rfl⟩ := fnd_mem hf
    show _ ≤ q.2 ∧ q.2 ≤ _
    have hq2 : q ∈ (rowT isU (lookV c.ks c.ls kByUser)).1 := hq
    revert hq2 hrow
    cases lookV c.ks c.ls kByUser with
    | none => intro _ h; cases h
    | some v =>
     intro hrow hq2
     simp only [rowT, Bool.or_eq_false_iff] at hrow
     obtain ⟨y, hy, rfl⟩ := List.mem_map.1 hq2
     have := List.any_eq_false.1 hrow.2 y hy
     unfold badIn lvOk at this
     simp only [Bool.or_eq_true, not_or, Bool.not_eq_true', Bool.not_eq_false, Bool.and_eq_true, decide_eq_true_eq] at this
     exact this.2.2
theorem level_in (p : Pa) (i : Nat) : -1073741824 ≤ levelT p i ∧ levelT p i ≤ 1073741824 := by
 unfold levelT
 split
 · split
   · rename_i h; exact usr_in h _
   · omega
 · split
   · unfold usr
     show _ ≤ (fnd [(_, (100 : Int))] _).getD 0 ∧ (fnd [(_, (100 : Int))] _).getD 0 ≤ _
     unfold fnd
     split
     · exact ⟨by show (-1073741824 : Int) ≤ 100; decide, by show (100 : Int) ≤ 1073741824; decide⟩
     · unfold fnd; exact ⟨by decide, by decide⟩
   · omega
theorem level_wf (p : Pa) (i : Nat) : wf64 (levelT p i) := by
 have := level_in p i
 unfold wf64
 omega
def nmT (p : Pa) (i : Nat) : ByteArray := p.names.getD i nix
def cmpT (num : Nat → Int) (p : Pa) (a b : Nat) : Int :=
 if cmpZ (num b) (num a) ≠ 0 then cmpZ (num b) (num a) else if cmpZ (evT p a).ts (evT p b).ts ≠ 0 then cmpZ (evT p a).ts (evT p b).ts else if cmpB (nmT p a) (nmT p b) ≠ 0 then cmpB (nmT p a) (nmT p b) else cmpZ a b
def LtT (num : Nat → Int) (p : Pa) (a b : Nat) : Prop :=
 num b < num a ∨ num a = num b ∧ ((evT p a).ts < (evT p b).ts ∨ (evT p a).ts = (evT p b).ts ∧ (ltK (nmT p a) (nmT p b) = true ∨ nmT p a = nmT p b ∧ a < b))
theorem cmpZ_neg (a b : Int) : cmpZ a b < 0 ↔ a < b := by unfold cmpZ; split <;> (try split) <;> omega
theorem cmpZ_zero (a b : Int) : cmpZ a b = 0 ↔ a = b := by unfold cmpZ; split <;> (try split) <;> omega
theorem cmpB_neg (a b : ByteArray) : cmpB a b < 0 ↔ ltK a b = true := by
 unfold cmpB
 split
 · rename_i h; simp [h]
 · rename_i h
   split <;> simp [h]
theorem cmpB_zero (a b : ByteArray) : cmpB a b = 0 ↔ a = b := by
 unfold cmpB
 constructor
 · intro h
   refine Classical.byContradiction fun hn => ?_
   rcases ltK_total hn with h' | h'
   · rw [if_pos h'] at h; cases h
   · split at h
     · cases h
     · first
         | (cases h; done)
         | (rw [if_pos h'] at h; cases h)
 · rintro rfl
   rw [ltK_irrefl]
   rfl
theorem cmpT_neg (num : Nat → Int) (p : Pa) (a b : Nat) : cmpT num p a b < 0 ↔ LtT num p a b := by
 unfold cmpT LtT
 by_cases h1 : cmpZ (num b) (num a) = 0
 · have e1 := (cmpZ_zero _ _).1 h1
   rw [if_neg (by simpa using h1)]
   by_cases h2 : cmpZ (evT p a).ts (evT p b).ts = 0
   · have e2 := (cmpZ_zero _ _).1 h2
     rw [if_neg (by simpa using h2)]
     by_cases h3 : cmpB (nmT p a) (nmT p b) = 0
     · have e3 := (cmpB_zero _ _).1 h3
       rw [if_neg (by simpa using h3), cmpZ_neg]
       constructor
       · intro h; exact .inr ⟨e1.symm, .inr ⟨e2, .inr ⟨e3, by omega⟩⟩⟩
       · rintro (h | ⟨_, h | ⟨_, h | ⟨_, h⟩⟩⟩)
         · omega
         · omega
         · rw [e3, ltK_irrefl] at h; cases h
         · omega
     · rw [if_pos h3, cmpB_neg]
       constructor
       · intro h; exact .inr ⟨e1.symm, .inr ⟨e2, .inl h⟩⟩
       · rintro (h | ⟨_, h | ⟨_, h | ⟨h, _⟩⟩⟩)
         · omega
         · omega
         · exact h
         · exact absurd ((cmpB_zero _ _).2 h) h3
   · rw [if_pos h2, cmpZ_neg]
     have e2 : ¬ (evT p a).ts = (evT p b).ts := fun h => h2 ((cmpZ_zero _ _).2 h)
     constructor
     · intro h; exact .inr ⟨e1.symm, .inl h⟩
     · rintro (h | ⟨_, h | ⟨h, _⟩⟩)
       · omega
       · exact h
       · exact absurd h e2
 · rw [if_pos h1, cmpZ_neg]
   have e1 : ¬ num b = num a := fun h => h1 ((cmpZ_zero _ _).2 h)
   constructor
   · intro h; exact .inl h
   · rintro (h | ⟨h, _⟩)
     · exact h
     · exact absurd h.symm e1
theorem ltT_irrefl (num : Nat → Int) (p : Pa) (a : Nat) : ¬ LtT num p a a := by
 unfold LtT
 rintro (h | ⟨_, h | ⟨_, h | ⟨_, h⟩⟩⟩)
 · omega
 · omega
 · rw [ltK_irrefl] at h; cases h
 · omega
theorem ltT_trans {num : Nat → Int} {p : Pa} {a b c : Nat} (h : LtT num p a b) (k : LtT num p b c) : LtT num p a c := by
 unfold LtT at *
 rcases h with h | ⟨h1, h⟩
 · rcases k with k | ⟨k1, _⟩ <;> exact .inl (by omega)
 · rcases k with k | ⟨k1, k⟩
   · exact .inl (by omega)
   · refine .inr ⟨by omega, ?_⟩
     rcases h with h | ⟨h2, h⟩
     · rcases k with k | ⟨k2, _⟩ <;> exact .inl (by omega)
     · rcases k with k | ⟨k2, k⟩
       · exact .inl (by omega)
       · refine .inr ⟨by omega, ?_⟩
         rcases h with h | ⟨h3, h⟩
         · rcases k with k | ⟨k3, _⟩
           · exact .inl (ltK_trans h k)
           · exact .inl (k3 ▸ h)
         · rcases k with k | ⟨k3, k⟩
           · exact .inl (h3 ▸ k)
           · exact .inr ⟨h3.trans k3, by omega⟩
theorem ltT_total (num : Nat → Int) (p : Pa) {a b : Nat} (h : a ≠ b) : LtT num p a b ∨ LtT num p b a := by
 unfold LtT
 rcases Int.lt_trichotomy (num a) (num b) with h1 | h1 | h1
 · exact .inr (.inl h1)
 · rcases Int.lt_trichotomy (evT p a).ts (evT p b).ts with h2 | h2 | h2
   · exact .inl (.inr ⟨h1, .inl h2⟩)
   · by_cases h3 : nmT p a = nmT p b
     · rcases Nat.lt_or_gt_of_ne h with h4 | h4
       · exact .inl (.inr ⟨h1, .inr ⟨h2, .inr ⟨h3, h4⟩⟩⟩)
       · exact .inr (.inr ⟨h1.symm, .inr ⟨h2.symm, .inr ⟨h3.symm, h4⟩⟩⟩)
     · rcases ltK_total h3 with h4 | h4
       · exact .inl (.inr ⟨h1, .inr ⟨h2, .inl h4⟩⟩)
       · exact .inr (.inr ⟨h1.symm, .inr ⟨h2.symm, .inl h4⟩⟩)
   · exact .inr (.inr ⟨h1.symm, .inl h2⟩)
 · exact .inl (.inl h1)
structure Rkd (num : Nat → Int) (p : Pa) (S L : List Nat) : Prop where
 perm : L.Perm S
 sorted : L.Pairwise (LtT num p)
theorem rkd_one {num : Nat → Int} {p : Pa} : ∀ {L M : List Nat}, L.Perm M → L.Pairwise (LtT num p) → M.Pairwise (LtT num p) → L = M
 | [], M, h, _, _ => h.nil_eq
 | a :: L, M, h, h1, h2 => by
  cases M with
  | nil => exact absurd h.length_eq (by simp)
  | cons b M =>
   rw [List.pairwise_cons] at h1 h2
   have hab : a = b := by
    refine Classical.byContradiction fun hne => ?_
    have ha : a ∈ M := (List.mem_cons.1 (h.mem_iff.1 (List.mem_cons_self ..))).resolve_left hne
    have hb : b ∈ L := (List.mem_cons.1 (h.mem_iff.2 (List.mem_cons_self ..))).resolve_left fun e => hne e.symm
    exact ltT_irrefl num p a (ltT_trans (h1.1 b hb) (h2.1 a ha))
   subst hab
   rw [rkd_one (h.cons_inv) h1.2 h2.2]
theorem Rkd.uniq {num : Nat → Int} {p : Pa} {S L M : List Nat} (h : Rkd num p S L) (k : Rkd num p S M) : L = M := rkd_one (h.perm.trans k.perm.symm) h.sorted k.sorted
end Go.Proofs.YtimhpglfolbomaaGreat.Od

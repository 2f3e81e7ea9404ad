/-
  edges: how many parents each thing waits for, and who waits for it.
-/
import Derived.Test.YtmkppbcngpgkdabOInside
import Derived.Test.YtmkppbcngpgkdabOKids
namespace Go.Proofs.Ytmkppbcngpgkdab
open Go.RowKit Go.Maps

abbrev nilS : Value := .slice none 0 0
/-- Block cb is a row of rows of the call's own: of each p < cs.length the row K p. -/
structure Ch (B : Nat) (w : World) (cb wb : Nat) (cs : List Value) (K : Nat → List Nat) : Prop where
  obj : w.heap[cb]? = some (.cells cs.toArray 24)
  own : ∀ p, p < cs.length → w.ownsRow B 3 1 (cs.getD p nilS) (zs (K p)).length ((zs (K p)).map (Value.int .i64))
  ne : ∀ p, p < cs.length → (cs.getD p nilS).ownBlock ≠ some cb ∧ (cs.getD p nilS).ownBlock ≠ some wb
  apart : ∀ p q, p < cs.length → q < cs.length → p ≠ q → ∀ k, (cs.getD p nilS).ownBlock = some k → (cs.getD q nilS).ownBlock ≠ some k
theorem Ch.keep {B : Nat} {w w' : World} {cb wb : Nat} {cs : List Value} {K : Nat → List Nat} (h : Ch B w cb wb cs K) (hk : Keep (· = wb) w w') (hne : cb ≠ wb) : Ch B w' cb wb cs K :=
  ⟨(hk.block cb (obj_lt h.obj) hne).trans h.obj, fun p hp => own_same (h.own p hp) (Same.of_keep hk fun k e => ⟨((h.own p hp).lt k e).2, fun e' => (h.ne p hp).2 (e' ▸ e)⟩), h.ne, h.apart⟩
theorem Ch.congr {B : Nat} {w : World} {cb wb : Nat} {cs : List Value} {K K' : Nat → List Nat} (h : Ch B w cb wb cs K) (hK : ∀ p, p < cs.length → K' p = K p) : Ch B w cb wb cs K' :=
  ⟨h.obj, fun p hp => by rw [hK p hp]; exact h.own p hp, h.ne, h.apart⟩
theorem getD_setV (l : List Value) (i k : Nat) (x : Value) (hi : i < l.length) : (l.set i x).getD k nilS = if k = i then x else l.getD k nilS := by
  simp only [List.getD_eq_getElem?_getD, List.getElem?_set]
  by_cases e : i = k
  · subst e
    simp [hi]
  · rw [if_neg e, if_neg (fun h => e h.symm)]
theorem Ch.step {B : Nat} {w w1 : World} {cb wb : Nat} {cs : List Value} {K : Nat → List Nat} (h : Ch B w cb wb cs K) {p i : Nat} (hp : p < cs.length) {v' : Value} (hwb : wb < w.heap.size)
    (ho : w1.ownsRow B 3 1 v' (zs (K p) ++ [(i : Int)]).length ((zs (K p) ++ [(i : Int)]).map (Value.int .i64))) (hk : Keep ((cs.getD p nilS).ownBlock = some ·) w w1) (hl : v'.ownBlock = (cs.getD p nilS).ownBlock ∨ ∀ k, v'.ownBlock = some k → w.heap.size ≤ k) :
    Ch B (w1.setCell ⟨cb, p, none⟩ v') cb wb (cs.set p v') (fun q => if q = p then K p ++ [i] else K q) ∧ Keep (fun k => k = cb ∨ (cs.getD p nilS).ownBlock = some k) w (w1.setCell ⟨cb, p, none⟩ v') ∧ w1.cell? ⟨cb, p, none⟩ = some (cs.getD p nilS) ∧ w1.frozen? ⟨cb, p, none⟩ = false := by
  have hcb := obj_lt h.obj
  have ho1 : w1.heap[cb]? = some (.cells cs.toArray 24) := (hk.block cb hcb (h.ne p hp).1).trans h.obj
  have hv' : ∀ k, k < w.heap.size → (cs.getD p nilS).ownBlock ≠ some k → v'.ownBlock ≠ some k := by
    intro k hk1 hk2 e
    rcases hl with h' | h'
    · exact hk2 (h'.symm.trans e)
    · have := h' k e; omega
  have hne1 := hv' cb hcb (h.ne p hp).1
  have hne2 := hv' wb hwb (h.ne p hp).2
  have hk2 : Keep (fun k => k = cb ∨ (cs.getD p nilS).ownBlock = some k) w (w1.setCell ⟨cb, p, none⟩ v') := (hk.mono fun k _ h => .inr h).setCell (p := ⟨cb, p, none⟩) (fun _ => .inl rfl) _
  refine ⟨⟨?_, ?_, ?_, ?_⟩, hk2, ?_, ?_⟩
  · rw [heap_setCell_same w1 cb p _ _ _ ho1]
    simp
  · intro q hq
    rw [List.length_set] at hq
    rw [getD_setV cs p q v' hp]
    by_cases e : q = p
    · rw [if_pos e, if_pos e]
      have := ownsRow_setCell_other ho (a := ⟨cb, p, none⟩) hne1 v'
      have e2 : zs (K p ++ [i]) = zs (K p) ++ [(i : Int)] := by simp [zs]
      rw [e2]
      exact this
    · rw [if_neg e, if_neg e]
      refine own_same (h.own q hq) (Same.of_keep hk2 fun k ek => ⟨((h.own q hq).lt k ek).2, ?_⟩)
      rintro (e1 | e1)
      · exact (h.ne q hq).1 (e1 ▸ ek)
      · exact h.apart q p hq hp e k ek e1
  · intro q hq
    rw [List.length_set] at hq
    rw [getD_setV cs p q v' hp]
    split
    · exact ⟨hne1, hne2⟩
    · exact h.ne q hq
  · intro a b ha hb hab k
    rw [List.length_set] at ha hb
    rw [getD_setV cs p a v' hp, getD_setV cs p b v' hp]
    split
    · rename_i e
      subst e
      rw [if_neg (fun e => hab e.symm)]
      intro ek eb
      exact hv' k ((h.own b hb).lt k eb).2 (fun e' => h.apart a b hp hb hab k e' eb) ek
    · split
      · rename_i e
        subst e
        intro ek
        exact hv' k ((h.own a ha).lt k ek).2 (h.apart a b ha hp hab k ek)
      · exact h.apart a b ha hb hab k
  · exact cell_row (cur := cs) ho1 p _ (by rw [List.getElem?_eq_getElem hp, getD_in hp])
  · exact frozen_of_row w1 cb p _ _ ho1
theorem Ch.read {B : Nat} {w : World} {cb wb : Nat} {cs : List Value} {K : Nat → List Nat} (h : Ch B w cb wb cs K) (hB : B ≤ cb) (hne : cb ≠ wb) : RdR (fun k => B ≤ k ∧ k ≠ wb ∧ k < w.heap.size) w (some ⟨cb, 0, none⟩) cs.length ((List.range cs.length).map fun p => zs (K p)) := by
  refine ⟨by simp, fun j hj => ?_⟩
  have hj' : j < cs.length := by simpa using hj
  have e : ((List.range cs.length).map fun p => zs (K p)).getD j [] = zs (K j) := by rw [getD_in hj]; simp
  rw [e]
  obtain ⟨q, cq, hv, hr⟩ := own_rd (h.own j hj')
  refine ⟨cb, 0, q, cq, rfl, ⟨hB, hne, obj_lt h.obj⟩, ?_, hr.carry (fun _ _ => rfl) fun k hk => ⟨((h.own j hj').lt k hk).1, fun e => (h.ne j hj').2 (e ▸ hk), ((h.own j hj').lt k hk).2⟩⟩
  rw [Nat.zero_add, ← hv]
  exact cell_row (cur := cs) h.obj j _ (by rw [List.getElem?_eq_getElem hj', getD_in hj'])
theorem Ch.start {w : World} (B n wb : Nat) : Ch B (w.alloc (.cells (List.replicate n nilS).toArray 24)) w.heap.size wb (List.replicate n nilS) (fun _ => []) := by
  have e : ∀ p, (List.replicate n nilS).getD p nilS = nilS := fun p => by
    rw [List.getD_eq_getElem?_getD, List.getElem?_replicate]
    split <;> rfl
  refine ⟨heap_alloc_new _ _, fun p _ => ?_, fun p _ => ?_, fun p q _ _ _ k => ?_⟩
  · rw [e]; exact World.ownsRow_nil _ _ _ _
  · rw [e]; exact ⟨by simp [Value.ownBlock], by simp [Value.ownBlock]⟩
  · rw [e]; simp [Value.ownBlock]
/-- What edges tells. -/
def EdgesP (Q : List (List Nat)) (w : World) (e : Ending) (w' : World) : Prop :=
  ∃ wb cb, e = .returned (.tuple #[.slice (some ⟨wb, 0, none⟩) Q.length Q.length, .slice (some ⟨cb, 0, none⟩) Q.length Q.length]) ∧ w.heap.size ≤ wb ∧ wb < w'.heap.size ∧ Below w.heap.size w w' ∧ Ik w' wb (wl Q Q.length Q.length) ∧
    RdR (fun k => w.heap.size ≤ k ∧ k ≠ wb ∧ k < w'.heap.size) w' (some ⟨cb, 0, none⟩) Q.length ((List.range Q.length).map fun p => zs (kidR Q Q.length p))
theorem wpList_ints {W : World} {ops : Array Oper} {rest : List Oper} {o : Oper} {a : Act} {Q : Exit → Act → World → Prop} (hgd : o.guard = none) (x y : Operand) (ho : o.op = .makeSlice 24 x y) (m n : Nat) (hm : m ≤ n) (hn : n ≤ 1000000) (hx : a.eval x = .int .i64 (m : Int)) (hy : a.eval y = .int .i64 (n : Int))
    (h : ∀ W', Hid (W' = W.alloc (.cells ((List.replicate n (0 : Int)).map (Value.int .i64)).toArray 3)) → wpList Try.prog ops Q rest (a.put o.dst (.slice (some ⟨W.heap.size, 0, none⟩) m n)) W') : wpList Try.prog ops Q (o :: rest) a W := by
  refine wpList_plain hgd fun K hK => ?_
  have hrun := make_ints W m n hm hn
  unfold Oper.wp
  simp [execOp, ho, hx, hy, hrun, Result.andThen]
  refine hK _ _ ?_
  have := h _ rfl
  simpa using this
theorem wpList_rows {W : World} {ops : Array Oper} {rest : List Oper} {o : Oper} {a : Act} {Q : Exit → Act → World → Prop} (hgd : o.guard = none) (x y : Operand) (ho : o.op = .makeSlice 22 x y) (n : Nat) (hn : n ≤ 1000000) (hx : a.eval x = .int .i64 (n : Int)) (hy : a.eval y = .int .i64 (n : Int))
    (h : ∀ W', Hid (W' = W.alloc (.cells (List.replicate n nilS).toArray 24)) → wpList Try.prog ops Q rest (a.put o.dst (.slice (some ⟨W.heap.size, 0, none⟩) n n)) W') : wpList Try.prog ops Q (o :: rest) a W := by
  refine wpList_plain hgd fun K hK => ?_
  have hrun := make_rows W n hn
  unfold Oper.wp
  simp [execOp, ho, hx, hy, hrun, Result.andThen]
  refine hK _ _ ?_
  have := h _ rfl
  simpa using this
theorem rows_at (Q : List (List Nat)) (j : Nat) : (Q.map zs).getD j [] = zs (par Q j) := by
  unfold par
  simp only [List.getD_eq_getElem?_getD, List.getElem?_map]
  cases Q[j]? <;> rfl

set_option maxHeartbeats 8000000 in
theorem edges_any (Q : List (List Nat)) (p : Option Addr) (c : Nat) (w : World) (r : RdR (· < w.heap.size) w p c (Q.map zs)) (hQ : Q.length ≤ 1000) (hl : ∀ i, (par Q i).length ≤ 1000) (hin : ∀ i, ∀ x ∈ par Q i, x < Q.length) :
    Calls Try.prog 16 #[.slice p Q.length c] w (EdgesP Q w) := by
  have HL : Hid (∀ i, (par Q i).length ≤ 1000) := hl
  have HI : Hid (∀ i, ∀ x ∈ par Q i, x < Q.length) := hin
  have HR : Hid (RdR (· < w.heap.size) w p c (Q.map zs)) := r
  clear hl hin r
  obtain ⟨n, hn⟩ : ∃ n, Q.length = n := ⟨_, rfl⟩
  have HN : Hid (Q.length = n) := hn
  rw [hn] at hQ ⊢
  clear hn
  go_enter Try.func16, Try.ntmps16
  go_wp2_with (first
    | (refine wpList_ints rfl _ _ rfl n n (Nat.le_refl _) (by omega) rfl rfl ?_; intro w1 hw1; have hs1 : w1.heap.size = w.heap.size + 1 := by rw [hw1.out]; simp)
    | (refine wpList_rows rfl _ _ rfl n (by omega) rfl rfl ?_; intro w2 hw2))
  have hk0 : Keep (fun k => w.heap.size ≤ k) w w2 := by rw [hw2.out, hw1.out]; exact ((Keep.refl _ w).alloc _).alloc _
  have hi0 : Ik w2 w.heap.size (wl Q n 0) := by
    rw [wl_zero, hw2.out]
    exact (Below.block ((Below.refl w1.heap.size w1).alloc (Nat.le_refl _) _) _ (by omega)).trans (by rw [hw1.out]; exact heap_alloc_new _ _)
  have hc0 : Ch w.heap.size w2 (w.heap.size + 1) w.heap.size (List.replicate n nilS) (kidR Q 0) := by rw [hw2.out, ← hs1]; exact (Ch.start _ _ _).congr fun _ _ => rfl
  clear hw1 hw2
  obtain ⟨B, hB⟩ : ∃ B, w.heap.size = B := ⟨_, rfl⟩
  have HB : Hid (w.heap.size = B) := hB
  rw [hB] at hs1 hc0 hk0 hi0 HR ⊢
  obtain ⟨cb, hcb⟩ : ∃ cb, B + 1 = cb := ⟨_, rfl⟩
  rw [hcb] at hc0 ⊢
  clear hs1 hB
  go_loopw [18] (fun i wr => ∃ (k : Nat) (cs : List Value), k ≤ n ∧ i = .int .i64 k ∧ cs.length = n ∧ Keep (fun k => B ≤ k) w wr ∧ Ik wr B (wl Q n k) ∧ Hid (Ch B wr cb B cs (kidR Q k))) (fun i _ => n - (intOf i).toNat)
  case atStart => exact ⟨0, _, Nat.zero_le _, rfl, by simp, hk0, hi0, hc0⟩
  case round =>
    obtain ⟨k, cs, hk, rfl, hcs, hkp, hik, HC⟩ := hrel
    clear hk0 hi0 hc0
    by_cases hlt : k < n
    · have hS : ∀ wx, Keep (fun k => B ≤ k) w wx → Same (· < B) w wx := fun wx hx => Same.of_keep hx fun j hj => ⟨by rw [HB.out]; exact hj, by omega⟩
      obtain ⟨ad, p1, c1, rfl, _, hcell, hr⟩ := (HR.out.carry (hS _ hkp) fun _ h => h).at k (by rw [List.length_map, HN.out]; exact hlt)
      rw [rows_at, zs_len] at hcell
      rw [rows_at] at hr
      have hrl := HL.out k
      have HX : Hid (∀ x ∈ par Q k, x < n) := by rw [← HN.out]; exact HI.out k
      have hc1 := hik.cell k (by rw [wl_len]; exact hlt)
      have hf1 := hik.fz k
      have HK2 : Hid (Ik (wr.setCell ⟨B, k, none⟩ (.int .i64 ((par Q k).length : Int))) B (wl Q n (k + 1))) := by rw [← wl_set]; exact hik.set k _
      have HKp : Hid (Keep (fun k => B ≤ k) w (wr.setCell ⟨B, k, none⟩ (.int .i64 ((par Q k).length : Int)))) := hkp.setCell (fun _ => Nat.le_refl _) _
      have HC2 : Hid (Ch B (wr.setCell ⟨B, k, none⟩ (.int .i64 ((par Q k).length : Int))) cb B cs (kidJ Q k 0)) := (HC.out.keep ((Keep.refl (· = B) wr).setCell (p := ⟨B, k, none⟩) (fun _ => rfl) _) (by omega)).congr fun p _ => kidJ_zero Q k p
      have HRr : Hid (∀ wx, Keep (fun k => B ≤ k) w wx → RdI (· < B) wx p1 c1 (zs (par Q k))) := by
        intro wx hx
        obtain ⟨ad', p1', c1', e, _, hcell', hr'⟩ := (HR.out.carry (hS _ hx) fun _ h => h).at k (by rw [List.length_map, HN.out]; exact hlt)
        cases e
        rw [rows_at, zs_len] at hcell'
        rw [rows_at] at hr'
        have e2 : wx.cell? (ad.add k) = wr.cell? (ad.add k) := by
          rename_i hab
          have hab' : ad.block < B := hab
          rw [World.cell?_of_block ((hS _ hx) _ (by rw [add_block]; exact hab')), World.cell?_of_block ((hS _ hkp) _ (by rw [add_block]; exact hab'))]
        rw [e2, hcell] at hcell'
        cases hcell'
        exact hr'
      obtain ⟨m, hm⟩ : ∃ m, (par Q k).length = m := ⟨_, rfl⟩
      have HM : Hid ((par Q k).length = m) := hm
      rw [hm] at hcell hrl HK2 HKp HC2
      clear hm hr hik hkp hS HC
      go_wp2
      go_loopw [30] (fun i wx => ∃ (j : Nat) (cs : List Value), j ≤ m ∧ i = .int .i64 j ∧ cs.length = n ∧ Keep (fun k => B ≤ k) w wx ∧ Hid (Ik wx B (wl Q n (k + 1))) ∧ Hid (Ch B wx cb B cs (kidJ Q k j))) (fun i _ => m - (intOf i).toNat)
      case atStart => exact ⟨0, cs, Nat.zero_le _, rfl, hcs, HKp.out, HK2, HC2⟩
      case round =>
        obtain ⟨j, cs, hj, rfl, hcs, hkp, HK, HC⟩ := hrel
        clear hc1 hf1 hcell HK2 HKp HC2
        by_cases hjt : j < m
        · have hjm : j < (par Q k).length := by rw [HM.out]; exact hjt
          obtain ⟨ad2, rfl, _, hcj⟩ := (HRr.out _ hkp).at j 0 (by rw [zs_len]; exact hjm)
          rw [zs_getD] at hcj
          have hx := HX.out _ (getD_inm (d := 0) hjm)
          have HS1 : Hid _ := kidJ_same Q k j hjm
          have HS2 : Hid _ := fun p hp => kidJ_other Q k j p hjm hp
          generalize (par Q k).getD j 0 = x at *
          have hown := HC.out.own x (by omega)
          obtain ⟨q, cq, hv, _⟩ := own_rd hown
          have hcx := cell_row (cur := cs) HC.out.obj x _ (by rw [List.getElem?_eq_getElem (by omega), ← getD_in (d := nilS) (by omega)])
          have hlen : (zs (kidJ Q k j x)).length ≤ 1000000000 := by
            rw [zs_len]
            have := kidJ_len (p := x) HL.out k j
            have : k * 1000 ≤ 1000 * 1000 := Nat.mul_le_mul_right _ (by omega)
            omega
          have hsz : B < wr.heap.size := obj_lt HK.out
          have HP : Hid (∀ v' w1, w1.ownsRow B 3 1 v' (zs (kidJ Q k j x) ++ [(k : Int)]).length ((zs (kidJ Q k j x) ++ [(k : Int)]).map (Value.int .i64)) → (wr.alloc (.cells #[.int .i64 k] 3)).grownBy w1 (cs.getD x nilS).ownBlock → (v'.ownBlock = (cs.getD x nilS).ownBlock ∨ v'.ownBlock = some (wr.alloc (.cells #[.int .i64 k] 3)).heap.size) →
              (Ch B (w1.setCell ⟨cb, x, none⟩ v') cb B (cs.set x v') (kidJ Q k (j + 1)) ∧ Keep (fun k => B ≤ k) w (w1.setCell ⟨cb, x, none⟩ v') ∧ Ik (w1.setCell ⟨cb, x, none⟩ v') B (wl Q n (k + 1))) ∧ w1.cell? ⟨cb, x, none⟩ = some (cs.getD x nilS) ∧ w1.frozen? ⟨cb, x, none⟩ = false) := by
            intro v' w1 ho hg hl
            have hk1 : Keep ((cs.getD x nilS).ownBlock = some ·) wr w1 := ((Keep.refl _ wr).alloc (.cells #[.int .i64 k] 3)).trans (Keep.of_grown (S := ((cs.getD x nilS).ownBlock = some ·)) hg fun k _ e => e) fun _ _ h => h
            have hlo : v'.ownBlock = (cs.getD x nilS).ownBlock ∨ ∀ k, v'.ownBlock = some k → wr.heap.size ≤ k := by
              refine hl.imp id fun e k hk => ?_
              rw [e] at hk
              cases hk
              simp
            obtain ⟨s1, s2, s3, s4⟩ := HC.out.step (p := x) (i := k) (by omega) hsz ho hk1 hlo
            refine ⟨⟨s1.congr fun p _ => ?_, hkp.trans s2 fun i hi e => ?_, ?_⟩, s3, s4⟩
            · by_cases e : p = x
              · rw [if_pos e, e]; exact HS1.out
              · rw [if_neg e]; exact HS2.out p e
            · rcases e with e | e
              · omega
              · exact (hown.lt i e).1
            · refine HK.out.same (s2.block B hsz ?_)
              rintro (e | e)
              · omega
              · exact (HC.out.ne x (by omega)).2 e
          rw [hv] at hcx hown
          have HV : Hid (cs.getD x nilS = .slice q (zs (kidJ Q k j x)).length cq) := hv
          rw [hv] at HP
          clear hv HC HK
          go_wp2_with (first
            | (at_builtin; refine wpList_push rfl (.tmp 39) (.tmp 41) 24 3 (.int .i64 0) 8 rfl Try.underlying24 Try.info3 rfl (by decide) int_one B _ (zs (kidJ Q k j x)) rfl ?a0 _ (k : Int) rfl ?a1 ?a2 ?a3 ?_))
          case a0 => exact hown.alloc _
          case a1 => exact cell_row (cur := [_]) (heap_alloc_new _ _) 0 _ rfl
          case a2 => omega
          case a3 => simp; omega
          intro v' w1 ho0 hg1 hl1
          have ho1 : w1.ownsRow B 3 1 v' (zs (kidJ Q k j x) ++ [(k : Int)]).length ((zs (kidJ Q k j x) ++ [(k : Int)]).map (Value.int .i64)) := by rw [List.length_append, List.map_append]; exact ho0
          obtain ⟨g1, g2, g3⟩ := HP.out v' w1 ho1 hg1 (by simpa using hl1)
          clear ho0
          have G1 : Hid _ := g1
          obtain ⟨q', c', rfl, _⟩ := own_rd ho1
          clear ho1 hg1 hl1 g1 HP hown hcx
          rw [show (zs (kidJ Q k j x) ++ [(k : Int)]).length = (zs (kidJ Q k j x)).length + 1 by simp] at G1
          go_wp2
          go_roundw
          case rel => exact ⟨j + 1, _, by omega, by go_num, by rw [List.length_set]; exact hcs, G1.out.2.1, G1.out.2.2, G1.out.1⟩
          case measure => simp [intOf]; omega
        · obtain rfl : j = m := by omega
          have HC3 : Hid (Ch B wr cb B cs (kidR Q (k + 1))) := HC.out.congr fun p _ => by rw [← HM.out, kidJ_all]
          go_wp2
          go_roundw
          case rel => exact ⟨k + 1, cs, by omega, by go_num, hcs, hkp, HK.out, HC3⟩
          case measure => simp [intOf]; omega
    · obtain rfl : k = n := by omega
      go_wp2
      go_ret2
      refine ⟨B, cb, by rw [HN.out]; rfl, by rw [HB.out]; exact Nat.le_refl _, obj_lt hik, hkp.below (Nat.le_refl _) (fun j hj => by rw [HB.out] at hj; omega), by rw [HN.out]; exact hik, ?_⟩
      have := HC.out.read (by omega) (by omega)
      rw [hcs] at this
      rw [HB.out, HN.out]
      exact this
end Go.Proofs.Ytmkppbcngpgkdab

/-
  edges: how many parents each thing waits for, and who waits for it.
  What holds while things are told: how many parents each waits for, and who is ready.
  Linear, by a contract: the things told one after another.
  Texts as numbers, rows of bytes as they are read, and what a call returns: general parts.
  What bytes of JSON say, as plain functions on lists of bytes.
  Worlds that keep all but some blocks; values of JSON as they lie in memory.
  Letters of a text, byte by byte: which stands where, and the first byte that is no letter's.
  Which values are good, how they are put in order, and which bytes they have: as plain functions.
  Keys that rise, and values in order.
-/
import Derived.Test.YtimhpglfolbomabGreatRL03
import Derived.Laws.BytesArg
import Derived.Lib.Strings
import Derived.Lib.RuneBytes
import Derived.Lib.Bytealg
import Derived.Laws.RangeAny
import Derived.Lib.ItoaNum
set_option maxRecDepth 100000
set_option maxHeartbeats 16000000
namespace Go.Proofs.YtimhpglfolbomabGreat.Od
open Go.RowKit Go.Maps
abbrev nilS : Value := .slice none 0 0
structure Ch (B : Nat) (w : World) (cb wb : Nat) (cs : List Value) (K : Nat → List Nat) : Prop where
 obj : w.heap[cb]? = some (.cells cs.toArray 28)
 own : ∀ p, p < cs.length → w.ownsRow B 3 1 (cs.getD p nilS) (zs (K p)).length ((zs (K p)).map (Value.int .i64))
 ne : ∀ p, p < cs.length → (cs.getD p nilS).ownBlock ≠ some cb ∧ (cs.getD p nilS).ownBlock ≠ some wb
 apart : ∀ p q, p < cs.length → q < cs.length → p ≠ q → ∀ k, (cs.getD p nilS).ownBlock = some k → (cs.getD q nilS).ownBlock ≠ some k
theorem Ch.keep {B : Nat} {w w' : World} {cb wb : Nat} {cs : List Value} {K : Nat → List Nat} (h : Ch B w cb wb cs K) (hk : Keep (· = wb) w w') (hne : cb ≠ wb) : Ch B w' cb wb cs K :=
 ⟨(hk.block cb (obj_lt h.obj) hne).trans h.obj, fun p hp => own_same (h.own p hp) (Same.of_keep hk fun k e => ⟨((h.own p hp).lt k e).2, fun e' => (h.ne p hp).2 (e' ▸ e)⟩), h.ne, h.apart⟩
theorem Ch.congr {B : Nat} {w : World} {cb wb : Nat} {cs : List Value} {K K' : Nat → List Nat} (h : Ch B w cb wb cs K) (hK : ∀ p, p < cs.length → K' p = K p) : Ch B w cb wb cs K' :=
 ⟨h.obj, fun p hp => by rw [hK p hp]; exact h.own p hp, h.ne, h.apart⟩
theorem getD_setV (l : List Value) (i k : Nat) (x : Value) (hi : i < l.length) : (l.set i x).getD k nilS = if k = i then x else l.getD k nilS := by
 simp only [List.getD_eq_getElem?_getD, List.getElem?_set]
 by_cases e : i = k
 · subst e
   simp [hi]
 · rw [if_neg e, if_neg (fun h => e h.symm)]
theorem Ch.step {B : Nat} {w w1 : World} {cb wb : Nat} {cs : List Value} {K : Nat → List Nat} (h : Ch B w cb wb cs K) {p i : Nat} (hp : p < cs.length) {v' : Value} (hwb : wb < w.heap.size)
    (ho : w1.ownsRow B 3 1 v' (zs (K p) ++ [(i : Int)]).length ((zs (K p) ++ [(i : Int)]).map (Value.int .i64))) (hk : Keep ((cs.getD p nilS).ownBlock = some ·) w w1) (hl : v'.ownBlock = (cs.getD p nilS).ownBlock ∨ ∀ k, v'.ownBlock = some k → w.heap.size ≤ k) :
    Ch B (w1.setCell ⟨cb, p, none⟩ v') cb wb (cs.set p v') (fun q => if q = p then K p ++ [i] else K q) ∧ Keep (fun k => k = cb ∨ (cs.getD p nilS).ownBlock = some k) w (w1.setCell ⟨cb, p, none⟩ v') ∧ w1.cell? ⟨cb, p, none⟩ = some (cs.getD p nilS) ∧ w1.frozen? ⟨cb, p, none⟩ = false := by
 have hcb := obj_lt h.obj
 have ho1 : w1.heap[cb]? = some (.cells cs.toArray 28) := (hk.block cb hcb (h.ne p hp).1).trans h.obj
 have hv' : ∀ k, k < w.heap.size → (cs.getD p nilS).ownBlock ≠ some k → v'.ownBlock ≠ some k := by
  intro k hk1 hk2 e
  rcases hl with h' | h'
  · exact hk2 (h'.symm.trans e)
  · have := h' k e; omega
 have hne1 := hv' cb hcb (h.ne p hp).1
 have hne2 := hv' wb hwb (h.ne p hp).2
 have hk2 : Keep (fun k => k = cb ∨ (cs.getD p nilS).ownBlock = some k) w (w1.setCell ⟨cb, p, none⟩ v') := (hk.mono fun k _ h => .inr h).setCell (p := ⟨cb, p, none⟩) (fun _ => .inl rfl) _
 refine ⟨⟨?_, ?_, ?_, ?_⟩, hk2, ?_, ?_⟩
 · rw [heap_setCell_same w1 cb p _ _ _ ho1]
   simp
 · intro q hq
   rw [List.length_set] at hq
   rw [getD_setV cs p q v' hp]
   by_cases e : q = p
   · rw [if_pos e, if_pos e]
     have := ownsRow_setCell_other ho (a := ⟨cb, p, none⟩) hne1 v'
     have e2 : zs (K p ++ [i]) = zs (K p) ++ [(i : Int)] := by simp [zs]
     rw [e2]
     exact this
   · rw [if_neg e, if_neg e]
     refine own_same (h.own q hq) (Same.of_keep hk2 fun k ek => ⟨((h.own q hq).lt k ek).2, ?_⟩)
     rintro (e1 | e1)
     · exact (h.ne q hq).1 (e1 ▸ ek)
     · exact h.apart q p hq hp e k ek e1
 · intro q hq
   rw [List.length_set] at hq
   rw [getD_setV cs p q v' hp]
   split
   · exact ⟨hne1, hne2⟩
   · exact h.ne q hq
 · intro a b ha hb hab k
   rw [List.length_set] at ha hb
   rw [getD_setV cs p a v' hp, getD_setV cs p b v' hp]
   split
   · rename_i e
     subst e
     rw [if_neg (fun e => hab e.symm)]
     intro ek eb
     exact hv' k ((h.own b hb).lt k eb).2 (fun e' => h.apart a b hp hb hab k e' eb) ek
   · split
     · rename_i e
       subst e
       intro ek
       exact hv' k ((h.own a ha).lt k ek).2 (h.apart a b ha hp hab k ek)
     · exact h.apart a b ha hb hab k
 · exact cell_row (cur := cs) ho1 p _ (by rw [List.getElem?_eq_getElem hp, getD_in hp])
 · exact frozen_of_row w1 cb p _ _ ho1
theorem Ch.read {B : Nat} {w : World} {cb wb : Nat} {cs : List Value} {K : Nat → List Nat} (h : Ch B w cb wb cs K) (hB : B ≤ cb) (hne : cb ≠ wb) : RdR (fun k => B ≤ k ∧ k ≠ wb ∧ k < w.heap.size) w (some ⟨cb, 0, none⟩) cs.length ((List.range cs.length).map fun p => zs (K p)) := by
 refine ⟨by simp, fun j hj => ?_⟩
 have hj' : j < cs.length := by simpa using hj
 have e : ((List.range cs.length).map fun p => zs (K p)).getD j [] = zs (K j) := by rw [getD_in hj]; simp
 rw [e]
 obtain ⟨q, cq, hv, hr⟩ := own_rd (h.own j hj')
 refine ⟨cb, 0, q, cq, rfl, ⟨hB, hne, obj_lt h.obj⟩, ?_, hr.carry (fun _ _ => rfl) fun k hk => ⟨((h.own j hj').lt k hk).1, fun e => (h.ne j hj').2 (e ▸ hk), ((h.own j hj').lt k hk).2⟩⟩
 rw [Nat.zero_add, ← hv]
 exact cell_row (cur := cs) h.obj j _ (by rw [List.getElem?_eq_getElem hj', getD_in hj'])
theorem Ch.start {w : World} (B n wb : Nat) : Ch B (w.alloc (.cells (List.replicate n nilS).toArray 28)) w.heap.size wb (List.replicate n nilS) (fun _ => []) := by
 have e : ∀ p, (List.replicate n nilS).getD p nilS = nilS := fun p => by
  rw [List.getD_eq_getElem?_getD, List.getElem?_replicate]
  split <;> rfl
 refine ⟨heap_alloc_new _ _, fun p _ => ?_, fun p _ => ?_, fun p q _ _ _ k => ?_⟩
 · rw [e]; exact World.ownsRow_nil _ _ _ _
 · rw [e]; exact ⟨by simp [Value.ownBlock], by simp [Value.ownBlock]⟩
 · rw [e]; simp [Value.ownBlock]
def EdgesP (Q : List (List Nat)) (w : World) (e : Ending) (w' : World) : Prop :=
 ∃ wb cb, e = .returned (.tuple #[.slice (some ⟨wb, 0, none⟩) Q.length Q.length, .slice (some ⟨cb, 0, none⟩) Q.length Q.length]) ∧ w.heap.size ≤ wb ∧ wb < w'.heap.size ∧ Below w.heap.size w w' ∧ Ik w' wb (wl Q Q.length Q.length) ∧
  RdR (fun k => w.heap.size ≤ k ∧ k ≠ wb ∧ k < w'.heap.size) w' (some ⟨cb, 0, none⟩) Q.length ((List.range Q.length).map fun p => zs (kidR Q Q.length p))
theorem wpList_ints {W : World} {ops : Array Oper} {rest : List Oper} {o : Oper} {a : Act} {Q : Exit → Act → World → Prop} (hgd : o.guard = none) (x y : Operand) (ho : o.op = .makeSlice 28 x y) (m n : Nat) (hm : m ≤ n) (hn : n ≤ 1000000) (hx : a.eval x = .int .i64 (m : Int)) (hy : a.eval y = .int .i64 (n : Int))
    (h : ∀ W', Hid (W' = W.alloc (.cells ((List.replicate n (0 : Int)).map (Value.int .i64)).toArray 3)) → wpList Tryz.prog ops Q rest (a.put o.dst (.slice (some ⟨W.heap.size, 0, none⟩) m n)) W') : wpList Tryz.prog ops Q (o :: rest) a W := by
 refine wpList_plain hgd fun K hK => ?_
 have hrun := make_ints W m n hm hn
 unfold Oper.wp
 simp [execOp, ho, hx, hy, hrun, Result.andThen]
 refine hK _ _ ?_
 have := h _ rfl
 simpa using this
theorem wpList_rows {W : World} {ops : Array Oper} {rest : List Oper} {o : Oper} {a : Act} {Q : Exit → Act → World → Prop} (hgd : o.guard = none) (x y : Operand) (ho : o.op = .makeSlice 24 x y) (n : Nat) (hn : n ≤ 1000000) (hx : a.eval x = .int .i64 (n : Int)) (hy : a.eval y = .int .i64 (n : Int))
    (h : ∀ W', Hid (W' = W.alloc (.cells (List.replicate n nilS).toArray 28)) → wpList Tryz.prog ops Q rest (a.put o.dst (.slice (some ⟨W.heap.size, 0, none⟩) n n)) W') : wpList Tryz.prog ops Q (o :: rest) a W := by
 refine wpList_plain hgd fun K hK => ?_
 have hrun := make_rows W n hn
 unfold Oper.wp
 simp [execOp, ho, hx, hy, hrun, Result.andThen]
 refine hK _ _ ?_
 have := h _ rfl
 simpa using this
theorem rows_at (Q : List (List Nat)) (j : Nat) : (Q.map zs).getD j [] = zs (par Q j) := by
 unfold par
 simp only [List.getD_eq_getElem?_getD, List.getElem?_map]
 cases Q[j]? <;> rfl
theorem edges_any (Q : List (List Nat)) (p : Option Addr) (c : Nat) (w : World) (r : RdR (· < w.heap.size) w p c (Q.map zs)) (hQ : Q.length ≤ 1000) (hl : ∀ i, (par Q i).length ≤ 1000) (hin : ∀ i, ∀ x ∈ par Q i, x < Q.length) :
    Calls Tryz.prog 64 #[.slice p Q.length c] w (EdgesP Q w) := by
 have HL : Hid (∀ i, (par Q i).length ≤ 1000) := hl
 have HI : Hid (∀ i, ∀ x ∈ par Q i, x < Q.length) := hin
 have HR : Hid (RdR (· < w.heap.size) w p c (Q.map zs)) := r
 clear hl hin r
 obtain ⟨n, hn⟩ : ∃ n, Q.length = n := ⟨_, rfl⟩
 have HN : Hid (Q.length = n) := hn
 rw [hn] at hQ ⊢
 clear hn
 go_enter Tryz.func64, Tryz.ntmps64
 go_wp2_with (first
  | (refine wpList_ints rfl _ _ rfl n n (Nat.le_refl _) (by omega) rfl rfl ?_; intro w1 hw1; have hs1 : w1.heap.size = w.heap.size + 1 := by rw [hw1.out]; simp)
  | (refine wpList_rows rfl _ _ rfl n (by omega) rfl rfl ?_; intro w2 hw2))
 have hk0 : Keep (fun k => w.heap.size ≤ k) w w2 := by rw [hw2.out, hw1.out]; exact ((Keep.refl _ w).alloc _).alloc _
 have hi0 : Ik w2 w.heap.size (wl Q n 0) := by
  rw [wl_zero, hw2.out]
  exact (Below.block ((Below.refl w1.heap.size w1).alloc (Nat.le_refl _) _) _ (by omega)).trans (by rw [hw1.out]; exact heap_alloc_new _ _)
 have hc0 : Ch w.heap.size w2 (w.heap.size + 1) w.heap.size (List.replicate n nilS) (kidR Q 0) := by rw [hw2.out, ← hs1]; exact (Ch.start _ _ _).congr fun _ _ => rfl
 clear hw1 hw2
 obtain ⟨B, hB⟩ : ∃ B, w.heap.size = B := ⟨_, rfl⟩
 have HB : Hid (w.heap.size = B) := hB
 rw [hB] at hs1 hc0 hk0 hi0 HR ⊢
 obtain ⟨cb, hcb⟩ : ∃ cb, B + 1 = cb := ⟨_, rfl⟩
 rw [hcb] at hc0 ⊢
 clear hs1 hB
 go_loopw [18] (fun i wr => ∃ (k : Nat) (cs : List Value), k ≤ n ∧ i = .int .i64 k ∧ cs.length = n ∧ Keep (fun k => B ≤ k) w wr ∧ Ik wr B (wl Q n k) ∧ Hid (Ch B wr cb B cs (kidR Q k))) (fun i _ => n - (intOf i).toNat)
 case atStart => exact ⟨0, _, Nat.zero_le _, rfl, by simp, hk0, hi0, hc0⟩
 case round =>
  obtain ⟨k, cs, hk, rfl, hcs, hkp, hik, HC⟩ := hrel
  clear hk0 hi0 hc0
  by_cases hlt : k < n
  · have hS : ∀ wx, Keep (fun k => B ≤ k) w wx → Same (· < B) w wx := fun wx hx => Same.of_keep hx fun j hj => ⟨by rw [HB.out]; exact hj, by omega⟩
    obtain ⟨ad, p1, c1, rfl, _, hcell, hr⟩ := (HR.out.carry (hS _ hkp) fun _ h => h).at k (by rw [List.length_map, HN.out]; exact hlt)
    rw [rows_at, zs_len] at hcell
    rw [rows_at] at hr
    have hrl := HL.out k
    have HX : Hid (∀ x ∈ par Q k, x < n) := by rw [← HN.out]; exact HI.out k
    have hc1 := hik.cell k (by rw [wl_len]; exact hlt)
    have hf1 := hik.fz k
    have HK2 : Hid (Ik (wr.setCell ⟨B, k, none⟩ (.int .i64 ((par Q k).length : Int))) B (wl Q n (k + 1))) := by rw [← wl_set]; exact hik.set k _
    have HKp : Hid (Keep (fun k => B ≤ k) w (wr.setCell ⟨B, k, none⟩ (.int .i64 ((par Q k).length : Int)))) := hkp.setCell (fun _ => Nat.le_refl _) _
    have HC2 : Hid (Ch B (wr.setCell ⟨B, k, none⟩ (.int .i64 ((par Q k).length : Int))) cb B cs (kidJ Q k 0)) := (HC.out.keep ((Keep.refl (· = B) wr).setCell (p := ⟨B, k, none⟩) (fun _ => rfl) _) (by omega)).congr fun p _ => kidJ_zero Q k p
    have HRr : Hid (∀ wx, Keep (fun k => B ≤ k) w wx → RdI (· < B) wx p1 c1 (zs (par Q k))) := by
     intro wx hx
     obtain ⟨ad', p1', c1', e, _, hcell', hr'⟩ := (HR.out.carry (hS _ hx) fun _ h => h).at k (by rw [List.length_map, HN.out]; exact hlt)
     cases e
     rw [rows_at, zs_len] at hcell'
     rw [rows_at] at hr'
     have e2 : wx.cell? (ad.add k) = wr.cell? (ad.add k) := by
      rename_i hab
      have hab' : ad.block < B := hab
      rw [World.cell?_of_block ((hS _ hx) _ (by rw [add_block]; exact hab')), World.cell?_of_block ((hS _ hkp) _ (by rw [add_block]; exact hab'))]
     rw [e2, hcell] at hcell'
     cases hcell'
     exact hr'
    obtain ⟨m, hm⟩ : ∃ m, (par Q k).length = m := ⟨_, rfl⟩
    have HM : Hid ((par Q k).length = m) := hm
    rw [hm] at hcell hrl HK2 HKp HC2
    clear hm hr hik hkp hS HC
    go_wp2
    go_loopw [30] (fun i wx => ∃ (j : Nat) (cs : List Value), j ≤ m ∧ i = .int .i64 j ∧ cs.length = n ∧ Keep (fun k => B ≤ k) w wx ∧ Hid (Ik wx B (wl Q n (k + 1))) ∧ Hid (Ch B wx cb B cs (kidJ Q k j))) (fun i _ => m - (intOf i).toNat)
    case atStart => exact ⟨0, cs, Nat.zero_le _, rfl, hcs, HKp.out, HK2, HC2⟩
    case round =>
     obtain ⟨j, cs, hj, rfl, hcs, hkp, HK, HC⟩ := hrel
     clear hc1 hf1 hcell HK2 HKp HC2
     by_cases hjt : j < m
     · have hjm : j < (par Q k).length := by rw [HM.out]; exact hjt
       obtain ⟨ad2, rfl, _, hcj⟩ := (HRr.out _ hkp).at j 0 (by rw [zs_len]; exact hjm)
       rw [zs_getD] at hcj
       have hx := HX.out _ (getD_inm (d := 0) hjm)
       have HS1 : Hid _ := kidJ_same Q k j hjm
       have HS2 : Hid _ := fun p hp => kidJ_other Q k j p hjm hp
       generalize (par Q k).getD j 0 = x at *
       have hown := HC.out.own x (by omega)
       obtain ⟨q, cq, hv, _⟩ := own_rd hown
       have hcx := cell_row (cur := cs) HC.out.obj x _ (by rw [List.getElem?_eq_getElem (by omega), ← getD_in (d := nilS) (by omega)])
       have hlen : (zs (kidJ Q k j x)).length ≤ 1000000000 := by
        rw [zs_len]
        have := kidJ_len (p := x) HL.out k j
        have : k * 1000 ≤ 1000 * 1000 := Nat.mul_le_mul_right _ (by omega)
        omega
       have hsz : B < wr.heap.size := obj_lt HK.out
       have HP : Hid (∀ v' w1, w1.ownsRow B 3 1 v' (zs (kidJ Q k j x) ++ [(k : Int)]).length ((zs (kidJ Q k j x) ++ [(k : Int)]).map (Value.int .i64)) → (wr.alloc (.cells #[.int .i64 k] 3)).grownBy w1 (cs.getD x nilS).ownBlock → (v'.ownBlock = (cs.getD x nilS).ownBlock ∨ v'.ownBlock = some (wr.alloc (.cells #[.int .i64 k] 3)).heap.size) →
           (Ch B (w1.setCell ⟨cb, x, none⟩ v') cb B (cs.set x v') (kidJ Q k (j + 1)) ∧ Keep (fun k => B ≤ k) w (w1.setCell ⟨cb, x, none⟩ v') ∧ Ik (w1.setCell ⟨cb, x, none⟩ v') B (wl Q n (k + 1))) ∧ w1.cell? ⟨cb, x, none⟩ = some (cs.getD x nilS) ∧ w1.frozen? ⟨cb, x, none⟩ = false) := by
        intro v' w1 ho hg hl
        have hk1 : Keep ((cs.getD x nilS).ownBlock = some ·) wr w1 := ((Keep.refl _ wr).alloc (.cells #[.int .i64 k] 3)).trans (Keep.of_grown (S := ((cs.getD x nilS).ownBlock = some ·)) hg fun k _ e => e) fun _ _ h => h
        have hlo : v'.ownBlock = (cs.getD x nilS).ownBlock ∨ ∀ k, v'.ownBlock = some k → wr.heap.size ≤ k := by
         refine hl.imp id fun e k hk => ?_
         rw [e] at hk
         cases hk
         simp
        obtain ⟨s1, s2, s3, s4⟩ := HC.out.step (p := x) (i := k) (by omega) hsz ho hk1 hlo
        refine ⟨⟨s1.congr fun p _ => ?_, hkp.trans s2 fun i hi e => ?_, ?_⟩, s3, s4⟩
        · by_cases e : p = x
          · rw [if_pos e, e]; exact HS1.out
          · rw [if_neg e]; exact HS2.out p e
        · rcases e with e | e
          · omega
          · exact (hown.lt i e).1
        · refine HK.out.same (s2.block B hsz ?_)
          rintro (e | e)
          · omega
          · exact (HC.out.ne x (by omega)).2 e
       rw [hv] at hcx hown
       have HV : Hid (cs.getD x nilS = .slice q (zs (kidJ Q k j x)).length cq) := hv
       rw [hv] at HP
       clear hv HC HK
       go_wp2_with (first
        | (at_builtin; refine wpList_push rfl (.tmp 39) (.tmp 41) 28 3 (.int .i64 0) 8 rfl Tryz.underlying28 Tryz.info3 rfl (by decide) int_one B _ (zs (kidJ Q k j x)) rfl ?a0 _ (k : Int) rfl ?a1 ?a2 ?a3 ?_))
       case a0 => exact hown.alloc _
       case a1 => exact cell_row (cur := [_]) (heap_alloc_new _ _) 0 _ rfl
       case a2 => omega
       case a3 => simp; omega
       intro v' w1 ho0 hg1 hl1
       have ho1 : w1.ownsRow B 3 1 v' (zs (kidJ Q k j x) ++ [(k : Int)]).length ((zs (kidJ Q k j x) ++ [(k : Int)]).map (Value.int .i64)) := by rw [List.length_append, List.map_append]; exact ho0
       obtain ⟨g1, g2, g3⟩ := HP.out v' w1 ho1 hg1 (by simpa using hl1)
       clear ho0
       have G1 : Hid _ := g1
       obtain ⟨q', c', rfl, _⟩ := own_rd ho1
       clear ho1 hg1 hl1 g1 HP hown hcx
       rw [show (zs (kidJ Q k j x) ++ [(k : Int)]).length = (zs (kidJ Q k j x)).length + 1 by simp] at G1
       go_wp2
       go_roundw
       case rel => exact ⟨j + 1, _, by omega, by go_num, by rw [List.length_set]; exact hcs, G1.out.2.1, G1.out.2.2, G1.out.1⟩
       case measure => simp [intOf]; omega
     · obtain rfl : j = m := by omega
       have HC3 : Hid (Ch B wr cb B cs (kidR Q (k + 1))) := HC.out.congr fun p _ => by rw [← HM.out, kidJ_all]
       go_wp2
       go_roundw
       case rel => exact ⟨k + 1, cs, by omega, by go_num, hcs, hkp, HK.out, HC3⟩
       case measure => simp [intOf]; omega
  · obtain rfl : k = n := by omega
    go_wp2
    go_ret2
    refine ⟨B, cb, by rw [HN.out]; rfl, by rw [HB.out]; exact Nat.le_refl _, obj_lt hik, hkp.below (Nat.le_refl _) (fun j hj => by rw [HB.out] at hj; omega), by rw [HN.out]; exact hik, ?_⟩
    have := HC.out.read (by omega) (by omega)
    rw [hcs] at this
    rw [HB.out, HN.out]
    exact this
end Go.Proofs.YtimhpglfolbomabGreat.Od
namespace Go.Proofs.YtimhpglfolbomabGreat.Od
def miss (Q : List (List Nat)) (T : List Nat) (j : Nat) : Nat := (par Q j).countP fun p => decide (p ∉ T)
theorem miss_zero {Q : List (List Nat)} {T : List Nat} {j : Nat} : miss Q T j = 0 ↔ ∀ p ∈ par Q j, p ∈ T := by
 unfold miss
 rw [List.countP_eq_zero]
 simp
theorem miss_nil (Q : List (List Nat)) (j : Nat) : miss Q [] j = (par Q j).length := by
 unfold miss
 rw [List.countP_eq_length]
 simp
theorem miss_snoc {T : List Nat} {i : Nat} (hi : i ∉ T) : ∀ l : List Nat, (l.countP fun p => decide (p ∉ T)) = (l.countP fun p => decide (p ∉ T ++ [i])) + l.count i
 | [] => rfl
 | a :: r => by
  have ih := miss_snoc hi r
  rw [List.countP_cons, List.countP_cons, List.count_cons, ih]
  by_cases e : a = i
  · subst e
    have h1 : decide (a ∉ T) = true := decide_eq_true hi
    have h2 : decide (a ∉ T ++ [a]) = false := decide_eq_false (by simp)
    rw [h1, h2]
    simp
    omega
  · have h1 : decide (a ∉ T ++ [i]) = decide (a ∉ T) := by simp [e]
    rw [h1]
    have h2 : (a == i) = false := by simpa using e
    rw [h2]
    simp
    omega
theorem miss_next {Q : List (List Nat)} {T : List Nat} {i : Nat} (hi : i ∉ T) (j : Nat) : miss Q T j = miss Q (T ++ [i]) j + (par Q j).count i := miss_snoc hi _
structure Lin (Q : List (List Nat)) (R : List Int) (T : List Nat) (W : List Int) (h : List Nat) : Prop where
 nodup : T.Nodup
 lt : ∀ x ∈ T, x < Q.length
 told : ∀ x ∈ T, ∀ p ∈ par Q x, p ∈ T
 wlen : W.length = Q.length
 wait : ∀ j, j < Q.length → W.getD j 0 = (miss Q T j : Int)
 hn : h.Nodup
 mem : ∀ j, j ∈ h ↔ j < Q.length ∧ Rdy Q T j
 heap : Hp R h
 eq : lin Q R = linTo Q R (Q.length - T.length) T
structure Lon (Q : List (List Nat)) (R : List Int) (T : List Nat) (i k : Nat) (W : List Int) (h : List Nat) : Prop where
 nodup : T.Nodup
 lt : ∀ x ∈ T, x < Q.length
 told : ∀ x ∈ T, ∀ p ∈ par Q x, p ∈ T
 rdy : Rdy Q T i
 il : i < Q.length
 wlen : W.length = Q.length
 wait : ∀ j, j < Q.length → W.getD j 0 = (miss Q T j : Int) - (((kidR Q Q.length i).take k).count j : Int)
 hn : h.Nodup
 mem : ∀ j, j ∈ h ↔ j < Q.length ∧ j ∉ T ++ [i] ∧ W.getD j 0 = 0
 heap : Hp R h
 eq : lin Q R = linTo Q R (Q.length - (T.length + 1)) (T ++ [i])
theorem Lin.hlen {Q : List (List Nat)} {R : List Int} {T : List Nat} {W : List Int} {h : List Nat} (L : Lin Q R T W h) : h.length ≤ Q.length := nodup_len _ L.hn fun x hx => ((L.mem x).1 hx).1
theorem Lon.hlen {Q : List (List Nat)} {R : List Int} {T : List Nat} {i k : Nat} {W : List Int} {h : List Nat} (L : Lon Q R T i k W h) : h.length ≤ Q.length - 1 := by
 have h1 : (h ++ [i]).Nodup := nodup_snoc L.hn fun hm => ((L.mem i).1 hm).2.1 (by simp)
 have := nodup_len Q.length h1 fun x hx => by
  rcases List.mem_append.1 hx with h' | h'
  · exact ((L.mem x).1 h').1
  · rw [List.mem_singleton.1 h']; exact L.il
 simp at this
 omega
theorem Lin.tlen {Q : List (List Nat)} {R : List Int} {T : List Nat} {W : List Int} {h : List Nat} (L : Lin Q R T W h) : T.length ≤ Q.length := nodup_len _ L.nodup L.lt
theorem Lin.take {Q : List (List Nat)} {R : List Int} {T : List Nat} {W : List Int} {h h' : List Nat} (L : Lin Q R T W h) (hp : 0 < h.length) (hh : Hp R h') (hpm : (h.getD 0 0 :: h').Perm h) : Lon Q R T (h.getD 0 0) 0 W h' ∧ T.length < Q.length := by
 have hi : h.getD 0 0 ∈ h := getD_inm hp
 have hl := fun x hx => L.heap.least (x := x) hx
 generalize h.getD 0 0 = i at *
 obtain ⟨hiq, hir⟩ := (L.mem i).1 hi
 have hlt : T.length < Q.length := by
  have := nodup_len Q.length (nodup_snoc L.nodup hir.1) fun x hx => by
   rcases List.mem_append.1 hx with h1 | h1
   · exact L.lt x h1
   · rw [List.mem_singleton.1 h1]; exact hiq
  simp at this
  omega
 have hnd : (i :: h').Nodup := hpm.nodup_iff.2 L.hn
 rw [List.nodup_cons] at hnd
 have hbest : bestTo Q R T Q.length = some i := bestTo_eq hiq hir fun j hj hr => hl j ((L.mem j).2 ⟨hj, hr⟩)
 refine ⟨⟨L.nodup, L.lt, L.told, hir, hiq, L.wlen, fun j hj => by rw [L.wait j hj]; simp, hnd.2, fun j => ?_, hh, ?_⟩, hlt⟩
 · have hj : j ∈ h' ↔ j ∈ h ∧ j ≠ i := by
     rw [← hpm.mem_iff, List.mem_cons]
     constructor
     · intro hj
       exact ⟨.inr hj, fun e => hnd.1 (e ▸ hj)⟩
     · rintro ⟨hj | hj, hne⟩
       · exact absurd hj hne
       · exact hj
   rw [hj, L.mem j]
   constructor
   · rintro ⟨⟨h1, h2⟩, h3⟩
     refine ⟨h1, by simp [h2.1, h3], ?_⟩
     rw [L.wait j h1, miss_zero.2 h2.2]
     rfl
   · rintro ⟨h1, h2, h3⟩
     rw [L.wait j h1] at h3
     have h4 : miss Q T j = 0 := by omega
     simp at h2
     exact ⟨⟨h1, h2.1, miss_zero.1 h4⟩, h2.2⟩
 · rw [L.eq, show Q.length - T.length = Q.length - (T.length + 1) + 1 by omega, linTo_step hbest]
theorem getD_setI (l : List Int) (i k : Nat) (x : Int) (hi : i < l.length) : (l.set i x).getD k 0 = if k = i then x else l.getD k 0 := by
 simp only [List.getD_eq_getElem?_getD, List.getElem?_set]
 by_cases e : i = k
 · subst e
   simp [hi]
 · rw [if_neg e, if_neg (fun h => e h.symm)]
theorem Lon.kid {Q : List (List Nat)} {R : List Int} {T : List Nat} {i k : Nat} {W : List Int} {h : List Nat} (L : Lon Q R T i k W h) (hk : k < (kidR Q Q.length i).length) :
    (kidR Q Q.length i).getD k 0 < Q.length ∧ 1 ≤ W.getD ((kidR Q Q.length i).getD k 0) 0 ∧ (kidR Q Q.length i).getD k 0 ∉ T ++ [i] := by
 have hc := kidR_mem (getD_inm (d := 0) hk)
 have ht := take_snoc (kidR Q Q.length i) k 0 hk
 generalize hcc : (kidR Q Q.length i).getD k 0 = c at *
 have h1 : ((kidR Q Q.length i).take (k + 1)).count c ≤ (kidR Q Q.length i).count c := (List.take_sublist _ _).count_le c
 rw [kidR_count hc.1, ht, List.count_append] at h1
 have h2 : List.count c [c] = 1 := by simp
 have h3 := miss_next (Q := Q) L.rdy.1 c
 refine ⟨hc.1, ?_, fun hm => ?_⟩
 · rw [L.wait c hc.1]
   omega
 · rcases List.mem_append.1 hm with h4 | h4
   · exact L.rdy.1 (L.told c h4 i hc.2)
   · rw [List.mem_singleton.1 h4] at hc
     exact L.rdy.1 (L.rdy.2 i hc.2)
theorem Lon.wait_next {Q : List (List Nat)} {R : List Int} {T : List Nat} {i k : Nat} {W : List Int} {h : List Nat} (L : Lon Q R T i k W h) (hk : k < (kidR Q Q.length i).length) : ∀ j, j < Q.length → (W.set ((kidR Q Q.length i).getD k 0) (W.getD ((kidR Q Q.length i).getD k 0) 0 - 1)).getD j 0 = (miss Q T j : Int) - (((kidR Q Q.length i).take (k + 1)).count j : Int) := by
 have hc := (L.kid hk).1
 intro j hj
 rw [take_snoc (kidR Q Q.length i) k 0 hk, List.count_append]
 generalize (kidR Q Q.length i).getD k 0 = c at *
 rw [getD_setI W c j _ (by rw [L.wlen]; exact hc)]
 by_cases e : j = c
 · subst e
   rw [if_pos rfl, L.wait j hj]
   have h2 : List.count j [j] = 1 := by simp
   omega
 · rw [if_neg e, L.wait j hj]
   have h2 : List.count j [c] = 0 := by rw [List.count_eq_zero]; simpa using e
   omega
theorem Lon.no {Q : List (List Nat)} {R : List Int} {T : List Nat} {i k : Nat} {W : List Int} {h : List Nat} (L : Lon Q R T i k W h) (hk : k < (kidR Q Q.length i).length) (hw : W.getD ((kidR Q Q.length i).getD k 0) 0 - 1 ≠ 0) :
    Lon Q R T i (k + 1) (W.set ((kidR Q Q.length i).getD k 0) (W.getD ((kidR Q Q.length i).getD k 0) 0 - 1)) h := by
 refine ⟨L.nodup, L.lt, L.told, L.rdy, L.il, by rw [List.length_set]; exact L.wlen, L.wait_next hk, L.hn, fun j => ?_, L.heap, L.eq⟩
 have hc := L.kid hk
 generalize (kidR Q Q.length i).getD k 0 = c at *
 rw [L.mem j]
 refine and_congr_right fun hj => and_congr_right fun _ => ?_
 rw [getD_setI W c j _ (by rw [L.wlen]; exact hc.1)]
 by_cases e : j = c
 · subst e
   rw [if_pos rfl]
   omega
 · rw [if_neg e]
theorem Lon.yes {Q : List (List Nat)} {R : List Int} {T : List Nat} {i k : Nat} {W : List Int} {h h' : List Nat} (L : Lon Q R T i k W h) (hk : k < (kidR Q Q.length i).length) (hw : W.getD ((kidR Q Q.length i).getD k 0) 0 - 1 = 0) (hh : Hp R h') (hpm : h'.Perm (h ++ [(kidR Q Q.length i).getD k 0])) :
    Lon Q R T i (k + 1) (W.set ((kidR Q Q.length i).getD k 0) (W.getD ((kidR Q Q.length i).getD k 0) 0 - 1)) h' := by
 have hc := L.kid hk
 have hwn := L.wait_next hk
 generalize (kidR Q Q.length i).getD k 0 = c at *
 have hnc : c ∉ h := fun hm => by have := ((L.mem c).1 hm).2.2; omega
 refine ⟨L.nodup, L.lt, L.told, L.rdy, L.il, by rw [List.length_set]; exact L.wlen, hwn, hpm.nodup_iff.2 (nodup_snoc L.hn hnc), fun j => ?_, hh, L.eq⟩
 rw [hpm.mem_iff, List.mem_append, List.mem_singleton, L.mem j, getD_setI W c j _ (by rw [L.wlen]; exact hc.1)]
 by_cases e : j = c
 · subst e
   rw [if_pos rfl]
   exact ⟨fun _ => ⟨hc.1, hc.2.2, hw⟩, fun _ => .inr rfl⟩
 · rw [if_neg e]
   exact ⟨fun h => h.resolve_right e, .inl⟩
theorem Lon.done {Q : List (List Nat)} {R : List Int} {T : List Nat} {i : Nat} {W : List Int} {h : List Nat} (L : Lon Q R T i (kidR Q Q.length i).length W h) : Lin Q R (T ++ [i]) W h := by
 have hw : ∀ j, j < Q.length → W.getD j 0 = (miss Q (T ++ [i]) j : Int) := by
  intro j hj
  rw [L.wait j hj, List.take_length, kidR_count hj, miss_next L.rdy.1 j]
  omega
 refine ⟨nodup_snoc L.nodup L.rdy.1, fun x hx => ?_, fun x hx p hp => ?_, L.wlen, hw, L.hn, fun j => ?_, L.heap, ?_⟩
 · rcases List.mem_append.1 hx with h' | h'
   · exact L.lt x h'
   · rw [List.mem_singleton.1 h']; exact L.il
 · rcases List.mem_append.1 hx with h' | h'
   · exact List.mem_append_left _ (L.told x h' p hp)
   · rw [List.mem_singleton.1 h'] at hp
     exact List.mem_append_left _ (L.rdy.2 p hp)
 · rw [L.mem j]
   refine and_congr_right fun hj => and_congr_right fun _ => ?_
   rw [hw j hj]
   have := miss_zero (Q := Q) (T := T ++ [i]) (j := j)
   rw [← this]
   omega
 · rw [L.eq, List.length_append]
   rfl
structure Loa (Q : List (List Nat)) (R : List Int) (k : Nat) (h : List Nat) : Prop where
 hn : h.Nodup
 mem : ∀ j, j ∈ h ↔ j < k ∧ par Q j = []
 heap : Hp R h
theorem Loa.nil (Q : List (List Nat)) (R : List Int) : Loa Q R 0 [] := ⟨List.nodup_nil, by simp, fun k hk hl => by simp at hl⟩
theorem Loa.hlen {Q : List (List Nat)} {R : List Int} {k : Nat} {h : List Nat} (L : Loa Q R k h) : h.length ≤ k := nodup_len _ L.hn fun x hx => ((L.mem x).1 hx).1
theorem Loa.no {Q : List (List Nat)} {R : List Int} {k : Nat} {h : List Nat} (L : Loa Q R k h) (hk : (par Q k).length ≠ 0) : Loa Q R (k + 1) h := by
 refine ⟨L.hn, fun j => ?_, L.heap⟩
 rw [L.mem j]
 constructor
 · rintro ⟨h1, h2⟩; exact ⟨by omega, h2⟩
 · rintro ⟨h1, h2⟩
   refine ⟨?_, h2⟩
   rcases Nat.lt_or_ge j k with h' | h'
   · exact h'
   · rw [show k = j by omega, h2] at hk
     simp at hk
theorem Loa.yes {Q : List (List Nat)} {R : List Int} {k : Nat} {h h' : List Nat} (L : Loa Q R k h) (hk : (par Q k).length = 0) (hh : Hp R h') (hpm : h'.Perm (h ++ [k])) : Loa Q R (k + 1) h' := by
 have hnc : k ∉ h := fun hm => by have := ((L.mem k).1 hm).1; omega
 refine ⟨hpm.nodup_iff.2 (nodup_snoc L.hn hnc), fun j => ?_, hh⟩
 rw [hpm.mem_iff, List.mem_append, List.mem_singleton, L.mem j]
 constructor
 · rintro (⟨h1, h2⟩ | rfl)
   · exact ⟨by omega, h2⟩
   · exact ⟨by omega, List.eq_nil_of_length_eq_zero hk⟩
 · rintro ⟨h1, h2⟩
   rcases Nat.lt_or_ge j k with h' | h'
   · exact .inl ⟨h', h2⟩
   · right; omega
theorem Loa.go {Q : List (List Nat)} {R : List Int} {h : List Nat} (L : Loa Q R Q.length h) : Lin Q R [] (wl Q Q.length Q.length) h := by
 refine ⟨List.nodup_nil, by simp, by simp, wl_len _ _ _, fun j hj => by rw [wl_at Q _ j hj, miss_nil], L.hn, fun j => ?_, L.heap, rfl⟩
 rw [L.mem j]
 refine and_congr_right fun _ => ?_
 unfold Rdy
 constructor
 · intro h; rw [h]; simp
 · rintro ⟨_, h⟩
   exact List.eq_nil_iff_forall_not_mem.2 fun p hp => by have := h p hp; simp at this
theorem Lin.stop {Q : List (List Nat)} {R : List Int} {T : List Nat} {W : List Int} (L : Lin Q R T W []) : lin Q R = if T.length < Q.length then none else some T := by
 rw [L.eq]
 split
 · rename_i h
   have hb : bestTo Q R T Q.length = none := by
    cases hb : bestTo Q R T Q.length with
    | none => rfl
    | some b =>
     obtain ⟨h1, h2, _⟩ := bestTo_some hb
     exact absurd ((L.mem b).2 ⟨h1, h2⟩) (by simp)
   rw [show Q.length - T.length = Q.length - (T.length + 1) + 1 by omega, linTo_stuck hb]
 · rename_i h
   rw [show Q.length - T.length = 0 by omega]
   rfl
end Go.Proofs.YtimhpglfolbomabGreat.Od
namespace Go.Proofs.YtimhpglfolbomabGreat.Od
open Go.RowKit Go.Maps
structure St (w1 : World) (B s wb : Nat) (rp : Option Addr) (rc : Nat) (R : List Int) (wr : World) (tv v : Value) (T : List Nat) (W : List Int) (h : List Nat) : Prop where
 size : w1.heap.size = s
 bl : B ≤ wb
 wl : wb < s
 keep : Keep (fun k => k = wb ∨ s ≤ k) w1 wr
 ik : Ik wr wb W
 qu : Qu B wr s rp rc R v h
 vl : ∀ k, v.ownBlock = some k → s ≤ k
 own : wr.ownsRow s 3 1 tv (zs T).length ((zs T).map (Value.int .i64))
 ne : tv.ownBlock ≠ some s
 apart : ∀ k, tv.ownBlock = some k → v.ownBlock ≠ some k
section
variable {w1 : World} {B s wb : Nat} {rp : Option Addr} {rc : Nat} {R : List Int} {wr w' : World} {tv v : Value} {T : List Nat} {W : List Int} {h : List Nat}
theorem St.queue {v' : Value} {h' : List Nat} (S : St w1 B s wb rp rc R wr tv v T W h) (Q : Qk B wr w' s rp rc R v v' h') : St w1 B s wb rp rc R w' tv v' T W h' := by
 have hs := S.keep.size
 refine ⟨S.size, S.bl, S.wl, S.keep.trans Q.keep fun k _ e => ?_, S.ik.same (Q.keep.block wb (by have := S.wl; have := S.size; omega) ?_), Q.qu, fun k hk => ?_, own_same S.own (Same.of_keep Q.keep fun k hk => ⟨(S.own.lt k hk).2, ?_⟩), S.ne, fun k hk e => ?_⟩
 · rcases e with e | e
   · right; omega
   · right; exact S.vl k e
 · rintro (e | e)
   · have := S.wl; omega
   · have := S.vl _ e; have := S.wl; omega
 · rcases Q.loc with h1 | h1
   · exact S.vl k (h1 ▸ hk)
   · have := h1 k hk; have := S.size; omega
 · rintro (e | e)
   · exact S.ne (e ▸ hk)
   · exact S.apart k hk e
 · rcases Q.loc with h1 | h1
   · exact S.apart k hk (h1 ▸ e)
   · have := h1 k e; have := (S.own.lt k hk).2; omega
theorem St.told {tv' : Value} {i : Nat} (S : St w1 B s wb rp rc R wr tv v T W h) (ho : w'.ownsRow s 3 1 tv' (zs T ++ [(i : Int)]).length ((zs T ++ [(i : Int)]).map (Value.int .i64))) (hk : Keep (tv.ownBlock = some ·) wr w') (hl : tv'.ownBlock = tv.ownBlock ∨ ∀ k, tv'.ownBlock = some k → wr.heap.size ≤ k) :
    St w1 B s wb rp rc R w' tv' v (T ++ [i]) W h := by
 have hs := S.keep.size
 have hsz := S.size
 have hq := obj_lt S.qu.obj
 have hnew : ∀ k, k < wr.heap.size → tv.ownBlock ≠ some k → tv'.ownBlock ≠ some k := by
  intro k h1 h2 e
  rcases hl with h' | h'
  · exact h2 (h'.symm.trans e)
  · have := h' k e; omega
 refine ⟨hsz, S.bl, S.wl, S.keep.trans hk fun k _ e => .inr (S.own.lt k e).1, S.ik.same (hk.block wb (by have := S.wl; omega) fun e => ?_), ?_, S.vl, ?_, hnew s hq S.ne, fun k hk' e => ?_⟩
 · have := (S.own.lt wb e).1; have := S.wl; omega
 · refine ⟨(hk.block s hq S.ne).trans S.qu.obj, own_same S.qu.row (Same.of_keep hk fun k e => ⟨(S.qu.row.lt k e).2, fun e' => S.apart k e' e⟩), S.qu.ne, S.qu.rank.same (Same.of_keep hk fun k hk' => ⟨by have := S.qu.le; omega, fun e => ?_⟩), S.qu.le, S.qu.lt⟩
   have := (S.own.lt k e).1
   have := S.qu.le
   omega
 · have e2 : zs (T ++ [i]) = zs T ++ [(i : Int)] := by simp [zs]
   rw [e2]
   exact ho
 · have hk2 := (S.qu.row.lt k e).2
   exact hnew k hk2 (fun e' => S.apart k e' e) hk'
theorem St.wait (S : St w1 B s wb rp rc R wr tv v T W h) (c : Nat) (x : Int) : St w1 B s wb rp rc R (wr.setCell ⟨wb, c, none⟩ (.int .i64 x)) tv v T (W.set c x) h := by
 have hs := S.keep.size
 have hsz := S.size
 have hwl := S.wl
 have hk : Keep (· = wb) wr (wr.setCell ⟨wb, c, none⟩ (.int .i64 x)) := (Keep.refl (· = wb) wr).setCell (p := ⟨wb, c, none⟩) (fun _ => rfl) _
 have hq := obj_lt S.qu.obj
 refine ⟨hsz, S.bl, hwl, S.keep.trans hk fun k _ e => .inl e, S.ik.set c x, ?_, S.vl, own_same S.own (Same.of_keep hk fun k hk' => ⟨(S.own.lt k hk').2, by have := (S.own.lt k hk').1; omega⟩), S.ne, S.apart⟩
 exact ⟨(hk.block s hq (by omega)).trans S.qu.obj, own_same S.qu.row (Same.of_keep hk fun k e => ⟨(S.qu.row.lt k e).2, by have := S.vl k e; omega⟩), S.qu.ne, S.qu.rank.same (Same.of_keep hk fun k hk' => ⟨by have := S.qu.le; omega, by have := S.bl; omega⟩), S.qu.le, S.qu.lt⟩
end
def toQ (P : List (List Int)) : List (List Nat) := P.map fun r => r.map Int.toNat
def linP (P : List (List Int)) (R : List Int) : Option (List Nat) := if R.length = P.length ∧ insB P.length P = true then lin (toQ P) R else none
theorem toQ_len (P : List (List Int)) : (toQ P).length = P.length := by simp [toQ]
theorem ins_mem {n : Nat} {P : List (List Int)} (h : insB n P = true) : ∀ r ∈ P, ∀ p ∈ r, 0 ≤ p ∧ p < (n : Int) := by
 unfold insB rowB at h
 simp only [List.all_eq_true, decide_eq_true_eq] at h
 exact h
theorem toQ_zs {n : Nat} {P : List (List Int)} (h : insB n P = true) : (toQ P).map zs = P := by
 unfold toQ
 rw [List.map_map]
 refine (List.map_congr_left (g := id) fun r hr => ?_).trans (List.map_id _)
 simp only [Function.comp, zs, List.map_map, id]
 refine (List.map_congr_left (g := id) fun p hp => ?_).trans (List.map_id _)
 have := (ins_mem h r hr p hp).1
 simp only [Function.comp, id]
 omega
theorem par_toQ {n : Nat} {P : List (List Int)} (h : insB n P = true) (i : Nat) : zs (par (toQ P) i) = P.getD i [] := by rw [← rows_at, toQ_zs h]
theorem par_lt {n : Nat} {P : List (List Int)} (h : insB n P = true) (i : Nat) : ∀ x ∈ par (toQ P) i, x < n := by
 intro x hx
 have h1 := (zs_mem _ _).2 hx
 rw [par_toQ h] at h1
 rcases Nat.lt_or_ge i P.length with h' | h'
 · have := (ins_mem h _ (getD_inm (d := []) h') _ h1).2
   omega
 · rw [List.getD_eq_getElem?_getD, List.getElem?_eq_none h'] at h1
   simp at h1
theorem par_len {n m : Nat} {P : List (List Int)} (h : insB n P = true) (hl : ∀ r ∈ P, r.length ≤ m) (i : Nat) : (par (toQ P) i).length ≤ m := by
 rw [← zs_len, par_toQ h]
 rcases Nat.lt_or_ge i P.length with h' | h'
 · exact hl _ (getD_inm (d := []) h')
 · rw [List.getD_eq_getElem?_getD, List.getElem?_eq_none h']
   simp
def LinP (o : Option (List Nat)) (w : World) (e : Ending) (w' : World) : Prop :=
 ∃ v, e = .returned (.tuple #[v, .int .i64 (if o.isSome then 0 else 1)]) ∧ w'.ownsRow w.heap.size 3 1 v (zs (o.getD [])).length ((zs (o.getD [])).map (Value.int .i64)) ∧ Below w.heap.size w w'
theorem linP_len {P : List (List Int)} {R : List Int} (h : R.length ≠ P.length) : linP P R = none := by unfold linP; rw [if_neg fun h' => h h'.1]
theorem linP_ins {P : List (List Int)} {R : List Int} (h : insB P.length P = false) : linP P R = none := by unfold linP; rw [if_neg fun h' => by rw [h] at h'; exact Bool.false_ne_true h'.2]
theorem linP_ok {P : List (List Int)} {R : List Int} (h : R.length = P.length) (h' : insB P.length P = true) : linP P R = lin (toQ P) R := by unfold linP; rw [if_pos ⟨h, h'⟩]
theorem linear_len (P : List (List Int)) (R : List Int) (p rp : Option Addr) (c rc : Nat) (w : World) (hne : R.length ≠ P.length) (_hP : P.length ≤ 1000) (_hR : R.length ≤ 1000) :
    Calls Tryz.prog 34 #[.slice p P.length c, .slice rp R.length rc] w (LinP (linP P R) w) := by
 rw [linP_len hne]
 generalize P.length = n at *
 generalize R.length = m at *
 have hne' : ((m : Int) == (n : Int)) = false := by rw [beq_eq_false_iff_ne]; omega
 go_enter Tryz.func34, Tryz.ntmps34
 go_wp2
 go_ret2
 exact ⟨_, rfl, World.ownsRow_nil _ _ _ _, Below.refl _ _⟩
theorem linear_ins (P : List (List Int)) (R : List Int) (p rp : Option Addr) (c rc : Nat) (w : World) (he : R.length = P.length) (hi : insB P.length P = false) (r : RdR (· < w.heap.size) w p c P) (hP : P.length ≤ 1000) (hl : ∀ x ∈ P, x.length ≤ 1000) :
    Calls Tryz.prog 34 #[.slice p P.length c, .slice rp R.length rc] w (LinP (linP P R) w) := by
 have hin := inside_any P p c w r hP hl
 rw [hi] at hin
 rw [linP_ins hi, he]
 clear hi hl r he
 generalize P.length = n at *
 go_enter Tryz.func34, Tryz.ntmps34
 go_wp2_with (first
  | (go_at_call 63; refine hin.mono ?_; rintro e w' ⟨rfl, rfl⟩))
 go_ret2
 exact ⟨_, rfl, World.ownsRow_nil _ _ _ _, Below.refl _ _⟩
end Go.Proofs.YtimhpglfolbomabGreat.Od
namespace Go.Proofs.YtimhpglfolbomabGreat
open Go.RowKit
def ints (s : ByteArray) : List Int := s.data.toList.map fun c => (c.toNat : Int)
theorem ints_length (s : ByteArray) : (ints s).length = s.size := by simp [ints]
theorem ints_getD (s : ByteArray) (k : Nat) (h : k < s.size) : (ints s).getD k 0 = (s[k].toNat : Int) := by
 have h' : k < s.data.toList.length := by simpa using h
 simp only [ints, List.getD_eq_getElem?_getD, List.getElem?_map, List.getElem?_eq_getElem h', Option.map_some, Option.getD_some]
 rfl
theorem ret_bool {a b : Bool} (h : a = b) : Ending.returned (.bool a) = .returned (.bool b) := by rw [h]
theorem add_block (a : Addr) (m : Nat) : (a.add m).block = a.block := by unfold Addr.add; split <;> rfl
theorem cell_row {w : World} {g t : Nat} {fr : Nat × Nat} {cur : List Value} (h : w.heap[g]? = some (.cells cur.toArray t fr)) (j : Nat) (v : Value) (hj : cur[j]? = some v) : w.cell? ⟨g, j, none⟩ = some v := by
 simp [World.cell?, h, hj]
end Go.Proofs.YtimhpglfolbomabGreat
namespace Go.Proofs.YtimhpglfolbomabGreat
inductive J where
 | mk (kind int : Int) (text : ByteArray) (keys : List ByteArray) (list : List J)
def nix : ByteArray := ⟨#[]⟩
def J.zero : J := .mk 0 0 nix [] []
def J.kind : J → Int | .mk k _ _ _ _ => k
def J.int : J → Int | .mk _ i _ _ _ => i
def J.text : J → ByteArray | .mk _ _ t _ _ => t
def J.keys : J → List ByteArray | .mk _ _ _ ks _ => ks
def J.list : J → List J | .mk _ _ _ _ l => l
def byteAt (t : List Int) (i : Nat) : Int := t.getD i 0
def maxInt : Int := 9007199254740991
def lessB : List UInt8 → List UInt8 → Bool
 | [], [] => false
 | [], _ :: _ => true
 | _ :: _, [] => false
 | a :: x, b :: y => decide (a < b) || (decide (a = b) && lessB x y)
def putK (k : ByteArray) (v : J) : List (ByteArray × J) → List (ByteArray × J)
 | [] => [(k, v)]
 | q :: l => if lessB k.data.toList q.1.data.toList = true then (k, v) :: q :: l else q :: putK k v l
def sortK : List (ByteArray × J) → List (ByteArray × J)
 | [] => []
 | q :: l => putK q.1 q.2 (sortK l)
def mapOf (ks : List ByteArray) (l : List J) : J := .mk 5 0 nix ((sortK (ks.zip l)).map (·.1)) ((sortK (ks.zip l)).map (·.2))
end Go.Proofs.YtimhpglfolbomabGreat
namespace Go.Proofs.YtimhpglfolbomabGreat
open Go.RowKit
structure Keep (S : Nat → Prop) (w w' : World) : Prop where
 os : w'.os = w.os
 tape : w'.tape = w.tape
 output : w'.output = w.output
 size : w.heap.size ≤ w'.heap.size
 block : ∀ k, k < w.heap.size → ¬ S k → w'.heap[k]? = w.heap[k]?
theorem Keep.refl (S : Nat → Prop) (w : World) : Keep S w w := ⟨rfl, rfl, rfl, Nat.le_refl _, fun _ _ _ => rfl⟩
theorem Keep.trans {S S' : Nat → Prop} {a b c : World} (h : Keep S a b) (k : Keep S' b c) (hS : ∀ i, i < a.heap.size → S' i → S i) : Keep S a c :=
 ⟨k.os.trans h.os, k.tape.trans h.tape, k.output.trans h.output, Nat.le_trans h.size k.size, fun i hi hn => (k.block i (Nat.lt_of_lt_of_le hi h.size) (fun h' => hn (hS i hi h'))).trans (h.block i hi hn)⟩
theorem Keep.then {S : Nat → Prop} {a b c : World} (h : Keep S a b) (k : Keep S b c) : Keep S a c := h.trans k fun _ _ h => h
theorem Keep.of_below {S : Nat → Prop} {a b : World} (h : Below a.heap.size a b) : Keep S a b := ⟨h.os, h.tape, h.output, h.size, fun k hk _ => h.block k hk⟩
theorem Keep.of_grown {S : Nat → Prop} {a b : World} {row : Option Nat} (h : a.grownBy b row) (hr : ∀ k, k < a.heap.size → row = some k → S k) : Keep S a b :=
 ⟨h.os, h.tape, h.output, h.size, fun k hk hn => h.block k hk fun e => hn (hr k hk e.symm)⟩
theorem Keep.below {S : Nat → Prop} {a b : World} (h : Keep S a b) {B : Nat} (hB : B ≤ a.heap.size) (hS : ∀ k, k < B → ¬ S k) : Below B a b :=
 ⟨h.os, h.tape, h.output, h.size, fun k hk => h.block k (Nat.lt_of_lt_of_le hk hB) (hS k hk)⟩
theorem Keep.cell {S : Nat → Prop} {a b : World} (h : Keep S a b) {p : Addr} (hp : p.block < a.heap.size) (hS : ¬ S p.block) : b.cell? p = a.cell? p := World.cell?_of_block (h.block _ hp hS)
theorem Keep.drew {S : Nat → Prop} {a b : World} (h : Keep S a b) : Keep S a b.drew := ⟨h.os, h.tape, h.output, h.size, h.block⟩
theorem Keep.alloc {S : Nat → Prop} {a b : World} (h : Keep S a b) (o : Obj) : Keep S a (b.alloc o) :=
 h.trans (S' := fun _ => False) (Keep.of_below ((Below.refl _ _).alloc (Nat.le_refl _) o)) fun _ _ h => h.elim
theorem Keep.setCell {S : Nat → Prop} {a b : World} (h : Keep S a b) {p : Addr} (hp : p.block < a.heap.size → S p.block) (u : Value) : Keep S a (b.setCell p u) :=
 ⟨h.os, h.tape, h.output, by rw [show (b.setCell p u).heap.size = b.heap.size by simp]; exact h.size, fun k hk hn => by
  rw [Below.heap_setCell b p u k (fun e => hn (e ▸ hp (e ▸ hk)))]; exact h.block k hk hn⟩
theorem own_keep {S : Nat → Prop} {w w' : World} {B e size n : Nat} {v : Value} {xs : List Value} (h : w.ownsRow B e size v n xs) (hk : Keep S w w') (hS : ∀ k, v.ownBlock = some k → ¬ S k) : w'.ownsRow B e size v n xs := by
 refine ⟨h.1, ?_⟩
 rcases h.2 with hn | ⟨g, cap, cur, rfl, hg, hgg, rest⟩
 · exact .inl hn
 · exact .inr ⟨g, cap, cur, rfl, hg, by rw [hk.block g (Array.getElem?_eq_some_iff.1 hgg).1 (hS g rfl)]; exact hgg, rest⟩
def RdK (O : Nat → Prop) (w : World) (p : Option Addr) (c : Nat) (ks : List ByteArray) : Prop :=
 ks.length ≤ c ∧ ∀ j, j < ks.length → ∃ a, p = some a ∧ O a.block ∧ w.cell? (a.add j) = some (.string (ks.getD j nix))
theorem RdK.nil (O : Nat → Prop) (w : World) : RdK O w none 0 [] := ⟨Nat.le_refl _, fun j hj => absurd hj (by simp)⟩
theorem RdK.carry {O O' : Nat → Prop} {w w' : World} {p : Option Addr} {c : Nat} {ks : List ByteArray} (h : RdK O w p c ks) (hO : ∀ k, O k → O' k ∧ w'.heap[k]? = w.heap[k]?) : RdK O' w' p c ks :=
 ⟨h.1, fun j hj => by
  obtain ⟨a, ha, hB, hc⟩ := h.2 j hj
  exact ⟨a, ha, (hO _ hB).1, (World.cell?_of_block (by rw [add_block]; exact (hO _ hB).2)).trans hc⟩⟩
mutual
def isJ (O : Nat → Prop) (w : World) : J → List Value → Prop
 | .mk k i t ks l, cs => ∃ pk ck pl cl, cs = [.int .i64 k, .int .i64 i, .string t, .slice pk ks.length ck, .slice pl l.length cl] ∧ RdK O w pk ck ks ∧ l.length ≤ cl ∧ isJs O w pl 0 l
def isJs (O : Nat → Prop) (w : World) (p : Option Addr) : Nat → List J → Prop
 | _, [] => True
 | n, j :: r => (∃ b o cs, p = some ⟨b, o, none⟩ ∧ O b ∧ (∀ i v, cs[i]? = some v → w.cell? ⟨b, o + n * 5 + i, none⟩ = some v) ∧ isJ O w j cs) ∧ isJs O w p (n + 1) r
end
mutual
theorem isJ.carry {O O' : Nat → Prop} {w w' : World} (hO : ∀ k, O k → O' k ∧ w'.heap[k]? = w.heap[k]?) : ∀ (j : J) (cs : List Value), isJ O w j cs → isJ O' w' j cs
 | .mk k i t ks l, cs, h => by
  unfold isJ at h ⊢
  obtain ⟨pk, ck, pl, cl, e, h1, h2, h3⟩ := h
  exact ⟨pk, ck, pl, cl, e, h1.carry hO, h2, isJs.carry hO pl 0 l h3⟩
theorem isJs.carry {O O' : Nat → Prop} {w w' : World} (hO : ∀ k, O k → O' k ∧ w'.heap[k]? = w.heap[k]?) (p : Option Addr) : ∀ (n : Nat) (l : List J), isJs O w p n l → isJs O' w' p n l
 | _, [], _ => by unfold isJs; trivial
 | n, j :: r, h => by
  unfold isJs at h ⊢
  obtain ⟨⟨b, o, cs, ha, hB, hc, hj⟩, hr⟩ := h
  exact ⟨⟨b, o, cs, ha, (hO _ hB).1, fun i v hi => (World.cell?_of_block (a := ⟨b, o + n * 5 + i, none⟩) (hO _ hB).2).trans (hc i v hi), isJ.carry hO j cs hj⟩, isJs.carry hO p (n + 1) r hr⟩
end
theorem isJs.at {O : Nat → Prop} {w : World} {p : Option Addr} : ∀ (l : List J) (n i : Nat), isJs O w p n l → i < l.length →
    ∃ b o cs, p = some ⟨b, o, none⟩ ∧ O b ∧ (∀ m v, cs[m]? = some v → w.cell? ⟨b, o + (n + i) * 5 + m, none⟩ = some v) ∧ isJ O w (l.getD i J.zero) cs
 | [], _, _, _, hi => absurd hi (by simp)
 | j :: r, n, 0, h, _ => by
  unfold isJs at h
  simpa using h.1
 | j :: r, n, i + 1, h, hi => by
  unfold isJs at h
  have := isJs.at r (n + 1) i h.2 (by simpa using hi)
  rw [show n + 1 + i = n + (i + 1) by omega] at this
  simpa using this
def isRow (O : Nat → Prop) (w : World) : List J → List Value → Prop
 | [], xs => xs = []
 | j :: r, xs => ∃ cs ys, xs = cs ++ ys ∧ cs.length = 5 ∧ isJ O w j cs ∧ isRow O w r ys
theorem isRow.carry {O O' : Nat → Prop} {w w' : World} (hO : ∀ k, O k → O' k ∧ w'.heap[k]? = w.heap[k]?) : ∀ (l : List J) (xs : List Value), isRow O w l xs → isRow O' w' l xs
 | [], _, h => h
 | _ :: r, _, ⟨cs, ys, e, h5, hj, hr⟩ => ⟨cs, ys, e, h5, hj.carry hO, isRow.carry hO r ys hr⟩
theorem isRow.snoc {O : Nat → Prop} {w : World} {j : J} {cs : List Value} (h5 : cs.length = 5) (hj : isJ O w j cs) : ∀ (l : List J) (xs : List Value), isRow O w l xs → isRow O w (l ++ [j]) (xs ++ cs)
 | [], xs, h => by
  have h : xs = [] := h
  subst h
  exact ⟨cs, [], by simp, h5, hj, rfl⟩
 | i :: r, xs, ⟨ds, ys, e, h5', hi, hr⟩ => ⟨ds, ys ++ cs, by rw [e, List.append_assoc], h5', hi, isRow.snoc h5 hj r ys hr⟩
theorem isRow.isJs {O : Nat → Prop} {w : World} {b o : Nat} (ha : O b) : ∀ (l : List J) (xs : List Value) (n : Nat), isRow O w l xs → (∀ i v, xs[i]? = some v → w.cell? ⟨b, o + n * 5 + i, none⟩ = some v) → isJs O w (some ⟨b, o, none⟩) n l
 | [], _, _, _, _ => by unfold Go.Proofs.YtimhpglfolbomabGreat.isJs; trivial
 | j :: r, xs, n, ⟨cs, ys, e, h5, hj, hr⟩, hc => by
  unfold Go.Proofs.YtimhpglfolbomabGreat.isJs
  refine ⟨⟨b, o, cs, rfl, ha, fun i v hi => hc i v ?_, hj⟩, isRow.isJs ha r ys (n + 1) hr fun i v hi => ?_⟩
  · rw [e, List.getElem?_append_left (List.getElem?_eq_some_iff.1 hi).1]; exact hi
  · have := hc (5 + i) v (by rw [e, List.getElem?_append_right (by omega), h5]; simpa using hi)
    rw [show o + (n + 1) * 5 + i = o + n * 5 + (5 + i) by omega]
    exact this
theorem isJ.five {O : Nat → Prop} {w : World} {j : J} {cs : List Value} (h : isJ O w j cs) : cs.length = 5 := by
 cases j
 unfold isJ at h
 obtain ⟨_, _, _, _, rfl, _⟩ := h
 rfl
theorem isJ_zero (O : Nat → Prop) (w : World) : isJ O w J.zero [.int .i64 0, .int .i64 0, .string nix, .slice none 0 0, .slice none 0 0] := by
 unfold J.zero isJ
 exact ⟨none, 0, none, 0, rfl, RdK.nil _ _, Nat.le_refl _, by unfold isJs; trivial⟩
end Go.Proofs.YtimhpglfolbomabGreat
namespace Go.Proofs.YtimhpglfolbomabGreat
def contAt (t : List Int) (i : Nat) : Bool := decide (byteAt t i / 64 = 2)
def letterOk (c : Int) : Bool := (decide (c < 55296) || decide (57344 ≤ c)) && decide (c ≤ 1114111)
def runeAt (t : List Int) (p : Nat) : Int × Nat :=
 if byteAt t p < 128 then (byteAt t p, 1)
 else if (decide (byteAt t p / 32 = 6) && contAt t (p + 1)) = true then
  if 128 ≤ byteAt t p % 32 * 64 + byteAt t (p + 1) % 64 then (byteAt t p % 32 * 64 + byteAt t (p + 1) % 64, 2) else (0, 0)
 else if (decide (byteAt t p / 16 = 14) && contAt t (p + 1) && contAt t (p + 2)) = true then
  if (decide (2048 ≤ byteAt t p % 16 * 4096 + byteAt t (p + 1) % 64 * 64 + byteAt t (p + 2) % 64) && letterOk (byteAt t p % 16 * 4096 + byteAt t (p + 1) % 64 * 64 + byteAt t (p + 2) % 64)) = true
  then (byteAt t p % 16 * 4096 + byteAt t (p + 1) % 64 * 64 + byteAt t (p + 2) % 64, 3) else (0, 0)
 else if (decide (byteAt t p / 8 = 30) && contAt t (p + 1) && contAt t (p + 2) && contAt t (p + 3)) = true then
  if (decide (65536 ≤ byteAt t p % 8 * 262144 + byteAt t (p + 1) % 64 * 4096 + byteAt t (p + 2) % 64 * 64 + byteAt t (p + 3) % 64) && letterOk (byteAt t p % 8 * 262144 + byteAt t (p + 1) % 64 * 4096 + byteAt t (p + 2) % 64 * 64 + byteAt t (p + 3) % 64)) = true
  then (byteAt t p % 8 * 262144 + byteAt t (p + 1) % 64 * 4096 + byteAt t (p + 2) % 64 * 64 + byteAt t (p + 3) % 64, 4) else (0, 0)
 else (0, 0)
def strayL (t : List Int) : Nat → Nat → Option Nat
 | 0, _ => none
 | m + 1, p => if p < t.length then (if (runeAt t p).2 = 0 then some p else strayL t m (p + (runeAt t p).2)) else none
def stray (t : List Int) : Option Nat := strayL t t.length 0
theorem get_byte (s : ByteArray) (i : Nat) : ((s.get! i).toNat : Int) = byteAt (ints s) i := by
 unfold byteAt
 by_cases h : i < s.size
 · rw [ints_getD s i h]
   have : s.get! i = s[i] := by simp [ByteArray.get!, getElem!_pos, h]; rfl
   rw [this]
 · rw [List.getD_eq_getElem?_getD, List.getElem?_eq_none (by rw [ints_length]; omega)]
   have : s.get! i = 0 := by
    have hd : ¬ i < s.data.size := h
    show s.data[i]! = 0
    rw [getElem!_neg s.data i hd]; rfl
   rw [this]; rfl
theorem byte_bd (s : ByteArray) (i : Nat) : 0 ≤ byteAt (ints s) i ∧ byteAt (ints s) i ≤ 255 := by
 rw [← get_byte]
 have := (s.get! i).toNat_lt
 omega
theorem byte_past (s : ByteArray) (i : Nat) (h : s.size ≤ i) : byteAt (ints s) i = 0 := by
 unfold byteAt
 rw [List.getD_eq_getElem?_getD, List.getElem?_eq_none (by rw [ints_length]; omega)]
 rfl
theorem cont_eq (s : ByteArray) (i : Nat) : (decide (i < s.size) && ((s.get! i).toNat / 64 == 2)) = contAt (ints s) i := by
 unfold contAt
 have h1 := get_byte s i
 by_cases h : i < s.size
 · rw [decide_eq_true h, Bool.true_and, Bool.eq_iff_iff]
   simp
   omega
 · rw [decide_eq_false h, byte_past s i (by omega)]
   rfl
theorem valid_eq (c : Nat) : Utf8.valid c = letterOk c := by
 unfold Utf8.valid letterOk
 rw [Bool.eq_iff_iff]
 simp
 omega
theorem decode_rune (s : ByteArray) (p : Nat) : Utf8.decode s p = if (runeAt (ints s) p).2 = 0 then (65533, 1) else ((runeAt (ints s) p).1.toNat, (runeAt (ints s) p).2) := by
 have g0 := get_byte s p
 have g1 := get_byte s (p + 1)
 have g2 := get_byte s (p + 2)
 have g3 := get_byte s (p + 3)
 have e1 := cont_eq s (p + 1)
 have e2 := cont_eq s (p + 2)
 have e3 := cont_eq s (p + 3)
 unfold Utf8.decode runeAt
 simp only [Nat.add_zero]
 rw [e1, e2, e3]
 obtain ⟨b0, h0⟩ : ∃ b, (s.get! p).toNat = b := ⟨_, rfl⟩
 obtain ⟨b1, h1⟩ : ∃ b, (s.get! (p + 1)).toNat = b := ⟨_, rfl⟩
 obtain ⟨b2, h2⟩ : ∃ b, (s.get! (p + 2)).toNat = b := ⟨_, rfl⟩
 obtain ⟨b3, h3⟩ : ∃ b, (s.get! (p + 3)).toNat = b := ⟨_, rfl⟩
 simp only [h0, h1, h2, h3] at g0 g1 g2 g3 ⊢
 rw [← g0, ← g1, ← g2, ← g3]
 generalize contAt (ints s) (p + 1) = k1
 generalize contAt (ints s) (p + 2) = k2
 generalize contAt (ints s) (p + 3) = k3
 have f1 : (b0 / 32 == 6) = decide ((b0 : Int) / 32 = 6) := by rw [Bool.eq_iff_iff]; simp; omega
 have f2 : (b0 / 16 == 14) = decide ((b0 : Int) / 16 = 14) := by rw [Bool.eq_iff_iff]; simp; omega
 have f3 : (b0 / 8 == 30) = decide ((b0 : Int) / 8 = 30) := by rw [Bool.eq_iff_iff]; simp; omega
 rw [f1, f2, f3]
 by_cases c0 : b0 < 128
 · have c0' : (b0 : Int) < 128 := by omega
   rw [if_pos c0, if_pos c0']
   simp
 have c0' : ¬ (b0 : Int) < 128 := by omega
 rw [if_neg c0, if_neg c0']
 by_cases c1 : (decide ((b0 : Int) / 32 = 6) && k1) = true
 · rw [if_pos c1, if_pos c1]
   by_cases c2 : 128 ≤ b0 % 32 * 64 + b1 % 64
   · have c2' : (128 : Int) ≤ (b0 : Int) % 32 * 64 + (b1 : Int) % 64 := by omega
     rw [if_pos c2, if_pos c2']
     simp
     omega
   · have c2' : ¬ (128 : Int) ≤ (b0 : Int) % 32 * 64 + (b1 : Int) % 64 := by omega
     rw [if_neg c2, if_neg c2']
     rfl
 rw [if_neg c1, if_neg c1]
 by_cases c3 : (decide ((b0 : Int) / 16 = 14) && k1 && k2) = true
 · rw [if_pos c3, if_pos c3]
   have ec : ((b0 % 16 * 4096 + b1 % 64 * 64 + b2 % 64 : Nat) : Int) = (b0 : Int) % 16 * 4096 + (b1 : Int) % 64 * 64 + (b2 : Int) % 64 := by omega
   rw [← ec]
   generalize b0 % 16 * 4096 + b1 % 64 * 64 + b2 % 64 = c
   by_cases c4 : 2048 ≤ c
   · rw [valid_eq c]
     have c4' : (2048 : Int) ≤ c := by omega
     rw [show decide (c ≥ 2048) = true from decide_eq_true c4, decide_eq_true c4', Bool.true_and]
     split
     · simp
     · rfl
   · have c4' : ¬ (2048 : Int) ≤ c := by omega
     rw [show decide (c ≥ 2048) = false from decide_eq_false c4, decide_eq_false c4']
     rfl
 rw [if_neg c3, if_neg c3]
 by_cases c5 : (decide ((b0 : Int) / 8 = 30) && k1 && k2 && k3) = true
 · rw [if_pos c5, if_pos c5]
   have ec : ((b0 % 8 * 262144 + b1 % 64 * 4096 + b2 % 64 * 64 + b3 % 64 : Nat) : Int) = (b0 : Int) % 8 * 262144 + (b1 : Int) % 64 * 4096 + (b2 : Int) % 64 * 64 + (b3 : Int) % 64 := by omega
   rw [← ec]
   generalize b0 % 8 * 262144 + b1 % 64 * 4096 + b2 % 64 * 64 + b3 % 64 = c
   by_cases c4 : 65536 ≤ c
   · rw [valid_eq c]
     have c4' : (65536 : Int) ≤ c := by omega
     rw [show decide (c ≥ 65536) = true from decide_eq_true c4, decide_eq_true c4', Bool.true_and]
     split
     · simp
     · rfl
   · have c4' : ¬ (65536 : Int) ≤ c := by omega
     rw [show decide (c ≥ 65536) = false from decide_eq_false c4, decide_eq_false c4']
     rfl
 rw [if_neg c5, if_neg c5]
 rfl
theorem rune_width (t : List Int) (p : Nat) : (runeAt t p).2 ≤ 4 := by
 unfold runeAt
 repeat' split
 all_goals simp
theorem rune_fffd (t : List Int) (p : Nat) (h0 : byteAt t p = 239) (h1 : byteAt t (p + 1) = 191) (h2 : byteAt t (p + 2) = 189) : runeAt t p = (65533, 3) := by
 unfold runeAt contAt
 rw [h0, h1, h2, if_neg (by decide), if_neg (by decide), if_pos (by decide), if_pos (by decide)]
 rfl
theorem rune_is (t : List Int) (p : Nat) (hb : ∀ i, 0 ≤ byteAt t i ∧ byteAt t i ≤ 255) (h : (runeAt t p).2 ≠ 0) (hr : (runeAt t p).1 = 65533) : byteAt t p = 239 ∧ byteAt t (p + 1) = 191 ∧ byteAt t (p + 2) = 189 := by
 have q0 := hb p
 have q1 := hb (p + 1)
 have q2 := hb (p + 2)
 have q3 := hb (p + 3)
 unfold runeAt contAt at h hr
 generalize byteAt t p = b0 at *
 generalize byteAt t (p + 1) = b1 at *
 generalize byteAt t (p + 2) = b2 at *
 generalize byteAt t (p + 3) = b3 at *
 repeat' split at hr
 all_goals simp_all
 all_goals omega
def noKeyTwice : List ByteArray → Bool
 | [] => true
 | k :: r => !(r.any fun x => decide (x.data = k.data)) && noKeyTwice r
def letters (s : ByteArray) : Bool := (stray (ints s)).isNone
def bare : J → Bool
 | .mk k i t ks l => (decide (i = 0) || decide (k = 1) || decide (k = 2)) && (decide (t.size = 0) || decide (k = 3)) && (decide (ks.length = 0) || decide (k = 5)) && (decide (l.length = 0) || decide (k = 4) || decide (k = 5))
def goodJ : Nat → J → Bool
 | 0, _ => false
 | d + 1, .mk k i t ks l => bare (.mk k i t ks l) &&
  (if k = 0 then true
   else if k = 1 then decide (i = 0) || decide (i = 1)
   else if k = 2 then decide (-maxInt ≤ i) && decide (i ≤ maxInt)
   else if k = 3 then letters t
   else if k = 4 then l.all (goodJ d)
   else if k = 5 then decide (ks.length = l.length) && (ks.all letters && noKeyTwice ks) && l.all (goodJ d)
   else false)
mutual
def ord : J → J
 | .mk k i t ks l => if k = 5 then mapOf ks (ordL l) else .mk k i t [] (ordL l)
def ordL : List J → List J
 | [] => []
 | j :: r => ord j :: ordL r
end
theorem lessB_irrefl : ∀ x : List UInt8, lessB x x = false
 | [] => rfl
 | a :: x => by unfold lessB; rw [lessB_irrefl x]; simp
theorem lessB_trans : ∀ x y z : List UInt8, lessB x y = true → lessB y z = true → lessB x z = true
 | [], [], _, h, _ => by cases h
 | [], _ :: _, [], _, h => by cases h
 | [], _ :: _, _ :: _, _, _ => rfl
 | _ :: _, [], _, h, _ => by cases h
 | _ :: _, _ :: _, [], _, h => by cases h
 | a :: x, b :: y, c :: z, h, h' => by
  unfold lessB at h h' ⊢
  simp only [Bool.or_eq_true, Bool.and_eq_true, decide_eq_true_eq] at h h' ⊢
  rcases h with h | ⟨rfl, h⟩
  · rcases h' with h' | ⟨rfl, h'⟩
    · exact .inl (UInt8.lt_trans h h')
    · exact .inl h
  · rcases h' with h' | ⟨rfl, h'⟩
    · exact .inl h'
    · exact .inr ⟨rfl, lessB_trans x y z h h'⟩
theorem lessB_total : ∀ x y : List UInt8, x ≠ y → lessB x y = true ∨ lessB y x = true
 | [], [], h => absurd rfl h
 | [], _ :: _, _ => .inl rfl
 | _ :: _, [], _ => .inr rfl
 | a :: x, b :: y, h => by
  unfold lessB
  simp only [Bool.or_eq_true, Bool.and_eq_true, decide_eq_true_eq]
  rcases UInt8.lt_or_lt_of_ne (a := a) (b := b) |> fun f => (Classical.em (a = b)).imp id f with rfl | h' | h'
  · rcases lessB_total x y (fun e => h (by rw [e])) with h' | h'
    · exact .inl (.inr ⟨rfl, h'⟩)
    · exact .inr (.inr ⟨rfl, h'⟩)
  · exact .inl (.inl h')
  · exact .inr (.inl h')
def ltK (a b : ByteArray) : Bool := lessB a.data.toList b.data.toList
theorem ltK_irrefl (a : ByteArray) : ltK a a = false := lessB_irrefl _
theorem ltK_trans {a b c : ByteArray} (h : ltK a b = true) (h' : ltK b c = true) : ltK a c = true := lessB_trans _ _ _ h h'
theorem ltK_ne {a b : ByteArray} (h : ltK a b = true) : a ≠ b := by
 intro e; subst e; rw [ltK_irrefl] at h; cases h
theorem ltK_total {a b : ByteArray} (h : a ≠ b) : ltK a b = true ∨ ltK b a = true := by
 refine lessB_total _ _ fun e => h ?_
 cases a; cases b
 simp only at e
 rw [Array.toList_inj.1 e]
def rises : List ByteArray → Bool
 | [] => true
 | k :: r => r.all (ltK k) && rises r
mutual
def inOrd : J → Bool
 | .mk _ _ _ ks l => rises ks && inOrdL l
def inOrdL : List J → Bool
 | [] => true
 | j :: r => inOrd j && inOrdL r
end
theorem mem_putK {k : ByteArray} {v : J} {x : ByteArray × J} : ∀ (q : List (ByteArray × J)), x ∈ putK k v q ↔ x = (k, v) ∨ x ∈ q
 | [] => by simp [putK]
 | y :: q => by
  unfold putK
  split
  · simp
  · rw [List.mem_cons, mem_putK q, List.mem_cons]
    constructor
    · rintro (h | h | h)
      · exact .inr (.inl h)
      · exact .inl h
      · exact .inr (.inr h)
    · rintro (h | h | h)
      · exact .inr (.inl h)
      · exact .inl h
      · exact .inr (.inr h)
theorem mem_sortK {x : ByteArray × J} : ∀ (q : List (ByteArray × J)), x ∈ sortK q ↔ x ∈ q
 | [] => Iff.rfl
 | y :: q => by
  unfold sortK
  rw [mem_putK, mem_sortK q, List.mem_cons]
theorem putK_rises {k : ByteArray} {v : J} : ∀ (q : List (ByteArray × J)), rises (q.map (·.1)) = true → (∀ x ∈ q, x.1 ≠ k) → rises ((putK k v q).map (·.1)) = true
 | [], _, _ => rfl
 | y :: q, h, hn => by
  simp only [List.map_cons, rises, Bool.and_eq_true] at h
  unfold putK
  split
  · rename_i hl
    simp only [List.map_cons, rises, Bool.and_eq_true, List.all_cons]
    refine ⟨⟨hl, List.all_eq_true.2 fun z hz => ltK_trans hl (List.all_eq_true.1 h.1 z hz)⟩, h.1, h.2⟩
  · rename_i hl
    have hyk : ltK y.1 k = true := by
     rcases ltK_total (hn y (by simp)) with h' | h'
     · exact h'
     · exact absurd h' hl
    simp only [List.map_cons, rises, Bool.and_eq_true]
    refine ⟨List.all_eq_true.2 fun z hz => ?_, putK_rises q h.2 fun x hx => hn x (by simp [hx])⟩
    obtain ⟨x, hx, rfl⟩ := List.mem_map.1 hz
    rcases (mem_putK q).1 hx with rfl | hx
    · exact hyk
    · exact List.all_eq_true.1 h.1 _ (List.mem_map.2 ⟨x, hx, rfl⟩)
def apartK (q : List (ByteArray × J)) : Prop := q.Pairwise fun x y => x.1 ≠ y.1
theorem sortK_rises' : ∀ (q : List (ByteArray × J)), apartK q → rises ((sortK q).map (·.1)) = true
 | [], _ => rfl
 | y :: q, h => by
  unfold sortK
  have h' := List.pairwise_cons.1 h
  exact putK_rises _ (sortK_rises' q h'.2) fun x hx => (h'.1 x ((mem_sortK q).1 hx)).symm
theorem putK_length {k : ByteArray} {v : J} : ∀ (q : List (ByteArray × J)), (putK k v q).length = q.length + 1
 | [] => rfl
 | y :: q => by
  unfold putK
  split
  · rfl
  · simp [putK_length q]
theorem sortK_length : ∀ (q : List (ByteArray × J)), (sortK q).length = q.length
 | [] => rfl
 | y :: q => by unfold sortK; rw [putK_length, sortK_length q]; rfl
end Go.Proofs.YtimhpglfolbomabGreat

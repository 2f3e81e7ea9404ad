/-
  The queue's Push.
-/
import Derived.Test.YtmkppbcngpgkdabOQueue
import Derived.Deep.RegionLaw
namespace Go.Proofs.Ytmkppbcngpgkdab
open Go.RowKit Go.Maps

theorem assert_int (W : World) (z : Int) : (Instr.typeAssert (.iface 3 (.int .i64 z)) 20 3 false).run Try.prog W = .ok (.int .i64 z) W := by kernel_rfl
/-- An append of one element inside a region. -/
theorem step_push {ops : Array Oper} {w : World} {o : Oper} {a : Act} {K : Act → World → Prop} {Q : Exit → Act → World → Prop} {E : Prop} (hg : o.guard = none) (s x : Operand) (t : TypeId)
    (ho : o.op = .call { callee := .builtin .append, args := #[s, x], argTypes := #[t, t] }) (ht : Try.prog.underlying t = some (.slice 3))
    (base : Nat) (v : Value) (L : List Int) (hs : a.eval s = v) (hown : w.ownsRow base 3 1 v L.length (L.map (Value.int .i64)))
    (ad : Addr) (y : Int) (hx : a.eval x = .slice (some ad) 1 1) (hc : w.cell? ad = some (.int .i64 y)) (hlen : L.length ≤ 1000000000) (hbase : base ≤ w.heap.size)
    (h : ∀ v' w', w'.ownsRow base 3 1 v' (L ++ [y]).length ((L ++ [y]).map (Value.int .i64)) → w.grownBy w' v.ownBlock → (v'.ownBlock = v.ownBlock ∨ v'.ownBlock = some w.heap.size) → K (a.put o.dst v') w') :
    if Region.wanted o (yielded ops a.tmps) = true then Oper.wp Try.prog o a w K Q else E := by
  rw [if_pos (by simp [Region.wanted, hg])]
  obtain ⟨i0, hi, hz0, hz1, hz2⟩ := info_parts Try.info3
  obtain ⟨v', w', hr, h2, h3, h4, h5⟩ := run_append_own_at (P := Try.prog) w base t o.type 3 i0 (.int .i64 0) 1 8 ht hi hz0 hz1 hz2 rfl (by decide) v L.length (L.map (Value.int .i64)) hown ad 1 1 [.int .i64 y] rfl (fun j u hj => by
    match j, hj with
    | 0, hj => simp at hj; subst hj; simpa [Addr.add] using hc) (fun u hu => by simp at hu; subst hu; rfl) (by unfold maxLen; omega) (by omega) hbase
  unfold Oper.wp execOp
  simp only [ho, resolve, invoke, builtin, Sem.run_bind, Sem.run_pure, Result.andThen_ok, List.map_toArray, List.map_cons, List.map_nil, hs, hx, hr]
  exact h v' w' (by rw [List.length_append, List.map_append]; exact h2) h3 h5

theorem Qu.put {B : Nat} {w w1 : World} {qb : Nat} {rp : Option Addr} {rc : Nat} {R : List Int} {v v' : Value} {h : List Nat} {x : Nat} (H : Qu B w qb rp rc R v h) (hx : x < R.length)
    (ho : w1.ownsRow B 3 1 v' (zs h ++ [(x : Int)]).length ((zs h ++ [(x : Int)]).map (Value.int .i64))) (hk : Keep (v.ownBlock = some ·) w w1) (hl : v'.ownBlock = v.ownBlock ∨ ∀ k, v'.ownBlock = some k → w.heap.size ≤ k) :
    Qu B (w1.setCell ⟨qb, 1, none⟩ v') qb rp rc R v' (h ++ [x]) ∧ Keep (fun k => k = qb ∨ v.ownBlock = some k) w (w1.setCell ⟨qb, 1, none⟩ v') ∧ (w1.cell? ⟨qb, 1, none⟩ = some v) ∧ w1.frozen? ⟨qb, 1, none⟩ = false := by
  have hq := obj_lt H.obj
  have ho1 : w1.heap[qb]? = some (.cells #[.slice rp R.length rc, v] 43) := (hk.block qb hq H.ne).trans H.obj
  have hne : v'.ownBlock ≠ some qb := by
    intro e
    rcases hl with h' | h'
    · exact H.ne (h'.symm.trans e)
    · have := h' qb e; omega
  have hk2 : Keep (fun k => k = qb ∨ v.ownBlock = some k) w (w1.setCell ⟨qb, 1, none⟩ v') := (hk.mono fun k _ h => .inr h).setCell (p := ⟨qb, 1, none⟩) (fun _ => .inl rfl) _
  refine ⟨⟨?_, ?_, hne, ?_, H.le, ?_⟩, hk2, ?_, ?_⟩
  · rw [heap_setCell_same w1 qb 1 _ _ _ ho1]
    rfl
  · have := ownsRow_setCell_other ho (a := ⟨qb, 1, none⟩) hne v'
    have e : zs (h ++ [x]) = zs h ++ [(x : Int)] := by simp [zs]
    rw [e]
    exact this
  · refine H.rank.same (Same.of_keep hk2 fun k hk' => ⟨by have := H.le; omega, ?_⟩)
    rintro (e | e)
    · have := H.le; omega
    · have := (H.row.lt k e).1; omega
  · intro y hy
    rcases List.mem_append.1 hy with h' | h'
    · exact H.lt y h'
    · rw [List.mem_singleton.1 h']; exact hx
  · exact cell_row (cur := [_, _]) ho1 1 _ rfl
  · exact frozen_of_row w1 qb 1 _ _ ho1

set_option maxHeartbeats 8000000 in
set_option maxRecDepth 100000 in
theorem qpush_any {B : Nat} {w : World} {qb : Nat} {rp : Option Addr} {rc : Nat} {R : List Int} {v : Value} {h : List Nat} (H : Qu B w qb rp rc R v h) (x : Nat) (hx : x < R.length) (hl : h.length ≤ 1000) :
    Calls Try.prog 62 #[.pointer (some ⟨qb, 0, none⟩), .iface 3 (.int .i64 x)] w fun e w' => e = .returned (.tuple #[]) ∧ ∃ v', Qu B w' qb rp rc R v' (h ++ [x]) ∧ Keep (fun k => k = qb ∨ v.ownBlock = some k) w w' ∧ (v'.ownBlock = v.ownBlock ∨ ∀ k, v'.ownBlock = some k → w.heap.size ≤ k) := by
  have hc1 := cell_row (cur := [_, _]) H.obj 1 _ rfl
  have hq := obj_lt H.obj
  have HH : Hid (Qu B w qb rp rc R v h) := H
  have hle := H.le
  have hzl : (zs h).length ≤ 1000 := by rw [zs_len]; exact hl
  obtain ⟨q, cq, rfl, _⟩ := H.view
  have HO : Hid (w.ownsRow B 3 1 (.slice q (zs h).length cq) (zs h).length ((zs h).map (Value.int .i64))) := H.row
  clear H
  have hta := assert_int
  have HP : Hid (∀ v' w1, w1.ownsRow B 3 1 v' (zs h ++ [(x : Int)]).length ((zs h ++ [(x : Int)]).map (Value.int .i64)) → (w.alloc (.cells #[.int .i64 x] 3)).drew.grownBy w1 (Value.slice q (zs h).length cq).ownBlock → (v'.ownBlock = (Value.slice q (zs h).length cq).ownBlock ∨ v'.ownBlock = some (w.alloc (.cells #[.int .i64 x] 3)).drew.heap.size) →
      (Qu B (w1.setCell ⟨qb, 1, none⟩ v') qb rp rc R v' (h ++ [x]) ∧ Keep (fun k => k = qb ∨ (Value.slice q (zs h).length cq).ownBlock = some k) w (w1.setCell ⟨qb, 1, none⟩ v') ∧ (v'.ownBlock = (Value.slice q (zs h).length cq).ownBlock ∨ ∀ k, v'.ownBlock = some k → w.heap.size ≤ k)) ∧ True ∧ w1.cell? ⟨qb, 1, none⟩ = some (Value.slice q (zs h).length cq) ∧ w1.frozen? ⟨qb, 1, none⟩ = false) := by
    intro v' w1 ho1 hg1 hl1
    have hk : Keep ((Value.slice q (zs h).length cq).ownBlock = some ·) w w1 := (((Keep.refl _ w).alloc (.cells #[.int .i64 x] 3)).drew).trans (Keep.of_grown (S := ((Value.slice q (zs h).length cq).ownBlock = some ·)) hg1 fun k _ e => e) fun _ _ h => h
    have hlo : v'.ownBlock = (Value.slice q (zs h).length cq).ownBlock ∨ ∀ k, v'.ownBlock = some k → w.heap.size ≤ k := by
      refine hl1.imp id fun e k hk => ?_
      rw [e] at hk
      cases hk
      simp
    obtain ⟨h1, h2, h3, h4⟩ := HH.out.put hx ho1 hk hlo
    exact ⟨⟨h1, h2, hlo⟩, trivial, h3, h4⟩
  go_enter Try.func62, Try.ntmps62
  go_region_law (refine step_push rfl (.tmp 8) (.tmp 11) 24 rfl Try.underlying24 B (.slice q (zs h).length cq) (zs h) rfl (HO.out.alloc (.cells #[.int .i64 x] 3)).drew ⟨w.heap.size, 0, none⟩ x rfl (cell_row (w := w.alloc (.cells #[.int .i64 x] 3)) (cur := [_]) (heap_alloc_new _ _) 0 _ rfl) (by omega) (by simp; omega) ?_; intro v' w1 ho1 hg1 hl1; obtain ⟨h1, h2, h3, h4⟩ := HP.out v' w1 ho1 hg1 hl1; have H1 : Hid _ := h1; have H2 : Hid _ := h2; obtain ⟨q', c', rfl, _⟩ := own_rd ho1; clear h1 h2 ho1 hg1)
  all_goals
    rw [show (zs h).length + 1 = (zs h ++ [(x : Int)]).length by simp]
    exact bodyPost_end (v := .tuple #[]) (by simp [results, Try.results62, go_sem]) rfl ⟨rfl, _, H1.out⟩

theorem Qu.cut {B : Nat} {w : World} {qb : Nat} {rp : Option Addr} {rc : Nat} {R : List Int} {q : Option Addr} {cq : Nat} {h : List Nat} (H : Qu B w qb rp rc R (.slice q (zs h).length cq) h) (m : Nat) (hm : m ≤ h.length) (hq : q ≠ none) :
    Qu B (w.setCell ⟨qb, 1, none⟩ (.slice q m cq)) qb rp rc R (.slice q m cq) (h.take m) ∧ Keep (· = qb) w (w.setCell ⟨qb, 1, none⟩ (.slice q m cq)) := by
  have hl := obj_lt H.obj
  have hne : (Value.slice q m cq).ownBlock ≠ some qb := by
    have := H.ne
    cases q <;> exact this
  have hk : Keep (· = qb) w (w.setCell ⟨qb, 1, none⟩ (.slice q m cq)) := (Keep.refl (· = qb) w).setCell (p := ⟨qb, 1, none⟩) (fun _ => rfl) _
  refine ⟨⟨?_, ?_, hne, ?_, H.le, fun x hx => H.lt x (List.mem_of_mem_take hx)⟩, hk⟩
  · rw [heap_setCell_same w qb 1 _ _ _ H.obj]
    rfl
  · have := own_take H.row m (by rw [zs_len]; exact hm) hq
    have e : zs (h.take m) = (zs h).take m := by simp [zs, List.map_take]
    rw [e]
    exact ownsRow_setCell_other this hne _
  · exact H.rank.same (Same.of_keep hk fun k hk' => ⟨by have := H.le; omega, by have := H.le; omega⟩)

set_option maxHeartbeats 4000000 in
theorem qpop_any {B : Nat} {w : World} {qb : Nat} {rp : Option Addr} {rc : Nat} {R : List Int} {v : Value} {h : List Nat} (H : Qu B w qb rp rc R v h) (hp : 0 < h.length) (hl : h.length ≤ 1000) :
    Calls Try.prog 61 #[.pointer (some ⟨qb, 0, none⟩)] w fun e w' => e = .returned (.iface 3 (.int .i64 (h.getD (h.length - 1) 0 : Nat))) ∧ ∃ v', Qu B w' qb rp rc R v' (h.take (h.length - 1)) ∧ Keep (· = qb) w w' ∧ v'.ownBlock = v.ownBlock := by
  have hc1 := cell_row (cur := [_, _]) H.obj 1 _ rfl
  have hf1 := frozen_of_row w qb 1 _ _ H.obj
  obtain ⟨q, cq, rfl, hrd⟩ := H.view
  obtain ⟨m, hm⟩ : ∃ m, h.length = m + 1 := ⟨h.length - 1, by omega⟩
  obtain ⟨ad, rfl, _, ci⟩ := hrd.at m 0 (by rw [zs_len]; omega)
  have hcl : h.length ≤ cq := by have := hrd.1; rw [zs_len] at this; exact this
  have HC : Hid _ := H.cut m (by omega) (by simp)
  rw [zs_getD] at ci
  rw [zs_len, hm] at hc1
  rw [hm] at hl hcl
  have e : h.length - 1 = m := by omega
  rw [e]
  generalize h.getD m 0 = y at *
  clear H hrd
  go_enter Try.func61, Try.ntmps61
  go_wp2
  go_ret
  exact ⟨rfl, _, HC.out.1, HC.out.2, rfl⟩
end Go.Proofs.Ytmkppbcngpgkdab

/-
  The queue's own methods.
-/
import Derived.Test.YtmkppbcngpgkdabOMem
namespace Go.Proofs.Ytmkppbcngpgkdab
open Go.RowKit Go.Maps

/-- Block qb is a queue of the places h, with the ranks R, which lie below B. -/
structure Qu (B : Nat) (w : World) (qb : Nat) (rp : Option Addr) (rc : Nat) (R : List Int) (v : Value) (h : List Nat) : Prop where
  obj : w.heap[qb]? = some (.cells #[.slice rp R.length rc, v] 43)
  row : w.ownsRow B 3 1 v (zs h).length ((zs h).map (Value.int .i64))
  ne : v.ownBlock ≠ some qb
  rank : RdI (· < B) w rp rc R
  le : B ≤ qb
  lt : ∀ x ∈ h, x < R.length
theorem Qu.same {B : Nat} {w w' : World} {qb : Nat} {rp : Option Addr} {rc : Nat} {R : List Int} {v : Value} {h : List Nat} (H : Qu B w qb rp rc R v h) (hb : Keep (fun _ => False) w w') : Qu B w' qb rp rc R v h := by
  have hq := obj_lt H.obj
  exact ⟨(hb.block qb hq id).trans H.obj, own_same H.row (Same.of_keep hb fun k hk => ⟨(H.row.lt k hk).2, id⟩), H.ne, H.rank.same (Same.of_keep hb fun k hk => ⟨by have := H.le; omega, id⟩), H.le, H.lt⟩
theorem Qu.view {B : Nat} {w : World} {qb : Nat} {rp : Option Addr} {rc : Nat} {R : List Int} {v : Value} {h : List Nat} (H : Qu B w qb rp rc R v h) : ∃ q cq, v = .slice q (zs h).length cq ∧ RdI (fun k => v.ownBlock = some k) w q cq (zs h) := own_rd H.row

set_option maxHeartbeats 1000000 in
theorem qlen_any {B : Nat} {w : World} {qb : Nat} {rp : Option Addr} {rc : Nat} {R : List Int} {v : Value} {h : List Nat} (H : Qu B w qb rp rc R v h) :
    Calls Try.prog 18 #[.pointer (some ⟨qb, 0, none⟩)] w fun e w' => e = .returned (.int .i64 h.length) ∧ w = w' := by
  have hc := cell_row (cur := [_, _]) H.obj 1 _ rfl
  obtain ⟨q, cq, rfl, _⟩ := H.view
  rw [zs_len] at hc
  clear H
  go_enter Try.func18, Try.ntmps18
  go_wp2
  go_ret
  exact ⟨rfl, rfl⟩

set_option maxHeartbeats 4000000 in
theorem less_any {B : Nat} {w : World} {qb : Nat} {rp : Option Addr} {rc : Nat} {R : List Int} {v : Value} {h : List Nat} (H : Qu B w qb rp rc R v h) (i j : Nat) (hi : i < h.length) (hj : j < h.length) (_hl : h.length ≤ 1000) (_hR : R.length ≤ 1000) :
    Calls Try.prog 60 #[.pointer (some ⟨qb, 0, none⟩), .int .i64 i, .int .i64 j] w fun e w' => e = .returned (.bool (decide (Lt R (h.getD i 0) (h.getD j 0)))) ∧ Keep (fun _ => False) w w' := by
  have hc0 := cell_row (cur := [_, _]) H.obj 0 _ rfl
  have hc1 := cell_row (cur := [_, _]) H.obj 1 _ rfl
  obtain ⟨q, cq, rfl, hrd⟩ := H.view
  obtain ⟨ad, rfl, _, ci⟩ := hrd.at i 0 (by rw [zs_len]; exact hi)
  obtain ⟨ad', e, _, cj⟩ := hrd.at j 0 (by rw [zs_len]; exact hj)
  cases e
  rw [zs_getD] at ci cj
  rw [zs_len] at hc1
  have hli := H.lt _ (getD_inm (d := 0) hi)
  have hlj := H.lt _ (getD_inm (d := 0) hj)
  generalize h.getD i 0 = a at *
  generalize h.getD j 0 = b at *
  obtain ⟨ar, rfl, _, ca⟩ := H.rank.at a 0 hli
  obtain ⟨ar', e, _, cb⟩ := H.rank.at b 0 hlj
  cases e
  have HL : Hid (Lt R a b ↔ (rk R a < rk R b ∨ rk R a = rk R b ∧ a < b)) := Iff.rfl
  unfold rk at HL
  generalize R.getD a 0 = x at *
  generalize R.getD b 0 = y at *
  generalize R.length = m at *
  generalize h.length = n at *
  clear H hrd
  have hK : Keep (fun _ => False) w w := Keep.refl _ _
  have hk1 : ∀ (wx : World) (k : Nat), Keep (fun _ => False) w wx → Keep (fun _ => False) w (wx.drewN k) := fun wx k h => ⟨h.os, h.tape, h.output, h.size, h.block⟩
  by_cases e : x = y
  · subst e
    go_enter Try.func60, Try.ntmps60
    go_wp2_with fail
    go_quiet (fail)
    go_wp2_with fail
    go_quiet (fail)
    go_wp2_with fail
    go_ret
    refine ⟨ret_bool ?_, by first | exact hk1 _ _ hK | exact hk1 _ _ (hk1 _ _ hK)⟩
    rw [Bool.eq_iff_iff, decide_eq_true_eq, decide_eq_true_eq, HL.out]
    simp
  · go_enter Try.func60, Try.ntmps60
    go_wp2_with fail
    go_quiet (fail)
    go_wp2_with fail
    go_quiet (fail)
    go_wp2_with fail
    go_quiet (fail)
    go_wp2_with fail
    go_ret
    refine ⟨ret_bool ?_, hk1 _ _ (hk1 _ _ (hk1 _ _ hK))⟩
    rw [Bool.eq_iff_iff, decide_eq_true_eq, decide_eq_true_eq, HL.out]
    omega
theorem zs_set (h : List Nat) (i x : Nat) : ((zs h).map (Value.int .i64)).set i (.int .i64 x) = (zs (h.set i x)).map (Value.int .i64) := by simp [zs, List.map_set]
theorem Qu.set {B : Nat} {w : World} {qb : Nat} {rp : Option Addr} {rc : Nat} {R : List Int} {g cq : Nat} {h : List Nat} (H : Qu B w qb rp rc R (.slice (some ⟨g, 0, none⟩) (zs h).length cq) h) (i x : Nat) (hx : x < R.length) :
    Qu B (w.setCell ⟨g, i, none⟩ (.int .i64 x)) qb rp rc R (.slice (some ⟨g, 0, none⟩) (zs (h.set i x)).length cq) (h.set i x) ∧ Keep (· = g) w (w.setCell ⟨g, i, none⟩ (.int .i64 x)) := by
  have hg := H.row.lt g rfl
  have hne : qb ≠ g := fun e => H.ne (by rw [e]; rfl)
  have hl : (zs (h.set i x)).length = (zs h).length := by simp [zs]
  have hk : Keep (· = g) w (w.setCell ⟨g, i, none⟩ (.int .i64 x)) := (Keep.refl (· = g) w).setCell (p := ⟨g, i, none⟩) (fun _ => rfl) _
  refine ⟨⟨(hk.block qb (obj_lt H.obj) hne).trans (by rw [hl]; exact H.obj), ?_, H.ne, H.rank.same (Same.of_keep hk fun k hk' => ⟨by have := hg.1; have := hg.2; omega, by have := hg.1; omega⟩), H.le, ?_⟩, hk⟩
  · rw [hl, ← zs_set]
    exact (H.row.stored i _).1
  · intro y hy
    rcases List.mem_or_eq_of_mem_set hy with h' | h'
    · exact H.lt y h'
    · rw [h']; exact hx

set_option maxHeartbeats 8000000 in
set_option maxRecDepth 100000 in
theorem swap_any {B : Nat} {w : World} {qb : Nat} {rp : Option Addr} {rc : Nat} {R : List Int} {v : Value} {h : List Nat} (H : Qu B w qb rp rc R v h) (i j : Nat) (hi : i < h.length) (hj : j < h.length) (_hl : h.length ≤ 1000) :
    Calls Try.prog 63 #[.pointer (some ⟨qb, 0, none⟩), .int .i64 i, .int .i64 j] w fun e w' => e = .returned (.tuple #[]) ∧ Qu B w' qb rp rc R v (swp h i j) ∧ Keep (v.ownBlock = some ·) w w' := by
  have hc1 := cell_row (cur := [_, _]) H.obj 1 _ rfl
  have hne := H.ne
  obtain ⟨q, cq, rfl, hrd⟩ := H.view
  rcases H.row.2 with ⟨h', _⟩ | ⟨g, cap, cur, h', _⟩
  · simp only [Value.slice.injEq] at h'
    have := zs_len h
    omega
  simp only [Value.slice.injEq, true_and] at h'
  obtain ⟨rfl, rfl⟩ := h'
  obtain ⟨ad, e, _, ci⟩ := hrd.at i 0 (by rw [zs_len]; exact hi)
  cases e
  obtain ⟨ad', e, _, cj⟩ := hrd.at j 0 (by rw [zs_len]; exact hj)
  cases e
  rw [add_flat, Nat.zero_add] at ci cj
  rw [zs_getD] at ci cj
  have fi := H.row.frozenAt i
  have fj := H.row.frozenAt j
  obtain ⟨H1, k1⟩ := H.set i (h.getD j 0) (H.lt _ (getD_inm hj))
  obtain ⟨H2, k2⟩ := H1.set j (h.getD i 0) (H.lt _ (getD_inm hi))
  have HQ : Hid (Qu B ((w.setCell ⟨g, i, none⟩ (.int .i64 (h.getD j 0 : Nat))).setCell ⟨g, j, none⟩ (.int .i64 (h.getD i 0 : Nat))) qb rp rc R (.slice (some ⟨g, 0, none⟩) (zs h).length cq) (swp h i j)) := by
    have e : (zs ((h.set i (h.getD j 0)).set j (h.getD i 0))).length = (zs h).length := by simp [zs]
    rw [e] at H2
    exact H2
  have HK : Hid (Keep (· = g) w ((w.setCell ⟨g, i, none⟩ (.int .i64 (h.getD j 0 : Nat))).setCell ⟨g, j, none⟩ (.int .i64 (h.getD i 0 : Nat)))) := k1.trans k2 fun _ _ h => h
  rw [zs_len] at HQ hc1 ⊢
  clear H H1 H2 hrd k1 k2
  have hqg : (⟨g, i, none⟩ : Addr) ≠ ⟨qb, 1, none⟩ := fun e => hne (by cases e; rfl)
  generalize h.getD i 0 = a at *
  generalize h.getD j 0 = b at *
  generalize hn : h.length = n at *
  clear hne
  have cj2 : (w.setCell ⟨g, i, none⟩ (.int .i64 (b : Int))).cell? ⟨g, j, none⟩ = some (.int .i64 (b : Int)) := by
    by_cases e : i = j
    · subst e
      exact World.cell?_setCell_same _ _ _ ci
    · rw [World.cell?_setCell_other _ _ _ _ (fun h => e (by cases h; rfl))]
      exact cj
  go_enter Try.func63, Try.ntmps63
  go_region
  go_wp2
  exact bodyPost_end (v := .tuple #[]) (by simp [results, Try.results63, go_sem]) rfl ⟨rfl, HQ.out.same ((Keep.refl _ _).drew), (HK.out.mono fun k _ e => by rw [e]; rfl).drew⟩
end Go.Proofs.Ytmkppbcngpgkdab

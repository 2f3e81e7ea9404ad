/-
  The document's Push.
  The document's Out.
  Rows of pieces that are the same.
-/
import Derived.Test.YtnhgjgoldcplnaaDG03
set_option maxRecDepth 100000
set_option maxHeartbeats 16000000
namespace Go.Proofs.Ytnhgjgoldcplnaa
open Go.RowKit Go.Maps
section
variable {i : Nat} {col col' : Nat → Nat} {w w' : World} {b : Nat} {W Q : Int} {L : List (List Int)} {d : Nat} {x : List Int}
theorem rpush_quiet (h : RS i col w b W Q L d) {v : Value} (hx : x.length ≤ 2000000) (hv : ∃ p c, v = .slice p x.length c) (he : pushE W Q L d x ≠ 0) :
    Calls Try.prog 14 #[.pointer (some ⟨b, 0, none⟩), v] w fun e w' => e = .returned (.int .i64 (pushE W Q L d x)) ∧ ∃ k, w' = w.drewN k := by
 obtain ⟨p, c, rfl⟩ := hv
 obtain ⟨q, cq, h1, h2, _⟩ := h.view
 have hw := h.wide
 have hf := h.few
 have hle := h.le
 have hc0 := cell_row (cur := [_, _, _, _]) h1 0 _ rfl
 have hc1 := cell_row (cur := [_, _, _, _]) h1 1 _ rfl
 have hc2 := cell_row (cur := [_, _, _, _]) h1 2 _ rfl
 have hc3 := cell_row (cur := [_, _, _, _]) h1 3 _ rfl
 unfold pushE at he ⊢
 clear h h1 h2
 generalize x.length = m at *
 generalize L.length = n at *
 by_cases hm : 1048576 < m
 · rw [if_pos hm]
   have hl' : decide ((1048576 : Int) < m) = true := decide_eq_true (by omega)
   go_enter Try.func14, Try.ntmps14
   go_wp2
   go_ret
   exact ⟨rfl, 0, rfl⟩
 · rw [if_neg hm] at he ⊢
   have hl' : decide ((1048576 : Int) < m) = false := decide_eq_false (by omega)
   by_cases hfu : W + Q ≤ ((n - d : Nat) : Int)
   · rw [if_pos hfu]
     have e1 : ((n : Int) - (d : Int)) = ((n - d : Nat) : Int) := by omega
     have g1 := IntWalk.i64_in ((n : Int) - (d : Int)) (by omega)
     have g2 := IntWalk.i64_in (W + Q) (by omega)
     have g3 : decide (W + Q ≤ (n : Int) - (d : Int)) = true := decide_eq_true (by omega)
     go_enter Try.func14, Try.ntmps14
     go_upto_region 3 with fail
     go_quiet (fail)
     go_wp2
     go_ret
     exact ⟨rfl, nq, rfl⟩
   · rw [if_neg hfu] at he
     exact absurd rfl he
theorem rpush_ok (h : RS i col w b W Q L d) (hi : i ≠ 0) (hL : L.length < 100000) {v : Value} (hx : Vw EU col w v x) (he : pushE W Q L d x = 0) (hx5 : x.length ≤ 1000000) :
    Calls Try.prog 14 #[.pointer (some ⟨b, 0, none⟩), v] w fun e w' => e = .returned (.int .i64 0) ∧ ∃ col', Ev (· = i) col w col' w' ∧ RS i col' w' b W Q (L ++ [x]) d := by
 obtain ⟨q, cq, h1, h2, h3⟩ := h.view
 have hw := h.wide
 have hf := h.few
 have hb := h.ob
 have hle := h.le
 have hfu0 : ¬ (W + Q ≤ ((L.length - d : Nat) : Int)) := by
  unfold pushE at he
  rw [if_neg (by omega)] at he
  intro h'
  rw [if_pos h'] at he
  cases he
 have hl' : decide ((1048576 : Int) < x.length) = false := decide_eq_false (by omega)
 have hc0 := cell_row (cur := [_, _, _, _]) h1 0 _ rfl
 have hc1 := cell_row (cur := [_, _, _, _]) h1 1 _ rfl
 have hc2 := cell_row (cur := [_, _, _, _]) h1 2 _ rfl
 have hc3 := cell_row (cur := [_, _, _, _]) h1 3 _ rfl
 have HE : Hid (∀ (v' u : Value) (w2 w4 : World), Below w.heap.size w w2 → (∀ D', Sl EU (New w w2) D' w2 u x) → (w2.alloc (.cells #[u] 37)).grownBy w4 (Value.slice q L.length cq).ownBlock → (v'.ownBlock = (Value.slice q L.length cq).ownBlock ∨ v'.ownBlock = some (w2.alloc (.cells #[u] 37)).heap.size) →
     (∀ D3 : Nat → Prop, (∀ k, Cl col 0 w k → D3 k) → (∀ k, New w w2 k → D3 k) → (∀ k, D3 k → k < (w2.alloc (.cells #[u] 37)).heap.size ∧ (Value.slice q L.length cq).ownBlock ≠ some k) → Rw EB (fun k => v'.ownBlock = some k) D3 w4 v' (L ++ [x])) →
     w4.heap[b]? = some (.cells #[.int .i64 W, .int .i64 Q, .slice q L.length cq, .int .i64 (d : Int)] 33) ∧ ∃ col', Ev (· = i) col w col' (w4.setCell ⟨b, 2, none⟩ v') ∧ RS i col' (w4.setCell ⟨b, 2, none⟩ v') b W Q (L ++ [x]) d) := by
  intro v' u w2 w4 hb2 hu hg hat HD
  have hb3 : Below w.heap.size w (w2.alloc (.cells #[u] 37)) := hb2.alloc (by have := hb2.size; omega) _
  obtain ⟨e1, e2, e3⟩ := row_end h2 hi hb3 hg hat HD (fun k hk => .inr ⟨hk.1, by have := hk.2; simp; omega⟩)
  have hne : v'.ownBlock ≠ some b := by
   intro e
   rcases e3 b e with h' | h'
   · exact h3 h'
   · have := hb.2; omega
  have ho : w4.heap[b]? = some (.cells #[.int .i64 W, .int .i64 Q, .slice q L.length cq, .int .i64 (d : Int)] 33) := ((hg.block b (Nat.lt_of_lt_of_le hb.2 hb3.size) (fun e => h3 e.symm)).trans (hb3.block b hb.2)).trans h1
  have hcb : paint col w v'.ownBlock i b = i := (paint_old hb.2).trans hb.1
  refine ⟨ho, _, e1.set hb.1 v', ⟨hcb, by have := hb.2; have := hb3.size; have := hg.size; simp; omega⟩, ⟨v', ?_, e2.set (by rw [hcb]; exact hi) hne, hne⟩, by rw [List.length_append]; omega, h.ok, by rw [List.length_append]; simp; omega⟩
  rw [heap_setCell_same w4 b 2 _ _ _ ho]
  rfl
 obtain ⟨px, cx, rfl⟩ := hx.lenv
 have HR : Hid (∀ X, Below w.heap.size w X → Rw EB (Cl col i w) (Cl col 0 w) X (.slice q L.length cq) L) := fun X hX => Rw.carry h2 (fun k hk => hX.block k (h2.lt k hk)) (Same.of_below hX fun k hk => hk.2) (fun _ _ h => h) fun _ h => h
 have HC : Hid (w.heap[b]? = some (.cells #[.int .i64 W, .int .i64 Q, .slice q L.length cq, .int .i64 (d : Int)] 33)) := h1
 have hbl := hb.2
 obtain ⟨m, hm⟩ : ∃ m, x.length = m := ⟨_, rfl⟩
 have HML : Hid (x.length = m) := hm
 have HX : Hid (∀ X, Below w.heap.size w X → Sl EU (Cl col 0 w) (fun _ => False) X (.slice px m cx) x) := fun X hX => by
  have := (hx.carry (w' := X) (Same.of_below hX fun k hk => hk.2) (Same.of_below hX fun k hk => hk.2) (fun _ hk => hk) fun _ hk => hk).anyD (D' := fun _ => False)
  rw [hm] at this
  exact this
 rw [hm] at hl' hx5
 rw [hm]
 clear h h1 h2 h3 hx he hm
 obtain ⟨n, hn⟩ : ∃ n, L.length = n := ⟨_, rfl⟩
 have HLN : Hid (L.length = n) := hn
 rw [hn] at HE HC HR hc2 hfu0 hle hf hL
 have g1 := IntWalk.i64_in ((n : Int) - (d : Int)) (by omega)
 have g2 := IntWalk.i64_in (W + Q) (by omega)
 have g3 : decide (W + Q ≤ (n : Int) - (d : Int)) = false := decide_eq_false (by omega)
 clear hn
 go_enter Try.func14, Try.ntmps14
 go_upto_region 3 with fail
 go_quiet (fail)
 go_upto_region 5 with fail
 have hbq : Below w.heap.size w (w.drewN nq).drew := by exact below_drewN (Below.refl _ _) (nq + 1)
 refine wp_region_J 12 (fun X => X.heap[b]? = some (.cells #[.int .i64 W, .int .i64 Q, .slice q n cq, .int .i64 (d : Int)] 33)) ?_
 change wpJ _ _ _ _ _ _ _ _ _ (World.drew _)
 generalize (w.drewN nq).drew = w1 at *
 have hC1 := (hbq.block b hbl).trans HC.out
 refine wpJ_q (i := 0) (d := some 28) (v := .pointer (some ⟨b, 0, none⟩)) rfl ?_
 refine wpJ_q (i := 1) (d := some 29) (v := .pointer (some ⟨b, 0, none⟩)) rfl ?_
 refine wpJ_q (i := 2) (d := some 30) (v := .pointer (some ⟨b, 0, none⟩)) rfl ?_
 refine wpJ_q (i := 3) (d := some 31) (v := .pointer (some ⟨b, 2, none⟩)) rfl ?_
 refine wpJ_r (i := 4) (d := some 32) (v := .slice q n cq) rfl (by intro wq hq; have g := cell_row (cur := [_, _, _, _]) hq 2 _ rfl; go_simp; first | done | with_reducible rfl) ?_
 refine wpJ_q (i := 6) (d := some 34) (v := .slice px m cx) rfl ?_
 refine wpJ_do (i := 5) (fun _ => hC1) (by kernel_rfl) rfl (by rfl) ?_
 intro K5 hK5
 go_simp
 refine hK5 _ _ ?_
 have hba : Below w1.heap.size w1 (w1.alloc (.cells #[] 5)) := (Below.refl _ _).alloc (Nat.le_refl _) _
 have hC1a := (hba.block b (Nat.lt_of_lt_of_le hbl hbq.size)).trans hC1
 have hXa := HX.out _ (belowP hbq hba)
 have hMa : Rw EU (fun k => k = w1.heap.size) (fun _ => False) (w1.alloc (.cells #[] 5)) (.slice (some ⟨w1.heap.size, 0, none⟩) 0 0) [] := Rw.made EU _ w1
 refine wpJ_do (i := 7) (fun _ => hC1a) (by kernel_rfl) rfl (by rfl) ?_
 intro K7 hK7
 refine wp_app (.tmp 33) (.tmp 34) 37 (some 35) rfl rfl Try.underlying37 rfl hMa rfl hXa (by have := HML.out; simp; omega) ?_
 rintro u w2 hg hat ⟨pu, cu, hu⟩ HD
 obtain ⟨hb2, hv2⟩ := copy_end (x := x) hg hat HD.out
 rw [List.nil_append, HML.out] at hu
 subst hu
 have HU : Hid (∀ D', Sl EU (New w1 w2) D' w2 (.slice pu m cu) x) := hv2
 have hb12 := belowP hbq hb2
 have hC2 := (hb2.block b (Nat.lt_of_lt_of_le hbl hbq.size)).trans hC1
 clear hg hat HD hMa hXa hC1a hba hv2
 refine hK7 _ _ ?_
 refine wpJ_fr ?_
 have hu' : ∀ D', Sl EU (New w w2) D' w2 (.slice pu m cu) x := fun D' => (HU.out D').carry (Same.refl _ _) (Same.refl _ _) (fun k hk => ⟨Nat.le_trans hbq.size hk.1, hk.2⟩) fun _ h => h
 have HU2 : Hid (∀ D', Sl EU (New w w2) D' w2 (.slice pu m cu) x) := hu'
 have hb23 : Below w2.heap.size w2 (w2.alloc (.cells #[.slice pu m cu] 37)) := (Below.refl _ _).alloc (Nat.le_refl _) _
 have HONE : Hid (Sl EB (fun k => k = w2.heap.size) (New w w2) (w2.alloc (.cells #[.slice pu m cu] 37)) (.slice (some ⟨w2.heap.size, 0, none⟩) 1 1) [x]) := Sl.one (E := EB) (cs := [.slice pu m cu]) ⟨_, rfl, hu' _⟩ fun k hk => hk.2
 have HR3 := HR.out _ (belowP hb12 hb23)
 have hC3 := (hb23.block b (by have := hbq.size; have := hb2.size; omega)).trans hC2
 clear hu' HU
 refine wpJ_do (i := 8) (fun _ => hC2) (by kernel_rfl) rfl (by rfl) ?_
 intro K8 hK8
 go_simp
 refine hK8 _ _ ?_
 refine wpJ_do (i := 9) (fun _ => hC3) (by kernel_rfl) rfl (by rfl) ?_
 intro K9 hK9
 refine wp_app (.tmp 32) (.tmp 36) 31 (some 37) rfl rfl Try.underlying31 rfl HR3 rfl HONE.out (by have := HLN.out; simp only [List.length_singleton]; omega) ?_
 rintro v' w4 hg hat ⟨q', c', hv'⟩ HD
 obtain ⟨nn, hnn⟩ : ∃ nn, (L ++ [x]).length = nn := ⟨_, rfl⟩
 rw [hnn] at hv'
 subst hv'
 clear hnn
 refine hK9 _ _ ?_
 refine wpJ_fr ?_
 obtain ⟨hC4, hend⟩ := HE.out _ _ w2 w4 hb12 HU2.out hg hat HD.out
 have HEND := (show Hid _ from hend)
 clear hend HD hg hat HR3 HONE
 refine wpJ_do (i := 10) (fun _ => hC4) (by kernel_rfl) rfl (by rfl) ?_
 intro K10 hK10
 go_simp
 refine hK10 _ _ ?_
 refine wpJ_q (i := 11) (d := some 39) (v := .pointer (some ⟨b, 2, none⟩)) rfl ?_
 have hc4 := cell_row (cur := [_, _, _, _]) hC4 2 _ rfl
 have hz4 := frozen_of_row w4 b 2 _ _ hC4
 refine wpJ_do (i := 12) (fun _ => hC4) (by kernel_rfl) rfl (by rfl) ?_
 intro K12 hK12
 go_simp
 refine hK12 _ _ ?_
 refine wpJ_end ?_
 go_wp2
 go_ret
 exact ⟨rfl, HEND.out⟩
theorem rpush_any (h : RS i col w b W Q L d) (hi : i ≠ 0) (hL : L.length < 100000) {v : Value} (hx : Vw EU col w v x) (hl : x.length ≤ 1000000) :
    Calls Try.prog 14 #[.pointer (some ⟨b, 0, none⟩), v] w fun e w' => e = .returned (.int .i64 (pushE W Q L d x)) ∧ ∃ col', Ev (· = i) col w col' w' ∧ RS i col' w' b W Q (pushL W Q L d x) d := by
 by_cases he : pushE W Q L d x = 0
 · refine (rpush_ok h hi hL hx he hl).mono ?_
   rintro e w' ⟨rfl, hr⟩
   unfold pushL
   rw [he, if_pos rfl]
   exact ⟨rfl, hr⟩
 · refine (rpush_quiet h (by omega) hx.lenv he).mono ?_
   rintro e w' ⟨rfl, k, rfl⟩
   unfold pushL
   rw [if_neg he]
   have hv := Ev.drewN (fun _ => False) col w k
   exact ⟨rfl, col, hv.mono fun _ h => h.elim, h.ev hv (fun h => h) fun h => h⟩
end
section
variable {i : Nat} {col col' : Nat → Nat} {w w' : World} {b : Nat} {W Q : Int} {L : List (List Int)} {d : Nat}
theorem rout_any (h : RS i col w b W Q L d) (hs : ∀ x ∈ L, x.length ≤ 1000000) : Calls Try.prog 19 #[.pointer (some ⟨b, 0, none⟩)] w fun e w' => Below w.heap.size w w' ∧ ∃ v, e = .returned v ∧ Vw EP (paint col w none 0) w' v (outK L d (undT W L d)) := by
 have HEN0 : ∀ X, Below w.heap.size w X → Calls Try.prog 34 #[.pointer (some ⟨b, 0, none⟩)] X fun e w' => e = .returned (.int .i64 ((d + undT W L d : Nat) : Int)) ∧ ∃ k, w' = X.drewN k := fun X hX => end_any (h.ev (S := fun _ => False) (Ev.paint (Keep.of_below hX) none 0) (fun h => h) fun h => h)
 have HFIN : Hid (∀ w' v, Below w.heap.size w w' → Nr EP (Cl col 0 w) w w' v (outK L d (undT W L d)) → Below w.heap.size w w' ∧ ∃ v', Ending.returned v = .returned v' ∧ Vw EP (paint col w none 0) w' v' (outK L d (undT W L d))) := fun w' v hb hr => ⟨hb, v, rfl, hr.vw hb.size (fun k hk => paint_old hk) paint_none⟩
 obtain ⟨q, cq, h1, h2, h3⟩ := h.view
 have hn := und_le W L d
 have hf := h.few
 have hle := h.le
 have hbl := h.ob.2
 obtain ⟨p, c, e, k1, -, k3, k4⟩ := h2.sl.rows
 cases e
 have HC : Hid (w.heap[b]? = some (.cells #[.int .i64 W, .int .i64 Q, .slice q L.length cq, .int .i64 (d : Int)] 33)) := h1
 have HK : Hid (∀ k, k < L.length → ∃ sb so pu cu, q = some ⟨sb, so, none⟩ ∧ sb < w.heap.size ∧ w.cell? ⟨sb, so + k, none⟩ = some (.slice pu (L.getD k []).length cu) ∧ Sl EU (Cl col 0 w) (fun _ => False) w (.slice pu (L.getD k []).length cu) (L.getD k []) ∧ (L.getD k []).length ≤ 1000000) := fun k hk => by
  obtain ⟨sb, so, e, hsb⟩ := k3 (by rintro rfl; simp at hk)
  obtain ⟨u, hc, hu⟩ := k4 sb so e k (L.getD k []) (by rw [List.getD_eq_getElem?_getD, List.getElem?_eq_getElem hk]; rfl)
  obtain ⟨pu, cu, rfl⟩ := hu.lenv
  exact ⟨sb, so, pu, cu, e, hsb.2, hc, hu.anyD, hs _ (by rw [List.getD_eq_getElem?_getD, List.getElem?_eq_getElem hk]; exact List.getElem_mem _)⟩
 have hc3 := cell_row (cur := [_, _, _, _]) h1 3 _ rfl
 obtain ⟨n, hnn⟩ : ∃ n, undT W L d = n := ⟨_, rfl⟩
 obtain ⟨nl, hnl⟩ : ∃ nl, L.length = nl := ⟨_, rfl⟩
 obtain ⟨en, hen⟩ : ∃ en, d + n = en := ⟨_, rfl⟩
 rw [hnn] at HEN0 hn HFIN ⊢
 rw [hen] at HEN0
 rw [hnl] at hn HC HK hf hle k1
 have HEN : Hid (∀ X, Below w.heap.size w X → Calls Try.prog 34 #[.pointer (some ⟨b, 0, none⟩)] X fun e w' => e = .returned (.int .i64 (en : Int)) ∧ ∃ k, w' = X.drewN k) := HEN0
 clear h h1 h2 h3 k3 k4 hs hnl hnn HEN0
 have HFN : Hid (∀ k, outK L d (k + 1) = outK L d k ++ [(((d + k : Nat) : Int), L.getD (d + k) [])]) := outK_snoc L d
 go_enter Try.func19, Try.ntmps19
 go_upto_region 3 with fail
 go_loopw [3, 4] (fun ov iv wr => ∃ j : Nat, d ≤ j ∧ j ≤ en ∧ iv = .int .i64 (j : Int) ∧ Hid (Below w.heap.size w wr) ∧ Hid (Nr EP (Cl col 0 w) w wr ov (outK L d (j - d)))) (fun _ iv _ => en - (intOf iv).toNat)
 case atStart => exact ⟨d, Nat.le_refl _, by omega, rfl, Below.refl _ _, by show Nr _ _ _ _ _ _; rw [Nat.sub_self]; exact Nr.nil _ _ _ _⟩
 case round =>
  obtain ⟨j, hj1, hj2, rfl, HBR, HRW⟩ := hrel
  have hen1 := HEN.out _ HBR.out
  obtain ⟨qo, co, hqo⟩ := HRW.out.slice
  rw [outK_len] at hqo
  obtain ⟨ol, hol⟩ : ∃ ol, j - d = ol := ⟨_, rfl⟩
  rw [hol] at hqo HRW
  subst hqo
  by_cases hje : j < en
  · obtain ⟨sb, so, pk, ck, rfl, hsb, g1, g2, g3⟩ := HK.out j (by omega)
    obtain ⟨mk, hmk⟩ : ∃ mk, (L.getD j []).length = mk := ⟨_, rfl⟩
    have HMK : Hid ((L.getD j []).length = mk) := hmk
    rw [hmk] at g1 g2 g3
    have G2 : Hid (Sl EU (Cl col 0 w) (fun _ => False) w (.slice pk mk ck) (L.getD j [])) := g2
    clear hmk g2
    go_upto_region 5 with (go_at_call 34; refine hen1.mono ?_; rintro e w2 ⟨rfl, m2, rfl⟩)
    have hb12 : Below wr.heap.size wr (wr.drewN m2) := below_drewN (Below.refl _ _) m2
    have HB12 : Hid (Below wr.heap.size wr (wr.drewN m2)) := hb12
    have HB1 : Hid (Below w.heap.size w (wr.drewN m2)) := belowP HBR.out hb12
    have HR2 : Hid (Nr EP (Cl col 0 w) w (wr.drewN m2) (.slice qo ol co) (outK L d ol)) := HRW.out.below hb12 (fun _ hk => hk.2) HBR.out.size
    clear hen1 hb12
    generalize wr.drewN m2 = w2 at *
    have hba : Below w2.heap.size w2 (w2.alloc (.cells #[] 5)) := (Below.refl _ _).alloc (Nat.le_refl _) _
    have hb1a := belowP HB1.out hba
    have x2 := cell_row (cur := [_, _, _, _]) ((hb1a.block b hbl).trans HC.out) 2 _ rfl
    have x3 : (w2.alloc (.cells #[] 5)).cell? ⟨sb, so + j, none⟩ = _ := (World.cell?_of_block (a := ⟨sb, so + j, none⟩) (hb1a.block sb hsb)).trans g1
    have hXa : Sl EU (Cl col 0 w) (fun _ => False) (w2.alloc (.cells #[] 5)) (.slice pk mk ck) (L.getD j []) := G2.out.carry (Same.of_below hb1a fun k hk => hk.2) (fun _ h => h.elim) (fun _ h => h) fun _ h => h
    have hMa : Rw EU (fun k => k = w2.heap.size) (fun _ => False) (w2.alloc (.cells #[] 5)) (.slice (some ⟨w2.heap.size, 0, none⟩) 0 0) [] := Rw.made EU _ w2
    have HMA := (show Hid _ from hMa)
    have HXA := (show Hid _ from hXa)
    have hlm : ([] : List Int).length + (L.getD j []).length ≤ 1000000 := by have := HMK.out; simp only [List.length_nil]; omega
    have HLE : Hid (ol ≤ 100000) := by show _ ≤ _; omega
    have HJD : Hid (d + ol = j) := by show _ = _; omega
    clear hba hb1a hMa hXa
    go_upto_region 4 with (first
     | (at_builtin; refine wpList_app rfl (.tmp 17) (.tmp 24) 37 rfl Try.underlying37 rfl HMA.out rfl HXA.out hlm ?_; rintro u w3 hg hat ⟨pu, cu, hu⟩ HD
        obtain ⟨hb3, hv3⟩ := copy_end (x := L.getD j []) hg hat HD.out
        rw [List.nil_append, HMK.out] at hu
        subst hu
        have HU : Hid (∀ D', Sl EU (New w2 w3) D' w3 (.slice pu mk cu) (L.getD j [])) := hv3
        have hb34 : Below w3.heap.size w3 (w3.alloc (.cells #[.int .i64 (j : Int), .slice pu mk cu] 52)) := (Below.refl _ _).alloc (Nat.le_refl _) _
        have HONE : Hid (Sl EP (fun k => k = w3.heap.size) (New w2 w3) (w3.alloc (.cells #[.int .i64 (j : Int), .slice pu mk cu] 52)) (.slice (some ⟨w3.heap.size, 0, none⟩) 1 1) [((j : Int), L.getD j [])]) := Sl.one (E := EP) (cs := [.int .i64 (j : Int), .slice pu mk cu]) ⟨_, rfl, HU.out _⟩ fun k hk => hk.2
        have HB24 : Hid (Below w2.heap.size w2 (w3.alloc (.cells #[.int .i64 (j : Int), .slice pu mk cu] 52))) := belowP hb3 hb34
        have HR3 := HR2.out.below (belowP hb3 hb34) (fun _ hk => hk.2) HB1.out.size
        have hlp : (outK L d ol).length + ([((j : Int), L.getD j [])] : List (Int × List Int)).length ≤ 1000000 := by rw [outK_len]; have := HLE.out; simp only [List.length_singleton]; omega
        have hz34 : w3.heap.size ≤ (w3.alloc (.cells #[.int .i64 (j : Int), .slice pu mk cu] 52)).heap.size := hb34.size
        clear hg hat HD hv3 hb3 hb34 HMA HXA)
     | (at_builtin; refine wpList_app rfl (.tmp 15) (.tmp 27) 40 rfl Try.underlying40 rfl HR3 rfl HONE.out hlp ?_; rintro v' w5 hg hat ⟨q', c', hv'⟩ HD
        obtain ⟨nn, hnn⟩ : ∃ nn, (outK L d ol ++ [((j : Int), L.getD j [])]).length = nn := ⟨_, rfl⟩
        rw [hnn] at hv'
        subst hv'
        clear hnn
        have hb04 := belowP HB1.out HB24.out
        obtain ⟨hr5, hb45⟩ := HR3.app hb04.size hg hat (fun _ hk => hk.2) HD.out (fun k hk => ⟨.inr ⟨Nat.le_trans HB1.out.size hk.1, Nat.lt_of_lt_of_le hk.2 hz34⟩, fun e => by have := HR2.out.lt k e; have := hk.1; omega⟩)
        have HB5 : Hid (Below w.heap.size w w5) := hb04.trans hb45
        have HR5 : Hid (Nr EP (Cl col 0 w) w w5 (.slice q' nn c') (outK L d (ol + 1))) := by show Nr _ _ _ _ _ _; rw [HFN.out, HJD.out]; exact hr5
        clear hg hat HD hr5 hb45 hb04 HR3 HONE HU))
    go_wp2
    go_roundw
    case rel => exact ⟨j + 1, by omega, by omega, by go_num, HB5.out, by show Nr _ _ _ _ _ _; rw [show j + 1 - d = ol + 1 by omega]; exact HR5.out⟩
    case measure => simp [intOf]; omega
  · obtain rfl : j = en := by omega
    have HR9 : Hid (Nr EP (Cl col 0 w) w wr (.slice qo ol co) (outK L d n)) := by show Nr _ _ _ _ _ _; rw [show n = ol by omega]; exact HRW.out
    go_wp2_with (go_at_call 34; refine hen1.mono ?_; rintro e w2 ⟨rfl, m2, rfl⟩)
    go_ret
    exact HFIN.out _ _ (below_drewN HBR.out m2) (HR9.out.below (below_drewN (Below.refl _ _) m2) (fun _ hk => hk.2) HBR.out.size)
end
theorem pieces_same {Oa Da Ob Db : Nat → Prop} {w : World} {va vb : Value} {L : List (Int × List Int)} (ha : Sl EP Oa Da w va L) (hb : Sl EP Ob Db w vb L) (hl : L.length ≤ 1000000) :
    Calls Try.prog 17 #[va, vb] w fun e w' => e = .returned (.bool true) ∧ ∃ k, w' = w.drewN k := by
 obtain ⟨pa, ca, rfl, a1, a2, a3, a4⟩ := ha.pieces
 obtain ⟨pb, cb, rfl, b1, b2, b3, b4⟩ := hb.pieces
 clear ha hb
 have HK : Hid (∀ k, k < L.length → ∃ (sa oa sb ob : Nat) (s : Int) (pua : Option Addr) (la cua : Nat) (pub : Option Addr) (lb cub : Nat) (sx : ByteArray), pa = some ⟨sa, oa, none⟩ ∧ pb = some ⟨sb, ob, none⟩ ∧ w.cell? ⟨sa, oa + k * 2, none⟩ = some (.int .i64 s) ∧ w.cell? ⟨sa, oa + k * 2 + 1, none⟩ = some (.slice pua la cua) ∧ w.cell? ⟨sb, ob + k * 2, none⟩ = some (.int .i64 s) ∧ w.cell? ⟨sb, ob + k * 2 + 1, none⟩ = some (.slice pub lb cub) ∧ (∀ X : World, X.heap = w.heap → (convert 37 9 (.slice pua la cua)).run Try.prog X = .ok (.string sx) X) ∧ (∀ X : World, X.heap = w.heap → (convert 37 9 (.slice pub lb cub)).run Try.prog X = .ok (.string sx) X)) := by
  intro k hk
  obtain ⟨sa, oa, ea, _⟩ := a3 (by rintro rfl; simp at hk)
  obtain ⟨sb, ob, eb, _⟩ := b3 (by rintro rfl; simp at hk)
  obtain ⟨ua, h0, h1, h2⟩ := a4 sa oa ea k L[k] (List.getElem?_eq_getElem hk)
  obtain ⟨ub, h3, h4, h5⟩ := b4 sb ob eb k L[k] (List.getElem?_eq_getElem hk)
  obtain ⟨pua, cua, rfl⟩ := h2.lenv
  obtain ⟨pub, cub, rfl⟩ := h5.lenv
  exact ⟨sa, oa, sb, ob, _, pua, _, cua, pub, _, cub, strOfNums L[k].2, ea, eb, h0, h1, h3, h4, fun X hX => conv_bytes (O := Da) (D := Da) (w := X) (h2.carry (fun _ _ => by rw [hX]) (fun _ _ => by rw [hX]) (fun _ h => h) fun _ h => h), fun X hX => conv_bytes (O := Db) (D := Db) (w := X) (h5.carry (fun _ _ => by rw [hX]) (fun _ _ => by rw [hX]) (fun _ h => h) fun _ h => h)⟩
 clear a3 a4 b3 b4
 generalize L.length = n at *
 go_enter Try.func17, Try.ntmps17
 go_wp2
 go_loopw [5] (fun iv wr => ∃ k : Nat, k ≤ n ∧ iv = .int .i64 (k : Int) ∧ Hid (∃ q, wr = w.drewN q)) (fun iv _ => n - (intOf iv).toNat)
 case atStart => exact ⟨0, Nat.zero_le _, rfl, 0, rfl⟩
 case round =>
  obtain ⟨k, hk, rfl, HQ⟩ := hrel
  have HH : Hid (wr.heap = w.heap) := by obtain ⟨q0, hq⟩ := HQ.out; show _ = _; rw [hq]; rfl
  have HQN : Hid (∀ j, ∃ q, wr.drewN j = w.drewN q) := fun j => by obtain ⟨q0, hq⟩ := HQ.out; exact ⟨q0 + j, by rw [hq, World.drewN_drewN]⟩
  by_cases hkn : k < n
  · obtain ⟨sa, oa, sb, ob, s, pua, la, cua, pub, lb, cub, sx, rfl, rfl, h1, h2, h3, h4, h5, h6⟩ := HK.out k hkn
    have hcl : ∀ (b o : Nat) (v : Value), w.cell? ⟨b, o, none⟩ = some v → wr.cell? ⟨b, o, none⟩ = some v := fun b o v h => (World.cell?_of_block (by rw [HH.out])).trans h
    have g1 := hcl _ _ _ h1
    have g2 := hcl _ _ _ h2
    have g3 := hcl _ _ _ h3
    have g4 := hcl _ _ _ h4
    have hva : ∀ X : Nat, (convert 37 9 (.slice pua la cua)).run Try.prog (wr.drewN X) = .ok (.string sx) (wr.drewN X) := fun X => h5 _ HH.out
    have hvb : ∀ X : Nat, (convert 37 9 (.slice pub lb cub)).run Try.prog (wr.drewN X) = .ok (.string sx) (wr.drewN X) := fun X => h6 _ HH.out
    clear h1 h2 h3 h4 h5 h6 hcl
    go_upto_region 6 with fail
    go_quiet (fail)
    go_wp2
    go_roundw
    case rel => exact ⟨k + 1, by omega, by go_num, HQN.out _⟩
    case measure => simp [intOf]; omega
  · obtain rfl : k = n := by omega
    go_wp2
    go_ret
    exact ⟨rfl, HQ.out⟩
end Go.Proofs.Ytnhgjgoldcplnaa

/-
  The link's step: kind 2.
  The link's step: kind 0.
  The link's step: kind 1.
  The link's step: kind 4 and none.
  What a receiver tells, as lists; what holds of a link, deed by deed.
-/
import Derived.Test.YtnhgjgoldcplnaaEG03
set_option maxRecDepth 100000
set_option maxHeartbeats 16000000
namespace Go.Proofs.Ytnhgjgoldcplnaa
open Go.RowKit Go.Maps
section
variable {S : Nat → Prop} {W Q : Int} {col col' : Nat → Nat} {w w' : World} {kb sb rb : Nat} {vp vn va vt : Value} {L : List (List Int)} {d : Nat} {t : Int} {K : Kp} {P : List (List Int)} {N : List (Int × List Int)} {A : List Int} {T : List (List Int)}
theorem step2_any (h : LK W Q col w kb sb rb vp vn va vt L d t K P N A T) (nn : Int) {s : ByteArray} (hN0 : 0 < N.length) (hN : N.length ≤ 1000000) (hK : K.length ≤ 1000) (htt : t ≤ 1000000) (hwf : ∀ p ∈ N, wf64 p.1 ∧ p.2.length ≤ 1000000) (hT : T.length + (takeT W t K (N.getD (idxT N.length nn) (0, [])).1 (N.getD (idxT N.length nn) (0, [])).2).1.length ≤ 1000000) :
    Calls Try.prog 29 #[.pointer (some ⟨kb, 0, none⟩), .agg #[.int .i64 2, .int .i64 nn, .string s]] w fun e w' => e = .returned (.tuple #[]) ∧ ∃ col' vp' vn' va' vt', LK W Q col' w' kb sb rb vp' vn' va' vt' L d (takeT W t K (N.getD (idxT N.length nn) (0, [])).1 (N.getD (idxT N.length nn) (0, [])).2).2.1 (takeT W t K (N.getD (idxT N.length nn) (0, [])).1 (N.getD (idxT N.length nn) (0, [])).2).2.2 P N A (T ++ (takeT W t K (N.getD (idxT N.length nn) (0, [])).1 (N.getD (idxT N.length nn) (0, [])).2).1) ∧ Ev S7 col w col' w' := by
 obtain ⟨n, hn⟩ : ∃ n, N.length = n := ⟨_, rfl⟩
 have HA : Hid (N.length = n) := hn
 rw [hn] at hN hN0 hT
 have hn0 : 0 < n := hN0
 rw [hn]
 clear hn
 have hmod := idx_mod nn (n := n) hn0
 have HJ : Hid ((nn.tmod (n : Int) + (n : Int)).tmod (n : Int) = ((idxT n nn : Nat) : Int)) := hmod.1
 have HW : Hid (IntKind.i64.wrap (nn.tmod (n : Int) + (n : Int)) = nn.tmod (n : Int) + (n : Int)) := IntWalk.i64_in _ (by have := hmod.2; omega)
 have HZ : Hid (¬ ((n : Int) = 0) ∧ ¬ (n = 0)) := by show _ ∧ _; omega
 have hjn : idxT n nn < n := hmod.2.1
 obtain ⟨j, hj⟩ : ∃ j, idxT n nn = j := ⟨_, rfl⟩
 rw [hj] at HJ hjn hT
 rw [hj]
 obtain ⟨p, hy⟩ : ∃ p, N.getD j (0, []) = p := ⟨_, rfl⟩
 have HY : Hid (N.getD j (0, []) = p) := hy
 have hpw := hwf p (by rw [← hy, List.getD_eq_getElem?_getD, List.getElem?_eq_getElem (by rw [HA.out]; exact hjn)]; exact List.getElem_mem _)
 rw [hy] at hT
 rw [hy]
 obtain ⟨p1, p2⟩ := p
 obtain ⟨hp1, hp2⟩ := hpw
 simp only at hp1 hp2 hT ⊢
 have HTL : Hid (T.length + (takeT W t K p1 p2).1.length ≤ 1000000) := hT
 clear hmod hj hy hT hwf
 have hb0 : Below w.heap.size w (w.alloc (.cells #[.int .i64 2, .int .i64 nn, .string s] 35)) := (Below.refl _ _).alloc (Nat.le_refl _) _
 have hB0 : (w.alloc (.cells #[.int .i64 2, .int .i64 nn, .string s] 35)).heap[w.heap.size]? = some (.cells #[.int .i64 2, .int .i64 nn, .string s] 35 (0, 0)) := heap_alloc_new _ _
 have he0 : Ev (fun _ => False) col w (paint col w none 0) (w.alloc (.cells #[.int .i64 2, .int .i64 nn, .string s] 35)) := Ev.paint (Keep.of_below hb0) _ _
 have h0 := h.ev he0 (fun _ h => h)
 obtain ⟨c1, hc1⟩ : ∃ c1, paint col w none 0 = c1 := ⟨_, rfl⟩
 obtain ⟨W0, hW0⟩ : ∃ W0, W0 = w.alloc (.cells #[.int .i64 2, .int .i64 nn, .string s] 35) := ⟨_, rfl⟩
 have HBC : Hid (c1 w.heap.size = 0) := by rw [← hc1]; exact paint_new (Nat.le_refl _) (by intro e; cases e)
 rw [← hW0] at hb0 hB0 he0 h0
 rw [hc1] at he0 h0
 have HE0 : Hid (Ev (fun _ => False) col w c1 W0) := he0
 have HB0 : Hid (W0.heap[w.heap.size]? = some (.cells #[.int .i64 2, .int .i64 nn, .string s] 35 (0, 0))) := hB0
 have hk0 := cell_row (cur := [_, _, _]) hB0 0 _ rfl
 have hk1 := cell_row (cur := [_, _, _]) hB0 1 _ rfl
 have hk2 := cell_row (cur := [_, _, _]) hB0 2 _ rfl
 have H0 : Hid (LK W Q c1 W0 kb sb rb vp vn va vt L d t K P N A T) := h0
 clear h hb0 hB0 he0 h0 hc1
 go_enter Try.func29, Try.ntmps29
 go_upto_region 1 with fail
 rw [← hW0]
 clear hW0
 obtain ⟨qa, ka, hva⟩ := H0.out.n.slice
 rw [HA.out] at hva
 subst hva
 obtain ⟨pa, ca, ea, hlc, _, hcell⟩ := H0.out.n.sl.cell
 rw [HA.out] at ea hlc
 cases ea
 obtain ⟨aj, cs, haj, hsp, _, he, hcj⟩ := hcell j (p1, p2) (by rw [← HY.out, List.getD_eq_getElem?_getD, List.getElem?_eq_getElem (by rw [HA.out]; exact hjn)]; rfl)
 obtain ⟨ab, ao, sp⟩ := aj
 simp only at hsp
 subst hsp haj
 obtain ⟨u, he', hu⟩ := he
 have e1 : EP.sz = 2 := rfl
 have hc0 := hcj 0 _ (by rw [he']; rfl)
 have hc1 := hcj 1 _ (by rw [he']; rfl)
 rw [e1] at hc0 hc1
 rw [Nat.add_zero] at hc0
 simp only at hc0 hc1
 obtain ⟨pu, cu, rfl⟩ := hu.lenv
 have HU : Hid (Vw EU c1 W0 (.slice pu p2.length cu) p2) := hu
 obtain ⟨ml, hml⟩ : ∃ ml, p2.length = ml := ⟨_, rfl⟩
 have HML : Hid (p2.length = ml) := hml
 rw [hml] at HU hc1
 have hx4 := cell_row (cur := [_, _, _, _, _, _]) H0.out.obj 3 _ rfl
 clear hcell hcj he' hml hu
 go_upto_region 10 with fail
 have HE1 : Hid (Ev (fun _ => False) c1 W0 c1 W0.drew) := Ev.drewN _ _ _ 1
 have H1 : Hid (LK W Q c1 W0.drew kb sb rb vp (.slice (some ⟨ab, ao, none⟩) n ka) va vt L d t K P N A T) := H0.out.ev HE1.out (fun _ h => h)
 have HU1 : Hid (Vw EU c1 W0.drew (.slice pu ml cu) p2) := Vw.ev HU.out HE1.out (fun h => h)
 have hC1 : W0.drew.heap[kb]? = some (.cells #[.pointer (some ⟨sb, 0, none⟩), .pointer (some ⟨rb, 0, none⟩), vp, .slice (some ⟨ab, ao, none⟩) n ka, va, vt] 62) ∧ W0.drew.heap[w.heap.size]? = some (.cells #[.int .i64 2, .int .i64 nn, .string s] 35) ∧ W0.drew.cell? ⟨ab, ao + j * 2, none⟩ = some (.int .i64 p1) ∧ W0.drew.cell? ⟨ab, ao + j * 2 + 1, none⟩ = some (.slice pu ml cu) := ⟨H1.out.obj, HB0.out, hc0, hc1⟩
 refine wp_region_J 27 (fun X => X.heap[kb]? = some (.cells #[.pointer (some ⟨sb, 0, none⟩), .pointer (some ⟨rb, 0, none⟩), vp, .slice (some ⟨ab, ao, none⟩) n ka, va, vt] 62) ∧ X.heap[w.heap.size]? = some (.cells #[.int .i64 2, .int .i64 nn, .string s] 35) ∧ X.cell? ⟨ab, ao + j * 2, none⟩ = some (.int .i64 p1) ∧ X.cell? ⟨ab, ao + j * 2 + 1, none⟩ = some (.slice pu ml cu)) ?_
 change wpJ _ _ _ _ _ _ _ _ _ (World.drew _)
 generalize hw1 : W0.drew = W1 at *
 clear hw1
 refine wpJ_q (i := 0) (d := some 59) (v := .pointer (some ⟨kb, 0, none⟩)) rfl ?_
 refine wpJ_q (i := 1) (d := some 60) (v := .pointer (some ⟨kb, 0, none⟩)) rfl ?_
 refine wpJ_q (i := 2) (d := some 61) (v := .pointer (some ⟨kb, 0, none⟩)) rfl ?_
 refine wpJ_q (i := 3) (d := some 62) (v := .pointer (some ⟨kb, 5, none⟩)) rfl ?_
 refine wpJ_r (i := 4) (d := some 63) (v := vt) rfl (by intro wq hq; have g := cell_row (cur := [_, _, _, _, _, _]) hq.1 5 _ rfl; go_simp; first | done | with_reducible rfl) ?_
 refine wpJ_q (i := 5) (d := some 64) (v := .pointer (some ⟨kb, 0, none⟩)) rfl ?_
 refine wpJ_q (i := 6) (d := some 65) (v := .pointer (some ⟨kb, 0, none⟩)) rfl ?_
 refine wpJ_q (i := 7) (d := some 66) (v := .pointer (some ⟨kb, 1, none⟩)) rfl ?_
 refine wpJ_r (i := 8) (d := some 67) (v := .pointer (some ⟨rb, 0, none⟩)) rfl (by intro wq hq; have g := cell_row (cur := [_, _, _, _, _, _]) hq.1 1 _ rfl; go_simp; first | done | with_reducible rfl) ?_
 refine wpJ_q (i := 9) (d := some 68) (v := .pointer (some ⟨kb, 0, none⟩)) rfl ?_
 refine wpJ_q (i := 10) (d := some 69) (v := .pointer (some ⟨kb, 0, none⟩)) rfl ?_
 refine wpJ_q (i := 11) (d := some 70) (v := .pointer (some ⟨kb, 3, none⟩)) rfl ?_
 refine wpJ_r (i := 12) (d := some 71) (v := .slice (some ⟨ab, ao, none⟩) n ka) rfl (by intro wq hq; have g := cell_row (cur := [_, _, _, _, _, _]) hq.1 3 _ rfl; go_simp; first | done | with_reducible rfl) ?_
 refine wpJ_q (i := 13) (d := some 72) (v := .pointer (some ⟨w.heap.size, 1, none⟩)) rfl ?_
 refine wpJ_r (i := 14) (d := some 73) (v := .int .i64 nn) rfl (by intro wq hq; have g := cell_row (cur := [_, _, _]) hq.2.1 1 _ rfl; go_simp; first | done | with_reducible rfl) ?_
 refine wpJ_q (i := 15) (d := some 74) (v := .int .i64 (n : Int)) rfl ?_
 refine wpJ_r (i := 16) (d := some 75) (v := .int .i64 (nn.tmod (n : Int))) rfl (by intro wq hq; have g := HZ.out.1; have g0 := HZ.out.2; go_simp; first | done | with_reducible rfl) ?_
 refine wpJ_q (i := 17) (d := some 76) (v := .int .i64 (n : Int)) rfl ?_
 refine wpJ_r (i := 18) (d := some 77) (v := .int .i64 (nn.tmod (n : Int) + (n : Int))) rfl (by intro wq hq; have g := HW.out; go_simp; first | done | with_reducible rfl) ?_
 refine wpJ_q (i := 19) (d := some 78) (v := .int .i64 (n : Int)) rfl ?_
 refine wpJ_r (i := 20) (d := some 79) (v := .int .i64 (j : Int)) rfl (by intro wq hq; have g := HZ.out.1; have g0 := HZ.out.2; have g2 := HJ.out; go_simp; first | done | with_reducible rfl) ?_
 refine wpJ_q (i := 21) (d := some 80) (v := .pointer (some ⟨ab, ao + j * 2, none⟩)) rfl ?_
 refine wpJ_r (i := 22) (d := some 81) (v := .agg #[.int .i64 p1, .slice pu ml cu]) rfl (by intro wq hq; have g := hq.2.2.1; have g2 := hq.2.2.2; go_simp; first | done | with_reducible rfl) ?_
 have hta := take_any H1.out.r (by decide) (by omega) (by omega) HU1.out hp1 (by have := HML.out; omega)
 refine wpJ_do (i := 23) (fun _ => hC1) (by kernel_rfl) rfl (by rfl) ?_
 intro K23 hK23
 go_simp
 go_wp2_with (go_at_call 24; refine hta.mono ?_; rintro e W2 ⟨v2, rfl, c2, hE2, hS2, hV2⟩)
 have H2 := (show Hid _ from H1.out.upR hE2 hS2)
 have HE2 : Hid (Ev (· = 2) c1 W1 c2 W2) := hE2
 have HV2 : Hid (Vw EB c2 W2 v2 (takeT W t K p1 p2).1) := hV2
 have HBX : Hid (c2 w.heap.size = 0) := (hE2.ext _ (obj_lt hC1.2.1)).trans HBC.out
 have hR6 : Rc EB 6 c2 W2 vt T := H2.out.o
 have hcc : ∀ o v, W1.cell? ⟨ab, o, none⟩ = some v → W2.cell? ⟨ab, o, none⟩ = some v := fun o v h => (World.cell?_of_block (hE2.same (i := 4) (by decide) ab (H1.out.n.own ab rfl))).trans h
 have hC6 : W2.heap[kb]? = some (.cells #[.pointer (some ⟨sb, 0, none⟩), .pointer (some ⟨rb, 0, none⟩), vp, .slice (some ⟨ab, ao, none⟩) n ka, va, vt] 62) ∧ W2.heap[w.heap.size]? = some (.cells #[.int .i64 2, .int .i64 nn, .string s] 35) ∧ W2.cell? ⟨ab, ao + j * 2, none⟩ = some (.int .i64 p1) ∧ W2.cell? ⟨ab, ao + j * 2 + 1, none⟩ = some (.slice pu ml cu) := ⟨H2.out.obj, (hE2.same (i := 0) (by decide) _ ⟨HBC.out, obj_lt hC1.2.1⟩).trans hC1.2.1, hcc _ _ hC1.2.2.1, hcc _ _ hC1.2.2.2⟩
 obtain ⟨po, co, hpo⟩ := hV2.lenv
 obtain ⟨tl, htl⟩ : ∃ tl, (takeT W t K p1 p2).1.length = tl := ⟨_, rfl⟩
 rw [htl] at hpo
 subst hpo
 have HV3 : Hid (Vw EB c2 W2 (.slice po tl co) (takeT W t K p1 p2).1) := hV2
 clear hta hE2 hS2 hV2 HV2 hcc htl
 refine wpJ_do (i := 24) (fun _ => hC6) (by kernel_rfl) rfl (by rfl) ?_
 intro K24 hK24
 refine wp_app (.tmp 63) (.tmp 82) 31 (some 83) rfl rfl Try.underlying31 rfl hR6 rfl HV3.out HTL.out ?_
 rintro v' W7 hg hat ⟨q', k', hv'⟩ HD
 obtain ⟨nl, hnl⟩ : ∃ nl, (T ++ (takeT W t K p1 p2).1).length = nl := ⟨_, rfl⟩
 rw [hnl] at hv'
 subst hv'
 clear hnl
 obtain ⟨e1, e2, e3⟩ := row_end H2.out.o (by decide) (Below.refl _ _) hg hat HD.out (fun k hk => .inl hk)
 obtain ⟨g1, g2, g3⟩ := H2.out.upT e1 e2
 have H8 := (show Hid _ from g1)
 have HE8 := (show Hid _ from g2)
 have HD7 : Hid (W7.heap[w.heap.size]? = some (.cells #[.int .i64 2, .int .i64 nn, .string s] 35)) := (hg.block _ (obj_lt hC6.2.1) (fun e => by have hq := (H2.out.o.own _ e.symm).1; have hq2 := HBX.out; rw [hq] at hq2; cases hq2)).trans hC6.2.1
 have hcc : ∀ o v, W2.cell? ⟨ab, o, none⟩ = some v → W7.cell? ⟨ab, o, none⟩ = some v := fun o v h => (World.cell?_of_block (e1.same (i := 4) (by decide) ab (H2.out.n.own ab rfl))).trans h
 have HC7 : Hid (W7.cell? ⟨ab, ao + j * 2, none⟩ = some (.int .i64 p1) ∧ W7.cell? ⟨ab, ao + j * 2 + 1, none⟩ = some (.slice pu ml cu)) := ⟨hcc _ _ hC6.2.2.1, hcc _ _ hC6.2.2.2⟩
 clear g1 g2 e1 e2 e3 hg hat HD hR6 hcc
 refine hK24 _ _ ?_
 refine wpJ_fr ?_
 have hx7 := cell_row (cur := [_, _, _, _, _, _]) g3 5 _ rfl
 have hz7 := frozen_of_row W7 kb 5 _ _ g3
 have hC7 : W7.heap[kb]? = _ ∧ W7.heap[w.heap.size]? = _ ∧ W7.cell? ⟨ab, ao + j * 2, none⟩ = _ ∧ W7.cell? ⟨ab, ao + j * 2 + 1, none⟩ = _ := ⟨g3, HD7.out, HC7.out.1, HC7.out.2⟩
 refine wpJ_do (i := 25) (fun _ => hC7) (by kernel_rfl) rfl (by rfl) ?_
 intro K25 hK25
 go_simp
 refine hK25 _ _ ?_
 refine wpJ_q (i := 26) (d := some 85) (v := .pointer (some ⟨kb, 5, none⟩)) rfl ?_
 refine wpJ_do (i := 27) (fun _ => hC7) (by kernel_rfl) rfl (by rfl) ?_
 intro K27 hK27
 go_simp
 refine hK27 _ _ ?_
 refine wpJ_end ?_
 go_wp2
 refine bodyPost_end (v := .tuple #[]) (by simp [results, Try.results29, go_sem]) rfl ⟨rfl, _, _, _, _, _, (by have := HA.out; exact H8.out), ((((HE0.out.trans HE1.out fun _ h => h).mono fun _ h => h.elim).trans HE2.out fun i hi => by rw [hi]; exact ⟨by decide, by decide⟩)).trans HE8.out fun _ h => h⟩
end
section
variable {S : Nat → Prop} {W Q : Int} {col col' : Nat → Nat} {w w' : World} {kb sb rb : Nat} {vp vn va vt : Value} {L : List (List Int)} {d : Nat} {t : Int} {K : Kp} {P : List (List Int)} {N : List (Int × List Int)} {A : List Int} {T : List (List Int)}
theorem step0_no (h : LK W Q col w kb sb rb vp vn va vt L d t K P N A T) (nn : Int) {s : ByteArray} (hs : s.size ≤ 1000000) (hL : L.length < 100000) {ec : Int} (hec : ec ≠ 0) (hpe : pushE W Q L d (ints s) = ec) :
    Calls Try.prog 29 #[.pointer (some ⟨kb, 0, none⟩), .agg #[.int .i64 0, .int .i64 nn, .string s]] w fun e w' => e = .returned (.tuple #[]) ∧ ∃ col' vp' vn' va' vt', LK W Q col' w' kb sb rb vp' vn' va' vt' (pushL W Q L d (ints s)) d t K P N A T ∧ Ev S7 col w col' w' := by
 have HPE : Hid (pushE W Q L d (ints s) = ec) := hpe
 have hecd : decide (ec = 0) = false := decide_eq_false hec
 clear hpe
 have hb0 : Below w.heap.size w (w.alloc (.cells #[.int .i64 0, .int .i64 nn, .string s] 35)) := (Below.refl _ _).alloc (Nat.le_refl _) _
 have hB0 : (w.alloc (.cells #[.int .i64 0, .int .i64 nn, .string s] 35)).heap[w.heap.size]? = some (.cells #[.int .i64 0, .int .i64 nn, .string s] 35 (0, 0)) := heap_alloc_new _ _
 have he0 : Ev (fun _ => False) col w (paint col w none 0) (w.alloc (.cells #[.int .i64 0, .int .i64 nn, .string s] 35)) := Ev.paint (Keep.of_below hb0) _ _
 have h0 := h.ev he0 (fun _ h => h)
 obtain ⟨c1, hc1⟩ : ∃ c1, paint col w none 0 = c1 := ⟨_, rfl⟩
 obtain ⟨W0, hW0⟩ : ∃ W0, W0 = w.alloc (.cells #[.int .i64 0, .int .i64 nn, .string s] 35) := ⟨_, rfl⟩
 have HBC : Hid (c1 w.heap.size = 0) := by rw [← hc1]; exact paint_new (Nat.le_refl _) (by intro e; cases e)
 rw [← hW0] at hb0 hB0 he0 h0
 rw [hc1] at he0 h0
 have HE0 : Hid (Ev (fun _ => False) col w c1 W0) := he0
 have HB0 : Hid (W0.heap[w.heap.size]? = some (.cells #[.int .i64 0, .int .i64 nn, .string s] 35 (0, 0))) := hB0
 have hk0 := cell_row (cur := [_, _, _]) hB0 0 _ rfl
 have hk1 := cell_row (cur := [_, _, _]) hB0 1 _ rfl
 have hk2 := cell_row (cur := [_, _, _]) hB0 2 _ rfl
 have H0 : Hid (LK W Q c1 W0 kb sb rb vp vn va vt L d t K P N A T) := h0
 clear h hb0 hB0 he0 h0 hc1
 go_enter Try.func29, Try.ntmps29
 go_upto_region 1 with fail
 rw [← hW0]
 clear hW0
 go_upto_region 3 with fail
 have HE1 : Hid (Ev (fun _ => False) c1 W0 c1 W0.drew) := Ev.drewN _ _ _ 1
 have H1 : Hid (LK W Q c1 W0.drew kb sb rb vp vn va vt L d t K P N A T) := H0.out.ev HE1.out (fun _ h => h)
 have hC1 : W0.drew.heap[kb]? = some (.cells #[.pointer (some ⟨sb, 0, none⟩), .pointer (some ⟨rb, 0, none⟩), vp, vn, va, vt] 62) ∧ W0.drew.heap[w.heap.size]? = some (.cells #[.int .i64 0, .int .i64 nn, .string s] 35) := ⟨H1.out.obj, HB0.out⟩
 refine wp_region_J 99 (fun X => X.heap[kb]? = some (.cells #[.pointer (some ⟨sb, 0, none⟩), .pointer (some ⟨rb, 0, none⟩), vp, vn, va, vt] 62) ∧ X.heap[w.heap.size]? = some (.cells #[.int .i64 0, .int .i64 nn, .string s] 35)) ?_
 change wpJ _ _ _ _ _ _ _ _ _ (World.drew _)
 generalize hw1 : W0.drew = W1 at *
 clear hw1
 refine wpJ_q (i := 0) (d := some 10) (v := .pointer (some ⟨kb, 0, none⟩)) rfl ?_
 refine wpJ_q (i := 1) (d := some 11) (v := .pointer (some ⟨kb, 0, none⟩)) rfl ?_
 refine wpJ_q (i := 2) (d := some 12) (v := .pointer (some ⟨kb, 0, none⟩)) rfl ?_
 refine wpJ_r (i := 3) (d := some 13) (v := .pointer (some ⟨sb, 0, none⟩)) rfl (by intro wq hq; have g := cell_row (cur := [_, _, _, _, _, _]) hq.1 0 _ rfl; go_simp; first | done | with_reducible rfl) ?_
 refine wpJ_q (i := 4) (d := some 14) (v := .pointer (some ⟨w.heap.size, 2, none⟩)) rfl ?_
 refine wpJ_r (i := 5) (d := some 15) (v := .string s) rfl (by intro wq hq; have g := cell_row (cur := [_, _, _]) hq.2 2 _ rfl; go_simp; first | done | with_reducible rfl) ?_
 refine wpJ_do (i := 6) (fun _ => hC1) (by kernel_rfl) rfl (by rfl) ?_
 intro K6 hK6
 obtain ⟨qx, cx, W2, hrun, hb2, hvx⟩ := conv_text W1 s hs
 have HE2 : Hid (Ev (fun _ => False) c1 W1 (paint c1 W1 none 0) W2) := Ev.paint (Keep.of_below hb2) _ _
 have H2 : Hid (LK W Q (paint c1 W1 none 0) W2 kb sb rb vp vn va vt L d t K P N A T) := H1.out.ev HE2.out (fun _ h => h)
 have hV2 : Vw EU (paint c1 W1 none 0) W2 (.slice qx s.size cx) (ints s) := (hvx (New W1 W2)).carry (Same.refl _ _) (Same.refl _ _) (fun k hk => ⟨paint_none k hk, hk.2⟩) fun k hk => ⟨paint_none k hk, hk.2⟩
 have hC2 : W2.heap[kb]? = some (.cells #[.pointer (some ⟨sb, 0, none⟩), .pointer (some ⟨rb, 0, none⟩), vp, vn, va, vt] 62) ∧ W2.heap[w.heap.size]? = some (.cells #[.int .i64 0, .int .i64 nn, .string s] 35) := ⟨H2.out.obj, (hb2.block _ (obj_lt hC1.2)).trans hC1.2⟩
 have HBC2 : Hid (paint c1 W1 none 0 w.heap.size = 0) := (paint_old (obj_lt hC1.2)).trans HBC.out
 go_simp
 refine hK6 _ _ ?_
 clear hrun hvx
 generalize paint c1 W1 none 0 = c2 at *
 refine wpJ_do (i := 7) (fun _ => hC2) (by kernel_rfl) rfl (by rfl) ?_
 intro K7 hK7
 have hpu := push_any H2.out.s (by decide) (by omega) hV2 (by rw [ints_length]; omega)
 rw [HPE.out] at hpu
 go_simp
 go_wp2_with (go_at_call 13; refine hpu.mono ?_; rintro e W3 ⟨rfl, c3, hE3, hS3⟩)
 have HE3 : Hid (Ev (· = 1) c2 W2 c3 W3) := hE3
 have H3 : Hid (LK W Q c3 W3 kb sb rb vp vn va vt (pushL W Q L d (ints s)) d t K P N A T) := H2.out.upS hE3 hS3
 have hC3 : W3.heap[kb]? = some (.cells #[.pointer (some ⟨sb, 0, none⟩), .pointer (some ⟨rb, 0, none⟩), vp, vn, va, vt] 62) ∧ W3.heap[w.heap.size]? = some (.cells #[.int .i64 0, .int .i64 nn, .string s] 35) := ⟨H3.out.obj, (hE3.same (i := 0) (by decide) _ ⟨HBC2.out, obj_lt hC2.2⟩).trans hC2.2⟩
 have HE03 : Hid (Ev S7 col w c3 W3) := ((((HE0.out.trans HE1.out fun _ h => h).trans HE2.out fun _ h => h).mono fun _ h => h.elim).trans HE3.out fun i hi => by rw [hi]; exact ⟨by decide, by decide⟩)
 have HBC3 : Hid (c3 w.heap.size = 0) := (hE3.ext _ (obj_lt hC2.2)).trans HBC2.out
 clear hE3 hS3 hV2 hpu
 refine wpJ_q (i := 8) (d := some 18) (v := .bool false) rfl ?_
 refine wpJ_done (fun _ => hC3) (by kernel_rfl) ?_ _
 go_wp2
 refine bodyPost_end (v := .tuple #[]) (by simp [results, Try.results29, go_sem]) rfl ⟨rfl, _, _, _, _, _, H3.out, HE03.out⟩
theorem step0_yes (h : LK W Q col w kb sb rb vp vn va vt L d t K P N A T) (nn : Int) {s : ByteArray} (hs : s.size ≤ 1000000) (hL : L.length < 100000) (hP : P.length ≤ 100000) (hpe : pushE W Q L d (ints s) = 0) :
    Calls Try.prog 29 #[.pointer (some ⟨kb, 0, none⟩), .agg #[.int .i64 0, .int .i64 nn, .string s]] w fun e w' => e = .returned (.tuple #[]) ∧ ∃ col' vp' vn' va' vt', LK W Q col' w' kb sb rb vp' vn' va' vt' (pushL W Q L d (ints s)) d t K (P ++ [ints s]) N A T ∧ Ev S7 col w col' w' := by
 have HPE : Hid (pushE W Q L d (ints s) = 0) := hpe
 clear hpe
 have hb0 : Below w.heap.size w (w.alloc (.cells #[.int .i64 0, .int .i64 nn, .string s] 35)) := (Below.refl _ _).alloc (Nat.le_refl _) _
 have hB0 : (w.alloc (.cells #[.int .i64 0, .int .i64 nn, .string s] 35)).heap[w.heap.size]? = some (.cells #[.int .i64 0, .int .i64 nn, .string s] 35 (0, 0)) := heap_alloc_new _ _
 have he0 : Ev (fun _ => False) col w (paint col w none 0) (w.alloc (.cells #[.int .i64 0, .int .i64 nn, .string s] 35)) := Ev.paint (Keep.of_below hb0) _ _
 have h0 := h.ev he0 (fun _ h => h)
 obtain ⟨c1, hc1⟩ : ∃ c1, paint col w none 0 = c1 := ⟨_, rfl⟩
 obtain ⟨W0, hW0⟩ : ∃ W0, W0 = w.alloc (.cells #[.int .i64 0, .int .i64 nn, .string s] 35) := ⟨_, rfl⟩
 have HBC : Hid (c1 w.heap.size = 0) := by rw [← hc1]; exact paint_new (Nat.le_refl _) (by intro e; cases e)
 rw [← hW0] at hb0 hB0 he0 h0
 rw [hc1] at he0 h0
 have HE0 : Hid (Ev (fun _ => False) col w c1 W0) := he0
 have HB0 : Hid (W0.heap[w.heap.size]? = some (.cells #[.int .i64 0, .int .i64 nn, .string s] 35 (0, 0))) := hB0
 have hk0 := cell_row (cur := [_, _, _]) hB0 0 _ rfl
 have hk1 := cell_row (cur := [_, _, _]) hB0 1 _ rfl
 have hk2 := cell_row (cur := [_, _, _]) hB0 2 _ rfl
 have H0 : Hid (LK W Q c1 W0 kb sb rb vp vn va vt L d t K P N A T) := h0
 clear h hb0 hB0 he0 h0 hc1
 go_enter Try.func29, Try.ntmps29
 go_upto_region 1 with fail
 rw [← hW0]
 clear hW0
 go_upto_region 3 with fail
 have HE1 : Hid (Ev (fun _ => False) c1 W0 c1 W0.drew) := Ev.drewN _ _ _ 1
 have H1 : Hid (LK W Q c1 W0.drew kb sb rb vp vn va vt L d t K P N A T) := H0.out.ev HE1.out (fun _ h => h)
 have hC1 : W0.drew.heap[kb]? = some (.cells #[.pointer (some ⟨sb, 0, none⟩), .pointer (some ⟨rb, 0, none⟩), vp, vn, va, vt] 62) ∧ W0.drew.heap[w.heap.size]? = some (.cells #[.int .i64 0, .int .i64 nn, .string s] 35) := ⟨H1.out.obj, HB0.out⟩
 refine wp_region_J 99 (fun X => X.heap[kb]? = some (.cells #[.pointer (some ⟨sb, 0, none⟩), .pointer (some ⟨rb, 0, none⟩), vp, vn, va, vt] 62) ∧ X.heap[w.heap.size]? = some (.cells #[.int .i64 0, .int .i64 nn, .string s] 35)) ?_
 change wpJ _ _ _ _ _ _ _ _ _ (World.drew _)
 generalize hw1 : W0.drew = W1 at *
 clear hw1
 refine wpJ_q (i := 0) (d := some 10) (v := .pointer (some ⟨kb, 0, none⟩)) rfl ?_
 refine wpJ_q (i := 1) (d := some 11) (v := .pointer (some ⟨kb, 0, none⟩)) rfl ?_
 refine wpJ_q (i := 2) (d := some 12) (v := .pointer (some ⟨kb, 0, none⟩)) rfl ?_
 refine wpJ_r (i := 3) (d := some 13) (v := .pointer (some ⟨sb, 0, none⟩)) rfl (by intro wq hq; have g := cell_row (cur := [_, _, _, _, _, _]) hq.1 0 _ rfl; go_simp; first | done | with_reducible rfl) ?_
 refine wpJ_q (i := 4) (d := some 14) (v := .pointer (some ⟨w.heap.size, 2, none⟩)) rfl ?_
 refine wpJ_r (i := 5) (d := some 15) (v := .string s) rfl (by intro wq hq; have g := cell_row (cur := [_, _, _]) hq.2 2 _ rfl; go_simp; first | done | with_reducible rfl) ?_
 refine wpJ_do (i := 6) (fun _ => hC1) (by kernel_rfl) rfl (by rfl) ?_
 intro K6 hK6
 obtain ⟨qx, cx, W2, hrun, hb2, hvx⟩ := conv_text W1 s hs
 have HE2 : Hid (Ev (fun _ => False) c1 W1 (paint c1 W1 none 0) W2) := Ev.paint (Keep.of_below hb2) _ _
 have H2 : Hid (LK W Q (paint c1 W1 none 0) W2 kb sb rb vp vn va vt L d t K P N A T) := H1.out.ev HE2.out (fun _ h => h)
 have hV2 : Vw EU (paint c1 W1 none 0) W2 (.slice qx s.size cx) (ints s) := (hvx (New W1 W2)).carry (Same.refl _ _) (Same.refl _ _) (fun k hk => ⟨paint_none k hk, hk.2⟩) fun k hk => ⟨paint_none k hk, hk.2⟩
 have hC2 : W2.heap[kb]? = some (.cells #[.pointer (some ⟨sb, 0, none⟩), .pointer (some ⟨rb, 0, none⟩), vp, vn, va, vt] 62) ∧ W2.heap[w.heap.size]? = some (.cells #[.int .i64 0, .int .i64 nn, .string s] 35) := ⟨H2.out.obj, (hb2.block _ (obj_lt hC1.2)).trans hC1.2⟩
 have HBC2 : Hid (paint c1 W1 none 0 w.heap.size = 0) := (paint_old (obj_lt hC1.2)).trans HBC.out
 go_simp
 refine hK6 _ _ ?_
 clear hrun hvx
 generalize paint c1 W1 none 0 = c2 at *
 refine wpJ_do (i := 7) (fun _ => hC2) (by kernel_rfl) rfl (by rfl) ?_
 intro K7 hK7
 have hpu := push_any H2.out.s (by decide) (by omega) hV2 (by rw [ints_length]; omega)
 rw [HPE.out] at hpu
 go_simp
 go_wp2_with (go_at_call 13; refine hpu.mono ?_; rintro e W3 ⟨rfl, c3, hE3, hS3⟩)
 have HE3 : Hid (Ev (· = 1) c2 W2 c3 W3) := hE3
 have H3 : Hid (LK W Q c3 W3 kb sb rb vp vn va vt (pushL W Q L d (ints s)) d t K P N A T) := H2.out.upS hE3 hS3
 have hC3 : W3.heap[kb]? = some (.cells #[.pointer (some ⟨sb, 0, none⟩), .pointer (some ⟨rb, 0, none⟩), vp, vn, va, vt] 62) ∧ W3.heap[w.heap.size]? = some (.cells #[.int .i64 0, .int .i64 nn, .string s] 35) := ⟨H3.out.obj, (hE3.same (i := 0) (by decide) _ ⟨HBC2.out, obj_lt hC2.2⟩).trans hC2.2⟩
 have HE03 : Hid (Ev S7 col w c3 W3) := ((((HE0.out.trans HE1.out fun _ h => h).trans HE2.out fun _ h => h).mono fun _ h => h.elim).trans HE3.out fun i hi => by rw [hi]; exact ⟨by decide, by decide⟩)
 have HBC3 : Hid (c3 w.heap.size = 0) := (hE3.ext _ (obj_lt hC2.2)).trans HBC2.out
 clear hE3 hS3 hV2 hpu
 refine wpJ_q (i := 8) (d := some 18) (v := .bool true) rfl ?_
 refine wpJ_done (fun _ => hC3) (by kernel_rfl) ?_ _
 go_upto_region 4 with fail
 have HE4 : Hid (Ev (fun _ => False) c3 W3 c3 W3.drew) := Ev.drewN _ _ _ 1
 have H4 : Hid (LK W Q c3 W3.drew kb sb rb vp vn va vt (pushL W Q L d (ints s)) d t K P N A T) := H3.out.ev HE4.out (fun _ h => h)
 have hC4 : W3.drew.heap[kb]? = some (.cells #[.pointer (some ⟨sb, 0, none⟩), .pointer (some ⟨rb, 0, none⟩), vp, vn, va, vt] 62) ∧ W3.drew.heap[w.heap.size]? = some (.cells #[.int .i64 0, .int .i64 nn, .string s] 35) := ⟨H4.out.obj, hC3.2⟩
 refine wp_region_J 12 (fun X => X.heap[kb]? = some (.cells #[.pointer (some ⟨sb, 0, none⟩), .pointer (some ⟨rb, 0, none⟩), vp, vn, va, vt] 62) ∧ X.heap[w.heap.size]? = some (.cells #[.int .i64 0, .int .i64 nn, .string s] 35)) ?_
 change wpJ _ _ _ _ _ _ _ _ _ (World.drew _)
 generalize hw4 : W3.drew = W4 at *
 clear hw4
 refine wpJ_q (i := 0) (d := some 19) (v := .pointer (some ⟨kb, 0, none⟩)) rfl ?_
 refine wpJ_q (i := 1) (d := some 20) (v := .pointer (some ⟨kb, 0, none⟩)) rfl ?_
 refine wpJ_q (i := 2) (d := some 21) (v := .pointer (some ⟨kb, 0, none⟩)) rfl ?_
 refine wpJ_q (i := 3) (d := some 22) (v := .pointer (some ⟨kb, 2, none⟩)) rfl ?_
 refine wpJ_r (i := 4) (d := some 23) (v := vp) rfl (by intro wq hq; have g := cell_row (cur := [_, _, _, _, _, _]) hq.1 2 _ rfl; go_simp; first | done | with_reducible rfl) ?_
 refine wpJ_q (i := 5) (d := some 24) (v := .pointer (some ⟨w.heap.size, 2, none⟩)) rfl ?_
 refine wpJ_r (i := 6) (d := some 25) (v := .string s) rfl (by intro wq hq; have g := cell_row (cur := [_, _, _]) hq.2 2 _ rfl; go_simp; first | done | with_reducible rfl) ?_
 refine wpJ_do (i := 7) (fun _ => hC4) (by kernel_rfl) rfl (by rfl) ?_
 intro K7 hK7
 obtain ⟨qy, cy, W5, hrun, hb5, hvy⟩ := conv_text W4 s hs
 have HB5 : Hid (Below W4.heap.size W4 W5) := hb5
 have HV5 : Hid (∀ D', Sl EU (New W4 W5) D' W5 (.slice qy s.size cy) (ints s)) := hvy
 have hC5 : W5.heap[kb]? = some (.cells #[.pointer (some ⟨sb, 0, none⟩), .pointer (some ⟨rb, 0, none⟩), vp, vn, va, vt] 62) ∧ W5.heap[w.heap.size]? = some (.cells #[.int .i64 0, .int .i64 nn, .string s] 35) := ⟨(hb5.block _ H4.out.ob.2).trans hC4.1, (hb5.block _ (obj_lt hC4.2)).trans hC4.2⟩
 go_simp
 refine hK7 _ _ ?_
 clear hrun hvy
 refine wpJ_do (i := 8) (fun _ => hC5) (by kernel_rfl) rfl (by rfl) ?_
 intro K8 hK8
 go_simp
 refine hK8 _ _ ?_
 have hb6 : Below W5.heap.size W5 (W5.alloc (.cells #[.slice qy s.size cy] 37)) := (Below.refl _ _).alloc (Nat.le_refl _) _
 have HONE : Hid (Sl EB (fun k => k = W5.heap.size) (New W4 W5) (W5.alloc (.cells #[.slice qy s.size cy] 37)) (.slice (some ⟨W5.heap.size, 0, none⟩) 1 1) [ints s]) := Sl.one (E := EB) (cs := [.slice qy s.size cy]) ⟨_, rfl, HV5.out _⟩ fun k hk => hk.2
 have HB6 : Hid (Below W4.heap.size W4 (W5.alloc (.cells #[.slice qy s.size cy] 37))) := belowP HB5.out hb6
 have hz6 : W5.heap.size < (W5.alloc (.cells #[.slice qy s.size cy] 37)).heap.size := by simp
 have HR6 : Hid (Rc EB 3 c3 (W5.alloc (.cells #[.slice qy s.size cy] 37)) vp P) := H4.out.p.carry (fun k hk => HB6.out.block k (H4.out.p.lt k hk)) (Same.of_below HB6.out fun k hk => hk.2) (fun k _ hk => ⟨hk.1, by have := hk.2; have := HB6.out.size; omega⟩) fun k hk => ⟨hk.1, by have := hk.2; have := HB6.out.size; omega⟩
 have hR6 : Rw EB (Cl c3 3 W4) (Cl c3 0 W4) (W5.alloc (.cells #[.slice qy s.size cy] 37)) vp P := H4.out.p.carry (fun k hk => HB6.out.block k (H4.out.p.lt k hk)) (Same.of_below HB6.out fun k hk => hk.2) (fun k _ hk => hk) fun k hk => hk
 have hC6 : (W5.alloc (.cells #[.slice qy s.size cy] 37)).heap[kb]? = some (.cells #[.pointer (some ⟨sb, 0, none⟩), .pointer (some ⟨rb, 0, none⟩), vp, vn, va, vt] 62) ∧ (W5.alloc (.cells #[.slice qy s.size cy] 37)).heap[w.heap.size]? = some (.cells #[.int .i64 0, .int .i64 nn, .string s] 35) := ⟨(hb6.block _ (obj_lt hC5.1)).trans hC5.1, (hb6.block _ (obj_lt hC5.2)).trans hC5.2⟩
 clear hb6
 refine wpJ_do (i := 9) (fun _ => hC6) (by kernel_rfl) rfl (by rfl) ?_
 intro K9 hK9
 refine wp_app (.tmp 23) (.tmp 27) 31 (some 28) rfl rfl Try.underlying31 rfl hR6 rfl HONE.out (by simp only [List.length_singleton]; omega) ?_
 rintro v' W7 hg hat ⟨q', k', hv'⟩ HD
 obtain ⟨nl, hnl⟩ : ∃ nl, (P ++ [ints s]).length = nl := ⟨_, rfl⟩
 rw [hnl] at hv'
 subst hv'
 clear hnl
 obtain ⟨e1, e2, e3⟩ := row_end H4.out.p (by decide) HB6.out hg hat HD.out (fun k hk => .inr ⟨hk.1, by have := hk.2; omega⟩)
 obtain ⟨g1, g2, g3⟩ := H4.out.upP e1 e2
 have H8 := (show Hid _ from g1)
 have HE8 := (show Hid _ from g2)
 have HD7 : Hid (W7.heap[w.heap.size]? = some (.cells #[.int .i64 0, .int .i64 nn, .string s] 35)) := (hg.block _ (obj_lt hC6.2) (fun e => by have hq := (H4.out.p.own _ e.symm).1; have hq2 := HBC3.out; rw [hq] at hq2; cases hq2)).trans hC6.2
 clear g1 g2 e1 e2 e3 hg hat HD hR6 HR6 HONE
 refine hK9 _ _ ?_
 refine wpJ_fr ?_
 have hx7 := cell_row (cur := [_, _, _, _, _, _]) g3 2 _ rfl
 have hz7 := frozen_of_row W7 kb 2 _ _ g3
 have hC7 : W7.heap[kb]? = _ ∧ W7.heap[w.heap.size]? = _ := ⟨g3, HD7.out⟩
 refine wpJ_do (i := 10) (fun _ => hC7) (by kernel_rfl) rfl (by rfl) ?_
 intro K10 hK10
 go_simp
 refine hK10 _ _ ?_
 refine wpJ_q (i := 11) (d := some 30) (v := .pointer (some ⟨kb, 2, none⟩)) rfl ?_
 refine wpJ_do (i := 12) (fun _ => hC7) (by kernel_rfl) rfl (by rfl) ?_
 intro K12 hK12
 go_simp
 refine hK12 _ _ ?_
 refine wpJ_end ?_
 go_wp2
 refine bodyPost_end (v := .tuple #[]) (by simp [results, Try.results29, go_sem]) rfl ⟨rfl, _, _, _, _, _, H8.out, (HE03.out.trans HE4.out fun _ h => h.elim).trans HE8.out fun _ h => h⟩
end
section
variable {S : Nat → Prop} {W Q : Int} {col col' : Nat → Nat} {w w' : World} {kb sb rb : Nat} {vp vn va vt : Value} {L : List (List Int)} {d : Nat} {t : Int} {K : Kp} {P : List (List Int)} {N : List (Int × List Int)} {A : List Int} {T : List (List Int)}
theorem step1_any (h : LK W Q col w kb sb rb vp vn va vt L d t K P N A T) (nn : Int) {s : ByteArray} (hN : N.length + (undT W L d) ≤ 1000000) (hs : ∀ x ∈ L, x.length ≤ 2000000) :
    Calls Try.prog 29 #[.pointer (some ⟨kb, 0, none⟩), .agg #[.int .i64 1, .int .i64 nn, .string s]] w fun e w' => e = .returned (.tuple #[]) ∧ ∃ col' vp' vn' va' vt', LK W Q col' w' kb sb rb vp' vn' va' vt' L d t K P (N ++ outK L d (undT W L d)) A T ∧ Ev S7 col w col' w' := by
 have hb0 : Below w.heap.size w (w.alloc (.cells #[.int .i64 1, .int .i64 nn, .string s] 35)) := (Below.refl _ _).alloc (Nat.le_refl _) _
 have hB0 : (w.alloc (.cells #[.int .i64 1, .int .i64 nn, .string s] 35)).heap[w.heap.size]? = some (.cells #[.int .i64 1, .int .i64 nn, .string s] 35 (0, 0)) := heap_alloc_new _ _
 have he0 : Ev (fun _ => False) col w (paint col w none 0) (w.alloc (.cells #[.int .i64 1, .int .i64 nn, .string s] 35)) := Ev.paint (Keep.of_below hb0) _ _
 have h0 := h.ev he0 (fun _ h => h)
 obtain ⟨c1, hc1⟩ : ∃ c1, paint col w none 0 = c1 := ⟨_, rfl⟩
 obtain ⟨W0, hW0⟩ : ∃ W0, W0 = w.alloc (.cells #[.int .i64 1, .int .i64 nn, .string s] 35) := ⟨_, rfl⟩
 have HBC : Hid (c1 w.heap.size = 0) := by rw [← hc1]; exact paint_new (Nat.le_refl _) (by intro e; cases e)
 rw [← hW0] at hb0 hB0 he0 h0
 rw [hc1] at he0 h0
 have HE0 : Hid (Ev (fun _ => False) col w c1 W0) := he0
 have HB0 : Hid (W0.heap[w.heap.size]? = some (.cells #[.int .i64 1, .int .i64 nn, .string s] 35 (0, 0))) := hB0
 have hk0 := cell_row (cur := [_, _, _]) hB0 0 _ rfl
 have hk1 := cell_row (cur := [_, _, _]) hB0 1 _ rfl
 have hk2 := cell_row (cur := [_, _, _]) hB0 2 _ rfl
 have H0 : Hid (LK W Q c1 W0 kb sb rb vp vn va vt L d t K P N A T) := h0
 clear h hb0 hB0 he0 h0 hc1
 go_enter Try.func29, Try.ntmps29
 go_upto_region 1 with fail
 rw [← hW0]
 clear hW0
 go_upto_region 6 with fail
 have HE1 : Hid (Ev (fun _ => False) c1 W0 c1 W0.drew) := Ev.drewN _ _ _ 1
 have H1 : Hid (LK W Q c1 W0.drew kb sb rb vp vn va vt L d t K P N A T) := H0.out.ev HE1.out (fun _ h => h)
 have hC1 : W0.drew.heap[kb]? = some (.cells #[.pointer (some ⟨sb, 0, none⟩), .pointer (some ⟨rb, 0, none⟩), vp, vn, va, vt] 62) ∧ W0.drew.heap[w.heap.size]? = some (.cells #[.int .i64 1, .int .i64 nn, .string s] 35) := ⟨H1.out.obj, HB0.out⟩
 refine wp_region_J 13 (fun X => X.heap[kb]? = some (.cells #[.pointer (some ⟨sb, 0, none⟩), .pointer (some ⟨rb, 0, none⟩), vp, vn, va, vt] 62) ∧ X.heap[w.heap.size]? = some (.cells #[.int .i64 1, .int .i64 nn, .string s] 35)) ?_
 change wpJ _ _ _ _ _ _ _ _ _ (World.drew _)
 generalize hw1 : W0.drew = W1 at *
 clear hw1
 refine wpJ_q (i := 0) (d := some 33) (v := .pointer (some ⟨kb, 0, none⟩)) rfl ?_
 refine wpJ_q (i := 1) (d := some 34) (v := .pointer (some ⟨kb, 0, none⟩)) rfl ?_
 refine wpJ_q (i := 2) (d := some 35) (v := .pointer (some ⟨kb, 0, none⟩)) rfl ?_
 refine wpJ_q (i := 3) (d := some 36) (v := .pointer (some ⟨kb, 3, none⟩)) rfl ?_
 refine wpJ_r (i := 4) (d := some 37) (v := vn) rfl (by intro wq hq; have g := cell_row (cur := [_, _, _, _, _, _]) hq.1 3 _ rfl; go_simp; first | done | with_reducible rfl) ?_
 refine wpJ_q (i := 5) (d := some 38) (v := .pointer (some ⟨kb, 0, none⟩)) rfl ?_
 refine wpJ_q (i := 6) (d := some 39) (v := .pointer (some ⟨kb, 0, none⟩)) rfl ?_
 refine wpJ_q (i := 7) (d := some 40) (v := .pointer (some ⟨kb, 0, none⟩)) rfl ?_
 refine wpJ_r (i := 8) (d := some 41) (v := .pointer (some ⟨sb, 0, none⟩)) rfl (by intro wq hq; have g := cell_row (cur := [_, _, _, _, _, _]) hq.1 0 _ rfl; go_simp; first | done | with_reducible rfl) ?_
 have hou := out_any H1.out.s hs
 refine wpJ_do (i := 9) (fun _ => hC1) (by kernel_rfl) rfl (by rfl) ?_
 intro K9 hK9
 go_simp
 go_wp2_with (go_at_call 18; refine hou.mono ?_; rintro e W2 ⟨hb2, vo, rfl, hvo⟩)
 have HVO : Hid (Vw EP (paint c1 W1 none 0) W2 vo (outK L d (undT W L d))) := hvo
 have HB2 : Hid (Below W1.heap.size W1 W2) := hb2
 obtain ⟨po, co, hpo⟩ := hvo.lenv
 rw [outK_len] at hpo
 subst hpo
 have hC6 : W2.heap[kb]? = some (.cells #[.pointer (some ⟨sb, 0, none⟩), .pointer (some ⟨rb, 0, none⟩), vp, vn, va, vt] 62) ∧ W2.heap[w.heap.size]? = some (.cells #[.int .i64 1, .int .i64 nn, .string s] 35) := ⟨(hb2.block _ (obj_lt hC1.1)).trans hC1.1, (hb2.block _ (obj_lt hC1.2)).trans hC1.2⟩
 have hR6 : Rw EP (Cl c1 4 W1) (Cl c1 0 W1) W2 vn N := H1.out.n.carry (fun k hk => hb2.block k (H1.out.n.lt k hk)) (Same.of_below hb2 fun k hk => hk.2) (fun k _ hk => hk) fun k hk => hk
 have HBX := HBC
 clear hvo hb2 hou
 refine wpJ_do (i := 10) (fun _ => hC6) (by kernel_rfl) rfl (by rfl) ?_
 intro K10 hK10
 refine wp_app (.tmp 37) (.tmp 42) 40 (some 43) rfl rfl Try.underlying40 rfl hR6 rfl HVO.out (by rw [outK_len]; exact hN) ?_
 rintro v' W7 hg hat ⟨q', k', hv'⟩ HD
 obtain ⟨nl, hnl⟩ : ∃ nl, (N ++ (outK L d (undT W L d))).length = nl := ⟨_, rfl⟩
 rw [hnl] at hv'
 subst hv'
 clear hnl
 obtain ⟨e1, e2, e3⟩ := row_end H1.out.n (by decide) HB2.out hg hat HD.out (fun k hk => by
  rcases Nat.lt_or_ge k W1.heap.size with hl | hl
  · exact .inl ⟨(paint_old hl).symm.trans hk.1, hl⟩
  · exact .inr ⟨hl, hk.2⟩)
 obtain ⟨g1, g2, g3⟩ := H1.out.upN e1 e2
 have H8 := (show Hid _ from g1)
 have HE8 := (show Hid _ from g2)
 have HD7 : Hid (W7.heap[w.heap.size]? = some (.cells #[.int .i64 1, .int .i64 nn, .string s] 35)) := (hg.block _ (obj_lt hC6.2) (fun e => by have hq := (H1.out.n.own _ e.symm).1; have hq2 := HBX.out; rw [hq] at hq2; cases hq2)).trans hC6.2
 clear g1 g2 e1 e2 e3 hg hat HD hR6
 refine hK10 _ _ ?_
 refine wpJ_fr ?_
 have hx7 := cell_row (cur := [_, _, _, _, _, _]) g3 3 _ rfl
 have hz7 := frozen_of_row W7 kb 3 _ _ g3
 have hC7 : W7.heap[kb]? = _ ∧ W7.heap[w.heap.size]? = _ := ⟨g3, HD7.out⟩
 refine wpJ_do (i := 11) (fun _ => hC7) (by kernel_rfl) rfl (by rfl) ?_
 intro K11 hK11
 go_simp
 refine hK11 _ _ ?_
 refine wpJ_q (i := 12) (d := some 45) (v := .pointer (some ⟨kb, 3, none⟩)) rfl ?_
 refine wpJ_do (i := 13) (fun _ => hC7) (by kernel_rfl) rfl (by rfl) ?_
 intro K13 hK13
 go_simp
 refine hK13 _ _ ?_
 refine wpJ_end ?_
 go_wp2
 refine bodyPost_end (v := .tuple #[]) (by simp [results, Try.results29, go_sem]) rfl ⟨rfl, _, _, _, _, _, H8.out, (((HE0.out.trans HE1.out fun _ h => h).mono fun _ h => h.elim).trans HE8.out fun _ h => h)⟩
end
section
variable {S : Nat → Prop} {W Q : Int} {col col' : Nat → Nat} {w w' : World} {kb sb rb : Nat} {vp vn va vt : Value} {L : List (List Int)} {d : Nat} {t : Int} {K : Kp} {P : List (List Int)} {N : List (Int × List Int)} {A : List Int} {T : List (List Int)}
theorem step4_any (h : LK W Q col w kb sb rb vp vn va vt L d t K P N A T) (nn : Int) {s : ByteArray} (hA : A.length ≤ 100000) :
    Calls Try.prog 29 #[.pointer (some ⟨kb, 0, none⟩), .agg #[.int .i64 4, .int .i64 nn, .string s]] w fun e w' => e = .returned (.tuple #[]) ∧ ∃ col' vp' vn' va' vt', LK W Q col' w' kb sb rb vp' vn' va' vt' L d t K P N (A ++ [t]) T ∧ Ev S7 col w col' w' := by
 have hb0 : Below w.heap.size w (w.alloc (.cells #[.int .i64 4, .int .i64 nn, .string s] 35)) := (Below.refl _ _).alloc (Nat.le_refl _) _
 have hB0 : (w.alloc (.cells #[.int .i64 4, .int .i64 nn, .string s] 35)).heap[w.heap.size]? = some (.cells #[.int .i64 4, .int .i64 nn, .string s] 35 (0, 0)) := heap_alloc_new _ _
 have he0 : Ev (fun _ => False) col w (paint col w none 0) (w.alloc (.cells #[.int .i64 4, .int .i64 nn, .string s] 35)) := Ev.paint (Keep.of_below hb0) _ _
 have h0 := h.ev he0 (fun _ h => h)
 obtain ⟨c1, hc1⟩ : ∃ c1, paint col w none 0 = c1 := ⟨_, rfl⟩
 obtain ⟨W0, hW0⟩ : ∃ W0, W0 = w.alloc (.cells #[.int .i64 4, .int .i64 nn, .string s] 35) := ⟨_, rfl⟩
 have HBC : Hid (c1 w.heap.size = 0) := by rw [← hc1]; exact paint_new (Nat.le_refl _) (by intro e; cases e)
 rw [← hW0] at hb0 hB0 he0 h0
 rw [hc1] at he0 h0
 have HE0 : Hid (Ev (fun _ => False) col w c1 W0) := he0
 have HB0 : Hid (W0.heap[w.heap.size]? = some (.cells #[.int .i64 4, .int .i64 nn, .string s] 35 (0, 0))) := hB0
 have hk0 := cell_row (cur := [_, _, _]) hB0 0 _ rfl
 have hk1 := cell_row (cur := [_, _, _]) hB0 1 _ rfl
 have hk2 := cell_row (cur := [_, _, _]) hB0 2 _ rfl
 have H0 : Hid (LK W Q c1 W0 kb sb rb vp vn va vt L d t K P N A T) := h0
 clear h hb0 hB0 he0 h0 hc1
 go_enter Try.func29, Try.ntmps29
 go_upto_region 1 with fail
 rw [← hW0]
 clear hW0
 go_upto_region 16 with fail
 have HE1 : Hid (Ev (fun _ => False) c1 W0 c1 W0.drew) := Ev.drewN _ _ _ 1
 have H1 : Hid (LK W Q c1 W0.drew kb sb rb vp vn va vt L d t K P N A T) := H0.out.ev HE1.out (fun _ h => h)
 have hC1 : W0.drew.heap[kb]? = some (.cells #[.pointer (some ⟨sb, 0, none⟩), .pointer (some ⟨rb, 0, none⟩), vp, vn, va, vt] 62) ∧ W0.drew.heap[w.heap.size]? = some (.cells #[.int .i64 4, .int .i64 nn, .string s] 35) := ⟨H1.out.obj, HB0.out⟩
 refine wp_region_J 14 (fun X => X.heap[kb]? = some (.cells #[.pointer (some ⟨sb, 0, none⟩), .pointer (some ⟨rb, 0, none⟩), vp, vn, va, vt] 62) ∧ X.heap[w.heap.size]? = some (.cells #[.int .i64 4, .int .i64 nn, .string s] 35)) ?_
 change wpJ _ _ _ _ _ _ _ _ _ (World.drew _)
 generalize hw1 : W0.drew = W1 at *
 clear hw1
 refine wpJ_q (i := 0) (d := some 120) (v := .pointer (some ⟨kb, 0, none⟩)) rfl ?_
 refine wpJ_q (i := 1) (d := some 121) (v := .pointer (some ⟨kb, 0, none⟩)) rfl ?_
 refine wpJ_q (i := 2) (d := some 122) (v := .pointer (some ⟨kb, 0, none⟩)) rfl ?_
 refine wpJ_q (i := 3) (d := some 123) (v := .pointer (some ⟨kb, 4, none⟩)) rfl ?_
 refine wpJ_r (i := 4) (d := some 124) (v := va) rfl (by intro wq hq; have g := cell_row (cur := [_, _, _, _, _, _]) hq.1 4 _ rfl; go_simp; first | done | with_reducible rfl) ?_
 refine wpJ_q (i := 5) (d := some 125) (v := .pointer (some ⟨kb, 0, none⟩)) rfl ?_
 refine wpJ_q (i := 6) (d := some 126) (v := .pointer (some ⟨kb, 0, none⟩)) rfl ?_
 refine wpJ_q (i := 7) (d := some 127) (v := .pointer (some ⟨kb, 1, none⟩)) rfl ?_
 refine wpJ_r (i := 8) (d := some 128) (v := .pointer (some ⟨rb, 0, none⟩)) rfl (by intro wq hq; have g := cell_row (cur := [_, _, _, _, _, _]) hq.1 1 _ rfl; go_simp; first | done | with_reducible rfl) ?_
 have hwa := want_any H1.out.r
 refine wpJ_do (i := 9) (fun _ => hC1) (by kernel_rfl) rfl (by rfl) ?_
 intro K9 hK9
 go_simp
 go_wp2_with (go_at_call 26; refine hwa.mono ?_; rintro e W2 ⟨rfl, rfl⟩)
 refine wpJ_do (i := 10) (fun _ => hC1) (by kernel_rfl) rfl (by rfl) ?_
 intro K10 hK10
 go_simp
 refine hK10 _ _ ?_
 have hb2 : Below W2.heap.size W2 (W2.alloc (.cells #[.int .i64 t] 2)) := (Below.refl _ _).alloc (Nat.le_refl _) _
 have HB2 : Hid (Below W2.heap.size W2 (W2.alloc (.cells #[.int .i64 t] 2))) := hb2
 have HONE : Hid (Sl EI (fun k => k = W2.heap.size) (fun _ => False) (W2.alloc (.cells #[.int .i64 t] 2)) (.slice (some ⟨W2.heap.size, 0, none⟩) 1 1) [t]) := Sl.one (E := EI) (cs := [.int .i64 t]) rfl fun k hk => hk.elim
 have hC6 : (W2.alloc (.cells #[.int .i64 t] 2)).heap[kb]? = some (.cells #[.pointer (some ⟨sb, 0, none⟩), .pointer (some ⟨rb, 0, none⟩), vp, vn, va, vt] 62) ∧ (W2.alloc (.cells #[.int .i64 t] 2)).heap[w.heap.size]? = some (.cells #[.int .i64 4, .int .i64 nn, .string s] 35) := ⟨(hb2.block _ (obj_lt hC1.1)).trans hC1.1, (hb2.block _ (obj_lt hC1.2)).trans hC1.2⟩
 have hR6 : Rw EI (Cl c1 5 W2) (Cl c1 0 W2) (W2.alloc (.cells #[.int .i64 t] 2)) va A := H1.out.a.carry (fun k hk => hb2.block k (H1.out.a.lt k hk)) (Same.of_below hb2 fun k hk => hk.2) (fun k _ hk => hk) fun k hk => hk
 have HBX := HBC
 clear hb2 hwa
 refine wpJ_do (i := 11) (fun _ => hC6) (by kernel_rfl) rfl (by rfl) ?_
 intro K11 hK11
 refine wp_app (.tmp 124) (.tmp 130) 60 (some 131) rfl rfl Try.underlying60 rfl hR6 rfl HONE.out (by simp only [List.length_singleton]; omega) ?_
 rintro v' W7 hg hat ⟨q', k', hv'⟩ HD
 obtain ⟨nl, hnl⟩ : ∃ nl, (A ++ [t]).length = nl := ⟨_, rfl⟩
 rw [hnl] at hv'
 subst hv'
 clear hnl
 obtain ⟨e1, e2, e3⟩ := row_end H1.out.a (by decide) HB2.out hg hat HD.out (fun k hk => hk.elim)
 obtain ⟨g1, g2, g3⟩ := H1.out.upA e1 e2
 have H8 := (show Hid _ from g1)
 have HE8 := (show Hid _ from g2)
 have HD7 : Hid (W7.heap[w.heap.size]? = some (.cells #[.int .i64 4, .int .i64 nn, .string s] 35)) := (hg.block _ (obj_lt hC6.2) (fun e => by have hq := (H1.out.a.own _ e.symm).1; have hq2 := HBX.out; rw [hq] at hq2; cases hq2)).trans hC6.2
 clear g1 g2 e1 e2 e3 hg hat HD hR6
 refine hK11 _ _ ?_
 refine wpJ_fr ?_
 have hx7 := cell_row (cur := [_, _, _, _, _, _]) g3 4 _ rfl
 have hz7 := frozen_of_row W7 kb 4 _ _ g3
 have hC7 : W7.heap[kb]? = _ ∧ W7.heap[w.heap.size]? = _ := ⟨g3, HD7.out⟩
 refine wpJ_do (i := 12) (fun _ => hC7) (by kernel_rfl) rfl (by rfl) ?_
 intro K12 hK12
 go_simp
 refine hK12 _ _ ?_
 refine wpJ_q (i := 13) (d := some 133) (v := .pointer (some ⟨kb, 4, none⟩)) rfl ?_
 refine wpJ_do (i := 14) (fun _ => hC7) (by kernel_rfl) rfl (by rfl) ?_
 intro K14 hK14
 go_simp
 refine hK14 _ _ ?_
 refine wpJ_end ?_
 go_wp2
 refine bodyPost_end (v := .tuple #[]) (by simp [results, Try.results29, go_sem]) rfl ⟨rfl, _, _, _, _, _, H8.out, (((HE0.out.trans HE1.out fun _ h => h).mono fun _ h => h.elim).trans HE8.out fun _ h => h)⟩
theorem stepX_any (h : LK W Q col w kb sb rb vp vn va vt L d t K P N A T) (kd nn : Int) {s : ByteArray} (hk : kd ≠ 0 ∧ kd ≠ 1 ∧ kd ≠ 2 ∧ kd ≠ 3 ∧ kd ≠ 4) :
    Calls Try.prog 29 #[.pointer (some ⟨kb, 0, none⟩), .agg #[.int .i64 kd, .int .i64 nn, .string s]] w fun e w' => e = .returned (.tuple #[]) ∧ ∃ col' vp' vn' va' vt', LK W Q col' w' kb sb rb vp' vn' va' vt' L d t K P N A T ∧ Ev S7 col w col' w' := by
 have d0 : (kd == 0) = false := by simpa using hk.1
 have d1 : (kd == 1) = false := by simpa using hk.2.1
 have d2 : (kd == 2) = false := by simpa using hk.2.2.1
 have d3 : (kd == 3) = false := by simpa using hk.2.2.2.1
 have d4 : (kd == 4) = false := by simpa using hk.2.2.2.2
 clear hk
 have hb0 : Below w.heap.size w (w.alloc (.cells #[.int .i64 kd, .int .i64 nn, .string s] 35)) := (Below.refl _ _).alloc (Nat.le_refl _) _
 have hB0 : (w.alloc (.cells #[.int .i64 kd, .int .i64 nn, .string s] 35)).heap[w.heap.size]? = some (.cells #[.int .i64 kd, .int .i64 nn, .string s] 35 (0, 0)) := heap_alloc_new _ _
 have he0 : Ev (fun _ => False) col w (paint col w none 0) (w.alloc (.cells #[.int .i64 kd, .int .i64 nn, .string s] 35)) := Ev.paint (Keep.of_below hb0) _ _
 have h0 := h.ev he0 (fun _ h => h)
 obtain ⟨c1, hc1⟩ : ∃ c1, paint col w none 0 = c1 := ⟨_, rfl⟩
 obtain ⟨W0, hW0⟩ : ∃ W0, W0 = w.alloc (.cells #[.int .i64 kd, .int .i64 nn, .string s] 35) := ⟨_, rfl⟩
 have HBC : Hid (c1 w.heap.size = 0) := by rw [← hc1]; exact paint_new (Nat.le_refl _) (by intro e; cases e)
 rw [← hW0] at hb0 hB0 he0 h0
 rw [hc1] at he0 h0
 have HE0 : Hid (Ev (fun _ => False) col w c1 W0) := he0
 have HB0 : Hid (W0.heap[w.heap.size]? = some (.cells #[.int .i64 kd, .int .i64 nn, .string s] 35 (0, 0))) := hB0
 have hk0 := cell_row (cur := [_, _, _]) hB0 0 _ rfl
 have hk1 := cell_row (cur := [_, _, _]) hB0 1 _ rfl
 have hk2 := cell_row (cur := [_, _, _]) hB0 2 _ rfl
 have H0 : Hid (LK W Q c1 W0 kb sb rb vp vn va vt L d t K P N A T) := h0
 clear h hb0 hB0 he0 h0 hc1
 go_enter Try.func29, Try.ntmps29
 go_upto_region 1 with fail
 rw [← hW0]
 clear hW0
 go_wp2
 refine bodyPost_end (v := .tuple #[]) (by simp [results, Try.results29, go_sem]) rfl ⟨rfl, _, _, _, _, _, H0.out, HE0.out.mono fun _ h => h.elim⟩
theorem step2_none (h : LK W Q col w kb sb rb vp vn va vt L d t K P [] A T) (nn : Int) {s : ByteArray} :
    Calls Try.prog 29 #[.pointer (some ⟨kb, 0, none⟩), .agg #[.int .i64 2, .int .i64 nn, .string s]] w fun e w' => e = .returned (.tuple #[]) ∧ ∃ col' vp' vn' va' vt', LK W Q col' w' kb sb rb vp' vn' va' vt' L d t K P [] A T ∧ Ev S7 col w col' w' := by
 obtain ⟨N, hN⟩ : ∃ N : List (Int × List Int), [] = N := ⟨_, rfl⟩
 rw [hN] at h
 rw [hN]
 have HN : Hid (N.length = 0) := by rw [← hN]; rfl
 clear hN
 have hb0 : Below w.heap.size w (w.alloc (.cells #[.int .i64 2, .int .i64 nn, .string s] 35)) := (Below.refl _ _).alloc (Nat.le_refl _) _
 have hB0 : (w.alloc (.cells #[.int .i64 2, .int .i64 nn, .string s] 35)).heap[w.heap.size]? = some (.cells #[.int .i64 2, .int .i64 nn, .string s] 35 (0, 0)) := heap_alloc_new _ _
 have he0 : Ev (fun _ => False) col w (paint col w none 0) (w.alloc (.cells #[.int .i64 2, .int .i64 nn, .string s] 35)) := Ev.paint (Keep.of_below hb0) _ _
 have h0 := h.ev he0 (fun _ h => h)
 obtain ⟨c1, hc1⟩ : ∃ c1, paint col w none 0 = c1 := ⟨_, rfl⟩
 obtain ⟨W0, hW0⟩ : ∃ W0, W0 = w.alloc (.cells #[.int .i64 2, .int .i64 nn, .string s] 35) := ⟨_, rfl⟩
 have HBC : Hid (c1 w.heap.size = 0) := by rw [← hc1]; exact paint_new (Nat.le_refl _) (by intro e; cases e)
 rw [← hW0] at hb0 hB0 he0 h0
 rw [hc1] at he0 h0
 have HE0 : Hid (Ev (fun _ => False) col w c1 W0) := he0
 have HB0 : Hid (W0.heap[w.heap.size]? = some (.cells #[.int .i64 2, .int .i64 nn, .string s] 35 (0, 0))) := hB0
 have hk0 := cell_row (cur := [_, _, _]) hB0 0 _ rfl
 have hk1 := cell_row (cur := [_, _, _]) hB0 1 _ rfl
 have hk2 := cell_row (cur := [_, _, _]) hB0 2 _ rfl
 have H0 : Hid (LK W Q c1 W0 kb sb rb vp vn va vt L d t K P N A T) := h0
 clear h hb0 hB0 he0 h0 hc1
 go_enter Try.func29, Try.ntmps29
 go_upto_region 1 with fail
 rw [← hW0]
 clear hW0
 obtain ⟨qn, kn, hvn⟩ := H0.out.n.slice
 rw [HN.out] at hvn
 subst hvn
 have hc3 := cell_row (cur := [_, _, _, _, _, _]) H0.out.obj 3 _ rfl
 go_wp2
 refine bodyPost_end (v := .tuple #[]) (by simp [results, Try.results29, go_sem]) rfl ⟨rfl, _, _, _, _, _, H0.out, HE0.out.mono fun _ h => h.elim⟩
theorem step3_none (h : LK W Q col w kb sb rb vp vn va vt L d t K P N [] T) (nn : Int) {s : ByteArray} :
    Calls Try.prog 29 #[.pointer (some ⟨kb, 0, none⟩), .agg #[.int .i64 3, .int .i64 nn, .string s]] w fun e w' => e = .returned (.tuple #[]) ∧ ∃ col' vp' vn' va' vt', LK W Q col' w' kb sb rb vp' vn' va' vt' L d t K P N [] T ∧ Ev S7 col w col' w' := by
 obtain ⟨A, hA⟩ : ∃ A : List Int, [] = A := ⟨_, rfl⟩
 rw [hA] at h
 rw [hA]
 have HA : Hid (A.length = 0) := by rw [← hA]; rfl
 clear hA
 have hb0 : Below w.heap.size w (w.alloc (.cells #[.int .i64 3, .int .i64 nn, .string s] 35)) := (Below.refl _ _).alloc (Nat.le_refl _) _
 have hB0 : (w.alloc (.cells #[.int .i64 3, .int .i64 nn, .string s] 35)).heap[w.heap.size]? = some (.cells #[.int .i64 3, .int .i64 nn, .string s] 35 (0, 0)) := heap_alloc_new _ _
 have he0 : Ev (fun _ => False) col w (paint col w none 0) (w.alloc (.cells #[.int .i64 3, .int .i64 nn, .string s] 35)) := Ev.paint (Keep.of_below hb0) _ _
 have h0 := h.ev he0 (fun _ h => h)
 obtain ⟨c1, hc1⟩ : ∃ c1, paint col w none 0 = c1 := ⟨_, rfl⟩
 obtain ⟨W0, hW0⟩ : ∃ W0, W0 = w.alloc (.cells #[.int .i64 3, .int .i64 nn, .string s] 35) := ⟨_, rfl⟩
 have HBC : Hid (c1 w.heap.size = 0) := by rw [← hc1]; exact paint_new (Nat.le_refl _) (by intro e; cases e)
 rw [← hW0] at hb0 hB0 he0 h0
 rw [hc1] at he0 h0
 have HE0 : Hid (Ev (fun _ => False) col w c1 W0) := he0
 have HB0 : Hid (W0.heap[w.heap.size]? = some (.cells #[.int .i64 3, .int .i64 nn, .string s] 35 (0, 0))) := hB0
 have hk0 := cell_row (cur := [_, _, _]) hB0 0 _ rfl
 have hk1 := cell_row (cur := [_, _, _]) hB0 1 _ rfl
 have hk2 := cell_row (cur := [_, _, _]) hB0 2 _ rfl
 have H0 : Hid (LK W Q c1 W0 kb sb rb vp vn va vt L d t K P N A T) := h0
 clear h hb0 hB0 he0 h0 hc1
 go_enter Try.func29, Try.ntmps29
 go_upto_region 1 with fail
 rw [← hW0]
 clear hW0
 obtain ⟨qn, kn, hvn⟩ := H0.out.a.slice
 rw [HA.out] at hvn
 subst hvn
 have hc3 := cell_row (cur := [_, _, _, _, _, _]) H0.out.obj 4 _ rfl
 go_wp2
 refine bodyPost_end (v := .tuple #[]) (by simp [results, Try.results29, go_sem]) rfl ⟨rfl, _, _, _, _, _, H0.out, HE0.out.mono fun _ h => h.elim⟩
end
theorem runR_gen : ∀ (n : Nat) (t : Int) (K : Kp), K.length ≤ n → Apart K → (∀ p ∈ K, t ≤ p.1) →
    (runR n t K).2.1 = t + (runR n t K).1.length ∧ (∀ (j : Nat) (y : List Int), (runR n t K).1[j]? = some y → (t + (j : Int), y) ∈ K) ∧ Apart (runR n t K).2.2 ∧ (∀ p ∈ (runR n t K).2.2, p ∈ K ∧ (runR n t K).2.1 < p.1) ∧ (∀ p ∈ K, p ∈ (runR n t K).2.2 ∨ p.1 < (runR n t K).2.1) ∧ (runR n t K).2.2.length + (runR n t K).1.length = K.length := by
 intro n
 induction n with
 | zero =>
  intro t K hK hA hp
  obtain rfl : K = [] := List.eq_nil_of_length_eq_zero (by omega)
  exact ⟨by simp [runR], fun j y h => by simp [runR] at h, hA, fun p h => by simp [runR] at h, fun p h => by simp at h, rfl⟩
 | succ n ih =>
  intro t K hK hA hp
  cases hl : look K t with
  | none =>
   rw [runR_none hl]
   refine ⟨by simp, fun j y h => by simp at h, hA, fun p h => ⟨h, ?_⟩, fun p h => .inl h, by simp⟩
   have h1 := hp p h
   have h2 := look_none.1 hl p h
   show t < p.1
   omega
  | some y =>
   have hlen := less_len hl
   have hp2 : ∀ p ∈ less K t, t + 1 ≤ p.1 := fun p h => by
    have h1 := hp p (less_mem h)
    have h2 := look_none.1 (less_same hA) p h
    omega
   obtain ⟨h1, h2, h3, h4, h5, h6⟩ := ih (t + 1) (less K t) (by omega) hA.less hp2
   rw [runR_some hl]
   refine ⟨by rw [h1]; simp; omega, fun j z hj => ?_, h3, fun p h => ⟨less_mem (h4 p h).1, (h4 p h).2⟩, fun p h => ?_, by simp; omega⟩
   · cases j with
     | zero =>
      simp at hj
      subst hj
      simpa using look_some hl
     | succ j =>
      have := less_mem (h2 j z (by simpa using hj))
      rw [show t + 1 + (j : Int) = t + ((j + 1 : Nat) : Int) by omega] at this
      exact this
   · by_cases e : p.1 = t
     · right
       rw [h1]
       omega
     · refine h5 p ?_
       unfold less
       exact (List.mem_eraseP_of_neg (by simpa using e)).2 h
def Val (L : List (List Int)) (B : Int) (K : Kp) : Prop := ∀ p ∈ K, 0 ≤ p.1 ∧ p.1 < B ∧ p.2 = L.getD p.1.toNat []
theorem take_told {L : List (List Int)} {B t : Int} (hB : B ≤ L.length) (h0 : 0 ≤ t) {M : List (List Int)} {K : Kp} (hV : Val L B K) (hM : ∀ (j : Nat) (y : List Int), M[j]? = some y → (t + (j : Int), y) ∈ K) (hend : M = [] ∨ t + M.length ≤ B) : L.take t.toNat ++ M = L.take (t + M.length).toNat := by
 rcases hend with rfl | hend
 · simp
 · have e : (t + (M.length : Int)).toNat = t.toNat + M.length := by omega
   rw [e, List.take_add]
   congr 1
   apply List.ext_getElem
   · rw [List.length_take, List.length_drop]; omega
   · intro j h1 h2
     have h3 := hV _ (hM j _ (List.getElem?_eq_getElem h1))
     have h4 := h3.2.2
     simp only at h4
     rw [h4, List.getElem_take, List.getElem_drop, List.getD_eq_getElem?_getD, show (t + (j : Int)).toNat = t.toNat + j by omega, List.getElem?_eq_getElem (by omega)]
     rfl
structure Inv (W Q : Int) (m : Nat) (L : List (List Int)) (d : Nat) (t : Int) (K : Kp) (P : List (List Int)) (N : List (Int × List Int)) (A : List Int) (T : List (List Int)) : Prop where
 same : P = L
 le : d ≤ L.length
 lo : (d : Int) ≤ t
 hi : t ≤ L.length
 win : t ≤ d + W
 told : T = L.take t.toNat
 sent : ∀ p ∈ N, 0 ≤ p.1 ∧ p.1 < L.length ∧ p.1 < d + W ∧ p.2 = L.getD p.1.toNat []
 kept : ∀ p ∈ K, t < p.1 ∧ p.1 < L.length ∧ p.1 < d + W ∧ p.2 = L.getD p.1.toNat []
 apart : Apart K
 acks : ∀ a ∈ A, a ≤ t
 few : L.length ≤ m ∧ N.length ≤ 64 * m ∧ A.length ≤ m ∧ K.length ≤ m
 small : ∀ x ∈ L, x.length ≤ 500
 room : (L.length : Int) - d ≤ W + Q
section
variable {W Q : Int} {m : Nat} {L : List (List Int)} {d : Nat} {t : Int} {K : Kp} {P : List (List Int)} {N : List (Int × List Int)} {A : List Int} {T : List (List Int)}
theorem Inv.start (W Q : Int) (hW : 1 ≤ W) (hQ : 0 ≤ Q) : Inv W Q 0 [] 0 0 [] [] [] [] [] :=
 ⟨rfl, Nat.le_refl _, Int.le_refl _, Int.le_refl _, by omega, by simp, fun p h => by simp at h, fun p h => by simp at h, by simp [Apart], fun a h => by simp at h, by simp, fun x h => by simp at h, by simp; omega⟩
theorem Inv.later (h : Inv W Q m L d t K P N A T) : Inv W Q (m + 1) L d t K P N A T :=
 ⟨h.same, h.le, h.lo, h.hi, h.win, h.told, h.sent, h.kept, h.apart, h.acks, by have := h.few; omega, h.small, h.room⟩
theorem getD_app (L : List (List Int)) (x : List Int) {k : Nat} (h : k < L.length) : (L ++ [x]).getD k [] = L.getD k [] := by
 rw [List.getD_eq_getElem?_getD, List.getD_eq_getElem?_getD, List.getElem?_append_left h]
theorem Inv.push (h : Inv W Q m L d t K P N A T) {x : List Int} (hx : x.length ≤ 500) (hrm : (L.length : Int) - d < W + Q) : Inv W Q (m + 1) (L ++ [x]) d t K (P ++ [x]) N A T := by
 have hl := h.lo
 have hh := h.hi
 refine ⟨by rw [h.same], by rw [List.length_append]; have := h.le; omega, h.lo, by rw [List.length_append]; omega, h.win, ?_, fun p hp => ?_, fun p hp => ?_, h.apart, h.acks, by rw [List.length_append]; have := h.few; simp; omega, fun y hy => ?_, by rw [List.length_append]; simp; omega⟩
 · rw [List.take_append_of_le_length (by omega)]
   exact h.told
 · obtain ⟨h1, h2, h3, h4⟩ := h.sent p hp
   exact ⟨h1, by rw [List.length_append]; omega, h3, by rw [getD_app L x (by omega)]; exact h4⟩
 · obtain ⟨h1, h2, h3, h4⟩ := h.kept p hp
   exact ⟨h1, by rw [List.length_append]; omega, h3, by rw [getD_app L x (by omega)]; exact h4⟩
 · rcases List.mem_append.1 hy with hy | hy
   · exact h.small y hy
   · rw [List.mem_singleton.1 hy]; exact hx
theorem out_mem {L : List (List Int)} {d n : Nat} {p : Int × List Int} (h : p ∈ outK L d n) : ∃ j, j < n ∧ p = (((d + j : Nat) : Int), L.getD (d + j) []) := by
 unfold outK at h
 obtain ⟨j, hj, rfl⟩ := List.mem_map.1 h
 exact ⟨j, List.mem_range.1 hj, rfl⟩
theorem und_W (hW : 1 ≤ W ∧ W ≤ 64) (L : List (List Int)) (d : Nat) : (undT W L d : Int) ≤ W ∧ undT W L d ≤ 64 := by
 have : undT W L d ≤ W.toNat := Nat.min_le_left _ _
 omega
theorem Inv.out (h : Inv W Q m L d t K P N A T) (hW : 1 ≤ W ∧ W ≤ 64) : Inv W Q (m + 1) L d t K P (N ++ outK L d (undT W L d)) A T := by
 have hu := und_W hW L d
 have hu2 := und_le W L d
 have hle := h.le
 refine ⟨h.same, h.le, h.lo, h.hi, h.win, h.told, fun p hp => ?_, h.kept, h.apart, h.acks, by rw [List.length_append, outK_len]; have := h.few; omega, h.small, h.room⟩
 rcases List.mem_append.1 hp with hp | hp
 · exact h.sent p hp
 · obtain ⟨j, hj, rfl⟩ := out_mem hp
   refine ⟨by simp only; omega, by simp only; omega, by simp only; omega, ?_⟩
   simp only [Int.toNat_natCast]
theorem Inv.ack (h : Inv W Q m L d t K P N A T) (hW : 1 ≤ W ∧ W ≤ 64) {a : Int} (ha : a ≤ t) : Inv W Q (m + 1) L (ackD W L d a) t K P N A T ∧ d ≤ ackD W L d a := by
 unfold ackD
 have hl := h.lo
 cases ho : ackOk W L d a with
 | false => exact ⟨h.later, Nat.le_refl _⟩
 | true =>
  unfold ackOk at ho
  simp only [Bool.and_eq_true, decide_eq_true_eq] at ho
  have hu := und_W hW L d
  have hu2 := und_le W L d
  have hle := h.le
  have hwin := h.win
  rw [if_pos rfl]
  refine ⟨⟨h.same, by omega, by omega, h.hi, by omega, h.told, fun p hp => ?_, fun p hp => ?_, h.apart, h.acks, by have := h.few; omega, h.small, by have := h.room; omega⟩, by omega⟩
  · obtain ⟨h1, h2, h3, h4⟩ := h.sent p hp
    exact ⟨h1, h2, by omega, h4⟩
  · obtain ⟨h1, h2, h3, h4⟩ := h.kept p hp
    exact ⟨h1, h2, by omega, h4⟩
theorem Inv.want (h : Inv W Q m L d t K P N A T) : Inv W Q (m + 1) L d t K P N (A ++ [t]) T :=
 ⟨h.same, h.le, h.lo, h.hi, h.win, h.told, h.sent, h.kept, h.apart, fun a ha => by
  rcases List.mem_append.1 ha with ha | ha
  · exact h.acks a ha
  · rw [List.mem_singleton.1 ha]; exact Int.le_refl _, by rw [List.length_append]; have := h.few; simp; omega, h.small, h.room⟩
theorem getD_mem {L : List (List Int)} {k : Nat} (h : k < L.length) : L.getD k [] ∈ L := by
 rw [List.getD_eq_getElem?_getD, List.getElem?_eq_getElem h]
 exact List.getElem_mem _
theorem Inv.take (h : Inv W Q m L d t K P N A T) {p : Int × List Int} (h0 : 0 ≤ p.1) (h1 : p.1 < L.length) (h2 : p.1 < d + W) (h3 : p.2 = L.getD p.1.toNat []) :
    Inv W Q (m + 1) L d (takeT W t K p.1 p.2).2.1 (takeT W t K p.1 p.2).2.2 P N A (T ++ (takeT W t K p.1 p.2).1) ∧ t ≤ (takeT W t K p.1 p.2).2.1 ∧ (p.1 < (takeT W t K p.1 p.2).2.1 ∨ ∃ q ∈ (takeT W t K p.1 p.2).2.2, q.1 = p.1) ∧ ∀ q ∈ K, q.1 < (takeT W t K p.1 p.2).2.1 ∨ q ∈ (takeT W t K p.1 p.2).2.2 := by
 have hsm : p.2.length ≤ 500 := by rw [h3]; exact h.small _ (getD_mem (by omega))
 have hlo := h.lo
 have hhi := h.hi
 have hwin := h.win
 have ht0 : 0 ≤ t := by omega
 unfold takeT
 cases hn : nearT W t p.1 with
 | false =>
  have hlt : p.1 < t := by
   unfold nearT at hn
   by_cases h' : t ≤ p.1
   · rw [decide_eq_true h', Bool.true_and] at hn
     have := of_decide_eq_false hn
     omega
   · omega
  rw [Bool.false_and]
  refine ⟨?_, Int.le_refl _, .inl hlt, fun q hq => .inr hq⟩
  show Inv W Q (m + 1) L d t K P N A (T ++ [])
  rw [List.append_nil]
  exact h.later
 | true =>
  have hle : t ≤ p.1 := by
   unfold nearT at hn
   rw [Bool.and_eq_true] at hn
   exact of_decide_eq_true hn.1
  rw [Bool.true_and, decide_eq_true (by omega), if_pos rfl]
  have hK' : (keepT K p.1 p.2).length ≤ K.length + 1 := keepT_len K p.1 p.2
  have hA' : Apart (keepT K p.1 p.2) := by
   unfold keepT
   cases hl : look K p.1 with
   | none => exact h.apart.snoc hl
   | some y => exact h.apart
  have hp' : ∀ q ∈ keepT K p.1 p.2, q ∈ K ∨ q = (p.1, p.2) := by
   intro q hq
   unfold keepT at hq
   split at hq
   · exact .inl hq
   · rcases List.mem_append.1 hq with hq | hq
     · exact .inl hq
     · exact .inr (List.mem_singleton.1 hq)
  have hin : ∀ q ∈ K, q ∈ keepT K p.1 p.2 := by
   intro q hq
   unfold keepT
   split
   · exact hq
   · exact List.mem_append_left _ hq
  have hhas : ∃ q ∈ keepT K p.1 p.2, q.1 = p.1 := by
   unfold keepT
   cases hl : look K p.1 with
   | none => exact ⟨(p.1, p.2), by simp, rfl⟩
   | some y => exact ⟨(p.1, y), by simpa using look_some hl, rfl⟩
  have hge : ∀ q ∈ keepT K p.1 p.2, t ≤ q.1 := by
   intro q hq
   rcases hp' q hq with hq | rfl
   · have := (h.kept q hq).1; omega
   · exact hle
  obtain ⟨B, hB⟩ : ∃ B : Int, B = min (L.length : Int) ((d : Int) + W) := ⟨_, rfl⟩
  have hBL : B ≤ L.length := by omega
  have hV : Val L B (keepT K p.1 p.2) := by
   intro q hq
   rcases hp' q hq with hq | rfl
   · obtain ⟨k1, k2, k3, k4⟩ := h.kept q hq
     exact ⟨by omega, by omega, k4⟩
   · exact ⟨h0, by simp only; omega, h3⟩
  obtain ⟨r1, r2, r3, r4, r5, r6⟩ := runR_gen (K.length + 1) t (keepT K p.1 p.2) hK' hA' hge
  generalize runR (K.length + 1) t (keepT K p.1 p.2) = R at *
  have hend : R.1 = [] ∨ t + R.1.length ≤ B := by
   cases hR : R.1 with
   | nil => exact .inl rfl
   | cons y ys =>
    right
    have hl : R.1.length - 1 < R.1.length := by rw [hR]; simp
    have := (hV _ (r2 (R.1.length - 1) _ (List.getElem?_eq_getElem hl))).2.1
    simp only at this
    rw [← hR]
    omega
  have htl := take_told hBL ht0 hV r2 hend
  have hfin : t ≤ R.2.1 := by rw [r1]; omega
  have hfB : R.2.1 ≤ L.length ∧ R.2.1 ≤ d + W := by
   rw [r1]
   rcases hend with e | e
   · rw [e]; simp; omega
   · omega
  refine ⟨⟨h.same, h.le, by omega, hfB.1, hfB.2, by rw [h.told, htl, ← r1], h.sent, fun q hq => ?_, r3, fun a ha => by have := h.acks a ha; omega, by have := h.few; omega, h.small, h.room⟩, hfin, ?_, fun q hq => ?_⟩
  · obtain ⟨k1, k2⟩ := r4 q hq
    obtain ⟨v1, v2, v3⟩ := hV q k1
    exact ⟨k2, by omega, by omega, v3⟩
  · obtain ⟨q, hq, e⟩ := hhas
    rcases r5 q hq with k | k
    · exact .inr ⟨q, k, e⟩
    · exact .inl (by omega)
  · rcases r5 q (hin q hq) with k | k
    · exact .inr k
    · exact .inl k
end
end Go.Proofs.Ytnhgjgoldcplnaa

/-
  A key and a value more, by a contract: what told's own function does.
  The small parts of an event's shape and JSON, by contracts: within, digest, text, number.
  Lists of texts, and maps of signatures, as JSON: by contracts.
  A map of names to values of JSON, as the reader of events has it.
  The reader of events: what it has left, and how it takes a value: by contracts.
-/
import Derived.Test.YtldegjjaknelgabGreatDoorAN13
set_option maxRecDepth 100000
set_option maxHeartbeats 16000000
namespace Go.Proofs.YtldegjjaknelgabGreatDoor
open Go.RowKit
theorem one_new2 (w : World) (v : Value) (t : Nat) : ∀ j u, [v][j]? = some u → (w.alloc (.cells #[v] t)).cell? ((⟨w.heap.size, 0, none⟩ : Addr).add j) = some u := by
 intro j u hj
 match j, hj with
 | 0, hj => simp at hj; subst hj; exact cell_row (cur := [_]) (heap_alloc_new _ _) 0 _ rfl
theorem one_at2 {w : World} {b : Nat} {v : Value} {t : Nat} (h : w.heap.size = b) : ∀ j u, [v][j]? = some u → (w.alloc (.cells #[v] t)).cell? ((⟨b, 0, none⟩ : Addr).add j) = some u := by
 subst h
 exact one_new2 w v t
theorem str_one2 (x : ByteArray) : ∀ u ∈ [Value.string x], u.oneCell' = true := by
 intro u hu; simp at hu; subst hu; rfl
theorem five_new2 (w : World) (t : Nat) (y0 y1 y2 y3 y4 : Value) : ∀ j u, [y0, y1, y2, y3, y4][j]? = some u → (w.alloc (.cells #[y0, y1, y2, y3, y4] t)).cell? ((⟨w.heap.size, 0, none⟩ : Addr).add j) = some u := by
 intro j u hj
 have e : (⟨w.heap.size, 0, none⟩ : Addr).add j = ⟨w.heap.size, j, none⟩ := by unfold Addr.add; split <;> simp_all
 rw [e]
 exact cell_row (cur := [_, _, _, _, _]) (heap_alloc_new _ _) j u hj
theorem five_at2 {w : World} {b t : Nat} {y0 y1 y2 y3 y4 : Value} (h : w.heap.size = b) : ∀ j u, [y0, y1, y2, y3, y4][j]? = some u → (w.alloc (.cells #[y0, y1, y2, y3, y4] t)).cell? ((⟨b, 0, none⟩ : Addr).add j) = some u := by
 subst h
 exact five_new2 w t y0 y1 y2 y3 y4
theorem wpList_app2 {w : World} {ops : Array Oper} {rest : List Oper} {o : Oper} {a : Act} {Q : Exit → Act → World → Prop} (hgd : o.guard = none) (s x : Operand) (t : TypeId)
    (ho : o.op = .call { callee := .builtin .append, args := #[s, x], argTypes := #[t, t] })
    (base : Nat) (e : TypeId) (z : Value) (size bytes : Nat) (ht : Tryz.prog.underlying t = some (.slice e)) (hinfo : (Tryz.prog.info? e).map (fun i => (i.zero, i.size, i.bytes)) = some (some z, size, bytes))
    (hzs : z.cells.size = size) (hsz : 0 < size) (hby : bytes ≤ 100)
    (v : Value) (n : Nat) (xs : List Value) (hs : a.eval s = v) (hown : w.ownsRow base e size v n xs)
    (ad : Addr) (news : List Value) (hx : a.eval x = .slice (some ad) 1 1) (hl : news.length = size) (hnews : ∀ j u, news[j]? = some u → w.cell? (ad.add j) = some u) (h1 : ∀ u ∈ news, u.oneCell' = true)
    (hn : n ≤ 1000000) (hbase : base ≤ w.heap.size)
    (h : ∀ v' w', w'.ownsRow base e size v' (n + 1) (xs ++ news) → w.grownBy w' v.ownBlock → (v'.ownBlock = v.ownBlock ∨ v'.ownBlock = some w.heap.size) → wpList Tryz.prog ops Q rest (a.put o.dst v') w') : wpList Tryz.prog ops Q (o :: rest) a w :=
 wpList_plain hgd fun _ hK => wp_append_at s x t ho base e z size bytes ht hinfo hzs hsz hby v n xs hs hown ad news hx hl hnews h1 hn hbase fun v' w' h2 h3 h4 => hK _ _ (h v' w' h2 h3 h4)
theorem own_some {w : World} {B e size n : Nat} {v : Value} {xs : List Value} (h : w.ownsRow B e size v (n + 1) xs) : ∃ b c, v = .slice (some ⟨b, 0, none⟩) (n + 1) c := by
 rcases h.2 with ⟨h', h0⟩ | ⟨g', cap', cur, h', _⟩
 · omega
 · exact ⟨_, _, h'⟩
abbrev zj5 : List Value := [.int .i64 0, .int .i64 0, .string ⟨#[]⟩, .slice none 0 0, .slice none 0 0]
theorem eput_any {O : Nat → Prop} {B g : Nat} {kd : Int} {WB w : World} {ks : List ByteArray} {js : List J} {vk vl : Value} {y : J} {k i : Int} {t : ByteArray} {pk pl : Option Addr} {nk ck nl cl : Nat} (h : TI O B g kd WB ks js vk vl w)
    (hy : isJ (Els O B vk vl w) w y [.int .i64 k, .int .i64 i, .string t, .slice pk nk ck, .slice pl nl cl]) (hn : ks.length ≤ 100000) (hm : js.length ≤ 100000) (x : ByteArray) :
    Calls Tryz.prog 83 #[.string x, .agg #[.int .i64 k, .int .i64 i, .string t, .slice pk nk ck, .slice pl nl cl], .pointer (some ⟨g, 0, none⟩)] w fun e w' => e = .returned (.tuple #[]) ∧ ∃ vk' vl', TI O B g kd WB (ks ++ [x]) (js ++ [y]) vk' vl' w' := by
 have hlow := h.low
 have hszB := h.size
 have h1 := (h.alloc (.cells #[.int .i64 k, .int .i64 i, .string t, .slice pk nk ck, .slice pl nl cl] 25)).alloc (.cells #[.string x] 9)
 have hy1 := els_more (W2 := (w.alloc (.cells #[.int .i64 k, .int .i64 i, .string t, .slice pk nk ck, .slice pl nl cl] 25)).alloc (.cells #[.string x] 9)) (((Below.refl _ _).alloc (Nat.le_refl _) _).alloc (by simp) _) (fun k hk => by have := (hlow k hk).1; omega) hy
 obtain ⟨qk, ck', hvk⟩ := own_sl h.keys
 obtain ⟨xs0, hv10, hv20⟩ := h.vals
 obtain ⟨ql, cl', hvl⟩ := own_sl hv10
 have hEb : Els O B vk vl ((w.alloc (.cells #[.int .i64 k, .int .i64 i, .string t, .slice pk nk ck, .slice pl nl cl] 25)).alloc (.cells #[.string x] 9)) w.heap.size :=
  .inr ⟨hszB, by simp; omega, fun e => by have := (own_ge h.keys _ e).2; omega, fun e => by have := (own_ge hv10 _ e).2; omega⟩
 have hbx : ((w.alloc (.cells #[.int .i64 k, .int .i64 i, .string t, .slice pk nk ck, .slice pl nl cl] 25)).alloc (.cells #[.string x] 9)).heap[w.heap.size]? = some (.cells #[.int .i64 k, .int .i64 i, .string t, .slice pk nk ck, .slice pl nl cl] 25 (0, 0)) := by
  rw [Below.heap_alloc _ _ _ (by simp)]
  exact heap_alloc_new _ _
 have c3 := five_c3 (h.alloc (.cells #[.int .i64 k, .int .i64 i, .string t, .slice pk nk ck, .slice pl nl cl] 25)).obj
 have HL : Hid (∀ k, O k → k < B ∧ k ≠ g) := hlow
 have HNE0 : Hid (vl.ownBlock ≠ some w.heap.size) := fun e => by have := (own_ge hv10 _ e).2; omega
 clear hv10 hv20 xs0 hlow hy
 subst hvk hvl
 have HNE : Hid ((Value.slice ql js.length cl').ownBlock ≠ some w.heap.size) := HNE0.out
 clear HNE0
 go_enter Tryz.func83, Tryz.ntmps83
 go_wp2_with (at_builtin; refine wpList_app2 rfl _ _ 22 rfl B 9 (.string ⟨#[]⟩) 1 16 Tryz.underlying22 Tryz.info9 rfl (by decide) (by decide) _ ks.length (ks.map Value.string) rfl h1.keys _ [.string x] rfl rfl (one_at2 (by simp)) (str_one2 x) (by omega) h1.size ?_
              intro vk2 W2 hown2 hg2 hat2
              obtain ⟨d3, f3, h3, hcar⟩ := h1.key hown2 hg2 hat2
              obtain ⟨b2, c2, hv2⟩ := own_some hown2
              subst hv2)
 have hy3 := hy1.carry fun k hk => hcar k hk
 have hbx3 := (hcar _ hEb).2.trans hbx
 have HBX : Hid ((W2.setCell ⟨g, 3, none⟩ (.slice (some ⟨b2, 0, none⟩) (ks.length + 1) c2)).heap[w.heap.size]? = some (.cells #[.int .i64 k, .int .i64 i, .string t, .slice pk nk ck, .slice pl nl cl] 25 (0, 0))) := hbx3
 clear hcar hy1 h1 hbx hbx3 hEb hown2 hg2 hat2 d3 f3
 obtain ⟨W3, hW3⟩ : ∃ W3, W3 = W2.setCell ⟨g, 3, none⟩ (.slice (some ⟨b2, 0, none⟩) (ks.length + 1) c2) := ⟨_, rfl⟩
 rw [← hW3] at h3 hy3 HBX ⊢
 clear hW3 c3
 have hd := h3.drew
 have hA := hd.alloc (.cells #[.int .i64 0, .int .i64 0, .string ⟨#[]⟩, .slice none 0 0, .slice none 0 0] 25)
 obtain ⟨xs, hv1, hv2⟩ := hA.vals
 have hyA := els_more (W := W3) (W2 := W3.drew.alloc (.cells #[.int .i64 0, .int .i64 0, .string ⟨#[]⟩, .slice none 0 0, .slice none 0 0] 25)) ((show Below W3.heap.size W3 W3.drew from ⟨rfl, rfl, rfl, Nat.le_refl _, fun _ _ => rfl⟩).alloc (Nat.le_refl _) _) (fun k hk => by have := (HL.out k hk).1; have := h3.size; omega) hy3
 have d4 := five_c4 hd.obj
 have a4 : (W3.alloc (.cells #[.int .i64 0, .int .i64 0, .string ⟨#[]⟩, .slice none 0 0, .slice none 0 0] 25)).drew.cell? ⟨g, 4, none⟩ = some (.slice ql js.length cl') := five_c4 hA.obj
 have hbs := (Array.getElem?_eq_some_iff.1 HBX.out).1
 have HC : Hid (∀ W : World, W.heap[w.heap.size]? = some (.cells #[.int .i64 k, .int .i64 i, .string t, .slice pk nk ck, .slice pl nl cl] 25 (0, 0)) → ∀ n v, [Value.int .i64 k, .int .i64 i, .string t, .slice pk nk ck, .slice pl nl cl][n]? = some v → W.cell? ⟨w.heap.size, n, none⟩ = some v) := fun W hW n v hv => cell_row (cur := [_, _, _, _, _]) hW n v hv
 have hC0 : W3.drew.heap[w.heap.size]? = some (.cells #[.int .i64 k, .int .i64 i, .string t, .slice pk nk ck, .slice pl nl cl] 25 (0, 0)) := HBX.out
 have hC1 : (W3.drew.alloc (.cells #[.int .i64 0, .int .i64 0, .string ⟨#[]⟩, .slice none 0 0, .slice none 0 0] 25)).heap[w.heap.size]? = some (.cells #[.int .i64 k, .int .i64 i, .string t, .slice pk nk ck, .slice pl nl cl] 25 (0, 0)) := (Below.heap_alloc _ _ _ hbs).trans hC0
 have HXL : Hid (xs.length = js.length * 5) := hv1.1
 refine wp_region_in (by kernel_rfl) (fun W => W.heap[w.heap.size]? = some (.cells #[.int .i64 k, .int .i64 i, .string t, .slice pk nk ck, .slice pl nl cl] 25 (0, 0))) ?_
 change wpIn _ _ _ _ _ _ _ _ (World.drew _)
 refine wpIn_tk (i := 0) (d := some 11) rfl ?_
 refine wpIn_tp (i := 2) (d := some 13) rfl (by (intro wq hq; have q0 := HC.out wq hq 0 _ rfl; have q1 := HC.out wq hq 1 _ rfl; have q2 := HC.out wq hq 2 _ rfl; have q3 := HC.out wq hq 3 _ rfl; have q4 := HC.out wq hq 4 _ rfl; go_simp; first | done | with_reducible rfl)) ?_
 refine wpIn_pair (i := 1) (j := 4) hC0 (by kernel_rfl) rfl rfl (by rfl) (by rfl) ?_ ?_
 · intro K hK
   go_simp
   refine hK _ _ ?_
   clear hK K
   refine wpIn_tk (i := 3) (d := some 14) rfl ?_
   refine wpIn_do (i := 4) hC0 (by kernel_rfl) rfl (by rfl) ?_
   intro K hK
   go_simp
   refine hK _ _ ?_
   clear hK K
   refine wpIn_do (i := 5) hC1 (by kernel_rfl) rfl (by rfl) ?_
   intro K hK
   refine wp_append_at (.tmp 12) (.tmp 15) 23 rfl B 25 (.agg #[.int .i64 0, .int .i64 0, .string ⟨#[]⟩, .slice none 0 0, .slice none 0 0]) 5 80 Tryz.underlying23 Tryz.info25 rfl (by decide) (by decide) _ js.length xs rfl hv1 _ zj5 rfl rfl (five_at2 (by simp)) (by decide) (by omega) hA.size ?_
   intro vl2 W4 hown4 hg4 hat4
   refine hK _ _ ?_
   clear hK K
   obtain ⟨b4, c4, hv4⟩ := own_some hown4
   subst hv4
   have hg4' : (W3.drew.alloc (.cells #[.int .i64 0, .int .i64 0, .string ⟨#[]⟩, .slice none 0 0, .slice none 0 0] 25)).grownBy W4 (Value.slice ql js.length cl').ownBlock := hg4
   have hat4' : (Value.slice (some ⟨b4, 0, none⟩) (js.length + 1) c4).ownBlock = (Value.slice ql js.length cl').ownBlock ∨ (Value.slice (some ⟨b4, 0, none⟩) (js.length + 1) c4).ownBlock = some (W3.drew.alloc (.cells #[.int .i64 0, .int .i64 0, .string ⟨#[]⟩, .slice none 0 0, .slice none 0 0] 25)).heap.size := hat4
   have hgv := own_ge hv1
   have hgv4 := own_ge hown4
   have hgb4 := (hgv4 b4 rfl).1
   have hltg := h3.lt
   have hsA := hA.size
   have hbw : b4 ≠ w.heap.size := fun e => by
    rcases hat4' with h' | h'
    · exact HNE.out (h'.symm.trans (by rw [← e]; rfl))
    · have := Option.some.inj h'
      simp at this
      have := hbs
      omega
   have obj4 : W4.heap[g]? = some (.cells #[.int .i64 kd, .int .i64 0, .string ⟨#[]⟩, .slice (some ⟨b2, 0, none⟩) (ks.length + 1) c2, .slice ql js.length cl'] 25 (0, 0)) := (hg4'.block g (by omega) fun e => by have := (hgv g e.symm).1; omega).trans hA.obj
   have hC2 : W4.heap[w.heap.size]? = some (.cells #[.int .i64 k, .int .i64 i, .string t, .slice pk nk ck, .slice pl nl cl] 25 (0, 0)) := (hg4'.block w.heap.size (by simp; exact Nat.lt_succ_of_lt hbs) fun e => HNE.out e.symm).trans hC1
   have HAT : Hid ((Value.slice (some ⟨b4, 0, none⟩) (js.length + 1) c4).ownBlock = (Value.slice ql js.length cl').ownBlock ∨ (Value.slice (some ⟨b4, 0, none⟩) (js.length + 1) c4).ownBlock = some (W3.drew.alloc (.cells #[.int .i64 0, .int .i64 0, .string ⟨#[]⟩, .slice none 0 0, .slice none 0 0] 25)).heap.size) := hat4'
   clear hg4 hat4 hgv4 hat4'
   have hzx : ∀ (W : World), W.ownsRow B 25 5 (.slice (some ⟨b4, 0, none⟩) (js.length + 1) c4) (js.length + 1) (xs ++ zj5) → ∀ j u, zj5[j]? = some u → W.cell? ⟨b4, js.length * 5 + j, none⟩ = some u ∧ W.frozen? ⟨b4, js.length * 5 + j, none⟩ = false := fun W hW j u hj => by
    have hj5 : j < 5 := (List.getElem?_eq_some_iff.1 hj).1
    refine ⟨(hW.cellAt (js.length * 5 + j) (by omega)).trans ?_, hW.frozenAt _⟩
    rw [List.getElem?_append_right (by rw [HXL.out]; omega), HXL.out, Nat.add_sub_cancel_left]
    exact hj
   have hli : (js.length : Int) < (js.length : Int) + 1 := by omega
   refine wpIn_tk (i := 6) (d := some 17) rfl ?_
   refine wpIn_tk (i := 8) (d := some 18) rfl ?_
   refine wpIn_pair (i := 7) (j := 9) hC2 (by kernel_rfl) rfl rfl (by rfl) (by rfl) ?_ ?_
   · intro K hK
     have e0 := hzx W4 hown4 0 _ rfl; have e1 := hzx W4 hown4 1 _ rfl; have e2 := hzx W4 hown4 2 _ rfl; have e3 := hzx W4 hown4 3 _ rfl; have e4 := hzx W4 hown4 4 _ rfl
     obtain ⟨e00, e01⟩ := e0; obtain ⟨e10, e11⟩ := e1; obtain ⟨e20, e21⟩ := e2; obtain ⟨e30, e31⟩ := e3; obtain ⟨e40, e41⟩ := e4
     rw [Nat.add_zero] at e00 e01
     go_simp
     refine hK _ _ ?_
     clear hK K
     have kp := st5_keep W4 b4 (js.length * 5) (.int .i64 k) (.int .i64 i) (.string t) (.slice pk nk ck) (.slice pl nl cl)
     have ow := st5_own hown4 HXL.out (.int .i64 k) (.int .i64 i) (.string t) (.slice pk nk ck) (.slice pl nl cl)
     have ob5 := (kp.block g (by have := (Array.getElem?_eq_some_iff.1 obj4).1; omega) (by unfold One; omega)).trans obj4
     have hC3 := (kp.block w.heap.size (Array.getElem?_eq_some_iff.1 hC2).1 (by unfold One; omega)).trans hC2
     have g0 := five_c4 ob5
     have g1 := five_fz ob5 4
     obtain ⟨W5, hW5⟩ : ∃ W5, W5 = st5 W4 b4 (js.length * 5) (.int .i64 k) (.int .i64 i) (.string t) (.slice pk nk ck) (.slice pl nl cl) := ⟨_, rfl⟩
     rw [← hW5] at kp ow ob5 hC3 g0 g1
     have hW5' := hW5
     unfold st5 at hW5'
     rw [← hW5']
     clear hW5 hW5' e00 e01 e10 e11 e20 e21 e30 e31 e40 e41 hzx
     refine wpIn_do (i := 9) hC3 (by kernel_rfl) rfl (by rfl) ?_
     intro K hK
     go_simp
     refine hK _ _ ?_
     clear hK K
     have K3 : Keep (One g) W5 (W5.setCell ⟨g, 4, none⟩ (.slice (some ⟨b4, 0, none⟩) (js.length + 1) c4)) := Keep.setCell (Keep.refl _ _) (fun _ => (rfl : g = g)) _
     have hC4 := (K3.block w.heap.size (Array.getElem?_eq_some_iff.1 hC3).1 (by unfold One; omega)).trans hC3
     have hti := hA.val hv1 hv2 hyA hg4' HAT.out (W5 := W5.setCell ⟨g, 4, none⟩ (.slice (some ⟨b4, 0, none⟩) (js.length + 1) c4)) (by rw [heap_setCell_same _ g 4 _ _ _ ob5]; rfl) (own_keep ow K3 fun q e => by have := Option.some.inj e; unfold One; simp at this; omega) ((kp.mono fun q _ e => .inr (by unfold One at e; rw [e]; rfl)).then (K3.mono fun q _ e => .inl e))
     refine wpIn_done hC4 (by kernel_rfl) ?_ _
     clear hC3 hC4 g0 g1 ob5 ow kp
     go_wp2
     go_end0
     exact ⟨rfl, _, _, hti⟩
   · intro K hK
     have g0 := five_c4 obj4
     have g1 := five_fz obj4 4
     go_simp
     refine hK _ _ ?_
     clear hK K
     have K3 : Keep (One g) W4 (W4.setCell ⟨g, 4, none⟩ (.slice (some ⟨b4, 0, none⟩) (js.length + 1) c4)) := Keep.setCell (Keep.refl _ _) (fun _ => (rfl : g = g)) _
     have ob5 : (W4.setCell ⟨g, 4, none⟩ (.slice (some ⟨b4, 0, none⟩) (js.length + 1) c4)).heap[g]? = some (.cells #[.int .i64 kd, .int .i64 0, .string ⟨#[]⟩, .slice (some ⟨b2, 0, none⟩) (ks.length + 1) c2, .slice (some ⟨b4, 0, none⟩) (js.length + 1) c4] 25 (0, 0)) := by rw [heap_setCell_same _ g 4 _ _ _ obj4]; rfl
     have hC3 := (K3.block w.heap.size (Array.getElem?_eq_some_iff.1 hC2).1 (by unfold One; omega)).trans hC2
     have ow := own_keep hown4 K3 fun q e => by have := Option.some.inj e; unfold One; simp at this; omega
     obtain ⟨W5, hW5⟩ : ∃ W5, W5 = W4.setCell ⟨g, 4, none⟩ (.slice (some ⟨b4, 0, none⟩) (js.length + 1) c4) := ⟨_, rfl⟩
     rw [← hW5] at K3 ow ob5 hC3 ⊢
     clear hW5 g0 g1
     have e0 := hzx W5 ow 0 _ rfl; have e1 := hzx W5 ow 1 _ rfl; have e2 := hzx W5 ow 2 _ rfl; have e3 := hzx W5 ow 3 _ rfl; have e4 := hzx W5 ow 4 _ rfl
     obtain ⟨e00, e01⟩ := e0; obtain ⟨e10, e11⟩ := e1; obtain ⟨e20, e21⟩ := e2; obtain ⟨e30, e31⟩ := e3; obtain ⟨e40, e41⟩ := e4
     rw [Nat.add_zero] at e00 e01
     refine wpIn_do (i := 7) hC3 (by kernel_rfl) rfl (by rfl) ?_
     intro K hK
     go_simp
     refine hK _ _ ?_
     clear hK K
     have kp := st5_keep W5 b4 (js.length * 5) (.int .i64 k) (.int .i64 i) (.string t) (.slice pk nk ck) (.slice pl nl cl)
     have ow5 := st5_own ow HXL.out (.int .i64 k) (.int .i64 i) (.string t) (.slice pk nk ck) (.slice pl nl cl)
     have ob6 := (kp.block g (by have := (Array.getElem?_eq_some_iff.1 ob5).1; omega) (by unfold One; omega)).trans ob5
     have hC4 := (kp.block w.heap.size (Array.getElem?_eq_some_iff.1 hC3).1 (by unfold One; omega)).trans hC3
     have hti := hA.val hv1 hv2 hyA hg4' HAT.out ob6 ow5 ((K3.mono fun q _ e => .inl e).then (kp.mono fun q _ e => .inr (by unfold One at e; rw [e]; rfl)))
     unfold st5 at hC4 hti
     refine wpIn_done hC4 (by kernel_rfl) ?_ _
     clear hC3 hC4 e00 e01 e10 e11 e20 e21 e30 e31 e40 e41 hzx ow ow5 ob5 ob6 kp
     go_wp2
     go_end0
     exact ⟨rfl, _, _, hti⟩
 · intro K hK
   go_simp
   refine hK _ _ ?_
   clear hK K
   refine wpIn_do (i := 1) hC1 (by kernel_rfl) rfl (by rfl) ?_
   intro K hK
   go_simp
   refine hK _ _ ?_
   clear hK K
   refine wpIn_tk (i := 3) (d := some 14) rfl ?_
   refine wpIn_do (i := 5) hC1 (by kernel_rfl) rfl (by rfl) ?_
   intro K hK
   refine wp_append_at (.tmp 12) (.tmp 15) 23 rfl B 25 (.agg #[.int .i64 0, .int .i64 0, .string ⟨#[]⟩, .slice none 0 0, .slice none 0 0]) 5 80 Tryz.underlying23 Tryz.info25 rfl (by decide) (by decide) _ js.length xs rfl hv1 _ zj5 rfl rfl (five_at2 (by simp)) (by decide) (by omega) hA.size ?_
   intro vl2 W4 hown4 hg4 hat4
   refine hK _ _ ?_
   clear hK K
   obtain ⟨b4, c4, hv4⟩ := own_some hown4
   subst hv4
   have hg4' : (W3.drew.alloc (.cells #[.int .i64 0, .int .i64 0, .string ⟨#[]⟩, .slice none 0 0, .slice none 0 0] 25)).grownBy W4 (Value.slice ql js.length cl').ownBlock := hg4
   have hat4' : (Value.slice (some ⟨b4, 0, none⟩) (js.length + 1) c4).ownBlock = (Value.slice ql js.length cl').ownBlock ∨ (Value.slice (some ⟨b4, 0, none⟩) (js.length + 1) c4).ownBlock = some (W3.drew.alloc (.cells #[.int .i64 0, .int .i64 0, .string ⟨#[]⟩, .slice none 0 0, .slice none 0 0] 25)).heap.size := hat4
   have hgv := own_ge hv1
   have hgv4 := own_ge hown4
   have hgb4 := (hgv4 b4 rfl).1
   have hltg := h3.lt
   have hsA := hA.size
   have hbw : b4 ≠ w.heap.size := fun e => by
    rcases hat4' with h' | h'
    · exact HNE.out (h'.symm.trans (by rw [← e]; rfl))
    · have := Option.some.inj h'
      simp at this
      have := hbs
      omega
   have obj4 : W4.heap[g]? = some (.cells #[.int .i64 kd, .int .i64 0, .string ⟨#[]⟩, .slice (some ⟨b2, 0, none⟩) (ks.length + 1) c2, .slice ql js.length cl'] 25 (0, 0)) := (hg4'.block g (by omega) fun e => by have := (hgv g e.symm).1; omega).trans hA.obj
   have hC2 : W4.heap[w.heap.size]? = some (.cells #[.int .i64 k, .int .i64 i, .string t, .slice pk nk ck, .slice pl nl cl] 25 (0, 0)) := (hg4'.block w.heap.size (by simp; exact Nat.lt_succ_of_lt hbs) fun e => HNE.out e.symm).trans hC1
   have HAT : Hid ((Value.slice (some ⟨b4, 0, none⟩) (js.length + 1) c4).ownBlock = (Value.slice ql js.length cl').ownBlock ∨ (Value.slice (some ⟨b4, 0, none⟩) (js.length + 1) c4).ownBlock = some (W3.drew.alloc (.cells #[.int .i64 0, .int .i64 0, .string ⟨#[]⟩, .slice none 0 0, .slice none 0 0] 25)).heap.size) := hat4'
   clear hg4 hat4 hgv4 hat4'
   have hzx : ∀ (W : World), W.ownsRow B 25 5 (.slice (some ⟨b4, 0, none⟩) (js.length + 1) c4) (js.length + 1) (xs ++ zj5) → ∀ j u, zj5[j]? = some u → W.cell? ⟨b4, js.length * 5 + j, none⟩ = some u ∧ W.frozen? ⟨b4, js.length * 5 + j, none⟩ = false := fun W hW j u hj => by
    have hj5 : j < 5 := (List.getElem?_eq_some_iff.1 hj).1
    refine ⟨(hW.cellAt (js.length * 5 + j) (by omega)).trans ?_, hW.frozenAt _⟩
    rw [List.getElem?_append_right (by rw [HXL.out]; omega), HXL.out, Nat.add_sub_cancel_left]
    exact hj
   have hli : (js.length : Int) < (js.length : Int) + 1 := by omega
   refine wpIn_tk (i := 6) (d := some 17) rfl ?_
   refine wpIn_tk (i := 8) (d := some 18) rfl ?_
   refine wpIn_pair (i := 7) (j := 9) hC2 (by kernel_rfl) rfl rfl (by rfl) (by rfl) ?_ ?_
   · intro K hK
     have e0 := hzx W4 hown4 0 _ rfl; have e1 := hzx W4 hown4 1 _ rfl; have e2 := hzx W4 hown4 2 _ rfl; have e3 := hzx W4 hown4 3 _ rfl; have e4 := hzx W4 hown4 4 _ rfl
     obtain ⟨e00, e01⟩ := e0; obtain ⟨e10, e11⟩ := e1; obtain ⟨e20, e21⟩ := e2; obtain ⟨e30, e31⟩ := e3; obtain ⟨e40, e41⟩ := e4
     rw [Nat.add_zero] at e00 e01
     go_simp
     refine hK _ _ ?_
     clear hK K
     have kp := st5_keep W4 b4 (js.length * 5) (.int .i64 k) (.int .i64 i) (.string t) (.slice pk nk ck) (.slice pl nl cl)
     have ow := st5_own hown4 HXL.out (.int .i64 k) (.int .i64 i) (.string t) (.slice pk nk ck) (.slice pl nl cl)
     have ob5 := (kp.block g (by have := (Array.getElem?_eq_some_iff.1 obj4).1; omega) (by unfold One; omega)).trans obj4
     have hC3 := (kp.block w.heap.size (Array.getElem?_eq_some_iff.1 hC2).1 (by unfold One; omega)).trans hC2
     have g0 := five_c4 ob5
     have g1 := five_fz ob5 4
     obtain ⟨W5, hW5⟩ : ∃ W5, W5 = st5 W4 b4 (js.length * 5) (.int .i64 k) (.int .i64 i) (.string t) (.slice pk nk ck) (.slice pl nl cl) := ⟨_, rfl⟩
     rw [← hW5] at kp ow ob5 hC3 g0 g1
     have hW5' := hW5
     unfold st5 at hW5'
     rw [← hW5']
     clear hW5 hW5' e00 e01 e10 e11 e20 e21 e30 e31 e40 e41 hzx
     refine wpIn_do (i := 9) hC3 (by kernel_rfl) rfl (by rfl) ?_
     intro K hK
     go_simp
     refine hK _ _ ?_
     clear hK K
     have K3 : Keep (One g) W5 (W5.setCell ⟨g, 4, none⟩ (.slice (some ⟨b4, 0, none⟩) (js.length + 1) c4)) := Keep.setCell (Keep.refl _ _) (fun _ => (rfl : g = g)) _
     have hC4 := (K3.block w.heap.size (Array.getElem?_eq_some_iff.1 hC3).1 (by unfold One; omega)).trans hC3
     have hti := hA.val hv1 hv2 hyA hg4' HAT.out (W5 := W5.setCell ⟨g, 4, none⟩ (.slice (some ⟨b4, 0, none⟩) (js.length + 1) c4)) (by rw [heap_setCell_same _ g 4 _ _ _ ob5]; rfl) (own_keep ow K3 fun q e => by have := Option.some.inj e; unfold One; simp at this; omega) ((kp.mono fun q _ e => .inr (by unfold One at e; rw [e]; rfl)).then (K3.mono fun q _ e => .inl e))
     refine wpIn_done hC4 (by kernel_rfl) ?_ _
     clear hC3 hC4 g0 g1 ob5 ow kp
     go_wp2
     go_end0
     exact ⟨rfl, _, _, hti⟩
   · intro K hK
     have g0 := five_c4 obj4
     have g1 := five_fz obj4 4
     go_simp
     refine hK _ _ ?_
     clear hK K
     have K3 : Keep (One g) W4 (W4.setCell ⟨g, 4, none⟩ (.slice (some ⟨b4, 0, none⟩) (js.length + 1) c4)) := Keep.setCell (Keep.refl _ _) (fun _ => (rfl : g = g)) _
     have ob5 : (W4.setCell ⟨g, 4, none⟩ (.slice (some ⟨b4, 0, none⟩) (js.length + 1) c4)).heap[g]? = some (.cells #[.int .i64 kd, .int .i64 0, .string ⟨#[]⟩, .slice (some ⟨b2, 0, none⟩) (ks.length + 1) c2, .slice (some ⟨b4, 0, none⟩) (js.length + 1) c4] 25 (0, 0)) := by rw [heap_setCell_same _ g 4 _ _ _ obj4]; rfl
     have hC3 := (K3.block w.heap.size (Array.getElem?_eq_some_iff.1 hC2).1 (by unfold One; omega)).trans hC2
     have ow := own_keep hown4 K3 fun q e => by have := Option.some.inj e; unfold One; simp at this; omega
     obtain ⟨W5, hW5⟩ : ∃ W5, W5 = W4.setCell ⟨g, 4, none⟩ (.slice (some ⟨b4, 0, none⟩) (js.length + 1) c4) := ⟨_, rfl⟩
     rw [← hW5] at K3 ow ob5 hC3 ⊢
     clear hW5 g0 g1
     have e0 := hzx W5 ow 0 _ rfl; have e1 := hzx W5 ow 1 _ rfl; have e2 := hzx W5 ow 2 _ rfl; have e3 := hzx W5 ow 3 _ rfl; have e4 := hzx W5 ow 4 _ rfl
     obtain ⟨e00, e01⟩ := e0; obtain ⟨e10, e11⟩ := e1; obtain ⟨e20, e21⟩ := e2; obtain ⟨e30, e31⟩ := e3; obtain ⟨e40, e41⟩ := e4
     rw [Nat.add_zero] at e00 e01
     refine wpIn_do (i := 7) hC3 (by kernel_rfl) rfl (by rfl) ?_
     intro K hK
     go_simp
     refine hK _ _ ?_
     clear hK K
     have kp := st5_keep W5 b4 (js.length * 5) (.int .i64 k) (.int .i64 i) (.string t) (.slice pk nk ck) (.slice pl nl cl)
     have ow5 := st5_own ow HXL.out (.int .i64 k) (.int .i64 i) (.string t) (.slice pk nk ck) (.slice pl nl cl)
     have ob6 := (kp.block g (by have := (Array.getElem?_eq_some_iff.1 ob5).1; omega) (by unfold One; omega)).trans ob5
     have hC4 := (kp.block w.heap.size (Array.getElem?_eq_some_iff.1 hC3).1 (by unfold One; omega)).trans hC3
     have hti := hA.val hv1 hv2 hyA hg4' HAT.out ob6 ow5 ((K3.mono fun q _ e => .inl e).then (kp.mono fun q _ e => .inr (by unfold One at e; rw [e]; rfl)))
     unfold st5 at hC4 hti
     refine wpIn_done hC4 (by kernel_rfl) ?_ _
     clear hC3 hC4 e00 e01 e10 e11 e20 e21 e30 e31 e40 e41 hzx ow ow5 ob5 ob6 kp
     go_wp2
     go_end0
     exact ⟨rfl, _, _, hti⟩
theorem within_any (n m : Int) (w : World) : Calls Tryz.prog 76 #[.int .i64 n, .int .i64 m] w fun e w' => e = .returned (.bool (withinE n m)) ∧ w = w' := by
 go_enter Tryz.func76, Tryz.ntmps76
 go_wp2
 all_goals
  go_ret
  refine ⟨ret_bool ?_, rfl⟩
  unfold withinE
  rw [Bool.eq_iff_iff]
  simp
  omega
theorem dol_size (s : ByteArray) : (dol s).size = s.size + 1 := by
 unfold dol
 rw [ByteArray.size_append, Nat.add_comm]
 rfl
theorem digest_any (s : ByteArray) (w : World) (hs : s.size ≤ 1000000000) :
    Calls Tryz.prog 77 #[.string s] w fun e w' => e = .returned (.bool (digestE s)) ∧ Below w.heap.size w w' := by
 have hE := Id.event_any (dol s) w (by rw [dol_size]; omega)
 have HD : Hid (Id.evt (dol s) = digestE s) := rfl
 unfold dol at hE HD
 go_enter Tryz.func77, Tryz.ntmps77
 go_wp2_with (go_at_call 102; refine hE.mono ?_; rintro e w' ⟨rfl, hb⟩)
 go_ret
 exact ⟨ret_bool HD.out, hb⟩
theorem etext_any (s : ByteArray) (w : World) :
    Calls Tryz.prog 86 #[.string s] w fun e w' => e = .returned (.agg #[.int .i64 3, .int .i64 0, .string s, .slice none 0 0, .slice none 0 0]) ∧ Below w.heap.size w w' := by
 have h5 := heap_alloc_new w (.cells #[.int .i64 3, .int .i64 0, .string s, .slice none 0 0, .slice none 0 0] 25)
 have k0 := five_c0 h5; have k1 := five_c1 h5; have k2 := five_c2 h5; have k3 := five_c3 h5; have k4 := five_c4 h5
 go_enter Tryz.func86, Tryz.ntmps86
 go_wp2
 refine bodyPost_ret (v := .agg #[.int .i64 3, .int .i64 0, .string s, .slice none 0 0, .slice none 0 0]) (by simp [results, Tryz.results86, go_sem, k0, k1, k2, k3, k4]) rfl ?_
 exact ⟨rfl, (Below.refl _ _).alloc (Nat.le_refl _) _⟩
theorem enumber_any (n : Int) (w : World) :
    Calls Tryz.prog 85 #[.int .i64 n] w fun e w' => e = .returned (.agg #[.int .i64 2, .int .i64 n, .string nix, .slice none 0 0, .slice none 0 0]) ∧ Below w.heap.size w w' := by
 have h5 := heap_alloc_new w (.cells #[.int .i64 2, .int .i64 n, .string ⟨#[]⟩, .slice none 0 0, .slice none 0 0] 25)
 have k0 := five_c0 h5; have k1 := five_c1 h5; have k2 := five_c2 h5; have k3 := five_c3 h5; have k4 := five_c4 h5
 go_enter Tryz.func85, Tryz.ntmps85
 go_wp2
 refine bodyPost_ret (v := .agg #[.int .i64 2, .int .i64 n, .string ⟨#[]⟩, .slice none 0 0, .slice none 0 0]) (by simp [results, Tryz.results85, go_sem, k0, k1, k2, k3, k4]) rfl ?_
 exact ⟨rfl, (Below.refl _ _).alloc (Nat.le_refl _) _⟩
theorem text_one (u : ByteArray) : ∀ v ∈ [Value.int .i64 3, .int .i64 0, .string u, .slice none 0 0, .slice none 0 0], v.oneCell' = true := by
 intro v hv
 simp at hv
 rcases hv with rfl | rfl | rfl | rfl <;> rfl
theorem eisJ_text (O : Nat → Prop) (w : World) (u : ByteArray) : isJ O w (textJ u) [.int .i64 3, .int .i64 0, .string u, .slice none 0 0, .slice none 0 0] := by
 unfold textJ isJ
 exact ⟨none, 0, none, 0, rfl, RdK.nil _ _, Nat.le_refl _, by unfold isJs; trivial⟩
theorem isJ_num (O : Nat → Prop) (w : World) (n : Int) : isJ O w (numJ n) [.int .i64 2, .int .i64 n, .string nix, .slice none 0 0, .slice none 0 0] := by
 unfold numJ isJ
 exact ⟨none, 0, none, 0, rfl, RdK.nil _ _, Nat.le_refl _, by unfold isJs; trivial⟩
theorem two_at {w : World} (o1 o2 : Obj) : ((w.alloc o1).alloc o2).heap[w.heap.size + 1]? = some o2 := by
 have := heap_alloc_new (w.alloc o1) o2
 simpa using this
theorem one_of {w : World} (o1 o2 : Obj) : ((w.alloc o1).alloc o2).heap[w.heap.size]? = some o1 := by
 rw [Below.heap_alloc _ _ _ (by simp)]
 exact heap_alloc_new _ _
theorem TI.push {O : Nat → Prop} {B g : Nat} {kd : Int} {WB W W4 : World} {ks : List ByteArray} {js : List J} {vk vl vl' : Value} {y : J} {cs xs : List Value} (h : TI O B g kd WB ks js vk vl W) (hv1 : W.ownsRow B 25 5 vl js.length xs) (hv2 : isRow (Els O B vk vl W) W js xs) (hy : isJ (Els O B vk vl W) W y cs)
    (hown : W4.ownsRow B 25 5 vl' (js.length + 1) (xs ++ cs)) (hg : W.grownBy W4 vl.ownBlock) (hat : vl'.ownBlock = vl.ownBlock ∨ vl'.ownBlock = some W.heap.size) :
    W4.cell? ⟨g, 4, none⟩ = some vl ∧ W4.frozen? ⟨g, 4, none⟩ = false ∧ TI O B g kd WB ks (js ++ [y]) vk vl' (W4.setCell ⟨g, 4, none⟩ vl') := by
 have hgv := own_ge hv1
 have hlt := h.lt
 have hsz := h.size
 have ob : W4.heap[g]? = some (.cells #[.int .i64 kd, .int .i64 0, .string ⟨#[]⟩, vk, vl] 25 (0, 0)) := (hg.block g (by omega) fun e => by have := (hgv g e.symm).1; omega).trans h.obj
 have K3 : Keep (One g) W4 (W4.setCell ⟨g, 4, none⟩ vl') := Keep.setCell (Keep.refl _ _) (fun _ => (rfl : g = g)) _
 refine ⟨five_c4 ob, five_fz ob 4, h.val hv1 hv2 hy hg hat (by rw [heap_setCell_same _ g 4 _ _ _ ob]; rfl) (own_keep hown K3 fun q e => by have := (own_ge hown q e).1; unfold One; omega) (K3.mono fun q _ e => .inl e)⟩
theorem TI.done {w WB wr W5 : World} {kd : Int} {ks : List ByteArray} {js : List J} {q1 q2 : Option Addr} {n1 n2 c1 c2 : Nat} (h : TI (fun _ => False) (w.heap.size + 2) (w.heap.size + 1) kd WB ks js (.slice q1 n1 c1) (.slice q2 n2 c2) wr) (hbw : Below w.heap.size w WB) (HK5 : Keep (One w.heap.size) wr W5) :
    isJ (New w W5) W5 (.mk kd 0 nix ks js) [.int .i64 kd, .int .i64 0, .string nix, .slice q1 n1 c1, .slice q2 n2 c2] ∧ Below w.heap.size w W5 := by
 have hsz := h.size
 have h5 := HK5.size
 have hszB := h.szB
 obtain ⟨xs, hv1, hv2⟩ := h.vals
 obtain ⟨q1', c1', e1, hrk⟩ := own_rdK h.keys
 obtain ⟨q2', c2', e2, hc2, hrj⟩ := own_js hv1 hv2
 cases e1
 cases e2
 have carry : ∀ k, w.heap.size + 2 ≤ k → k < wr.heap.size → New w W5 k ∧ W5.heap[k]? = wr.heap[k]? := fun k h1 h2 => ⟨⟨by omega, by omega⟩, HK5.block k h2 (by unfold One; omega)⟩
 refine ⟨?_, ?_⟩
 · unfold isJ
   refine ⟨q1, c1, q2, c2, rfl, hrk.carry fun k hk => carry k hk.1 hk.2, hc2, hrj.carry fun k hk => ?_⟩
   rcases hk with hk | hk
   · rcases hk with hk | hk
     · exact hk.elim
     · exact carry k hk.1 hk.2.1
   · exact carry k hk.1 hk.2
 · exact (hbw.trans (h.keep.below (by omega) fun k hk => by unfold One; omega)).trans (HK5.below (by omega) fun k hk => by unfold One; omega)
theorem etexts_any {O : Nat → Prop} {row : List ByteArray} {p : Option Addr} {c : Nat} {w : World} (hrd : RdK O w p c row) (hO : ∀ k, O k → k < w.heap.size) (hl : row.length ≤ 100000) :
    Calls Tryz.prog 84 #[.slice p row.length c] w fun x w' => (∃ pl nl cl, x = .returned (.agg #[.int .i64 4, .int .i64 0, .string nix, .slice none 0 0, .slice pl nl cl]) ∧ isJ (New w w') w' (textsJ row) [.int .i64 4, .int .i64 0, .string nix, .slice none 0 0, .slice pl nl cl]) ∧ Below w.heap.size w w' := by
 obtain ⟨n, hn⟩ : ∃ n, row.length = n := ⟨_, rfl⟩
 have HN : Hid (row.length = n) := hn
 have hcc := hrd.1
 rw [hn] at hl hcc ⊢
 clear hn
 obtain ⟨WB, hWB⟩ : ∃ WB, WB = (w.alloc (.cells #[.int .i64 0, .int .i64 0, .string ⟨#[]⟩, .slice none 0 0, .slice none 0 0] 25)).alloc (.cells #[.int .i64 4, .int .i64 0, .string ⟨#[]⟩, .slice none 0 0, .slice none 0 0] 25) := ⟨_, rfl⟩
 have hbw : Below w.heap.size w WB := by rw [hWB]; exact ((Below.refl _ _).alloc (Nat.le_refl _) _).alloc (by simp) _
 have hres : WB.heap[w.heap.size]? = some (.cells #[.int .i64 0, .int .i64 0, .string ⟨#[]⟩, .slice none 0 0, .slice none 0 0] 25 (0, 0)) := by rw [hWB]; exact one_of _ _
 have hti0 : TI (fun _ => False) (w.heap.size + 2) (w.heap.size + 1) 4 WB [] [] (.slice none 0 0) (.slice none 0 0) WB := TI.start (by rw [hWB]; simp) (by omega) (fun k h => h.elim) (by rw [hWB]; exact two_at _ _)
 go_enter Tryz.func84, Tryz.ntmps84
 go_wp2
 rw [← hWB]
 clear hWB
 go_loopw [9] (fun i wr => ∃ (k : Nat) (vl : Value), i = .int .i64 k ∧ k ≤ n ∧ TI (fun _ => False) (w.heap.size + 2) (w.heap.size + 1) 4 WB [] ((row.take k).map textJ) (.slice none 0 0) vl wr) (fun i _ => n - (intOf i).toNat)
 case atStart => exact ⟨0, _, rfl, Nat.zero_le _, hti0⟩
 case round =>
  clear hti0
  obtain ⟨k, vl, rfl, hk, hti⟩ := hrel
  obtain ⟨js, hjs⟩ : ∃ js, (row.take k).map textJ = js := ⟨_, rfl⟩
  have hjl : js.length = k := by rw [← hjs, List.length_map, List.length_take, HN.out]; omega
  by_cases hlt : k < n
  · have hki : (k : Int) < (n : Int) := by omega
    have hkl : k < row.length := by rw [HN.out]; exact hlt
    obtain ⟨a, hpa, hOa, hca⟩ := hrd.2 k hkl
    subst hpa
    have hcell : wr.cell? (a.add k) = some (.string (row.getD k nix)) := by
     have h1 := hO _ hOa
     have h2 := hti.szB
     exact (World.cell?_of_block (by rw [add_block]; exact (hti.keep.block _ (by omega) (by unfold One; omega)).trans (hbw.block _ h1))).trans hca
    obtain ⟨u, hu⟩ : ∃ u, row.getD k nix = u := ⟨_, rfl⟩
    have HTS : Hid ((row.take (k + 1)).map textJ = js ++ [textJ u]) := by
     show _ = _
     rw [List.take_add_one, List.getElem?_eq_getElem hkl, List.map_append, hjs, ← hu, List.getD_eq_getElem?_getD, List.getElem?_eq_getElem hkl]; rfl
    rw [hu] at hcell
    rw [hjs] at hti
    clear hu hca hkl hjs
    have hd := hti.drew
    have hT := etext_any u wr.drew
    obtain ⟨ql, cl', hvl⟩ : ∃ q c, vl = .slice q js.length c := by
     obtain ⟨xs0, hv10, _⟩ := hti.vals
     exact own_sl hv10
    subst hvl
    have HJL : Hid (js.length = k) := hjl
    have hjb : js.length ≤ 100000 := by omega
    clear hjl
    go_wp2
    have c0 := five_c4 hd.obj
    refine wp_region_in (by kernel_rfl) (fun _ => True) ?_
    change wpIn _ _ _ _ _ _ _ _ (World.drew _)
    refine wpIn_tk (i := 0) (d := some 13) rfl ?_
    refine wpIn_tk (i := 2) (d := some 15) rfl ?_
    refine wpIn_pair (i := 1) (j := 3) trivial (by kernel_rfl) rfl rfl (by rfl) (by rfl) ?_ ?_
    · intro K hK
      go_simp
      refine hK _ _ ?_
      clear hK K
      refine wpIn_do (i := 3) trivial (by kernel_rfl) rfl (by rfl) ?_
      intro K hK
      go_simp
      go_wp2_with (go_at_call 86; refine hT.mono ?_; rintro x w3 ⟨rfl, hb3⟩)
      have h3 := hd.more hb3
      have hA := h3.alloc (.cells #[.int .i64 3, .int .i64 0, .string u, .slice none 0 0, .slice none 0 0] 25)
      obtain ⟨xs, hv1, hv2⟩ := hA.vals
      have c1 := five_c4 h3.obj
      have c2 := five_c4 hA.obj
      refine wpIn_do (i := 4) trivial (by kernel_rfl) rfl (by rfl) ?_
      intro K hK
      go_simp
      refine hK _ _ ?_
      clear hK K
      refine wpIn_do (i := 5) trivial (by kernel_rfl) rfl (by rfl) ?_
      intro K hK
      refine wp_append_at (.tmp 14) (.tmp 17) 23 rfl (w.heap.size + 2) 25 (.agg #[.int .i64 0, .int .i64 0, .string ⟨#[]⟩, .slice none 0 0, .slice none 0 0]) 5 80 Tryz.underlying23 Tryz.info25 rfl (by decide) (by decide) _ js.length xs rfl hv1 _ [.int .i64 3, .int .i64 0, .string u, .slice none 0 0, .slice none 0 0] rfl rfl (five_at2 rfl) (text_one u) (by omega) hA.size ?_
      intro vl2 W4 hown4 hg4 hat4
      refine hK _ _ ?_
      clear hK K
      obtain ⟨b4, c4, hv4⟩ := own_some hown4
      subst hv4
      obtain ⟨g0, g1, hti5⟩ := hA.push hv1 hv2 (eisJ_text _ _ u) hown4 hg4 hat4
      clear hown4 hg4 hat4
      refine wpIn_tk (i := 6) (d := some 19) rfl ?_
      refine wpIn_do (i := 7) trivial (by kernel_rfl) rfl (by rfl) ?_
      intro K hK
      go_simp
      refine hK _ _ ?_
      clear hK K
      refine wpIn_done trivial (by kernel_rfl) ?_ _
      clear g0 g1 c0 c1 c2
      go_wp2
      go_roundw
      case rel => exact ⟨k + 1, _, by go_num, hlt, by rw [HTS.out]; exact hti5⟩
      case measure => simp [intOf]; omega
    · intro K hK
      go_simp
      go_wp2_with (go_at_call 86; refine hT.mono ?_; rintro x w3 ⟨rfl, hb3⟩)
      have h3 := hd.more hb3
      have hA := h3.alloc (.cells #[.int .i64 3, .int .i64 0, .string u, .slice none 0 0, .slice none 0 0] 25)
      obtain ⟨xs, hv1, hv2⟩ := hA.vals
      have c1 := five_c4 h3.obj
      have c2 := five_c4 hA.obj
      refine wpIn_pair (i := 1) (j := 4) trivial (by kernel_rfl) rfl rfl (by rfl) (by rfl) ?_ ?_
      · intro K hK
        go_simp
        refine hK _ _ ?_
        clear hK K
        refine wpIn_do (i := 4) trivial (by kernel_rfl) rfl (by rfl) ?_
        intro K hK
        go_simp
        refine hK _ _ ?_
        clear hK K
        refine wpIn_do (i := 5) trivial (by kernel_rfl) rfl (by rfl) ?_
        intro K hK
        refine wp_append_at (.tmp 14) (.tmp 17) 23 rfl (w.heap.size + 2) 25 (.agg #[.int .i64 0, .int .i64 0, .string ⟨#[]⟩, .slice none 0 0, .slice none 0 0]) 5 80 Tryz.underlying23 Tryz.info25 rfl (by decide) (by decide) _ js.length xs rfl hv1 _ [.int .i64 3, .int .i64 0, .string u, .slice none 0 0, .slice none 0 0] rfl rfl (five_at2 rfl) (text_one u) (by omega) hA.size ?_
        intro vl2 W4 hown4 hg4 hat4
        refine hK _ _ ?_
        clear hK K
        obtain ⟨b4, c4, hv4⟩ := own_some hown4
        subst hv4
        obtain ⟨g0, g1, hti5⟩ := hA.push hv1 hv2 (eisJ_text _ _ u) hown4 hg4 hat4
        clear hown4 hg4 hat4
        refine wpIn_tk (i := 6) (d := some 19) rfl ?_
        refine wpIn_do (i := 7) trivial (by kernel_rfl) rfl (by rfl) ?_
        intro K hK
        go_simp
        refine hK _ _ ?_
        clear hK K
        refine wpIn_done trivial (by kernel_rfl) ?_ _
        clear g0 g1 c0 c1 c2
        go_wp2
        go_roundw
        case rel => exact ⟨k + 1, _, by go_num, hlt, by rw [HTS.out]; exact hti5⟩
        case measure => simp [intOf]; omega
      · intro K hK
        go_simp
        refine hK _ _ ?_
        clear hK K
        refine wpIn_do (i := 1) trivial (by kernel_rfl) rfl (by rfl) ?_
        intro K hK
        go_simp
        refine hK _ _ ?_
        clear hK K
        refine wpIn_do (i := 5) trivial (by kernel_rfl) rfl (by rfl) ?_
        intro K hK
        refine wp_append_at (.tmp 14) (.tmp 17) 23 rfl (w.heap.size + 2) 25 (.agg #[.int .i64 0, .int .i64 0, .string ⟨#[]⟩, .slice none 0 0, .slice none 0 0]) 5 80 Tryz.underlying23 Tryz.info25 rfl (by decide) (by decide) _ js.length xs rfl hv1 _ [.int .i64 3, .int .i64 0, .string u, .slice none 0 0, .slice none 0 0] rfl rfl (five_at2 rfl) (text_one u) (by omega) hA.size ?_
        intro vl2 W4 hown4 hg4 hat4
        refine hK _ _ ?_
        clear hK K
        obtain ⟨b4, c4, hv4⟩ := own_some hown4
        subst hv4
        obtain ⟨g0, g1, hti5⟩ := hA.push hv1 hv2 (eisJ_text _ _ u) hown4 hg4 hat4
        clear hown4 hg4 hat4
        refine wpIn_tk (i := 6) (d := some 19) rfl ?_
        refine wpIn_do (i := 7) trivial (by kernel_rfl) rfl (by rfl) ?_
        intro K hK
        go_simp
        refine hK _ _ ?_
        clear hK K
        refine wpIn_done trivial (by kernel_rfl) ?_ _
        clear g0 g1 c0 c1 c2
        go_wp2
        go_roundw
        case rel => exact ⟨k + 1, _, by go_num, hlt, by rw [HTS.out]; exact hti5⟩
        case measure => simp [intOf]; omega
  · obtain rfl : k = n := by omega
    rw [List.take_of_length_le (by rw [HN.out]; omega)] at hti
    obtain ⟨q2, c2, hvl⟩ : ∃ q c, vl = .slice q (row.map textJ).length c := by
     obtain ⟨xs, hv1, _⟩ := hti.vals
     exact own_sl hv1
    subst hvl
    have hob := hti.obj
    have hrs : wr.heap[w.heap.size]? = some (.cells #[.int .i64 0, .int .i64 0, .string ⟨#[]⟩, .slice none 0 0, .slice none 0 0] 25 (0, 0)) := (hti.keep.block _ (by have := hti.szB; omega) (by unfold One; omega)).trans hres
    have j0 := five_c0 hob; have j1 := five_c1 hob; have j2 := five_c2 hob; have j3 := five_c3 hob; have j4 := five_c4 hob
    have i0 := five_c0 hrs; have i1 := five_c1 hrs; have i2 := five_c2 hrs; have i3 := five_c3 hrs; have i4 := five_c4 hrs
    have z0 := five_fz hrs 0; have z1 := five_fz hrs 1; have z2 := five_fz hrs 2; have z3 := five_fz hrs 3; have z4 := five_fz hrs 4
    obtain ⟨m, hm⟩ : ∃ m, (row.map textJ).length = m := ⟨_, rfl⟩
    have HTI : Hid (TI (fun _ => False) (w.heap.size + 2) (w.heap.size + 1) 4 WB [] (row.map textJ) (.slice none 0 0) (.slice q2 m c2) wr) := hm ▸ hti
    rw [hm] at j4
    have h5 := set5_heap hrs (.int .i64 4) (.int .i64 0) (.string ⟨#[]⟩) (.slice none 0 0) (.slice q2 m c2)
    have HK5 : Keep (One w.heap.size) wr _ := set5_keep wr w.heap.size (.int .i64 4) (.int .i64 0) (.string ⟨#[]⟩) (.slice none 0 0) (.slice q2 m c2)
    unfold set5 at h5 HK5
    have k0 := five_c0 h5; have k1 := five_c1 h5; have k2 := five_c2 h5; have k3 := five_c3 h5; have k4 := five_c4 h5
    clear hti hob hrs hm hjl hjs
    go_wp2
    refine bodyPost_ret (v := .agg #[.int .i64 4, .int .i64 0, .string ⟨#[]⟩, .slice none 0 0, .slice q2 m c2]) (by simp [results, Tryz.results84, go_sem, k0, k1, k2, k3, k4]) rfl ?_
    obtain ⟨r1, r2⟩ := HTI.out.done hbw HK5
    exact ⟨⟨_, _, _, rfl, r1⟩, r2⟩
end Go.Proofs.YtldegjjaknelgabGreatDoor

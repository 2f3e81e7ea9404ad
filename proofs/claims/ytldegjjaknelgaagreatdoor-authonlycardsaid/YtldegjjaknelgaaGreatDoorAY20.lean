/-
  Lists of texts, and maps of signatures, as JSON: by contracts.
  Whether a content may be, and names: by contracts.
-/
import Derived.Test.YtldegjjaknelgaaGreatDoorAY19
set_option maxRecDepth 100000
set_option maxHeartbeats 16000000
namespace Go.Proofs.YtldegjjaknelgaaGreatDoor
open Go.RowKit
theorem text_one (u : ByteArray) : ∀ v ∈ [Value.int .i64 3, .int .i64 0, .string u, .slice none 0 0, .slice none 0 0], v.oneCell' = true := by
 intro v hv
 simp at hv
 rcases hv with rfl | rfl | rfl | rfl <;> rfl
theorem eisJ_text (O : Nat → Prop) (w : World) (u : ByteArray) : isJ O w (textJ u) [.int .i64 3, .int .i64 0, .string u, .slice none 0 0, .slice none 0 0] := by
 unfold textJ isJ
 exact ⟨none, 0, none, 0, rfl, RdK.nil _ _, Nat.le_refl _, by unfold isJs; trivial⟩
theorem isJ_num (O : Nat → Prop) (w : World) (n : Int) : isJ O w (numJ n) [.int .i64 2, .int .i64 n, .string nix, .slice none 0 0, .slice none 0 0] := by
 unfold numJ isJ
 exact ⟨none, 0, none, 0, rfl, RdK.nil _ _, Nat.le_refl _, by unfold isJs; trivial⟩
theorem two_at {w : World} (o1 o2 : Obj) : ((w.alloc o1).alloc o2).heap[w.heap.size + 1]? = some o2 := by
 have := heap_alloc_new (w.alloc o1) o2
 simpa using this
theorem one_of {w : World} (o1 o2 : Obj) : ((w.alloc o1).alloc o2).heap[w.heap.size]? = some o1 := by
 rw [Below.heap_alloc _ _ _ (by simp)]
 exact heap_alloc_new _ _
theorem TI.push {O : Nat → Prop} {B g : Nat} {kd : Int} {WB W W4 : World} {ks : List ByteArray} {js : List J} {vk vl vl' : Value} {y : J} {cs xs : List Value} (h : TI O B g kd WB ks js vk vl W) (hv1 : W.ownsRow B 25 5 vl js.length xs) (hv2 : isRow (Els O B vk vl W) W js xs) (hy : isJ (Els O B vk vl W) W y cs)
    (hown : W4.ownsRow B 25 5 vl' (js.length + 1) (xs ++ cs)) (hg : W.grownBy W4 vl.ownBlock) (hat : vl'.ownBlock = vl.ownBlock ∨ vl'.ownBlock = some W.heap.size) :
    W4.cell? ⟨g, 4, none⟩ = some vl ∧ W4.frozen? ⟨g, 4, none⟩ = false ∧ TI O B g kd WB ks (js ++ [y]) vk vl' (W4.setCell ⟨g, 4, none⟩ vl') := by
 have hgv := own_ge hv1
 have hlt := h.lt
 have hsz := h.size
 have ob : W4.heap[g]? = some (.cells #[.int .i64 kd, .int .i64 0, .string ⟨#[]⟩, vk, vl] 25 (0, 0)) := (hg.block g (by omega) fun e => by have := (hgv g e.symm).1; omega).trans h.obj
 have K3 : Keep (One g) W4 (W4.setCell ⟨g, 4, none⟩ vl') := Keep.setCell (Keep.refl _ _) (fun _ => (rfl : g = g)) _
 refine ⟨five_c4 ob, five_fz ob 4, h.val hv1 hv2 hy hg hat (by rw [heap_setCell_same _ g 4 _ _ _ ob]; rfl) (own_keep hown K3 fun q e => by have := (own_ge hown q e).1; unfold One; omega) (K3.mono fun q _ e => .inl e)⟩
theorem TI.done {w WB wr W5 : World} {kd : Int} {ks : List ByteArray} {js : List J} {q1 q2 : Option Addr} {n1 n2 c1 c2 : Nat} (h : TI (fun _ => False) (w.heap.size + 2) (w.heap.size + 1) kd WB ks js (.slice q1 n1 c1) (.slice q2 n2 c2) wr) (hbw : Below w.heap.size w WB) (HK5 : Keep (One w.heap.size) wr W5) :
    isJ (New w W5) W5 (.mk kd 0 nix ks js) [.int .i64 kd, .int .i64 0, .string nix, .slice q1 n1 c1, .slice q2 n2 c2] ∧ Below w.heap.size w W5 := by
 have hsz := h.size
 have h5 := HK5.size
 have hszB := h.szB
 obtain ⟨xs, hv1, hv2⟩ := h.vals
 obtain ⟨q1', c1', e1, hrk⟩ := own_rdK h.keys
 obtain ⟨q2', c2', e2, hc2, hrj⟩ := own_js hv1 hv2
 cases e1
 cases e2
 have carry : ∀ k, w.heap.size + 2 ≤ k → k < wr.heap.size → New w W5 k ∧ W5.heap[k]? = wr.heap[k]? := fun k h1 h2 => ⟨⟨by omega, by omega⟩, HK5.block k h2 (by unfold One; omega)⟩
 refine ⟨?_, ?_⟩
 · unfold isJ
   refine ⟨q1, c1, q2, c2, rfl, hrk.carry fun k hk => carry k hk.1 hk.2, hc2, hrj.carry fun k hk => ?_⟩
   rcases hk with hk | hk
   · rcases hk with hk | hk
     · exact hk.elim
     · exact carry k hk.1 hk.2.1
   · exact carry k hk.1 hk.2
 · exact (hbw.trans (h.keep.below (by omega) fun k hk => by unfold One; omega)).trans (HK5.below (by omega) fun k hk => by unfold One; omega)
theorem etexts_any {O : Nat → Prop} {row : List ByteArray} {p : Option Addr} {c : Nat} {w : World} (hrd : RdK O w p c row) (hO : ∀ k, O k → k < w.heap.size) (hl : row.length ≤ 100000) :
    Calls Tryz.prog 115 #[.slice p row.length c] w fun x w' => (∃ pl nl cl, x = .returned (.agg #[.int .i64 4, .int .i64 0, .string nix, .slice none 0 0, .slice pl nl cl]) ∧ isJ (New w w') w' (textsJ row) [.int .i64 4, .int .i64 0, .string nix, .slice none 0 0, .slice pl nl cl]) ∧ Below w.heap.size w w' := by
 obtain ⟨n, hn⟩ : ∃ n, row.length = n := ⟨_, rfl⟩
 have HN : Hid (row.length = n) := hn
 have hcc := hrd.1
 rw [hn] at hl hcc ⊢
 clear hn
 obtain ⟨WB, hWB⟩ : ∃ WB, WB = (w.alloc (.cells #[.int .i64 0, .int .i64 0, .string ⟨#[]⟩, .slice none 0 0, .slice none 0 0] 25)).alloc (.cells #[.int .i64 4, .int .i64 0, .string ⟨#[]⟩, .slice none 0 0, .slice none 0 0] 25) := ⟨_, rfl⟩
 have hbw : Below w.heap.size w WB := by rw [hWB]; exact ((Below.refl _ _).alloc (Nat.le_refl _) _).alloc (by simp) _
 have hres : WB.heap[w.heap.size]? = some (.cells #[.int .i64 0, .int .i64 0, .string ⟨#[]⟩, .slice none 0 0, .slice none 0 0] 25 (0, 0)) := by rw [hWB]; exact one_of _ _
 have hti0 : TI (fun _ => False) (w.heap.size + 2) (w.heap.size + 1) 4 WB [] [] (.slice none 0 0) (.slice none 0 0) WB := TI.start (by rw [hWB]; simp) (by omega) (fun k h => h.elim) (by rw [hWB]; exact two_at _ _)
 go_enter Tryz.func115, Tryz.ntmps115
 go_wp2
 rw [← hWB]
 clear hWB
 go_loopw [9] (fun i wr => ∃ (k : Nat) (vl : Value), i = .int .i64 k ∧ k ≤ n ∧ TI (fun _ => False) (w.heap.size + 2) (w.heap.size + 1) 4 WB [] ((row.take k).map textJ) (.slice none 0 0) vl wr) (fun i _ => n - (intOf i).toNat)
 case atStart => exact ⟨0, _, rfl, Nat.zero_le _, hti0⟩
 case round =>
  clear hti0
  obtain ⟨k, vl, rfl, hk, hti⟩ := hrel
  obtain ⟨js, hjs⟩ : ∃ js, (row.take k).map textJ = js := ⟨_, rfl⟩
  have hjl : js.length = k := by rw [← hjs, List.length_map, List.length_take, HN.out]; omega
  by_cases hlt : k < n
  · have hki : (k : Int) < (n : Int) := by omega
    have hkl : k < row.length := by rw [HN.out]; exact hlt
    obtain ⟨a, hpa, hOa, hca⟩ := hrd.2 k hkl
    subst hpa
    have hcell : wr.cell? (a.add k) = some (.string (row.getD k nix)) := by
     have h1 := hO _ hOa
     have h2 := hti.szB
     exact (World.cell?_of_block (by rw [add_block]; exact (hti.keep.block _ (by omega) (by unfold One; omega)).trans (hbw.block _ h1))).trans hca
    obtain ⟨u, hu⟩ : ∃ u, row.getD k nix = u := ⟨_, rfl⟩
    have HTS : Hid ((row.take (k + 1)).map textJ = js ++ [textJ u]) := by
     show _ = _
     rw [List.take_add_one, List.getElem?_eq_getElem hkl, List.map_append, hjs, ← hu, List.getD_eq_getElem?_getD, List.getElem?_eq_getElem hkl]; rfl
    rw [hu] at hcell
    rw [hjs] at hti
    clear hu hca hkl hjs
    have hd := hti.drew
    have hT := etext_any u wr.drew
    obtain ⟨ql, cl', hvl⟩ : ∃ q c, vl = .slice q js.length c := by
     obtain ⟨xs0, hv10, _⟩ := hti.vals
     exact own_sl hv10
    subst hvl
    have HJL : Hid (js.length = k) := hjl
    have hjb : js.length ≤ 100000 := by omega
    clear hjl
    go_wp2
    have c0 := five_c4 hd.obj
    refine wp_region_in (by kernel_rfl) (fun _ => True) ?_
    change wpIn _ _ _ _ _ _ _ _ (World.drew _)
    refine wpIn_tk (i := 0) (d := some 13) rfl ?_
    refine wpIn_tk (i := 2) (d := some 15) rfl ?_
    refine wpIn_pair (i := 1) (j := 3) trivial (by kernel_rfl) rfl rfl (by rfl) (by rfl) ?_ ?_
    · intro K hK
      go_simp
      refine hK _ _ ?_
      clear hK K
      refine wpIn_do (i := 3) trivial (by kernel_rfl) rfl (by rfl) ?_
      intro K hK
      go_simp
      go_wp2_with (go_at_call 117; refine hT.mono ?_; rintro x w3 ⟨rfl, hb3⟩)
      have h3 := hd.more hb3
      have hA := h3.alloc (.cells #[.int .i64 3, .int .i64 0, .string u, .slice none 0 0, .slice none 0 0] 25)
      obtain ⟨xs, hv1, hv2⟩ := hA.vals
      have c1 := five_c4 h3.obj
      have c2 := five_c4 hA.obj
      refine wpIn_do (i := 4) trivial (by kernel_rfl) rfl (by rfl) ?_
      intro K hK
      go_simp
      refine hK _ _ ?_
      clear hK K
      refine wpIn_do (i := 5) trivial (by kernel_rfl) rfl (by rfl) ?_
      intro K hK
      refine wp_append_at (.tmp 14) (.tmp 17) 23 rfl (w.heap.size + 2) 25 (.agg #[.int .i64 0, .int .i64 0, .string ⟨#[]⟩, .slice none 0 0, .slice none 0 0]) 5 80 Tryz.underlying23 Tryz.info25 rfl (by decide) (by decide) _ js.length xs rfl hv1 _ [.int .i64 3, .int .i64 0, .string u, .slice none 0 0, .slice none 0 0] rfl rfl (five_at2 rfl) (text_one u) (by omega) hA.size ?_
      intro vl2 W4 hown4 hg4 hat4
      refine hK _ _ ?_
      clear hK K
      obtain ⟨b4, c4, hv4⟩ := own_some hown4
      subst hv4
      obtain ⟨g0, g1, hti5⟩ := hA.push hv1 hv2 (eisJ_text _ _ u) hown4 hg4 hat4
      clear hown4 hg4 hat4
      refine wpIn_tk (i := 6) (d := some 19) rfl ?_
      refine wpIn_do (i := 7) trivial (by kernel_rfl) rfl (by rfl) ?_
      intro K hK
      go_simp
      refine hK _ _ ?_
      clear hK K
      refine wpIn_done trivial (by kernel_rfl) ?_ _
      clear g0 g1 c0 c1 c2
      go_wp2
      go_roundw
      case rel => exact ⟨k + 1, _, by go_num, hlt, by rw [HTS.out]; exact hti5⟩
      case measure => simp [intOf]; omega
    · intro K hK
      go_simp
      go_wp2_with (go_at_call 117; refine hT.mono ?_; rintro x w3 ⟨rfl, hb3⟩)
      have h3 := hd.more hb3
      have hA := h3.alloc (.cells #[.int .i64 3, .int .i64 0, .string u, .slice none 0 0, .slice none 0 0] 25)
      obtain ⟨xs, hv1, hv2⟩ := hA.vals
      have c1 := five_c4 h3.obj
      have c2 := five_c4 hA.obj
      refine wpIn_pair (i := 1) (j := 4) trivial (by kernel_rfl) rfl rfl (by rfl) (by rfl) ?_ ?_
      · intro K hK
        go_simp
        refine hK _ _ ?_
        clear hK K
        refine wpIn_do (i := 4) trivial (by kernel_rfl) rfl (by rfl) ?_
        intro K hK
        go_simp
        refine hK _ _ ?_
        clear hK K
        refine wpIn_do (i := 5) trivial (by kernel_rfl) rfl (by rfl) ?_
        intro K hK
        refine wp_append_at (.tmp 14) (.tmp 17) 23 rfl (w.heap.size + 2) 25 (.agg #[.int .i64 0, .int .i64 0, .string ⟨#[]⟩, .slice none 0 0, .slice none 0 0]) 5 80 Tryz.underlying23 Tryz.info25 rfl (by decide) (by decide) _ js.length xs rfl hv1 _ [.int .i64 3, .int .i64 0, .string u, .slice none 0 0, .slice none 0 0] rfl rfl (five_at2 rfl) (text_one u) (by omega) hA.size ?_
        intro vl2 W4 hown4 hg4 hat4
        refine hK _ _ ?_
        clear hK K
        obtain ⟨b4, c4, hv4⟩ := own_some hown4
        subst hv4
        obtain ⟨g0, g1, hti5⟩ := hA.push hv1 hv2 (eisJ_text _ _ u) hown4 hg4 hat4
        clear hown4 hg4 hat4
        refine wpIn_tk (i := 6) (d := some 19) rfl ?_
        refine wpIn_do (i := 7) trivial (by kernel_rfl) rfl (by rfl) ?_
        intro K hK
        go_simp
        refine hK _ _ ?_
        clear hK K
        refine wpIn_done trivial (by kernel_rfl) ?_ _
        clear g0 g1 c0 c1 c2
        go_wp2
        go_roundw
        case rel => exact ⟨k + 1, _, by go_num, hlt, by rw [HTS.out]; exact hti5⟩
        case measure => simp [intOf]; omega
      · intro K hK
        go_simp
        refine hK _ _ ?_
        clear hK K
        refine wpIn_do (i := 1) trivial (by kernel_rfl) rfl (by rfl) ?_
        intro K hK
        go_simp
        refine hK _ _ ?_
        clear hK K
        refine wpIn_do (i := 5) trivial (by kernel_rfl) rfl (by rfl) ?_
        intro K hK
        refine wp_append_at (.tmp 14) (.tmp 17) 23 rfl (w.heap.size + 2) 25 (.agg #[.int .i64 0, .int .i64 0, .string ⟨#[]⟩, .slice none 0 0, .slice none 0 0]) 5 80 Tryz.underlying23 Tryz.info25 rfl (by decide) (by decide) _ js.length xs rfl hv1 _ [.int .i64 3, .int .i64 0, .string u, .slice none 0 0, .slice none 0 0] rfl rfl (five_at2 rfl) (text_one u) (by omega) hA.size ?_
        intro vl2 W4 hown4 hg4 hat4
        refine hK _ _ ?_
        clear hK K
        obtain ⟨b4, c4, hv4⟩ := own_some hown4
        subst hv4
        obtain ⟨g0, g1, hti5⟩ := hA.push hv1 hv2 (eisJ_text _ _ u) hown4 hg4 hat4
        clear hown4 hg4 hat4
        refine wpIn_tk (i := 6) (d := some 19) rfl ?_
        refine wpIn_do (i := 7) trivial (by kernel_rfl) rfl (by rfl) ?_
        intro K hK
        go_simp
        refine hK _ _ ?_
        clear hK K
        refine wpIn_done trivial (by kernel_rfl) ?_ _
        clear g0 g1 c0 c1 c2
        go_wp2
        go_roundw
        case rel => exact ⟨k + 1, _, by go_num, hlt, by rw [HTS.out]; exact hti5⟩
        case measure => simp [intOf]; omega
  · obtain rfl : k = n := by omega
    rw [List.take_of_length_le (by rw [HN.out]; omega)] at hti
    obtain ⟨q2, c2, hvl⟩ : ∃ q c, vl = .slice q (row.map textJ).length c := by
     obtain ⟨xs, hv1, _⟩ := hti.vals
     exact own_sl hv1
    subst hvl
    have hob := hti.obj
    have hrs : wr.heap[w.heap.size]? = some (.cells #[.int .i64 0, .int .i64 0, .string ⟨#[]⟩, .slice none 0 0, .slice none 0 0] 25 (0, 0)) := (hti.keep.block _ (by have := hti.szB; omega) (by unfold One; omega)).trans hres
    have j0 := five_c0 hob; have j1 := five_c1 hob; have j2 := five_c2 hob; have j3 := five_c3 hob; have j4 := five_c4 hob
    have i0 := five_c0 hrs; have i1 := five_c1 hrs; have i2 := five_c2 hrs; have i3 := five_c3 hrs; have i4 := five_c4 hrs
    have z0 := five_fz hrs 0; have z1 := five_fz hrs 1; have z2 := five_fz hrs 2; have z3 := five_fz hrs 3; have z4 := five_fz hrs 4
    obtain ⟨m, hm⟩ : ∃ m, (row.map textJ).length = m := ⟨_, rfl⟩
    have HTI : Hid (TI (fun _ => False) (w.heap.size + 2) (w.heap.size + 1) 4 WB [] (row.map textJ) (.slice none 0 0) (.slice q2 m c2) wr) := hm ▸ hti
    rw [hm] at j4
    have h5 := set5_heap hrs (.int .i64 4) (.int .i64 0) (.string ⟨#[]⟩) (.slice none 0 0) (.slice q2 m c2)
    have HK5 : Keep (One w.heap.size) wr _ := set5_keep wr w.heap.size (.int .i64 4) (.int .i64 0) (.string ⟨#[]⟩) (.slice none 0 0) (.slice q2 m c2)
    unfold set5 at h5 HK5
    have k0 := five_c0 h5; have k1 := five_c1 h5; have k2 := five_c2 h5; have k3 := five_c3 h5; have k4 := five_c4 h5
    clear hti hob hrs hm hjl hjs
    go_wp2
    refine bodyPost_ret (v := .agg #[.int .i64 4, .int .i64 0, .string ⟨#[]⟩, .slice none 0 0, .slice q2 m c2]) (by simp [results, Tryz.results115, go_sem, k0, k1, k2, k3, k4]) rfl ?_
    obtain ⟨r1, r2⟩ := HTI.out.done hbw HK5
    exact ⟨⟨_, _, _, rfl, r1⟩, r2⟩
theorem sz_list {d : Nat} {c : J} (h : szJ (d + 1) c = true) : szJ (d + 1) (.mk 4 0 nix [] [c]) = true := by
 have := sz_less d (d + 1) c (by omega) h
 unfold szJ
 rw [show List.all [c] (szJ d) = true by rw [List.all_cons, this]; rfl]
 rfl
theorem filled_any {w : World} {O : Nat → Prop} {j : J} {k i : Int} {t : ByteArray} {pk pl : Option Addr} {nk ck nl cl : Nat} (hO : ∀ x, O x → x < w.heap.size) (hsz : szJ 12 j = true)
    (hj : isJ O w j [.int .i64 k, .int .i64 i, .string t, .slice pk nk ck, .slice pl nl cl]) :
    Calls Tryz.prog 105 #[.agg #[.int .i64 k, .int .i64 i, .string t, .slice pk nk ck, .slice pl nl cl]] w fun x w' => x = .returned (.bool (filledE j)) ∧ Below w.heap.size w w' := by
 obtain ⟨W3, hW3⟩ : ∃ W3, W3 = ((w.alloc (.cells #[.int .i64 k, .int .i64 i, .string t, .slice pk nk ck, .slice pl nl cl] 25)).alloc (.cells #[.int .i64 k, .int .i64 i, .string t, .slice pk nk ck, .slice pl nl cl] 25)).alloc (.cells #[.int .i64 4, .int .i64 0, .string ⟨#[]⟩, .slice none 0 0, .slice (some ⟨w.heap.size + 1, 0, none⟩) 1 1] 25) := ⟨_, rfl⟩
 have hbw : Below w.heap.size w W3 := by rw [hW3]; exact (((Below.refl _ _).alloc (Nat.le_refl _) _).alloc (by simp) _).alloc (by simp; omega) _
 have hs3 : W3.heap.size = w.heap.size + 3 := by rw [hW3]; simp
 have hm : W3.heap[w.heap.size + 1]? = some (.cells #[.int .i64 k, .int .i64 i, .string t, .slice pk nk ck, .slice pl nl cl] 25 (0, 0)) := by
  rw [hW3, Below.heap_alloc _ _ _ (by simp)]; exact two_at _ _
 have hj3 : isJ (fun x => O x ∨ x = w.heap.size + 1) W3 (.mk 4 0 nix [] [j]) [.int .i64 4, .int .i64 0, .string nix, .slice none 0 0, .slice (some ⟨w.heap.size + 1, 0, none⟩) 1 1] := by
  unfold isJ
  refine ⟨none, 0, some ⟨w.heap.size + 1, 0, none⟩, 1, rfl, RdK.nil _ _, Nat.le_refl _, ?_⟩
  unfold isJs
  refine ⟨⟨_, 0, _, rfl, .inr rfl, fun i v hi => ?_, hj.carry fun x hx => ⟨.inl hx, hbw.block x (hO x hx)⟩⟩, by unfold isJs; trivial⟩
  rw [Nat.zero_mul, Nat.add_zero, Nat.zero_add]
  exact cell_row (cur := [_, _, _, _, _]) hm i v hi
 have hG := good_any (w := W3) (fun x hx => by rw [hs3]; rcases hx with hx | hx; have := hO x hx; omega; omega) (sz_list hsz) hj3
 have HF : Hid (filledE j = (decide (k = 5) && goodJ 12 (.mk 4 0 nix [] [j]))) := by
  show _ = _
  unfold filledE
  cases j with
  | mk k' i' t' ks l =>
   unfold isJ at hj
   obtain ⟨_, _, _, _, e, _⟩ := hj
   cases e
   rfl
 rw [hW3] at hG hbw
 clear hm hj3 hs3 hW3
 by_cases hk : k = 5
 · subst hk
   go_enter Tryz.func105, Tryz.ntmps105
   go_wp2_with (go_at_call 110; refine hG.mono ?_; rintro x w2 ⟨rfl, hb2⟩)
   go_ret
   exact ⟨ret_bool (by rw [HF.out]; rfl), below_in hbw hb2⟩
 · have hk' : decide (k = 5) = false := decide_eq_false hk
   go_enter Tryz.func105, Tryz.ntmps105
   go_wp2
   go_ret
   exact ⟨ret_bool (by rw [HF.out, hk']; rfl), hbw⟩
theorem named_any {O : Nat → Prop} {ks : List ByteArray} {p : Option Addr} {c : Nat} {w : World} (m : Nat) (hrd : RdK O w p c ks) (hO : ∀ k, O k → k < w.heap.size) (hl : ks.length ≤ 100000) (hkz : ∀ k ∈ ks, k.size ≤ 1000000000) :
    Calls Tryz.prog 106 #[.slice p ks.length c, .int .i64 m] w fun x w' => x = .returned (.bool (namedE m ks)) ∧ Below w.heap.size w w' := by
 have hon := once_any hrd hO hl hkz
 obtain ⟨n, hn⟩ : ∃ n, ks.length = n := ⟨_, rfl⟩
 have HN : Hid (ks.length = n) := hn
 have hcc := hrd.1
 rw [hn] at hl hcc hon ⊢
 clear hn
 by_cases hlong : (m : Int) < (n : Int)
 · have HF : Hid (namedE m ks = false) := by
     show _ = _
     unfold namedE
     rw [HN.out, decide_eq_false (by omega)]; rfl
   clear hon
   go_enter Tryz.func106, Tryz.ntmps106
   go_wp2
   go_ret
   exact ⟨ret_bool HF.out.symm, Below.refl _ _⟩
 cases hd : noKeyTwice ks with
 | false =>
  have HF : Hid (namedE m ks = false) := by
   show _ = _
   unfold namedE
   rw [hd]; simp
  rw [hd] at hon
  go_enter Tryz.func106, Tryz.ntmps106
  go_wp2_with (go_at_call 132; refine hon.mono ?_; rintro x w1 ⟨rfl, hb1⟩)
  go_ret
  exact ⟨ret_bool HF.out.symm, hb1⟩
 | true =>
  have HE : Hid (namedE m ks = ks.all Id.evt) := by
   show _ = _
   unfold namedE
   rw [hd, HN.out, decide_eq_true (by omega)]; rfl
  rw [hd] at hon
  clear hd
  go_enter Tryz.func106, Tryz.ntmps106
  go_wp2_with (go_at_call 132; refine hon.mono ?_; rintro x w1 ⟨rfl, hb1⟩)
  go_loopw [18] (fun i wr => ∃ k : Nat, i = .int .i64 k ∧ k ≤ n ∧ Hid (∀ j, j < k → Id.evt (ks.getD j nix) = true) ∧ Below w.heap.size w wr) (fun i _ => n - (intOf i).toNat)
  case atStart => exact ⟨0, rfl, Nat.zero_le _, fun j hj => absurd hj (by omega), hb1⟩
  case round =>
   obtain ⟨k, rfl, hk, HG, hb⟩ := hrel
   by_cases hlt : k < n
   · have hki : (k : Int) < (n : Int) := by omega
     have hkl : k < ks.length := by rw [HN.out]; exact hlt
     obtain ⟨a, hpa, hOa, hca⟩ := hrd.2 k hkl
     subst hpa
     have hcell : wr.cell? (a.add k) = some (.string (ks.getD k nix)) := (World.cell?_of_block (by rw [add_block]; exact hb.block _ (hO _ hOa))).trans hca
     have hmem : ks.getD k nix ∈ ks := by
      rw [List.getD_eq_getElem?_getD, List.getElem?_eq_getElem hkl]; exact List.getElem_mem _
     have hus : (ks.getD k nix).size ≤ 1000000000 := hkz _ hmem
     have HMEM : Hid (ks.getD k nix ∈ ks) := hmem
     obtain ⟨u, hu⟩ : ∃ u, ks.getD k nix = u := ⟨_, rfl⟩
     have HU : Hid (ks.getD k nix = u) := hu
     rw [hu] at hcell hus HMEM
     clear hu hca hmem hkl
     have hE := Id.event_any u wr (by omega)
     cases he : Id.evt u with
     | true =>
      have HEV : Hid (Id.evt u = true) := he
      rw [he] at hE
      clear he
      go_wp2_with (go_at_call 133; refine hE.mono ?_; rintro x w2 ⟨rfl, hb2⟩)
      go_roundw
      case rel => exact ⟨k + 1, by go_num, hlt, fun j hj => (Nat.lt_succ_iff_lt_or_eq.1 hj).elim (HG.out j) (fun e => by rw [e, HU.out]; exact HEV.out), below_cat hb hb.size hb2⟩
      case measure => simp [intOf]; omega
     | false =>
      have HF : Hid (namedE m ks = false) := by
       show _ = _
       rw [HE.out, List.all_eq_false]
       exact ⟨u, HMEM.out, by rw [he]; decide⟩
      rw [he] at hE
      go_wp2_with (go_at_call 133; refine hE.mono ?_; rintro x w2 ⟨rfl, hb2⟩)
      go_ret
      exact ⟨ret_bool HF.out.symm, below_cat hb hb.size hb2⟩
   · obtain rfl : k = n := by omega
     have HT : Hid (namedE m ks = true) := by
      show _ = _
      rw [HE.out, List.all_eq_true]
      intro x hx
      obtain ⟨j, hj, rfl⟩ := List.getElem_of_mem hx
      have := HG.out j (by rw [← HN.out]; exact hj)
      rw [List.getD_eq_getElem?_getD, List.getElem?_eq_getElem hj] at this
      exact this
     go_wp2
     go_ret
     exact ⟨ret_bool HT.out.symm, hb⟩
end Go.Proofs.YtldegjjaknelgaaGreatDoor

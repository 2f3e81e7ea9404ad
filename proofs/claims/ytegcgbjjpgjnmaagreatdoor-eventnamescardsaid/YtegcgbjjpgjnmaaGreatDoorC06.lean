/-
  A map of keys and values, in order: by a contract.
  A text between its signs, read: by a contract.
-/
import Derived.Test.YtegcgbjjpgjnmaaGreatDoorC05
set_option maxRecDepth 100000
set_option maxHeartbeats 16000000
namespace Go.Proofs.YtegcgbjjpgjnmaaGreatDoor
open Go.RowKit
theorem cell_one_new (w : World) (v : Value) (t : Nat) : ∀ j u, [v][j]? = some u → (w.alloc (.cells #[v] t)).cell? ((⟨w.heap.size, 0, none⟩ : Addr).add j) = some u := by
 intro j u hj
 match j, hj with
 | 0, hj => simp at hj; subst hj; exact cell_row (cur := [_]) (heap_alloc_new _ _) 0 _ rfl
theorem str_one (x : ByteArray) : ∀ u ∈ [Value.string x], u.oneCell' = true := by
 intro u hu; simp at hu; subst hu; rfl
theorem cells_new5 (w : World) (t : Nat) (y0 y1 y2 y3 y4 : Value) : ∀ j u, [y0, y1, y2, y3, y4][j]? = some u → (w.alloc (.cells #[y0, y1, y2, y3, y4] t)).cell? ((⟨w.heap.size, 0, none⟩ : Addr).add j) = some u := by
 intro j u hj
 have e : (⟨w.heap.size, 0, none⟩ : Addr).add j = ⟨w.heap.size, j, none⟩ := by unfold Addr.add; split <;> simp_all
 rw [e]
 exact cell_row (cur := [_, _, _, _, _]) (heap_alloc_new _ _) j u hj
theorem mapOf_any {O : Nat → Prop} {w : World} {ks : List ByteArray} {l : List J} {pk pl : Option Addr} {ck cl : Nat} (hk : RdK O w pk ck ks) (hj : isJs O w pl 0 l) (hll : ks.length = l.length) (hO : ∀ k, O k → k < w.heap.size) (hn : ks.length ≤ 100000) (hd : ks.Pairwise (· ≠ ·)) :
    Calls Tryz.prog 104 #[.slice pk ks.length ck, .slice pl l.length cl] w fun e w' => ∃ cs, e = .returned (.agg cs) ∧ isJ (fun k => O k ∨ New w w' k) w' (mapOf ks l) cs.toList ∧ Below w.heap.size w w' := by
 have HLL : Hid (ks.length = l.length) := hll
 clear hll
 have hbA : Below w.heap.size w ((w.alloc (.cells #[.int .i64 0, .int .i64 0, .string ⟨#[]⟩, .slice none 0 0, .slice none 0 0] 25)).alloc (.cells #[.int .i64 5, .int .i64 0, .string ⟨#[]⟩, .slice none 0 0, .slice none 0 0] 25)) := ((Below.refl _ _).alloc (Nat.le_refl _) _).alloc (by simp) _
 have hkA := hk.below hO hbA
 have hszA : ((w.alloc (.cells #[.int .i64 0, .int .i64 0, .string ⟨#[]⟩, .slice none 0 0, .slice none 0 0] 25)).alloc (.cells #[.int .i64 5, .int .i64 0, .string ⟨#[]⟩, .slice none 0 0, .slice none 0 0] 25)).heap.size = w.heap.size + 2 := by simp
 have hob : ((w.alloc (.cells #[.int .i64 0, .int .i64 0, .string ⟨#[]⟩, .slice none 0 0, .slice none 0 0] 25)).alloc (.cells #[.int .i64 5, .int .i64 0, .string ⟨#[]⟩, .slice none 0 0, .slice none 0 0] 25)).heap[w.heap.size + 1]? = some (.cells #[.int .i64 5, .int .i64 0, .string ⟨#[]⟩, .slice none 0 0, .slice none 0 0] 25 (0, 0)) := by
  have := heap_alloc_new (w.alloc (.cells #[.int .i64 0, .int .i64 0, .string ⟨#[]⟩, .slice none 0 0, .slice none 0 0] 25)) (.cells #[.int .i64 5, .int .i64 0, .string ⟨#[]⟩, .slice none 0 0, .slice none 0 0] 25)
  rw [show (w.alloc (.cells #[.int .i64 0, .int .i64 0, .string ⟨#[]⟩, .slice none 0 0, .slice none 0 0] 25)).heap.size = w.heap.size + 1 by simp] at this
  exact this
 have hres : ((w.alloc (.cells #[.int .i64 0, .int .i64 0, .string ⟨#[]⟩, .slice none 0 0, .slice none 0 0] 25)).alloc (.cells #[.int .i64 5, .int .i64 0, .string ⟨#[]⟩, .slice none 0 0, .slice none 0 0] 25)).heap[w.heap.size]? = some (.cells #[.int .i64 0, .int .i64 0, .string ⟨#[]⟩, .slice none 0 0, .slice none 0 0] 25 (0, 0)) := by
  rw [Below.heap_alloc _ _ _ (by simp)]; exact heap_alloc_new _ _
 go_enter Tryz.func104, Tryz.ntmps104
 go_wp2_with (first
  | (go_at_call 131; refine (rising_any hkA (fun k hk => by have := hO k hk; rw [hszA]; omega) (by omega)).mono ?_; rintro e wB ⟨g, L, rfl, hP, hg1, hg2, hbB⟩))
 rw [hszA] at hg1 hbB
 have hszB := hbB.size
 rw [hszA] at hszB
 have hlen : L.length = ks.length := by rw [hP.1.length_eq]; simp
 have hbw : Below w.heap.size w wB := hbA.trans (hbB.mono (by omega))
 have hmi0 : MI O wB w.heap.size [] [] (.slice none 0 0) (.slice none 0 0) wB := ⟨(hbB.block _ (by omega)).trans hob, (hbB.block _ (by omega)).trans hres, World.ownsRow_nil _ _ _ _, ⟨[], World.ownsRow_nil _ _ _ _, rfl⟩, (fun i h => by cases h), Keep.refl _ _, by omega, hO⟩
 clear hob hres hkA
 go_loopw [12] (fun i wr => ∃ (k : Nat) (vk vl : Value), i = .int .i64 k ∧ k ≤ ks.length ∧ MI O wB w.heap.size ((sel ks l (L.take k)).map (·.1)) ((sel ks l (L.take k)).map (·.2)) vk vl wr) (fun i _ => ks.length - (intOf i).toNat)
 case atStart => exact ⟨0, _, _, rfl, Nat.zero_le _, hmi0⟩
 case round =>
  clear hmi0
  obtain ⟨k, vk, vl, rfl, hkn, hmi⟩ := hrel
  by_cases hlt : k < ks.length
  · obtain ⟨a, ha⟩ : ∃ a, L.getD k 0 = a := ⟨_, rfl⟩
    have hpl : wr.cell? ⟨g, k, none⟩ = some (.int .i64 (a : Int)) := by
     rw [hmi.keep.cell (p := ⟨g, k, none⟩) hg2 (by unfold One; simp only; omega), hP.2.2 k (by omega), ha]
    have hal : a < ks.length := by
     have hm : L.getD k 0 ∈ L := by rw [List.getD_eq_getElem?_getD, List.getElem?_eq_getElem (by omega)]; exact List.getElem_mem _
     have := hP.1.subset hm
     rw [ha] at this
     simpa using this
    have HSEL : Hid (sel ks l (L.take (k + 1)) = sel ks l (L.take k) ++ [(keyAtK ks a, valAt l a)]) := by
     unfold sel
     rw [List.take_add_one, List.getElem?_eq_getElem (by omega : k < L.length), List.map_append]
     rw [List.getD_eq_getElem?_getD, List.getElem?_eq_getElem (by omega : k < L.length)] at ha
     simp only [Option.getD_some] at ha
     rw [ha]; rfl
    obtain ⟨x, hx⟩ : ∃ x, keyAtK ks a = x := ⟨_, rfl⟩
    obtain ⟨y, hy⟩ : ∃ y, valAt l a = y := ⟨_, rfl⟩
    rw [hx, hy] at HSEL
    obtain ⟨adk, rfl, hadk, hck⟩ := hk.2 a hal
    change w.cell? (adk.add a) = some (.string (keyAtK ks a)) at hck
    rw [hx] at hck
    obtain ⟨lb, lo, cs, rfl, hadl, hcl', hyj⟩ := isJs.at l 0 a hj (by rw [← HLL.out]; exact hal)
    change isJ O w (valAt l a) cs at hyj
    rw [hy] at hyj
    rw [Nat.zero_add] at hcl'
    obtain ⟨y0, y1, y2, y3, y4, rfl⟩ : ∃ y0 y1 y2 y3 y4, cs = [y0, y1, y2, y3, y4] := by
     match cs, hyj.five with
     | [y0, y1, y2, y3, y4], _ => exact ⟨y0, y1, y2, y3, y4, rfl⟩
    have hone5 : ∀ u ∈ [y0, y1, y2, y3, y4], u.oneCell' = true := isJ_one hyj
    have hsel : (sel ks l (L.take k)).length = k := by unfold sel; simp; omega
    have hSkl : ((sel ks l (L.take k)).map (·.1)).length = k := by simp [hsel]
    have hSvl : ((sel ks l (L.take k)).map (·.2)).length = k := by simp [hsel]
    obtain ⟨Sk, hSk⟩ : ∃ Sk, (sel ks l (L.take k)).map (·.1) = Sk := ⟨_, rfl⟩
    obtain ⟨Sv, hSv⟩ : ∃ Sv, (sel ks l (L.take k)).map (·.2) = Sv := ⟨_, rfl⟩
    rw [hSk] at hSkl hmi
    rw [hSv] at hSvl hmi
    have HSk : Hid ((sel ks l (L.take (k + 1))).map (·.1) = Sk ++ [x]) := by rw [HSEL.out, List.map_append, hSk]; rfl
    have HSv : Hid ((sel ks l (L.take (k + 1))).map (·.2) = Sv ++ [y]) := by rw [HSEL.out, List.map_append, hSv]; rfl
    have hkeepO : ∀ {Sk' : List ByteArray} {Sv' : List J} {vk' vl' : Value} {W : World}, MI O wB w.heap.size Sk' Sv' vk' vl' W → ∀ i, O i → W.heap[i]? = w.heap[i]? := by
     intro Sk' Sv' vk' vl' W h i hi
     have := hO i hi
     rw [h.keep.block i (by omega) (by unfold One; omega), hbw.block i this]
    have hcx : ∀ {Sk' : List ByteArray} {Sv' : List J} {vk' vl' : Value} (W : World), MI O wB w.heap.size Sk' Sv' vk' vl' W → W.cell? (adk.add a) = some (.string x) := fun W h => (World.cell?_of_block (by rw [add_block]; exact hkeepO h _ hadk)).trans hck
    have hcl5 : ∀ i u, [y0, y1, y2, y3, y4][i]? = some u → w.cell? ⟨lb, lo + a * 5 + i, none⟩ = some u := hcl'
    have hcy : ∀ {Sk' : List ByteArray} {Sv' : List J} {vk' vl' : Value} (W : World), MI O wB w.heap.size Sk' Sv' vk' vl' W → W.cell? ⟨lb, lo + a * 5, none⟩ = some y0 ∧ W.cell? ⟨lb, lo + a * 5 + 1, none⟩ = some y1 ∧ W.cell? ⟨lb, lo + a * 5 + 2, none⟩ = some y2 ∧ W.cell? ⟨lb, lo + a * 5 + 3, none⟩ = some y3 ∧ W.cell? ⟨lb, lo + a * 5 + 4, none⟩ = some y4 := by
     intro Sk' Sv' vk' vl' W h
     have hh := hkeepO h _ hadl
     exact ⟨(World.cell?_of_block hh).trans (hcl5 0 _ rfl), (World.cell?_of_block hh).trans (hcl5 1 _ rfl), (World.cell?_of_block hh).trans (hcl5 2 _ rfl), (World.cell?_of_block hh).trans (hcl5 3 _ rfl), (World.cell?_of_block hh).trans (hcl5 4 _ rfl)⟩
    have hyJ : ∀ {Sk' : List ByteArray} {Sv' : List J} {vk' vl' : Value} (W : World), MI O wB w.heap.size Sk' Sv' vk' vl' W → isJ O W y [y0, y1, y2, y3, y4] := fun W h => hyj.carry fun i hi => ⟨hi, hkeepO h i hi⟩
    have hcx2 : ∀ {Sk' : List ByteArray} {Sv' : List J} {vk' vl' : Value} {W : World} {o : Obj} (W2 : World), (W.alloc o).grownBy W2 vk'.ownBlock → MI O wB w.heap.size Sk' Sv' vk' vl' W → W2.cell? (adk.add a) = some (.string x) := by
     intro Sk' Sv' vk' vl' W o W2 hg h
     have h1 := h.low _ hadk
     have h2 := h.size
     have h3 := h.lt
     have hgk := own_ge h.keys
     rw [World.cell?_of_block (w := W) (by rw [add_block]; exact grown_at hg (by omega) (fun e => by have := hgk _ e; omega))]
     exact hcx W h
    have hcyA : ∀ {Sk' : List ByteArray} {Sv' : List J} {vk' vl' : Value} (W : World), MI O wB w.heap.size Sk' Sv' vk' vl' W → (W.alloc (.cells #[y0, y1, y2, y3, y4] 25)).drew.cell? ⟨lb, lo + a * 5, none⟩ = some y0 ∧ (W.alloc (.cells #[y0, y1, y2, y3, y4] 25)).drew.cell? ⟨lb, lo + a * 5 + 1, none⟩ = some y1 ∧ (W.alloc (.cells #[y0, y1, y2, y3, y4] 25)).drew.cell? ⟨lb, lo + a * 5 + 2, none⟩ = some y2 ∧ (W.alloc (.cells #[y0, y1, y2, y3, y4] 25)).drew.cell? ⟨lb, lo + a * 5 + 3, none⟩ = some y3 ∧ (W.alloc (.cells #[y0, y1, y2, y3, y4] 25)).drew.cell? ⟨lb, lo + a * 5 + 4, none⟩ = some y4 := by
     intro Sk' Sv' vk' vl' W h
     have h1 := h.low _ hadl
     have h2 := h.size
     have h3 := h.lt
     have hh : (W.alloc (.cells #[y0, y1, y2, y3, y4] 25)).drew.heap[lb]? = W.heap[lb]? := Below.heap_alloc W _ _ (by omega)
     obtain ⟨g0, g1, g2, g3, g4⟩ := hcy W h
     exact ⟨(World.cell?_of_block hh).trans g0, (World.cell?_of_block hh).trans g1, (World.cell?_of_block hh).trans g2, (World.cell?_of_block hh).trans g3, (World.cell?_of_block hh).trans g4⟩
    have hcyB : ∀ {Sk' : List ByteArray} {Sv' : List J} {vk' vl' : Value} {W : World} {o : Obj} (W2 : World), (W.alloc o).grownBy W2 vl'.ownBlock → MI O wB w.heap.size Sk' Sv' vk' vl' W → W2.cell? ⟨lb, lo + a * 5, none⟩ = some y0 ∧ W2.cell? ⟨lb, lo + a * 5 + 1, none⟩ = some y1 ∧ W2.cell? ⟨lb, lo + a * 5 + 2, none⟩ = some y2 ∧ W2.cell? ⟨lb, lo + a * 5 + 3, none⟩ = some y3 ∧ W2.cell? ⟨lb, lo + a * 5 + 4, none⟩ = some y4 := by
     intro Sk' Sv' vk' vl' W o W2 hg h
     have h1 := h.low _ hadl
     have h2 := h.size
     have h3 := h.lt
     obtain ⟨xs, hv1, _⟩ := h.vals
     have hgv := own_ge hv1
     have hh : W2.heap[lb]? = W.heap[lb]? := grown_at hg (by omega) (fun e => by have := hgv _ e; omega)
     obtain ⟨g0, g1, g2, g3, g4⟩ := hcy W h
     exact ⟨(World.cell?_of_block hh).trans g0, (World.cell?_of_block hh).trans g1, (World.cell?_of_block hh).trans g2, (World.cell?_of_block hh).trans g3, (World.cell?_of_block hh).trans g4⟩
    have hal' : (a : Int) < (ks.length : Int) := by omega
    have hal2 : (a : Int) < (l.length : Int) := by have := HLL.out; omega
    have hSkb : Sk.length ≤ 100000 := by omega
    have hSvb : Sv.length ≤ 100000 := by omega
    clear hx hy hck hcl' hcl5 hSk hSv hsel hP hj hk hyj ha hSkl hSvl
    go_wp2
    have hmd := hmi.drew
    have hC0 : wr.drew.cell? (adk.add a) = some (.string x) := hcx wr hmi
    have hC1 : (wr.alloc (.cells #[.string x] 9)).drew.cell? (adk.add a) = some (.string x) := by
     have hh := World.cell?_of_block (a := adk.add a) (Below.heap_alloc wr (.cells #[.string x] 9) (adk.add a).block (by rw [add_block]; have := hmi.size; have := hmi.low _ hadk; have := hmi.lt; omega))
     exact hh.trans (hcx wr hmi)
    have d3 := hmd.c3
    have d3a : (wr.alloc (.cells #[.string x] 9)).drew.cell? ⟨w.heap.size + 1, 3, none⟩ = some vk := by
     have hh := World.cell?_of_block (a := ⟨w.heap.size + 1, 3, none⟩) (Below.heap_alloc wr (.cells #[.string x] 9) (w.heap.size + 1) (by have := hmi.size; have := hmi.lt; omega))
     exact hh.trans hmi.c3
    refine wp_region_in (by kernel_rfl) (fun w' => w'.cell? (adk.add a) = some (.string x)) ?_
    change wpIn _ _ _ _ _ _ _ _ (World.drew _)
    refine wpIn_tk (i := 0) (d := some 16) rfl ?_
    refine wpIn_tk (i := 2) (d := some 18) rfl ?_
    refine wpIn_tk (i := 3) (d := some 19) rfl ?_
    refine wpIn_tk (i := 4) (d := some 20) rfl ?_
    refine wpIn_tk (i := 5) (d := some 21) rfl ?_
    refine wpIn_pair (i := 1) (j := 6) hC0 (by kernel_rfl) rfl rfl (by rfl) (by rfl) ?_ ?_
    · intro K hK
      go_simp
      refine hK _ _ ?_
      clear hK K
      refine wpIn_do (i := 6) hC0 (by kernel_rfl) rfl (by rfl) ?_
      intro K hK
      go_simp
      refine hK _ _ ?_
      clear hK K
      refine wpIn_do (i := 7) hC1 (by kernel_rfl) rfl (by rfl) ?_
      intro K hK
      refine wp_append_at (.tmp 17) (.tmp 22) 22 rfl wB.heap.size 9 (.string ⟨#[]⟩) 1 16 Tryz.underlying22 Tryz.info9 rfl (by decide) (by decide) _ Sk.length (Sk.map Value.string) rfl (hmd.keys.alloc _) _ [.string x] rfl rfl (cell_one_new _ _ _) (str_one x) (by omega) (by have := hmi.size; simp; omega) ?_
      intro vk2 W2 hown2 hg2 hat2
      refine hK _ _ ?_
      clear hK K
      obtain ⟨q2, c2, hv2⟩ : ∃ q c, vk2 = .slice q (Sk.length + 1) c := by
       rcases hown2.2 with ⟨h', h0⟩ | ⟨g', cap', cur, h', _⟩
       · omega
       · exact ⟨_, _, h'⟩
      subst hv2
      have hg2' : (wr.drew.alloc (.cells #[.string x] 9)).grownBy W2 vk.ownBlock := hg2
      have hat2' : (Value.slice q2 (Sk.length + 1) c2).ownBlock = vk.ownBlock ∨ (Value.slice q2 (Sk.length + 1) c2).ownBlock = some (wr.drew.alloc (.cells #[.string x] 9)).heap.size := hat2
      obtain ⟨e3, f3, hmi3⟩ := hmd.key hown2 hg2' hat2'
      have hC2 := hcx2 W2 hg2' hmd
      have hC3 := hcx _ hmi3
      clear hown2 hg2 hat2 hg2' hat2' d3 d3a hC1 hC0
      refine wpIn_tk (i := 8) (d := some 24) rfl ?_
      refine wpIn_do (i := 9) hC2 (by kernel_rfl) rfl (by rfl) ?_
      intro K hK
      go_simp
      refine hK _ _ ?_
      clear hK K
      refine wpIn_done hC3 (by kernel_rfl) ?_ _
      clear hC2 hC3 e3 f3 hmd hmi
      go_wp2
      obtain ⟨wk, hwk⟩ : ∃ wk, wk = W2.setCell ⟨w.heap.size + 1, 3, none⟩ (.slice q2 (Sk.length + 1) c2) := ⟨_, rfl⟩
      rw [← hwk] at hmi3 ⊢
      clear hwk
      have hmd := hmi3.drew
      obtain ⟨xs, hv1, hv2⟩ := hmd.vals
      have hC0 := hcy wk.drew hmd
      have hC1 := hcyA wk hmi3
      have d4 := hmd.c4
      have d4a : (wk.alloc (.cells #[y0, y1, y2, y3, y4] 25)).drew.cell? ⟨w.heap.size + 1, 4, none⟩ = some vl := by
       have hh := World.cell?_of_block (a := ⟨w.heap.size + 1, 4, none⟩) (Below.heap_alloc wk (.cells #[y0, y1, y2, y3, y4] 25) (w.heap.size + 1) (by have := hmi3.size; have := hmi3.lt; omega))
       exact hh.trans hmi3.c4
      refine wp_region_in (by kernel_rfl) (fun w' => w'.cell? ⟨lb, lo + a * 5, none⟩ = some y0 ∧ w'.cell? ⟨lb, lo + a * 5 + 1, none⟩ = some y1 ∧ w'.cell? ⟨lb, lo + a * 5 + 2, none⟩ = some y2 ∧ w'.cell? ⟨lb, lo + a * 5 + 3, none⟩ = some y3 ∧ w'.cell? ⟨lb, lo + a * 5 + 4, none⟩ = some y4) ?_
      change wpIn _ _ _ _ _ _ _ _ (World.drew _)
      refine wpIn_tk (i := 0) (d := some 25) rfl ?_
      refine wpIn_tk (i := 2) (d := some 27) rfl ?_
      refine wpIn_tk (i := 3) (d := some 28) rfl ?_
      refine wpIn_tk (i := 4) (d := some 29) rfl ?_
      refine wpIn_tp (i := 5) (d := some 30) rfl (by (intro wq hq; obtain ⟨q0, q1, q2, q3, q4⟩ := hq; go_simp; first | done | with_reducible rfl)) ?_
      refine wpIn_pair (i := 1) (j := 6) hC0 (by kernel_rfl) rfl rfl (by rfl) (by rfl) ?_ ?_
      · intro K hK
        go_simp
        refine hK _ _ ?_
        clear hK K
        refine wpIn_do (i := 6) hC0 (by kernel_rfl) rfl (by rfl) ?_
        intro K hK
        go_simp
        refine hK _ _ ?_
        clear hK K
        refine wpIn_do (i := 7) hC1 (by kernel_rfl) rfl (by rfl) ?_
        intro K hK
        refine wp_append_at (.tmp 26) (.tmp 31) 23 rfl wB.heap.size 25 (.agg #[.int .i64 0, .int .i64 0, .string ⟨#[]⟩, .slice none 0 0, .slice none 0 0]) 5 80 Tryz.underlying23 Tryz.info25 rfl (by decide) (by decide) _ Sv.length xs rfl (hv1.alloc _) _ [y0, y1, y2, y3, y4] rfl rfl (cells_new5 _ _ _ _ _ _ _) hone5 (by omega) (by have := hmi3.size; simp; omega) ?_
        intro vl2 W4 hown4 hg4 hat4
        refine hK _ _ ?_
        clear hK K
        obtain ⟨q4, c4, hv4⟩ : ∃ q c, vl2 = .slice q (Sv.length + 1) c := by
         rcases hown4.2 with ⟨h', h0⟩ | ⟨g', cap', cur, h', _⟩
         · omega
         · exact ⟨_, _, h'⟩
        subst hv4
        have hg4' : (wk.drew.alloc (.cells #[y0, y1, y2, y3, y4] 25)).grownBy W4 vl.ownBlock := hg4
        have hat4' : (Value.slice q4 (Sv.length + 1) c4).ownBlock = vl.ownBlock ∨ (Value.slice q4 (Sv.length + 1) c4).ownBlock = some (wk.drew.alloc (.cells #[y0, y1, y2, y3, y4] 25)).heap.size := hat4
        obtain ⟨e4, f4, hmi5⟩ := hmd.val hv1 hv2 (hyJ wk.drew hmd) hown4 hg4' hat4'
        have hC2 := hcyB W4 hg4' hmd
        have hC3 := hcy _ hmi5
        clear hown4 hg4 hat4 hg4' hat4' d4 d4a hC1 hC0 hv1 hv2
        refine wpIn_tk (i := 8) (d := some 33) rfl ?_
        refine wpIn_do (i := 9) hC2 (by kernel_rfl) rfl (by rfl) ?_
        intro K hK
        go_simp
        refine hK _ _ ?_
        clear hK K
        refine wpIn_done hC3 (by kernel_rfl) ?_ _
        clear hC2 hC3 e4 f4 hmd hmi3
        go_wp2
        go_roundw
        case rel => exact ⟨k + 1, _, _, by go_num, by omega, by rw [HSk.out, HSv.out]; exact hmi5⟩
        case measure => simp [intOf]; omega
      · intro K hK
        go_simp
        refine hK _ _ ?_
        clear hK K
        refine wpIn_do (i := 1) hC1 (by kernel_rfl) rfl (by rfl) ?_
        intro K hK
        go_simp
        refine hK _ _ ?_
        clear hK K
        refine wpIn_do (i := 7) hC1 (by kernel_rfl) rfl (by rfl) ?_
        intro K hK
        refine wp_append_at (.tmp 26) (.tmp 31) 23 rfl wB.heap.size 25 (.agg #[.int .i64 0, .int .i64 0, .string ⟨#[]⟩, .slice none 0 0, .slice none 0 0]) 5 80 Tryz.underlying23 Tryz.info25 rfl (by decide) (by decide) _ Sv.length xs rfl (hv1.alloc _) _ [y0, y1, y2, y3, y4] rfl rfl (cells_new5 _ _ _ _ _ _ _) hone5 (by omega) (by have := hmi3.size; simp; omega) ?_
        intro vl2 W4 hown4 hg4 hat4
        refine hK _ _ ?_
        clear hK K
        obtain ⟨q4, c4, hv4⟩ : ∃ q c, vl2 = .slice q (Sv.length + 1) c := by
         rcases hown4.2 with ⟨h', h0⟩ | ⟨g', cap', cur, h', _⟩
         · omega
         · exact ⟨_, _, h'⟩
        subst hv4
        have hg4' : (wk.drew.alloc (.cells #[y0, y1, y2, y3, y4] 25)).grownBy W4 vl.ownBlock := hg4
        have hat4' : (Value.slice q4 (Sv.length + 1) c4).ownBlock = vl.ownBlock ∨ (Value.slice q4 (Sv.length + 1) c4).ownBlock = some (wk.drew.alloc (.cells #[y0, y1, y2, y3, y4] 25)).heap.size := hat4
        obtain ⟨e4, f4, hmi5⟩ := hmd.val hv1 hv2 (hyJ wk.drew hmd) hown4 hg4' hat4'
        have hC2 := hcyB W4 hg4' hmd
        have hC3 := hcy _ hmi5
        clear hown4 hg4 hat4 hg4' hat4' d4 d4a hC1 hC0 hv1 hv2
        refine wpIn_tk (i := 8) (d := some 33) rfl ?_
        refine wpIn_do (i := 9) hC2 (by kernel_rfl) rfl (by rfl) ?_
        intro K hK
        go_simp
        refine hK _ _ ?_
        clear hK K
        refine wpIn_done hC3 (by kernel_rfl) ?_ _
        clear hC2 hC3 e4 f4 hmd hmi3
        go_wp2
        go_roundw
        case rel => exact ⟨k + 1, _, _, by go_num, by omega, by rw [HSk.out, HSv.out]; exact hmi5⟩
        case measure => simp [intOf]; omega
    · intro K hK
      go_simp
      refine hK _ _ ?_
      clear hK K
      refine wpIn_do (i := 1) hC1 (by kernel_rfl) rfl (by rfl) ?_
      intro K hK
      go_simp
      refine hK _ _ ?_
      clear hK K
      refine wpIn_do (i := 7) hC1 (by kernel_rfl) rfl (by rfl) ?_
      intro K hK
      refine wp_append_at (.tmp 17) (.tmp 22) 22 rfl wB.heap.size 9 (.string ⟨#[]⟩) 1 16 Tryz.underlying22 Tryz.info9 rfl (by decide) (by decide) _ Sk.length (Sk.map Value.string) rfl (hmd.keys.alloc _) _ [.string x] rfl rfl (cell_one_new _ _ _) (str_one x) (by omega) (by have := hmi.size; simp; omega) ?_
      intro vk2 W2 hown2 hg2 hat2
      refine hK _ _ ?_
      clear hK K
      obtain ⟨q2, c2, hv2⟩ : ∃ q c, vk2 = .slice q (Sk.length + 1) c := by
       rcases hown2.2 with ⟨h', h0⟩ | ⟨g', cap', cur, h', _⟩
       · omega
       · exact ⟨_, _, h'⟩
      subst hv2
      have hg2' : (wr.drew.alloc (.cells #[.string x] 9)).grownBy W2 vk.ownBlock := hg2
      have hat2' : (Value.slice q2 (Sk.length + 1) c2).ownBlock = vk.ownBlock ∨ (Value.slice q2 (Sk.length + 1) c2).ownBlock = some (wr.drew.alloc (.cells #[.string x] 9)).heap.size := hat2
      obtain ⟨e3, f3, hmi3⟩ := hmd.key hown2 hg2' hat2'
      have hC2 := hcx2 W2 hg2' hmd
      have hC3 := hcx _ hmi3
      clear hown2 hg2 hat2 hg2' hat2' d3 d3a hC1 hC0
      refine wpIn_tk (i := 8) (d := some 24) rfl ?_
      refine wpIn_do (i := 9) hC2 (by kernel_rfl) rfl (by rfl) ?_
      intro K hK
      go_simp
      refine hK _ _ ?_
      clear hK K
      refine wpIn_done hC3 (by kernel_rfl) ?_ _
      clear hC2 hC3 e3 f3 hmd hmi
      go_wp2
      obtain ⟨wk, hwk⟩ : ∃ wk, wk = W2.setCell ⟨w.heap.size + 1, 3, none⟩ (.slice q2 (Sk.length + 1) c2) := ⟨_, rfl⟩
      rw [← hwk] at hmi3 ⊢
      clear hwk
      have hmd := hmi3.drew
      obtain ⟨xs, hv1, hv2⟩ := hmd.vals
      have hC0 := hcy wk.drew hmd
      have hC1 := hcyA wk hmi3
      have d4 := hmd.c4
      have d4a : (wk.alloc (.cells #[y0, y1, y2, y3, y4] 25)).drew.cell? ⟨w.heap.size + 1, 4, none⟩ = some vl := by
       have hh := World.cell?_of_block (a := ⟨w.heap.size + 1, 4, none⟩) (Below.heap_alloc wk (.cells #[y0, y1, y2, y3, y4] 25) (w.heap.size + 1) (by have := hmi3.size; have := hmi3.lt; omega))
       exact hh.trans hmi3.c4
      refine wp_region_in (by kernel_rfl) (fun w' => w'.cell? ⟨lb, lo + a * 5, none⟩ = some y0 ∧ w'.cell? ⟨lb, lo + a * 5 + 1, none⟩ = some y1 ∧ w'.cell? ⟨lb, lo + a * 5 + 2, none⟩ = some y2 ∧ w'.cell? ⟨lb, lo + a * 5 + 3, none⟩ = some y3 ∧ w'.cell? ⟨lb, lo + a * 5 + 4, none⟩ = some y4) ?_
      change wpIn _ _ _ _ _ _ _ _ (World.drew _)
      refine wpIn_tk (i := 0) (d := some 25) rfl ?_
      refine wpIn_tk (i := 2) (d := some 27) rfl ?_
      refine wpIn_tk (i := 3) (d := some 28) rfl ?_
      refine wpIn_tk (i := 4) (d := some 29) rfl ?_
      refine wpIn_tp (i := 5) (d := some 30) rfl (by (intro wq hq; obtain ⟨q0, q1, q2, q3, q4⟩ := hq; go_simp; first | done | with_reducible rfl)) ?_
      refine wpIn_pair (i := 1) (j := 6) hC0 (by kernel_rfl) rfl rfl (by rfl) (by rfl) ?_ ?_
      · intro K hK
        go_simp
        refine hK _ _ ?_
        clear hK K
        refine wpIn_do (i := 6) hC0 (by kernel_rfl) rfl (by rfl) ?_
        intro K hK
        go_simp
        refine hK _ _ ?_
        clear hK K
        refine wpIn_do (i := 7) hC1 (by kernel_rfl) rfl (by rfl) ?_
        intro K hK
        refine wp_append_at (.tmp 26) (.tmp 31) 23 rfl wB.heap.size 25 (.agg #[.int .i64 0, .int .i64 0, .string ⟨#[]⟩, .slice none 0 0, .slice none 0 0]) 5 80 Tryz.underlying23 Tryz.info25 rfl (by decide) (by decide) _ Sv.length xs rfl (hv1.alloc _) _ [y0, y1, y2, y3, y4] rfl rfl (cells_new5 _ _ _ _ _ _ _) hone5 (by omega) (by have := hmi3.size; simp; omega) ?_
        intro vl2 W4 hown4 hg4 hat4
        refine hK _ _ ?_
        clear hK K
        obtain ⟨q4, c4, hv4⟩ : ∃ q c, vl2 = .slice q (Sv.length + 1) c := by
         rcases hown4.2 with ⟨h', h0⟩ | ⟨g', cap', cur, h', _⟩
         · omega
         · exact ⟨_, _, h'⟩
        subst hv4
        have hg4' : (wk.drew.alloc (.cells #[y0, y1, y2, y3, y4] 25)).grownBy W4 vl.ownBlock := hg4
        have hat4' : (Value.slice q4 (Sv.length + 1) c4).ownBlock = vl.ownBlock ∨ (Value.slice q4 (Sv.length + 1) c4).ownBlock = some (wk.drew.alloc (.cells #[y0, y1, y2, y3, y4] 25)).heap.size := hat4
        obtain ⟨e4, f4, hmi5⟩ := hmd.val hv1 hv2 (hyJ wk.drew hmd) hown4 hg4' hat4'
        have hC2 := hcyB W4 hg4' hmd
        have hC3 := hcy _ hmi5
        clear hown4 hg4 hat4 hg4' hat4' d4 d4a hC1 hC0 hv1 hv2
        refine wpIn_tk (i := 8) (d := some 33) rfl ?_
        refine wpIn_do (i := 9) hC2 (by kernel_rfl) rfl (by rfl) ?_
        intro K hK
        go_simp
        refine hK _ _ ?_
        clear hK K
        refine wpIn_done hC3 (by kernel_rfl) ?_ _
        clear hC2 hC3 e4 f4 hmd hmi3
        go_wp2
        go_roundw
        case rel => exact ⟨k + 1, _, _, by go_num, by omega, by rw [HSk.out, HSv.out]; exact hmi5⟩
        case measure => simp [intOf]; omega
      · intro K hK
        go_simp
        refine hK _ _ ?_
        clear hK K
        refine wpIn_do (i := 1) hC1 (by kernel_rfl) rfl (by rfl) ?_
        intro K hK
        go_simp
        refine hK _ _ ?_
        clear hK K
        refine wpIn_do (i := 7) hC1 (by kernel_rfl) rfl (by rfl) ?_
        intro K hK
        refine wp_append_at (.tmp 26) (.tmp 31) 23 rfl wB.heap.size 25 (.agg #[.int .i64 0, .int .i64 0, .string ⟨#[]⟩, .slice none 0 0, .slice none 0 0]) 5 80 Tryz.underlying23 Tryz.info25 rfl (by decide) (by decide) _ Sv.length xs rfl (hv1.alloc _) _ [y0, y1, y2, y3, y4] rfl rfl (cells_new5 _ _ _ _ _ _ _) hone5 (by omega) (by have := hmi3.size; simp; omega) ?_
        intro vl2 W4 hown4 hg4 hat4
        refine hK _ _ ?_
        clear hK K
        obtain ⟨q4, c4, hv4⟩ : ∃ q c, vl2 = .slice q (Sv.length + 1) c := by
         rcases hown4.2 with ⟨h', h0⟩ | ⟨g', cap', cur, h', _⟩
         · omega
         · exact ⟨_, _, h'⟩
        subst hv4
        have hg4' : (wk.drew.alloc (.cells #[y0, y1, y2, y3, y4] 25)).grownBy W4 vl.ownBlock := hg4
        have hat4' : (Value.slice q4 (Sv.length + 1) c4).ownBlock = vl.ownBlock ∨ (Value.slice q4 (Sv.length + 1) c4).ownBlock = some (wk.drew.alloc (.cells #[y0, y1, y2, y3, y4] 25)).heap.size := hat4
        obtain ⟨e4, f4, hmi5⟩ := hmd.val hv1 hv2 (hyJ wk.drew hmd) hown4 hg4' hat4'
        have hC2 := hcyB W4 hg4' hmd
        have hC3 := hcy _ hmi5
        clear hown4 hg4 hat4 hg4' hat4' d4 d4a hC1 hC0 hv1 hv2
        refine wpIn_tk (i := 8) (d := some 33) rfl ?_
        refine wpIn_do (i := 9) hC2 (by kernel_rfl) rfl (by rfl) ?_
        intro K hK
        go_simp
        refine hK _ _ ?_
        clear hK K
        refine wpIn_done hC3 (by kernel_rfl) ?_ _
        clear hC2 hC3 e4 f4 hmd hmi3
        go_wp2
        go_roundw
        case rel => exact ⟨k + 1, _, _, by go_num, by omega, by rw [HSk.out, HSv.out]; exact hmi5⟩
        case measure => simp [intOf]; omega
  · obtain rfl : k = ks.length := by omega
    have hLt : L.take ks.length = L := List.take_of_length_le (by omega)
    rw [hLt, places_sort hP hd HLL.out] at hmi
    obtain ⟨xs, hv1, hv2⟩ := hmi.vals
    have hkl : ((sortK (ks.zip l)).map (·.1)).length = ks.length := by rw [List.length_map, sortK_length]; simp; have := HLL.out; omega
    have hvl : ((sortK (ks.zip l)).map (·.2)).length = ks.length := by rw [List.length_map, sortK_length]; simp; have := HLL.out; omega
    obtain ⟨q1, c1, hvk, hrk⟩ := own_rdK hmi.keys
    obtain ⟨q2, c2, hvl2, hc2, hrj⟩ := own_js hv1 hv2
    subst hvk hvl2
    have j0 := five_c0 hmi.obj; have j1 := five_c1 hmi.obj; have j2 := five_c2 hmi.obj; have j3 := five_c3 hmi.obj; have j4 := five_c4 hmi.obj
    have i0 := five_c0 hmi.res; have i1 := five_c1 hmi.res; have i2 := five_c2 hmi.res; have i3 := five_c3 hmi.res; have i4 := five_c4 hmi.res
    have z0 := five_fz hmi.res 0; have z1 := five_fz hmi.res 1; have z2 := five_fz hmi.res 2; have z3 := five_fz hmi.res 3; have z4 := five_fz hmi.res 4
    have h5 := set5_heap hmi.res (.int .i64 5) (.int .i64 0) (.string ⟨#[]⟩) (.slice q1 ((sortK (ks.zip l)).map (·.1)).length c1) (.slice q2 ((sortK (ks.zip l)).map (·.2)).length c2)
    have HK5 : Keep (One w.heap.size) wr _ := set5_keep wr w.heap.size (.int .i64 5) (.int .i64 0) (.string ⟨#[]⟩) (.slice q1 ((sortK (ks.zip l)).map (·.1)).length c1) (.slice q2 ((sortK (ks.zip l)).map (·.2)).length c2)
    have hsz := hmi.size
    have hkeep := hmi.keep
    unfold set5 at h5 HK5
    have HRK : Hid (RdK (fun k => wB.heap.size ≤ k ∧ k < wr.heap.size) wr q1 c1 ((sortK (ks.zip l)).map (·.1))) := hrk
    have HRJ : Hid (isJs (fun k => O k ∨ (wB.heap.size ≤ k ∧ k < wr.heap.size)) wr q2 0 ((sortK (ks.zip l)).map (·.2))) := hrj
    have k0 := five_c0 h5; have k1 := five_c1 h5; have k2 := five_c2 h5; have k3 := five_c3 h5; have k4 := five_c4 h5
    obtain ⟨n1, hn1⟩ : ∃ n1, ((sortK (ks.zip l)).map (·.1)).length = n1 := ⟨_, rfl⟩
    obtain ⟨n2, hn2⟩ : ∃ n2, ((sortK (ks.zip l)).map (·.2)).length = n2 := ⟨_, rfl⟩
    rw [hn1, hn2] at h5 HK5 k3 k4
    rw [hn1] at j3 k0 k1 k2
    rw [hn2] at j4 k0 k1 k2
    clear hrk hrj hv1 hv2 hmi hP hkl hvl hk hj
    go_wp2
    refine bodyPost_ret (v := .agg #[.int .i64 5, .int .i64 0, .string ⟨#[]⟩, .slice q1 n1 c1, .slice q2 n2 c2]) (by simp [results, Tryz.results104, go_sem, k0, k1, k2, k3, k4]) rfl ?_
    obtain ⟨r1, r2⟩ := map_end hO hbw hkeep HK5 HRK.out HRJ.out hc2 (by omega)
    rw [hn1, hn2] at r1
    exact ⟨_, rfl, r1, r2⟩
theorem coded_bd {t : List Int} {p q : Nat} {c : Int} (h : coded t p = .ok c q) : 0 ≤ c ∧ c ≤ 1114111 := by
 have hx := hexAt_bd t (p + 2)
 unfold coded at h
 split at h
 · cases h
 split at h
 · cases h; omega
 split at h
 · cases h
 split at h
 · cases h
 · rename_i l hl
   have := lowAt_bd hl
   cases h; omega
theorem escape_bd {t : List Int} {p q : Nat} {c : Int} (h : escape t p = .ok c q) : 0 ≤ c ∧ c ≤ 1114111 := by
 unfold escape at h
 simp only at h
 split at h
 · rename_i h1; cases h; omega
 split at h
 · cases h; omega
 split at h
 · cases h; omega
 split at h
 · cases h; omega
 split at h
 · cases h; omega
 split at h
 · cases h; omega
 split at h
 · exact coded_bd h
 · cases h
theorem quoL_out (t : List Int) : ∀ (m p : Nat) (out r : List Int) (q : Nat), quoL t m p out = .ok r q → r.length ≤ out.length + 4 * (q - p) ∧ p ≤ q
 | 0, _, _, _, _, h => by cases h
 | m + 1, p, out, r, q, h => by
  rw [quoL_succ] at h
  split at h
  · cases h; omega
  split at h
  · cases he : escape t p with
    | bad e a => rw [he] at h; cases h
    | ok c p' =>
     rw [he] at h
     simp only [Res.bind] at h
     have h1 := quoL_out t m p' _ r q h
     have hadv : p < p' := by
      rename_i h92
      have := escape_adv (t := t) (p := p) (byteAt_lt (by rw [h92]; decide))
      rw [he] at this
      exact this.1
     have hl : (Lib.encodeRuneZ c).length ≤ 4 := by
      unfold Lib.encodeRuneZ
      repeat' split
      all_goals simp
     rw [List.length_append] at h1
     omega
  split at h
  · cases h
  · have h1 := quoL_out t m (p + 1) _ r q h
    rw [List.length_append] at h1
    simp only [List.length_cons, List.length_nil] at h1
    omega
def textTold (w w' : World) (R : Nat) (s : ByteArray) (r : Res (List Int)) (x : Ending) : Prop := match r with
 | .ok c q => x = .returned (.tuple #[.string (strOfNums c), .bool true]) ∧ OkAt w w' R s q
 | .bad e l => x = .returned (.tuple #[.string nix, .bool false]) ∧ BadAt w w' R s e l
theorem quoted_any {w : World} {R p : Nat} {s : ByteArray} {e l : Int} (hr : Rdr w R s p e l) (hs : short s) (hp : p < s.size) :
    Calls Tryz.prog 141 #[.pointer (some ⟨R, 0, none⟩)] w fun x w' => textTold w w' R s (quoted (ints s) p) x := by
 unfold short at hs
 have c1 := hr.c1
 have f1 := hr.fz 1
 have hRw := hr.lt
 have HR0 : Rdr (w.setCell ⟨R, 1, none⟩ (.int .i64 ((p : Int) + 1))) R s (p + 1) e l := hr.at (p + 1)
 have HK0 : Keep (One R) w (w.setCell ⟨R, 1, none⟩ (.int .i64 ((p : Int) + 1))) := Rdr.setAt w R (p + 1)
 go_enter Tryz.func141, Tryz.ntmps141
 go_wp2
 clear c1 f1
 go_loopw [4] (fun v wr => ∃ (q m : Nat) (out : List Int), q ≤ s.size ∧ s.size < q + m ∧ out.length ≤ 4 * q ∧ quoL (ints s) m q out = quoted (ints s) p ∧ wr.ownsRow w.heap.size 5 1 v out.length (out.map (Value.int .u8)) ∧ (∃ e l, Rdr wr R s q e l) ∧ Keep (One R) w wr) (fun _ wr => s.size - posOf R wr)
 case atStart =>
  refine ⟨p + 1, s.size + 1, [], hp, by omega, by simp, ?_, World.ownsRow_nil _ _ _ _, ⟨e, l, HR0⟩, HK0⟩
  unfold quoted
  rw [ints_length]
 case round =>
  clear HR0 HK0 hr
  obtain ⟨q, m, out, hq, hm, hol, hx, hown, ⟨e1, l1, hrq⟩, hk⟩ := hrel
  obtain ⟨m', rfl⟩ : ∃ m', m = m' + 1 := ⟨m - 1, by omega⟩
  rw [quoL_succ] at hx
  have HX : Hid ((if byteAt (ints s) q = 34 then .ok out (q + 1) else if byteAt (ints s) q = 92 then (escape (ints s) q).bind fun l q => quoL (ints s) m' q (out ++ Lib.encodeRuneZ l) else if byteAt (ints s) q < 32 then .bad 11 q else quoL (ints s) m' (q + 1) (out ++ [byteAt (ints s) q])) = quoted (ints s) p) := hx
  clear hx
  have c1 := hrq.c1
  have f1 := hrq.fz 1
  have hsz := hk.size
  have hbb := byte_bd s q
  have hge := own_ge hown
  have HR : Rdr (wr.setCell ⟨R, 1, none⟩ (.int .i64 ((q : Int) + 1))) R s (q + 1) e1 l1 := hrq.at (q + 1)
  have HKs : Keep (One R) wr (wr.setCell ⟨R, 1, none⟩ (.int .i64 ((q : Int) + 1))) := Rdr.setAt wr R (q + 1)
  have HP0 := posOf_rdr hrq
  by_cases h34 : byteAt (ints s) q = 34
  · have HQ : Hid (quoted (ints s) p = .ok out (q + 1)) := by rw [← HX.out, if_pos h34]; rfl
    have hcv := own_string (own_keep hown HKs fun k hk' => by have := hge k hk'; unfold One; omega)
    have pk := peek_any hrq
    rw [h34] at pk
    go_wp2_with (go_at_call 138; refine pk.mono ?_; rintro x w' ⟨rfl, rfl⟩)
    go_ret2
    rw [HQ.out]
    exact ⟨rfl, ⟨_, _, HR⟩, hk.then HKs⟩
  by_cases h92 : byteAt (ints s) q = 92
  · have pk := peek_any hrq
    rw [h92] at pk
    have es := escape_any hrq (by omega)
    have hadv := escape_adv (t := ints s) (p := q) (byteAt_lt (by rw [h92]; decide))
    cases he : escape (ints s) q with
    | bad e' l' =>
     have HQ : Hid (quoted (ints s) p = .bad e' l') := by rw [← HX.out, if_neg h34, if_pos h92, he]; rfl
     rw [he] at es
     go_wp2_with (first
      | (go_at_call 138; refine pk.mono ?_; rintro x w' ⟨rfl, rfl⟩)
      | (go_at_call 165; refine es.mono ?_; rintro x w1 ⟨rfl, hk1⟩))
     go_ret2
     rw [HQ.out]
     exact ⟨rfl, hk1.1, hk.then hk1.2⟩
    | ok c q' =>
     have HQ : Hid (quoL (ints s) m' q' (out ++ Lib.encodeRuneZ c) = quoted (ints s) p) := by rw [← HX.out, if_neg h34, if_pos h92, he]; rfl
     have hcb := escape_bd he
     rw [he] at es hadv
     have hqq : q < q' ∧ q' ≤ (ints s).length := hadv
     rw [ints_length] at hqq
     have hl4 : (Lib.encodeRuneZ c).length ≤ 4 := by
      unfold Lib.encodeRuneZ
      repeat' split
      all_goals simp
     have HL4 : Hid ((Lib.encodeRuneZ c).length ≤ 4) := hl4
     clear hl4 hadv
     go_wp2_with (first
      | (go_at_call 138; refine pk.mono ?_; rintro x w' ⟨rfl, rfl⟩)
      | (go_at_call 165; refine es.mono ?_; rintro x w1 ⟨rfl, ⟨⟨e2, l2, hr2⟩, hk2⟩⟩; have hown2 := own_keep hown hk2 fun k hk' => by have := hge k hk'; unfold One; omega)
      | (go_at_call 166; refine (Tryz.utf8_AppendRune_plain w.heap.size _ out.length _ c (by omega) (by omega) _ hown2 (by omega) (by have := hk2.size; omega)).mono ?_; rintro x w3 ⟨v', rfl, hown3, o, hg3⟩))
     have hge2 := own_ge hown2
     have hk2s := hk2.size
     have hkA : Keep (One R) w (w1.alloc o) := (hk.then hk2).alloc o
     have hk3 : Keep (One R) w w3 := hkA.grown hg3 fun k hk' => (hge2 k hk').1
     have hr3 : Rdr w3 R s q' e2 l2 := by
      have hr2a : Rdr (w1.alloc o) R s q' e2 l2 := hr2.keep (S := fun _ => False) ((Keep.refl _ _).alloc o) (fun h => h)
      refine hr2a.keep (S := fun k => some k = Value.ownBlock _) (Keep.of_grown hg3 fun _ _ e => e.symm) fun e => ?_
      have := (hge2 R e.symm).1
      omega
     have HP3 := posOf_rdr hr3
     go_roundw
     case rel =>
      refine ⟨q', m', out ++ Lib.encodeRuneZ c, hqq.2, by omega, ?_, HQ.out, ?_, ⟨e2, l2, hr3⟩, hk3⟩
      · rw [List.length_append]; have := HL4.out; omega
      · have e : (out ++ Lib.encodeRuneZ c).map (Value.int .u8) = out.map (Value.int .u8) ++ Lib.runeCells c := by rw [List.map_append]; rfl
        have e' : (out ++ Lib.encodeRuneZ c).length = out.length + (Lib.runeCells c).length := by rw [List.length_append]; simp [Lib.runeCells]
        rw [e, e']
        exact hown3
     case measure => rw [HP3, HP0]; omega
  have pk := peek_any hrq
  by_cases h32 : byteAt (ints s) q < 32
  · have HQ : Hid (quoted (ints s) p = .bad 11 q) := by rw [← HX.out, if_neg h34, if_neg h92, if_pos h32]; rfl
    go_wp2_with (first
     | (go_at_call 138; refine pk.mono ?_; rintro x w' ⟨rfl, rfl⟩)
     | (go_at_call 116; refine (fail_any hrq 11 (q : Int)).mono ?_; rintro x w1 ⟨rfl, hr1, hk1⟩))
    go_ret2
    rw [HQ.out]
    exact ⟨rfl, ⟨_, hr1⟩, hk.then hk1⟩
  · have HQ : Hid (quoL (ints s) m' (q + 1) (out ++ [byteAt (ints s) q]) = quoted (ints s) p) := by rw [← HX.out, if_neg h34, if_neg h92, if_neg h32]; rfl
    have hlt : q < s.size := by
     have := byteAt_lt (t := ints s) (p := q) (by omega)
     rw [ints_length] at this; exact this
    obtain ⟨y, hy⟩ : ∃ y, byteAt (ints s) q = y := ⟨_, rfl⟩
    have HY : Hid (byteAt (ints s) q = y) := hy
    rw [hy] at pk h34 h92 h32 hbb
    clear hy HR HKs f1
    go_wp2_with (first
     | (go_at_call 138; refine pk.mono ?_; rintro x w' ⟨rfl, rfl⟩)
     | (at_builtin; refine wpList_push rfl (.tmp 17) (.tmp 19) 40 5 .u8 1 rfl Tryz.underlying40 Tryz.info5 (by decide) w.heap.size _ out rfl ?a0 _ y rfl ?a1 ?a2 ?a3 ?_))
    case a0 => exact hown.alloc _
    case a1 => exact cell_row (cur := [_]) (heap_alloc_new _ _) 0 _ rfl
    case a2 => omega
    case a3 => simp; omega
    intro v' w1 hown1 hg1
    have hk1 : Keep (One R) w w1 := (hk.alloc _).grown hg1 fun k hk' => (hge k hk').1
    have hr1 : Rdr w1 R s q e1 l1 := by
     refine (hrq.keep (S := fun _ => False) ((Keep.refl _ _).alloc _) (fun h => h)).keep (S := fun k => some k = Value.ownBlock _) (Keep.of_grown hg1 fun _ _ e => e.symm) fun e => ?_
     have := (hge R e.symm).1
     omega
    have d1 := hr1.c1
    have g1 := hr1.fz 1
    have HR : Rdr (w1.setCell ⟨R, 1, none⟩ (.int .i64 ((q : Int) + 1))) R s (q + 1) e1 l1 := hr1.at (q + 1)
    have HKs : Keep (One R) w1 (w1.setCell ⟨R, 1, none⟩ (.int .i64 ((q : Int) + 1))) := Rdr.setAt w1 R (q + 1)
    have HP3 := posOf_rdr HR
    have hge1 := own_ge hown1
    have hown2 := own_keep hown1 HKs fun k hk' => (by have := hge1 k hk'; unfold One; omega)
    clear hown c1
    have HO2 : Hid ((w1.setCell ⟨R, 1, none⟩ (.int .i64 ((q : Int) + 1))).ownsRow w.heap.size 5 1 v' (out ++ [y]).length ((out ++ [y]).map (Value.int .u8))) := by rw [List.length_append, List.map_append]; exact hown2
    clear hown2 hown1
    go_wp2
    go_roundw
    case rel => exact ⟨q + 1, m', out ++ [y], hlt, by omega, by rw [List.length_append]; simp only [List.length_cons, List.length_nil]; omega, by rw [← HY.out]; exact HQ.out, HO2.out, ⟨e1, l1, HR⟩, hk1.then HKs⟩
    case measure => rw [HP3, HP0]; omega
end Go.Proofs.YtegcgbjjpgjnmaaGreatDoor

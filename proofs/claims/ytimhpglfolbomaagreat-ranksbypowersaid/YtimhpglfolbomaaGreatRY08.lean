/-
  A map of keys and values, in order: by a contract.
  A text between its signs, read: by a contract.
  Keys that stood already, and a key read: by a contract.
  A list that is being read.
  What is written as a number is read as it was.
  What is written as JSON is read as it was.
  A list read, by a contract: given how a value within it is read.
  Keys and values that are being read.
  Pairs read, by a contract: given how a value within them is read.
  A value read, by a contract: to the depth that may be.
  The whole text read, by a contract.
  The first byte that is no letter's, by a contract.
  Bytes decoded, by a contract.
  What is written, by contracts: the writer's small steps.
  How a letter stands in a text, by a contract.
  A text written, by a contract.
  Lists and pairs written, by contracts: given how a value within them is written.
  A value written, by a contract: to the depth that may be.
  What makes a value good, by contracts: letters, and what a kind does not have.
-/
import Derived.Test.YtimhpglfolbomaaGreatRY07
import Derived.Lib.AppendStr
import Derived.Stop.FmtQuoteTie
import Derived.Lib.OthersKept
import Derived.Lib.AppendIntMem
import Derived.Lib.ItoaLen
set_option maxRecDepth 100000
set_option maxHeartbeats 16000000
namespace Go.Proofs.YtimhpglfolbomaaGreat
open Go.RowKit
theorem cell_one_new (w : World) (v : Value) (t : Nat) : ∀ j u, [v][j]? = some u → (w.alloc (.cells #[v] t)).cell? ((⟨w.heap.size, 0, none⟩ : Addr).add j) = some u := by
 intro j u hj
 match j, hj with
 | 0, hj => simp at hj; subst hj; exact cell_row (cur := [_]) (heap_alloc_new _ _) 0 _ rfl
theorem str_one (x : ByteArray) : ∀ u ∈ [Value.string x], u.oneCell' = true := by
 intro u hu; simp at hu; subst hu; rfl
theorem cells_new5 (w : World) (t : Nat) (y0 y1 y2 y3 y4 : Value) : ∀ j u, [y0, y1, y2, y3, y4][j]? = some u → (w.alloc (.cells #[y0, y1, y2, y3, y4] t)).cell? ((⟨w.heap.size, 0, none⟩ : Addr).add j) = some u := by
 intro j u hj
 have e : (⟨w.heap.size, 0, none⟩ : Addr).add j = ⟨w.heap.size, j, none⟩ := by unfold Addr.add; split <;> simp_all
 rw [e]
 exact cell_row (cur := [_, _, _, _, _]) (heap_alloc_new _ _) j u hj
theorem mapOf_any {O : Nat → Prop} {w : World} {ks : List ByteArray} {l : List J} {pk pl : Option Addr} {ck cl : Nat} (hk : RdK O w pk ck ks) (hj : isJs O w pl 0 l) (hll : ks.length = l.length) (hO : ∀ k, O k → k < w.heap.size) (hn : ks.length ≤ 100000) (hd : ks.Pairwise (· ≠ ·)) :
    Calls Tryz.prog 147 #[.slice pk ks.length ck, .slice pl l.length cl] w fun e w' => ∃ cs, e = .returned (.agg cs) ∧ isJ (fun k => O k ∨ New w w' k) w' (mapOf ks l) cs.toList ∧ Below w.heap.size w w' := by
 have HLL : Hid (ks.length = l.length) := hll
 clear hll
 have hbA : Below w.heap.size w ((w.alloc (.cells #[.int .i64 0, .int .i64 0, .string ⟨#[]⟩, .slice none 0 0, .slice none 0 0] 36)).alloc (.cells #[.int .i64 5, .int .i64 0, .string ⟨#[]⟩, .slice none 0 0, .slice none 0 0] 36)) := ((Below.refl _ _).alloc (Nat.le_refl _) _).alloc (by simp) _
 have hkA := hk.below hO hbA
 have hszA : ((w.alloc (.cells #[.int .i64 0, .int .i64 0, .string ⟨#[]⟩, .slice none 0 0, .slice none 0 0] 36)).alloc (.cells #[.int .i64 5, .int .i64 0, .string ⟨#[]⟩, .slice none 0 0, .slice none 0 0] 36)).heap.size = w.heap.size + 2 := by simp
 have hob : ((w.alloc (.cells #[.int .i64 0, .int .i64 0, .string ⟨#[]⟩, .slice none 0 0, .slice none 0 0] 36)).alloc (.cells #[.int .i64 5, .int .i64 0, .string ⟨#[]⟩, .slice none 0 0, .slice none 0 0] 36)).heap[w.heap.size + 1]? = some (.cells #[.int .i64 5, .int .i64 0, .string ⟨#[]⟩, .slice none 0 0, .slice none 0 0] 36 (0, 0)) := by
  have := heap_alloc_new (w.alloc (.cells #[.int .i64 0, .int .i64 0, .string ⟨#[]⟩, .slice none 0 0, .slice none 0 0] 36)) (.cells #[.int .i64 5, .int .i64 0, .string ⟨#[]⟩, .slice none 0 0, .slice none 0 0] 36)
  rw [show (w.alloc (.cells #[.int .i64 0, .int .i64 0, .string ⟨#[]⟩, .slice none 0 0, .slice none 0 0] 36)).heap.size = w.heap.size + 1 by simp] at this
  exact this
 have hres : ((w.alloc (.cells #[.int .i64 0, .int .i64 0, .string ⟨#[]⟩, .slice none 0 0, .slice none 0 0] 36)).alloc (.cells #[.int .i64 5, .int .i64 0, .string ⟨#[]⟩, .slice none 0 0, .slice none 0 0] 36)).heap[w.heap.size]? = some (.cells #[.int .i64 0, .int .i64 0, .string ⟨#[]⟩, .slice none 0 0, .slice none 0 0] 36 (0, 0)) := by
  rw [Below.heap_alloc _ _ _ (by simp)]; exact heap_alloc_new _ _
 go_enter Tryz.func147, Tryz.ntmps147
 go_wp2_with (first
  | (go_at_call 163; refine (rising_any hkA (fun k hk => by have := hO k hk; rw [hszA]; omega) (by omega)).mono ?_; rintro e wB ⟨g, L, rfl, hP, hg1, hg2, hbB⟩))
 rw [hszA] at hg1 hbB
 have hszB := hbB.size
 rw [hszA] at hszB
 have hlen : L.length = ks.length := by rw [hP.1.length_eq]; simp
 have hbw : Below w.heap.size w wB := hbA.trans (hbB.mono (by omega))
 have hmi0 : MI O wB w.heap.size [] [] (.slice none 0 0) (.slice none 0 0) wB := ⟨(hbB.block _ (by omega)).trans hob, (hbB.block _ (by omega)).trans hres, World.ownsRow_nil _ _ _ _, ⟨[], World.ownsRow_nil _ _ _ _, rfl⟩, (fun i h => by cases h), Keep.refl _ _, by omega, hO⟩
 clear hob hres hkA
 go_loopw [12] (fun i wr => ∃ (k : Nat) (vk vl : Value), i = .int .i64 k ∧ k ≤ ks.length ∧ MI O wB w.heap.size ((sel ks l (L.take k)).map (·.1)) ((sel ks l (L.take k)).map (·.2)) vk vl wr) (fun i _ => ks.length - (intOf i).toNat)
 case atStart => exact ⟨0, _, _, rfl, Nat.zero_le _, hmi0⟩
 case round =>
  clear hmi0
  obtain ⟨k, vk, vl, rfl, hkn, hmi⟩ := hrel
  by_cases hlt : k < ks.length
  · obtain ⟨a, ha⟩ : ∃ a, L.getD k 0 = a := ⟨_, rfl⟩
    have hpl : wr.cell? ⟨g, k, none⟩ = some (.int .i64 (a : Int)) := by
     rw [hmi.keep.cell (p := ⟨g, k, none⟩) hg2 (by unfold One; simp only; omega), hP.2.2 k (by omega), ha]
    have hal : a < ks.length := by
     have hm : L.getD k 0 ∈ L := by rw [List.getD_eq_getElem?_getD, List.getElem?_eq_getElem (by omega)]; exact List.getElem_mem _
     have := hP.1.subset hm
     rw [ha] at this
     simpa using this
    have HSEL : Hid (sel ks l (L.take (k + 1)) = sel ks l (L.take k) ++ [(keyAtK ks a, valAt l a)]) := by
     unfold sel
     rw [List.take_add_one, List.getElem?_eq_getElem (by omega : k < L.length), List.map_append]
     rw [List.getD_eq_getElem?_getD, List.getElem?_eq_getElem (by omega : k < L.length)] at ha
     simp only [Option.getD_some] at ha
     rw [ha]; rfl
    obtain ⟨x, hx⟩ : ∃ x, keyAtK ks a = x := ⟨_, rfl⟩
    obtain ⟨y, hy⟩ : ∃ y, valAt l a = y := ⟨_, rfl⟩
    rw [hx, hy] at HSEL
    obtain ⟨adk, rfl, hadk, hck⟩ := hk.2 a hal
    change w.cell? (adk.add a) = some (.string (keyAtK ks a)) at hck
    rw [hx] at hck
    obtain ⟨lb, lo, cs, rfl, hadl, hcl', hyj⟩ := isJs.at l 0 a hj (by rw [← HLL.out]; exact hal)
    change isJ O w (valAt l a) cs at hyj
    rw [hy] at hyj
    rw [Nat.zero_add] at hcl'
    obtain ⟨y0, y1, y2, y3, y4, rfl⟩ : ∃ y0 y1 y2 y3 y4, cs = [y0, y1, y2, y3, y4] := by
     match cs, hyj.five with
     | [y0, y1, y2, y3, y4], _ => exact ⟨y0, y1, y2, y3, y4, rfl⟩
    have hone5 : ∀ u ∈ [y0, y1, y2, y3, y4], u.oneCell' = true := isJ_one hyj
    have hsel : (sel ks l (L.take k)).length = k := by unfold sel; simp; omega
    have hSkl : ((sel ks l (L.take k)).map (·.1)).length = k := by simp [hsel]
    have hSvl : ((sel ks l (L.take k)).map (·.2)).length = k := by simp [hsel]
    obtain ⟨Sk, hSk⟩ : ∃ Sk, (sel ks l (L.take k)).map (·.1) = Sk := ⟨_, rfl⟩
    obtain ⟨Sv, hSv⟩ : ∃ Sv, (sel ks l (L.take k)).map (·.2) = Sv := ⟨_, rfl⟩
    rw [hSk] at hSkl hmi
    rw [hSv] at hSvl hmi
    have HSk : Hid ((sel ks l (L.take (k + 1))).map (·.1) = Sk ++ [x]) := by rw [HSEL.out, List.map_append, hSk]; rfl
    have HSv : Hid ((sel ks l (L.take (k + 1))).map (·.2) = Sv ++ [y]) := by rw [HSEL.out, List.map_append, hSv]; rfl
    have hkeepO : ∀ {Sk' : List ByteArray} {Sv' : List J} {vk' vl' : Value} {W : World}, MI O wB w.heap.size Sk' Sv' vk' vl' W → ∀ i, O i → W.heap[i]? = w.heap[i]? := by
     intro Sk' Sv' vk' vl' W h i hi
     have := hO i hi
     rw [h.keep.block i (by omega) (by unfold One; omega), hbw.block i this]
    have hcx : ∀ {Sk' : List ByteArray} {Sv' : List J} {vk' vl' : Value} (W : World), MI O wB w.heap.size Sk' Sv' vk' vl' W → W.cell? (adk.add a) = some (.string x) := fun W h => (World.cell?_of_block (by rw [add_block]; exact hkeepO h _ hadk)).trans hck
    have hcl5 : ∀ i u, [y0, y1, y2, y3, y4][i]? = some u → w.cell? ⟨lb, lo + a * 5 + i, none⟩ = some u := hcl'
    have hcy : ∀ {Sk' : List ByteArray} {Sv' : List J} {vk' vl' : Value} (W : World), MI O wB w.heap.size Sk' Sv' vk' vl' W → W.cell? ⟨lb, lo + a * 5, none⟩ = some y0 ∧ W.cell? ⟨lb, lo + a * 5 + 1, none⟩ = some y1 ∧ W.cell? ⟨lb, lo + a * 5 + 2, none⟩ = some y2 ∧ W.cell? ⟨lb, lo + a * 5 + 3, none⟩ = some y3 ∧ W.cell? ⟨lb, lo + a * 5 + 4, none⟩ = some y4 := by
     intro Sk' Sv' vk' vl' W h
     have hh := hkeepO h _ hadl
     exact ⟨(World.cell?_of_block hh).trans (hcl5 0 _ rfl), (World.cell?_of_block hh).trans (hcl5 1 _ rfl), (World.cell?_of_block hh).trans (hcl5 2 _ rfl), (World.cell?_of_block hh).trans (hcl5 3 _ rfl), (World.cell?_of_block hh).trans (hcl5 4 _ rfl)⟩
    have hyJ : ∀ {Sk' : List ByteArray} {Sv' : List J} {vk' vl' : Value} (W : World), MI O wB w.heap.size Sk' Sv' vk' vl' W → isJ O W y [y0, y1, y2, y3, y4] := fun W h => hyj.carry fun i hi => ⟨hi, hkeepO h i hi⟩
    have hcx2 : ∀ {Sk' : List ByteArray} {Sv' : List J} {vk' vl' : Value} {W : World} {o : Obj} (W2 : World), (W.alloc o).grownBy W2 vk'.ownBlock → MI O wB w.heap.size Sk' Sv' vk' vl' W → W2.cell? (adk.add a) = some (.string x) := by
     intro Sk' Sv' vk' vl' W o W2 hg h
     have h1 := h.low _ hadk
     have h2 := h.size
     have h3 := h.lt
     have hgk := own_ge h.keys
     rw [World.cell?_of_block (w := W) (by rw [add_block]; exact grown_at hg (by omega) (fun e => by have := hgk _ e; omega))]
     exact hcx W h
    have hcyA : ∀ {Sk' : List ByteArray} {Sv' : List J} {vk' vl' : Value} (W : World), MI O wB w.heap.size Sk' Sv' vk' vl' W → (W.alloc (.cells #[y0, y1, y2, y3, y4] 36)).drew.cell? ⟨lb, lo + a * 5, none⟩ = some y0 ∧ (W.alloc (.cells #[y0, y1, y2, y3, y4] 36)).drew.cell? ⟨lb, lo + a * 5 + 1, none⟩ = some y1 ∧ (W.alloc (.cells #[y0, y1, y2, y3, y4] 36)).drew.cell? ⟨lb, lo + a * 5 + 2, none⟩ = some y2 ∧ (W.alloc (.cells #[y0, y1, y2, y3, y4] 36)).drew.cell? ⟨lb, lo + a * 5 + 3, none⟩ = some y3 ∧ (W.alloc (.cells #[y0, y1, y2, y3, y4] 36)).drew.cell? ⟨lb, lo + a * 5 + 4, none⟩ = some y4 := by
     intro Sk' Sv' vk' vl' W h
     have h1 := h.low _ hadl
     have h2 := h.size
     have h3 := h.lt
     have hh : (W.alloc (.cells #[y0, y1, y2, y3, y4] 36)).drew.heap[lb]? = W.heap[lb]? := Below.heap_alloc W _ _ (by omega)
     obtain ⟨g0, g1, g2, g3, g4⟩ := hcy W h
     exact ⟨(World.cell?_of_block hh).trans g0, (World.cell?_of_block hh).trans g1, (World.cell?_of_block hh).trans g2, (World.cell?_of_block hh).trans g3, (World.cell?_of_block hh).trans g4⟩
    have hcyB : ∀ {Sk' : List ByteArray} {Sv' : List J} {vk' vl' : Value} {W : World} {o : Obj} (W2 : World), (W.alloc o).grownBy W2 vl'.ownBlock → MI O wB w.heap.size Sk' Sv' vk' vl' W → W2.cell? ⟨lb, lo + a * 5, none⟩ = some y0 ∧ W2.cell? ⟨lb, lo + a * 5 + 1, none⟩ = some y1 ∧ W2.cell? ⟨lb, lo + a * 5 + 2, none⟩ = some y2 ∧ W2.cell? ⟨lb, lo + a * 5 + 3, none⟩ = some y3 ∧ W2.cell? ⟨lb, lo + a * 5 + 4, none⟩ = some y4 := by
     intro Sk' Sv' vk' vl' W o W2 hg h
     have h1 := h.low _ hadl
     have h2 := h.size
     have h3 := h.lt
     obtain ⟨xs, hv1, _⟩ := h.vals
     have hgv := own_ge hv1
     have hh : W2.heap[lb]? = W.heap[lb]? := grown_at hg (by omega) (fun e => by have := hgv _ e; omega)
     obtain ⟨g0, g1, g2, g3, g4⟩ := hcy W h
     exact ⟨(World.cell?_of_block hh).trans g0, (World.cell?_of_block hh).trans g1, (World.cell?_of_block hh).trans g2, (World.cell?_of_block hh).trans g3, (World.cell?_of_block hh).trans g4⟩
    have hal' : (a : Int) < (ks.length : Int) := by omega
    have hal2 : (a : Int) < (l.length : Int) := by have := HLL.out; omega
    have hSkb : Sk.length ≤ 100000 := by omega
    have hSvb : Sv.length ≤ 100000 := by omega
    clear hx hy hck hcl' hcl5 hSk hSv hsel hP hj hk hyj ha hSkl hSvl
    go_wp2
    have hmd := hmi.drew
    have hC0 : wr.drew.cell? (adk.add a) = some (.string x) := hcx wr hmi
    have hC1 : (wr.alloc (.cells #[.string x] 9)).drew.cell? (adk.add a) = some (.string x) := by
     have hh := World.cell?_of_block (a := adk.add a) (Below.heap_alloc wr (.cells #[.string x] 9) (adk.add a).block (by rw [add_block]; have := hmi.size; have := hmi.low _ hadk; have := hmi.lt; omega))
     exact hh.trans (hcx wr hmi)
    have d3 := hmd.c3
    have d3a : (wr.alloc (.cells #[.string x] 9)).drew.cell? ⟨w.heap.size + 1, 3, none⟩ = some vk := by
     have hh := World.cell?_of_block (a := ⟨w.heap.size + 1, 3, none⟩) (Below.heap_alloc wr (.cells #[.string x] 9) (w.heap.size + 1) (by have := hmi.size; have := hmi.lt; omega))
     exact hh.trans hmi.c3
    refine wp_region_in (by kernel_rfl) (fun w' => w'.cell? (adk.add a) = some (.string x)) ?_
    change wpIn _ _ _ _ _ _ _ _ (World.drew _)
    refine wpIn_tk (i := 0) (d := some 16) rfl ?_
    refine wpIn_tk (i := 2) (d := some 18) rfl ?_
    refine wpIn_tk (i := 3) (d := some 19) rfl ?_
    refine wpIn_tk (i := 4) (d := some 20) rfl ?_
    refine wpIn_tk (i := 5) (d := some 21) rfl ?_
    refine wpIn_pair (i := 1) (j := 6) hC0 (by kernel_rfl) rfl rfl (by rfl) (by rfl) ?_ ?_
    · intro K hK
      go_simp
      refine hK _ _ ?_
      clear hK K
      refine wpIn_do (i := 6) hC0 (by kernel_rfl) rfl (by rfl) ?_
      intro K hK
      go_simp
      refine hK _ _ ?_
      clear hK K
      refine wpIn_do (i := 7) hC1 (by kernel_rfl) rfl (by rfl) ?_
      intro K hK
      refine wp_append_at (.tmp 17) (.tmp 22) 22 rfl wB.heap.size 9 (.string ⟨#[]⟩) 1 16 Tryz.underlying22 Tryz.info9 rfl (by decide) (by decide) _ Sk.length (Sk.map Value.string) rfl (hmd.keys.alloc _) _ [.string x] rfl rfl (cell_one_new _ _ _) (str_one x) (by omega) (by have := hmi.size; simp; omega) ?_
      intro vk2 W2 hown2 hg2 hat2
      refine hK _ _ ?_
      clear hK K
      obtain ⟨q2, c2, hv2⟩ : ∃ q c, vk2 = .slice q (Sk.length + 1) c := by
       rcases hown2.2 with ⟨h', h0⟩ | ⟨g', cap', cur, h', _⟩
       · omega
       · exact ⟨_, _, h'⟩
      subst hv2
      have hg2' : (wr.drew.alloc (.cells #[.string x] 9)).grownBy W2 vk.ownBlock := hg2
      have hat2' : (Value.slice q2 (Sk.length + 1) c2).ownBlock = vk.ownBlock ∨ (Value.slice q2 (Sk.length + 1) c2).ownBlock = some (wr.drew.alloc (.cells #[.string x] 9)).heap.size := hat2
      obtain ⟨e3, f3, hmi3⟩ := hmd.key hown2 hg2' hat2'
      have hC2 := hcx2 W2 hg2' hmd
      have hC3 := hcx _ hmi3
      clear hown2 hg2 hat2 hg2' hat2' d3 d3a hC1 hC0
      refine wpIn_tk (i := 8) (d := some 24) rfl ?_
      refine wpIn_do (i := 9) hC2 (by kernel_rfl) rfl (by rfl) ?_
      intro K hK
      go_simp
      refine hK _ _ ?_
      clear hK K
      refine wpIn_done hC3 (by kernel_rfl) ?_ _
      clear hC2 hC3 e3 f3 hmd hmi
      go_wp2
      obtain ⟨wk, hwk⟩ : ∃ wk, wk = W2.setCell ⟨w.heap.size + 1, 3, none⟩ (.slice q2 (Sk.length + 1) c2) := ⟨_, rfl⟩
      rw [← hwk] at hmi3 ⊢
      clear hwk
      have hmd := hmi3.drew
      obtain ⟨xs, hv1, hv2⟩ := hmd.vals
      have hC0 := hcy wk.drew hmd
      have hC1 := hcyA wk hmi3
      have d4 := hmd.c4
      have d4a : (wk.alloc (.cells #[y0, y1, y2, y3, y4] 36)).drew.cell? ⟨w.heap.size + 1, 4, none⟩ = some vl := by
       have hh := World.cell?_of_block (a := ⟨w.heap.size + 1, 4, none⟩) (Below.heap_alloc wk (.cells #[y0, y1, y2, y3, y4] 36) (w.heap.size + 1) (by have := hmi3.size; have := hmi3.lt; omega))
       exact hh.trans hmi3.c4
      refine wp_region_in (by kernel_rfl) (fun w' => w'.cell? ⟨lb, lo + a * 5, none⟩ = some y0 ∧ w'.cell? ⟨lb, lo + a * 5 + 1, none⟩ = some y1 ∧ w'.cell? ⟨lb, lo + a * 5 + 2, none⟩ = some y2 ∧ w'.cell? ⟨lb, lo + a * 5 + 3, none⟩ = some y3 ∧ w'.cell? ⟨lb, lo + a * 5 + 4, none⟩ = some y4) ?_
      change wpIn _ _ _ _ _ _ _ _ (World.drew _)
      refine wpIn_tk (i := 0) (d := some 25) rfl ?_
      refine wpIn_tk (i := 2) (d := some 27) rfl ?_
      refine wpIn_tk (i := 3) (d := some 28) rfl ?_
      refine wpIn_tk (i := 4) (d := some 29) rfl ?_
      refine wpIn_tp (i := 5) (d := some 30) rfl (by (intro wq hq; obtain ⟨q0, q1, q2, q3, q4⟩ := hq; go_simp; first | done | with_reducible rfl)) ?_
      refine wpIn_pair (i := 1) (j := 6) hC0 (by kernel_rfl) rfl rfl (by rfl) (by rfl) ?_ ?_
      · intro K hK
        go_simp
        refine hK _ _ ?_
        clear hK K
        refine wpIn_do (i := 6) hC0 (by kernel_rfl) rfl (by rfl) ?_
        intro K hK
        go_simp
        refine hK _ _ ?_
        clear hK K
        refine wpIn_do (i := 7) hC1 (by kernel_rfl) rfl (by rfl) ?_
        intro K hK
        refine wp_append_at (.tmp 26) (.tmp 31) 34 rfl wB.heap.size 36 (.agg #[.int .i64 0, .int .i64 0, .string ⟨#[]⟩, .slice none 0 0, .slice none 0 0]) 5 80 Tryz.underlying34 Tryz.info36 rfl (by decide) (by decide) _ Sv.length xs rfl (hv1.alloc _) _ [y0, y1, y2, y3, y4] rfl rfl (cells_new5 _ _ _ _ _ _ _) hone5 (by omega) (by have := hmi3.size; simp; omega) ?_
        intro vl2 W4 hown4 hg4 hat4
        refine hK _ _ ?_
        clear hK K
        obtain ⟨q4, c4, hv4⟩ : ∃ q c, vl2 = .slice q (Sv.length + 1) c := by
         rcases hown4.2 with ⟨h', h0⟩ | ⟨g', cap', cur, h', _⟩
         · omega
         · exact ⟨_, _, h'⟩
        subst hv4
        have hg4' : (wk.drew.alloc (.cells #[y0, y1, y2, y3, y4] 36)).grownBy W4 vl.ownBlock := hg4
        have hat4' : (Value.slice q4 (Sv.length + 1) c4).ownBlock = vl.ownBlock ∨ (Value.slice q4 (Sv.length + 1) c4).ownBlock = some (wk.drew.alloc (.cells #[y0, y1, y2, y3, y4] 36)).heap.size := hat4
        obtain ⟨e4, f4, hmi5⟩ := hmd.val hv1 hv2 (hyJ wk.drew hmd) hown4 hg4' hat4'
        have hC2 := hcyB W4 hg4' hmd
        have hC3 := hcy _ hmi5
        clear hown4 hg4 hat4 hg4' hat4' d4 d4a hC1 hC0 hv1 hv2
        refine wpIn_tk (i := 8) (d := some 33) rfl ?_
        refine wpIn_do (i := 9) hC2 (by kernel_rfl) rfl (by rfl) ?_
        intro K hK
        go_simp
        refine hK _ _ ?_
        clear hK K
        refine wpIn_done hC3 (by kernel_rfl) ?_ _
        clear hC2 hC3 e4 f4 hmd hmi3
        go_wp2
        go_roundw
        case rel => exact ⟨k + 1, _, _, by go_num, by omega, by rw [HSk.out, HSv.out]; exact hmi5⟩
        case measure => simp [intOf]; omega
      · intro K hK
        go_simp
        refine hK _ _ ?_
        clear hK K
        refine wpIn_do (i := 1) hC1 (by kernel_rfl) rfl (by rfl) ?_
        intro K hK
        go_simp
        refine hK _ _ ?_
        clear hK K
        refine wpIn_do (i := 7) hC1 (by kernel_rfl) rfl (by rfl) ?_
        intro K hK
        refine wp_append_at (.tmp 26) (.tmp 31) 34 rfl wB.heap.size 36 (.agg #[.int .i64 0, .int .i64 0, .string ⟨#[]⟩, .slice none 0 0, .slice none 0 0]) 5 80 Tryz.underlying34 Tryz.info36 rfl (by decide) (by decide) _ Sv.length xs rfl (hv1.alloc _) _ [y0, y1, y2, y3, y4] rfl rfl (cells_new5 _ _ _ _ _ _ _) hone5 (by omega) (by have := hmi3.size; simp; omega) ?_
        intro vl2 W4 hown4 hg4 hat4
        refine hK _ _ ?_
        clear hK K
        obtain ⟨q4, c4, hv4⟩ : ∃ q c, vl2 = .slice q (Sv.length + 1) c := by
         rcases hown4.2 with ⟨h', h0⟩ | ⟨g', cap', cur, h', _⟩
         · omega
         · exact ⟨_, _, h'⟩
        subst hv4
        have hg4' : (wk.drew.alloc (.cells #[y0, y1, y2, y3, y4] 36)).grownBy W4 vl.ownBlock := hg4
        have hat4' : (Value.slice q4 (Sv.length + 1) c4).ownBlock = vl.ownBlock ∨ (Value.slice q4 (Sv.length + 1) c4).ownBlock = some (wk.drew.alloc (.cells #[y0, y1, y2, y3, y4] 36)).heap.size := hat4
        obtain ⟨e4, f4, hmi5⟩ := hmd.val hv1 hv2 (hyJ wk.drew hmd) hown4 hg4' hat4'
        have hC2 := hcyB W4 hg4' hmd
        have hC3 := hcy _ hmi5
        clear hown4 hg4 hat4 hg4' hat4' d4 d4a hC1 hC0 hv1 hv2
        refine wpIn_tk (i := 8) (d := some 33) rfl ?_
        refine wpIn_do (i := 9) hC2 (by kernel_rfl) rfl (by rfl) ?_
        intro K hK
        go_simp
        refine hK _ _ ?_
        clear hK K
        refine wpIn_done hC3 (by kernel_rfl) ?_ _
        clear hC2 hC3 e4 f4 hmd hmi3
        go_wp2
        go_roundw
        case rel => exact ⟨k + 1, _, _, by go_num, by omega, by rw [HSk.out, HSv.out]; exact hmi5⟩
        case measure => simp [intOf]; omega
    · intro K hK
      go_simp
      refine hK _ _ ?_
      clear hK K
      refine wpIn_do (i := 1) hC1 (by kernel_rfl) rfl (by rfl) ?_
      intro K hK
      go_simp
      refine hK _ _ ?_
      clear hK K
      refine wpIn_do (i := 7) hC1 (by kernel_rfl) rfl (by rfl) ?_
      intro K hK
      refine wp_append_at (.tmp 17) (.tmp 22) 22 rfl wB.heap.size 9 (.string ⟨#[]⟩) 1 16 Tryz.underlying22 Tryz.info9 rfl (by decide) (by decide) _ Sk.length (Sk.map Value.string) rfl (hmd.keys.alloc _) _ [.string x] rfl rfl (cell_one_new _ _ _) (str_one x) (by omega) (by have := hmi.size; simp; omega) ?_
      intro vk2 W2 hown2 hg2 hat2
      refine hK _ _ ?_
      clear hK K
      obtain ⟨q2, c2, hv2⟩ : ∃ q c, vk2 = .slice q (Sk.length + 1) c := by
       rcases hown2.2 with ⟨h', h0⟩ | ⟨g', cap', cur, h', _⟩
       · omega
       · exact ⟨_, _, h'⟩
      subst hv2
      have hg2' : (wr.drew.alloc (.cells #[.string x] 9)).grownBy W2 vk.ownBlock := hg2
      have hat2' : (Value.slice q2 (Sk.length + 1) c2).ownBlock = vk.ownBlock ∨ (Value.slice q2 (Sk.length + 1) c2).ownBlock = some (wr.drew.alloc (.cells #[.string x] 9)).heap.size := hat2
      obtain ⟨e3, f3, hmi3⟩ := hmd.key hown2 hg2' hat2'
      have hC2 := hcx2 W2 hg2' hmd
      have hC3 := hcx _ hmi3
      clear hown2 hg2 hat2 hg2' hat2' d3 d3a hC1 hC0
      refine wpIn_tk (i := 8) (d := some 24) rfl ?_
      refine wpIn_do (i := 9) hC2 (by kernel_rfl) rfl (by rfl) ?_
      intro K hK
      go_simp
      refine hK _ _ ?_
      clear hK K
      refine wpIn_done hC3 (by kernel_rfl) ?_ _
      clear hC2 hC3 e3 f3 hmd hmi
      go_wp2
      obtain ⟨wk, hwk⟩ : ∃ wk, wk = W2.setCell ⟨w.heap.size + 1, 3, none⟩ (.slice q2 (Sk.length + 1) c2) := ⟨_, rfl⟩
      rw [← hwk] at hmi3 ⊢
      clear hwk
      have hmd := hmi3.drew
      obtain ⟨xs, hv1, hv2⟩ := hmd.vals
      have hC0 := hcy wk.drew hmd
      have hC1 := hcyA wk hmi3
      have d4 := hmd.c4
      have d4a : (wk.alloc (.cells #[y0, y1, y2, y3, y4] 36)).drew.cell? ⟨w.heap.size + 1, 4, none⟩ = some vl := by
       have hh := World.cell?_of_block (a := ⟨w.heap.size + 1, 4, none⟩) (Below.heap_alloc wk (.cells #[y0, y1, y2, y3, y4] 36) (w.heap.size + 1) (by have := hmi3.size; have := hmi3.lt; omega))
       exact hh.trans hmi3.c4
      refine wp_region_in (by kernel_rfl) (fun w' => w'.cell? ⟨lb, lo + a * 5, none⟩ = some y0 ∧ w'.cell? ⟨lb, lo + a * 5 + 1, none⟩ = some y1 ∧ w'.cell? ⟨lb, lo + a * 5 + 2, none⟩ = some y2 ∧ w'.cell? ⟨lb, lo + a * 5 + 3, none⟩ = some y3 ∧ w'.cell? ⟨lb, lo + a * 5 + 4, none⟩ = some y4) ?_
      change wpIn _ _ _ _ _ _ _ _ (World.drew _)
      refine wpIn_tk (i := 0) (d := some 25) rfl ?_
      refine wpIn_tk (i := 2) (d := some 27) rfl ?_
      refine wpIn_tk (i := 3) (d := some 28) rfl ?_
      refine wpIn_tk (i := 4) (d := some 29) rfl ?_
      refine wpIn_tp (i := 5) (d := some 30) rfl (by (intro wq hq; obtain ⟨q0, q1, q2, q3, q4⟩ := hq; go_simp; first | done | with_reducible rfl)) ?_
      refine wpIn_pair (i := 1) (j := 6) hC0 (by kernel_rfl) rfl rfl (by rfl) (by rfl) ?_ ?_
      · intro K hK
        go_simp
        refine hK _ _ ?_
        clear hK K
        refine wpIn_do (i := 6) hC0 (by kernel_rfl) rfl (by rfl) ?_
        intro K hK
        go_simp
        refine hK _ _ ?_
        clear hK K
        refine wpIn_do (i := 7) hC1 (by kernel_rfl) rfl (by rfl) ?_
        intro K hK
        refine wp_append_at (.tmp 26) (.tmp 31) 34 rfl wB.heap.size 36 (.agg #[.int .i64 0, .int .i64 0, .string ⟨#[]⟩, .slice none 0 0, .slice none 0 0]) 5 80 Tryz.underlying34 Tryz.info36 rfl (by decide) (by decide) _ Sv.length xs rfl (hv1.alloc _) _ [y0, y1, y2, y3, y4] rfl rfl (cells_new5 _ _ _ _ _ _ _) hone5 (by omega) (by have := hmi3.size; simp; omega) ?_
        intro vl2 W4 hown4 hg4 hat4
        refine hK _ _ ?_
        clear hK K
        obtain ⟨q4, c4, hv4⟩ : ∃ q c, vl2 = .slice q (Sv.length + 1) c := by
         rcases hown4.2 with ⟨h', h0⟩ | ⟨g', cap', cur, h', _⟩
         · omega
         · exact ⟨_, _, h'⟩
        subst hv4
        have hg4' : (wk.drew.alloc (.cells #[y0, y1, y2, y3, y4] 36)).grownBy W4 vl.ownBlock := hg4
        have hat4' : (Value.slice q4 (Sv.length + 1) c4).ownBlock = vl.ownBlock ∨ (Value.slice q4 (Sv.length + 1) c4).ownBlock = some (wk.drew.alloc (.cells #[y0, y1, y2, y3, y4] 36)).heap.size := hat4
        obtain ⟨e4, f4, hmi5⟩ := hmd.val hv1 hv2 (hyJ wk.drew hmd) hown4 hg4' hat4'
        have hC2 := hcyB W4 hg4' hmd
        have hC3 := hcy _ hmi5
        clear hown4 hg4 hat4 hg4' hat4' d4 d4a hC1 hC0 hv1 hv2
        refine wpIn_tk (i := 8) (d := some 33) rfl ?_
        refine wpIn_do (i := 9) hC2 (by kernel_rfl) rfl (by rfl) ?_
        intro K hK
        go_simp
        refine hK _ _ ?_
        clear hK K
        refine wpIn_done hC3 (by kernel_rfl) ?_ _
        clear hC2 hC3 e4 f4 hmd hmi3
        go_wp2
        go_roundw
        case rel => exact ⟨k + 1, _, _, by go_num, by omega, by rw [HSk.out, HSv.out]; exact hmi5⟩
        case measure => simp [intOf]; omega
      · intro K hK
        go_simp
        refine hK _ _ ?_
        clear hK K
        refine wpIn_do (i := 1) hC1 (by kernel_rfl) rfl (by rfl) ?_
        intro K hK
        go_simp
        refine hK _ _ ?_
        clear hK K
        refine wpIn_do (i := 7) hC1 (by kernel_rfl) rfl (by rfl) ?_
        intro K hK
        refine wp_append_at (.tmp 26) (.tmp 31) 34 rfl wB.heap.size 36 (.agg #[.int .i64 0, .int .i64 0, .string ⟨#[]⟩, .slice none 0 0, .slice none 0 0]) 5 80 Tryz.underlying34 Tryz.info36 rfl (by decide) (by decide) _ Sv.length xs rfl (hv1.alloc _) _ [y0, y1, y2, y3, y4] rfl rfl (cells_new5 _ _ _ _ _ _ _) hone5 (by omega) (by have := hmi3.size; simp; omega) ?_
        intro vl2 W4 hown4 hg4 hat4
        refine hK _ _ ?_
        clear hK K
        obtain ⟨q4, c4, hv4⟩ : ∃ q c, vl2 = .slice q (Sv.length + 1) c := by
         rcases hown4.2 with ⟨h', h0⟩ | ⟨g', cap', cur, h', _⟩
         · omega
         · exact ⟨_, _, h'⟩
        subst hv4
        have hg4' : (wk.drew.alloc (.cells #[y0, y1, y2, y3, y4] 36)).grownBy W4 vl.ownBlock := hg4
        have hat4' : (Value.slice q4 (Sv.length + 1) c4).ownBlock = vl.ownBlock ∨ (Value.slice q4 (Sv.length + 1) c4).ownBlock = some (wk.drew.alloc (.cells #[y0, y1, y2, y3, y4] 36)).heap.size := hat4
        obtain ⟨e4, f4, hmi5⟩ := hmd.val hv1 hv2 (hyJ wk.drew hmd) hown4 hg4' hat4'
        have hC2 := hcyB W4 hg4' hmd
        have hC3 := hcy _ hmi5
        clear hown4 hg4 hat4 hg4' hat4' d4 d4a hC1 hC0 hv1 hv2
        refine wpIn_tk (i := 8) (d := some 33) rfl ?_
        refine wpIn_do (i := 9) hC2 (by kernel_rfl) rfl (by rfl) ?_
        intro K hK
        go_simp
        refine hK _ _ ?_
        clear hK K
        refine wpIn_done hC3 (by kernel_rfl) ?_ _
        clear hC2 hC3 e4 f4 hmd hmi3
        go_wp2
        go_roundw
        case rel => exact ⟨k + 1, _, _, by go_num, by omega, by rw [HSk.out, HSv.out]; exact hmi5⟩
        case measure => simp [intOf]; omega
  · obtain rfl : k = ks.length := by omega
    have hLt : L.take ks.length = L := List.take_of_length_le (by omega)
    rw [hLt, places_sort hP hd HLL.out] at hmi
    obtain ⟨xs, hv1, hv2⟩ := hmi.vals
    have hkl : ((sortK (ks.zip l)).map (·.1)).length = ks.length := by rw [List.length_map, sortK_length]; simp; have := HLL.out; omega
    have hvl : ((sortK (ks.zip l)).map (·.2)).length = ks.length := by rw [List.length_map, sortK_length]; simp; have := HLL.out; omega
    obtain ⟨q1, c1, hvk, hrk⟩ := own_rdK hmi.keys
    obtain ⟨q2, c2, hvl2, hc2, hrj⟩ := own_js hv1 hv2
    subst hvk hvl2
    have j0 := five_c0 hmi.obj; have j1 := five_c1 hmi.obj; have j2 := five_c2 hmi.obj; have j3 := five_c3 hmi.obj; have j4 := five_c4 hmi.obj
    have i0 := five_c0 hmi.res; have i1 := five_c1 hmi.res; have i2 := five_c2 hmi.res; have i3 := five_c3 hmi.res; have i4 := five_c4 hmi.res
    have z0 := five_fz hmi.res 0; have z1 := five_fz hmi.res 1; have z2 := five_fz hmi.res 2; have z3 := five_fz hmi.res 3; have z4 := five_fz hmi.res 4
    have h5 := set5_heap hmi.res (.int .i64 5) (.int .i64 0) (.string ⟨#[]⟩) (.slice q1 ((sortK (ks.zip l)).map (·.1)).length c1) (.slice q2 ((sortK (ks.zip l)).map (·.2)).length c2)
    have HK5 : Keep (One w.heap.size) wr _ := set5_keep wr w.heap.size (.int .i64 5) (.int .i64 0) (.string ⟨#[]⟩) (.slice q1 ((sortK (ks.zip l)).map (·.1)).length c1) (.slice q2 ((sortK (ks.zip l)).map (·.2)).length c2)
    have hsz := hmi.size
    have hkeep := hmi.keep
    unfold set5 at h5 HK5
    have HRK : Hid (RdK (fun k => wB.heap.size ≤ k ∧ k < wr.heap.size) wr q1 c1 ((sortK (ks.zip l)).map (·.1))) := hrk
    have HRJ : Hid (isJs (fun k => O k ∨ (wB.heap.size ≤ k ∧ k < wr.heap.size)) wr q2 0 ((sortK (ks.zip l)).map (·.2))) := hrj
    have k0 := five_c0 h5; have k1 := five_c1 h5; have k2 := five_c2 h5; have k3 := five_c3 h5; have k4 := five_c4 h5
    obtain ⟨n1, hn1⟩ : ∃ n1, ((sortK (ks.zip l)).map (·.1)).length = n1 := ⟨_, rfl⟩
    obtain ⟨n2, hn2⟩ : ∃ n2, ((sortK (ks.zip l)).map (·.2)).length = n2 := ⟨_, rfl⟩
    rw [hn1, hn2] at h5 HK5 k3 k4
    rw [hn1] at j3 k0 k1 k2
    rw [hn2] at j4 k0 k1 k2
    clear hrk hrj hv1 hv2 hmi hP hkl hvl hk hj
    go_wp2
    refine bodyPost_ret (v := .agg #[.int .i64 5, .int .i64 0, .string ⟨#[]⟩, .slice q1 n1 c1, .slice q2 n2 c2]) (by simp [results, Tryz.results147, go_sem, k0, k1, k2, k3, k4]) rfl ?_
    obtain ⟨r1, r2⟩ := map_end hO hbw hkeep HK5 HRK.out HRJ.out hc2 (by omega)
    rw [hn1, hn2] at r1
    exact ⟨_, rfl, r1, r2⟩
theorem wpList_app {w : World} {ops : Array Oper} {rest : List Oper} {o : Oper} {a : Act} {Q : Exit → Act → World → Prop} (hgd : o.guard = none) (s x : Operand) (t : TypeId)
    (ho : o.op = .call { callee := .builtin .append, args := #[s, x], argTypes := #[t, t] })
    (base : Nat) (e : TypeId) (z : Value) (size bytes : Nat) (ht : Tryz.prog.underlying t = some (.slice e)) (hinfo : (Tryz.prog.info? e).map (fun i => (i.zero, i.size, i.bytes)) = some (some z, size, bytes))
    (hzs : z.cells.size = size) (hsz : 0 < size) (hby : bytes ≤ 100)
    (v : Value) (n : Nat) (xs : List Value) (hs : a.eval s = v) (hown : w.ownsRow base e size v n xs)
    (ad : Addr) (news : List Value) (hx : a.eval x = .slice (some ad) 1 1) (hl : news.length = size) (hnews : ∀ j u, news[j]? = some u → w.cell? (ad.add j) = some u) (h1 : ∀ u ∈ news, u.oneCell' = true)
    (hn : n ≤ 1000000) (hbase : base ≤ w.heap.size)
    (h : ∀ v' w', w'.ownsRow base e size v' (n + 1) (xs ++ news) → w.grownBy w' v.ownBlock → (v'.ownBlock = v.ownBlock ∨ v'.ownBlock = some w.heap.size) → wpList Tryz.prog ops Q rest (a.put o.dst v') w') : wpList Tryz.prog ops Q (o :: rest) a w :=
 wpList_plain hgd fun _ hK => wp_append_at s x t ho base e z size bytes ht hinfo hzs hsz hby v n xs hs hown ad news hx hl hnews h1 hn hbase fun v' w' h2 h3 h4 => hK _ _ (h v' w' h2 h3 h4)
end Go.Proofs.YtimhpglfolbomaaGreat
namespace Go.Proofs.YtimhpglfolbomaaGreat
theorem nix_of {t : ByteArray} (h : t.size = 0) : t = nix := by
 cases t with
 | mk a =>
  have : a = #[] := Array.eq_empty_of_size_eq_zero h
  rw [this]; rfl
end Go.Proofs.YtimhpglfolbomaaGreat
namespace Go.Proofs.YtimhpglfolbomaaGreat
open Go.RowKit
abbrev zJ : Obj := .cells #[.int .i64 0, .int .i64 0, .string ⟨#[]⟩, .slice none 0 0, .slice none 0 0] 36
theorem own_slice {w : World} {B e size n : Nat} {v : Value} {xs : List Value} (h : w.ownsRow B e size v n xs) : ∃ q n c, v = .slice q n c := by
 rcases h.2 with ⟨h', h0⟩ | ⟨g', cap', cur, h', _⟩
 · exact ⟨_, _, _, h'⟩
 · exact ⟨_, _, _, h'⟩
theorem cells_at5 {W : World} {n : Nat} (h : W.heap.size = n) {t : TypeId} {y0 y1 y2 y3 y4 : Value} : ∀ j u, [y0, y1, y2, y3, y4][j]? = some u → (W.alloc (.cells #[y0, y1, y2, y3, y4] t)).cell? ((⟨n, 0, none⟩ : Addr).add j) = some u := by
 subst h
 exact cells_new5 _ _ _ _ _ _ _
theorem one5 {k i : Int} {t : ByteArray} {pk pl : Option Addr} {nk ck nl cl : Nat} : ∀ u ∈ [Value.int .i64 k, .int .i64 i, .string t, .slice pk nk ck, .slice pl nl cl], u.oneCell' = true := by
 intro u hu
 simp only [List.mem_cons, List.not_mem_nil, or_false] at hu
 rcases hu with rfl | rfl | rfl | rfl | rfl <;> rfl
def isF (s : ByteArray) (i : Nat) : Bool := decide (byteAt (ints s) i = 239 ∧ byteAt (ints s) (i + 1) = 191 ∧ byteAt (ints s) (i + 2) = 189)
theorem take_three {l : List UInt8} {n : Nat} (h : n + 3 ≤ l.length) : (l.drop n).take 3 = [l[n], l[n + 1], l[n + 2]] := by
 rw [List.drop_eq_getElem_cons (by omega), List.drop_eq_getElem_cons (i := n + 1) (by omega), List.drop_eq_getElem_cons (i := n + 2) (by omega)]
 rfl
theorem byte_eq (a : UInt8) (n : Nat) (hn : n < 256) : ((a.toNat : Int) = (n : Int)) ↔ a = UInt8.ofNat n := by
 constructor
 · intro h
   apply UInt8.toNat_inj.1
   have : a.toNat = n := by omega
   rw [this]
   simp
   omega
 · intro h
   subst h
   simp
   omega
theorem take_f (s : ByteArray) (i : Nat) : decide ((s.data.toList.drop i).take 3 = [239, 191, 189]) = isF s i := by
 unfold isF
 rw [decide_eq_decide]
 have hl : s.data.toList.length = s.size := by simp
 by_cases h : i + 3 ≤ s.size
 · rw [take_three (by omega), byte_in s i (by omega), byte_in s (i + 1) (by omega), byte_in s (i + 2) (by omega)]
   have e1 := byte_eq s[i] 239 (by omega)
   have e2 := byte_eq s[i + 1] 191 (by omega)
   have e3 := byte_eq s[i + 2] 189 (by omega)
   have g : ∀ k (hk : k < s.size), s.data.toList[k]'(by omega) = s[k] := fun k hk => by simp [ByteArray.getElem_eq_getElem_data]
   rw [g i (by omega), g (i + 1) (by omega), g (i + 2) (by omega)]
   simp only [List.cons.injEq, and_true]
   exact and_congr e1.symm (and_congr e2.symm e3.symm)
 · constructor
   · intro h'
     have := congrArg List.length h'
     simp at this
     omega
   · intro h'
     have := byte_past s (i + 2) (by omega)
     omega
theorem pre_list (s : ByteArray) (i : Nat) : (((s.extract i s.size).extract 0 3).toList == [239, 191, 189]) = isF s i := by
 rw [← take_f, Lib.toList_data, ByteArray.data_extract, Array.toList_extract, ByteArray.data_extract, Array.toList_extract]
 simp only [List.extract_eq_take_drop, List.drop_zero, Nat.sub_zero]
 have : (s.data.toList.drop i).take (s.size - i) = s.data.toList.drop i := List.take_of_length_le (by simp)
 rw [this, Bool.eq_iff_iff]
 simp only [beq_iff_eq, decide_eq_true_eq]
theorem lite_any (s : ByteArray) (i : Nat) (w : World) (hi : i ≤ s.size) (hs : s.size ≤ 1000000000) :
    Calls Tryz.prog 184 #[.string (s.extract i s.size), .string ⟨#[239, 191, 189]⟩] w fun e w' => e = .returned (.bool (isF s i)) ∧ w = w' := by
 have h1 := pre_list s i
 have hu : (s.extract i s.size).size = s.size - i := by simp
 by_cases h : i + 3 ≤ s.size
 · obtain ⟨u, hu'⟩ : ∃ u, s.extract i s.size = u := ⟨_, rfl⟩
   rw [hu'] at h1 hu ⊢
   have hu1 : 3 ≤ u.size := by omega
   have hu2 : u.size ≤ 1000000000 := by omega
   clear hu hu'
   cases hb : isF s i
   all_goals
    rw [hb] at h1
    go_enter Tryz.func184, Tryz.ntmps184
    go_wp2
    go_ret
    exact ⟨rfl, rfl⟩
 · have hF : isF s i = false := by
     unfold isF
     apply decide_eq_false
     intro h'
     have := byte_past s (i + 2) (by omega)
     omega
   rw [hF]
   obtain ⟨u, hu'⟩ : ∃ u, s.extract i s.size = u := ⟨_, rfl⟩
   rw [hu'] at h1 hu ⊢
   have hu1 : u.size < 3 := by omega
   clear hu hu' h1
   go_enter Tryz.func184, Tryz.ntmps184
   go_wp2
   go_ret
   exact ⟨rfl, rfl⟩
theorem prefix_any (s : ByteArray) (i : Nat) (w : World) (hi : i ≤ s.size) (hs : s.size ≤ 1000000000) :
    Calls Tryz.prog 182 #[.string (s.extract i s.size), .string ⟨#[239, 191, 189]⟩] w fun e w' => e = .returned (.bool (isF s i)) ∧ w = w' := by
 go_enter Tryz.func182, Tryz.ntmps182
 go_wp2_with (go_at_call 184; refine (lite_any s i _ hi hs).mono ?_; rintro x w' ⟨rfl, rfl⟩)
 go_ret
 exact ⟨rfl, rfl⟩
def strayTold (r : Option Nat) (x : Ending) : Prop := match r with
 | none => x = .returned (.tuple #[.int .i64 0, .bool false])
 | some p => x = .returned (.tuple #[.int .i64 p, .bool true])
theorem stray_any (s : ByteArray) (w : World) (hs : s.size ≤ 1000000000) :
    Calls Tryz.prog 175 #[.string s] w fun x w' => strayTold (stray (ints s)) x ∧ ∃ pos, w' = w.iter s pos := by
 go_enter Tryz.func175, Tryz.ntmps175
 go_wp2
 go_loopw [4] (fun _ wr => ∃ (pos m : Nat), wr = w.iter s pos ∧ strayL (ints s) m pos = stray (ints s) ∧ s.size ≤ pos + m) (fun _ wr => s.size - wr.iterPos w.heap.size)
 case atStart => exact ⟨0, s.size, rfl, by unfold stray; rw [ints_length], by omega⟩
 case round =>
  obtain ⟨pos, m, rfl, hc, hb⟩ := hrel
  have HC : Hid (strayL (ints s) m pos = stray (ints s)) := hc
  clear hc
  by_cases hp : pos < s.size
  · have hnx : ∀ ty, (Instr.next (.pointer (some ⟨w.heap.size, 0, none⟩)) true ty).run Tryz.prog (w.iter s pos) = _ := fun ty => run_next_any w s pos ty hp
    have hdec := decode_rune s pos
    obtain ⟨m, rfl⟩ : ∃ m', m = m' + 1 := ⟨m - 1, by omega⟩
    unfold strayL at HC
    rw [ints_length, if_pos hp] at HC
    by_cases h0 : (runeAt (ints s) pos).2 = 0
    · rw [if_pos h0] at HC hdec
      have hF : isF s pos = false := by
       unfold isF
       apply decide_eq_false
       rintro ⟨a, b, c⟩
       rw [rune_fffd _ _ a b c] at h0
       cases h0
      have pf := fun w' => prefix_any s pos w' (by omega) hs
      rw [hF] at pf
      rw [hdec] at hnx
      go_wp2_with (go_at_call 182; refine (pf _).mono ?_; rintro x w' ⟨rfl, rfl⟩)
      go_ret2
      rw [← HC.out]
      exact ⟨rfl, _, rfl⟩
    · rw [if_neg h0] at HC hdec
      have hw4 := rune_width (ints s) pos
      by_cases hr : (runeAt (ints s) pos).1 = 65533
      · have hF : isF s pos = true := decide_eq_true (rune_is (ints s) pos (byte_bd s) h0 hr)
        have pf := fun w' => prefix_any s pos w' (by omega) hs
        rw [hF] at pf
        rw [hr] at hdec
        rw [hdec] at hnx
        obtain ⟨wd, hwd⟩ : ∃ wd, (runeAt (ints s) pos).2 = wd := ⟨_, rfl⟩
        rw [hwd] at hnx HC h0 hw4
        clear hdec hwd
        go_wp2_with (go_at_call 182; refine (pf _).mono ?_; rintro x w' ⟨rfl, rfl⟩)
        go_roundw
        case rel => exact ⟨pos + wd, m, rfl, HC.out, by omega⟩
        case measure => simp; omega
      · obtain ⟨c, hcn⟩ : ∃ c, (runeAt (ints s) pos).1.toNat = c := ⟨_, rfl⟩
        have hc1 : (c : Int) ≠ 65533 := by omega
        rw [hcn] at hdec
        rw [hdec] at hnx
        obtain ⟨wd, hwd⟩ : ∃ wd, (runeAt (ints s) pos).2 = wd := ⟨_, rfl⟩
        rw [hwd] at hnx HC h0 hw4
        clear hdec hwd hcn
        go_wp2
        go_roundw
        case rel => exact ⟨pos + wd, m, rfl, HC.out, by omega⟩
        case measure => simp; omega
  · have hnx : ∀ ty, (Instr.next (.pointer (some ⟨w.heap.size, 0, none⟩)) true ty).run Tryz.prog (w.iter s pos) = _ := fun ty => run_next_end w s pos ty hp
    go_wp2
    go_ret2
    have hn : strayL (ints s) m pos = none := by
     cases m with
     | zero => rfl
     | succ m => unfold strayL; rw [ints_length, if_neg hp]
    rw [← HC.out, hn]
    exact ⟨rfl, _, rfl⟩
theorem isJ_shape {O : Nat → Prop} {w : World} {j : J} {cs : List Value} (h : isJ O w j cs) : ∃ k i t pk nk ck pl nl cl, cs = [.int .i64 k, .int .i64 i, .string t, .slice pk nk ck, .slice pl nl cl] := by
 cases j
 unfold isJ at h
 obtain ⟨pk, ck, pl, cl, e, _⟩ := h
 exact ⟨_, _, _, _, _, _, _, _, _, e⟩
theorem take_snoc {l : List J} {k : Nat} (h : k < l.length) : l.take (k + 1) = l.take k ++ [l.getD k J.zero] := by
 rw [List.take_add_one, List.getElem?_eq_getElem h, List.getD_eq_getElem?_getD, List.getElem?_eq_getElem h]
 rfl
theorem letters_any (s : ByteArray) (w : World) (hs : s.size ≤ 1000000000) : Calls Tryz.prog 160 #[.string s] w fun x w' => x = .returned (.bool (letters s)) ∧ Below w.heap.size w w' := by
 have sa := stray_any s w hs
 cases hst : stray (ints s) with
 | none =>
  have HL : Hid (letters s = true) := by show letters s = true; unfold letters; rw [hst]; rfl
  rw [hst] at sa
  go_enter Tryz.func160, Tryz.ntmps160
  go_wp2_with (go_at_call 175; refine sa.mono ?_; rintro x w1 ⟨rfl, pos, rfl⟩)
  go_ret
  exact ⟨ret_bool HL.out.symm, (Below.refl _ _).alloc (Nat.le_refl _) _⟩
 | some p =>
  have HL : Hid (letters s = false) := by show letters s = false; unfold letters; rw [hst]; rfl
  rw [hst] at sa
  go_enter Tryz.func160, Tryz.ntmps160
  go_wp2_with (go_at_call 175; refine sa.mono ?_; rintro x w1 ⟨rfl, pos, rfl⟩)
  go_ret
  exact ⟨ret_bool HL.out.symm, (Below.refl _ _).alloc (Nat.le_refl _) _⟩
theorem nil_str {t : ByteArray} : (t.toList == []) = decide (t.size = 0) := by
 rw [Lib.toList_data, Bool.eq_iff_iff]
 simp only [beq_iff_eq, decide_eq_true_eq]
 constructor
 · intro h
   show t.data.size = 0
   rw [← Array.length_toList, h]; rfl
 · intro h
   exact List.eq_nil_of_length_eq_zero (by rw [Array.length_toList]; exact h)
def bareB (k i : Int) (t : ByteArray) (nk nl : Nat) : Bool := (decide (i = 0) || decide (k = 1) || decide (k = 2)) && (decide (t.size = 0) || decide (k = 3)) && (decide (nk = 0) || decide (k = 5)) && (decide (nl = 0) || decide (k = 4) || decide (k = 5))
theorem bare_any (k i : Int) (t : ByteArray) (pk pl : Option Addr) (nk ck nl cl : Nat) (w : World) :
    Calls Tryz.prog 159 #[.agg #[.int .i64 k, .int .i64 i, .string t, .slice pk nk ck, .slice pl nl cl]] w fun x w' => x = .returned (.bool (bareB k i t nk nl)) ∧ Below w.heap.size w w' := by
 have hn := nil_str (t := t)
 by_cases h1 : i = 0
 · subst h1
   by_cases h2 : t.size = 0
   · rw [decide_eq_true h2] at hn
     by_cases h3 : nk = 0
     · subst h3
       by_cases h4 : nl = 0
       · subst h4
         have HB : Hid (bareB k 0 t 0 0 = true) := by show _ = _; unfold bareB; simp [*]
         go_enter Tryz.func159, Tryz.ntmps159
         go_wp2
         go_ret
         refine ⟨ret_bool ?_, (Below.refl _ _).alloc (Nat.le_refl _) _⟩
         first | exact HB.out.symm | (rw [HB.out]; simp; omega)
       · skip
         by_cases a1 : k = 4
         · subst a1
           have HB : Hid (bareB 4 0 t 0 nl = true) := by show _ = _; unfold bareB; simp [*]
           go_enter Tryz.func159, Tryz.ntmps159
           go_wp2
           go_ret
           refine ⟨ret_bool ?_, (Below.refl _ _).alloc (Nat.le_refl _) _⟩
           first | exact HB.out.symm | (rw [HB.out]; simp; omega)
         · skip
           by_cases a2 : k = 5
           · subst a2
             have HB : Hid (bareB 5 0 t 0 nl = true) := by show _ = _; unfold bareB; simp [*]
             go_enter Tryz.func159, Tryz.ntmps159
             go_wp2
             go_ret
             refine ⟨ret_bool ?_, (Below.refl _ _).alloc (Nat.le_refl _) _⟩
             first | exact HB.out.symm | (rw [HB.out]; simp; omega)
           · skip
             have HB : Hid (bareB k 0 t 0 nl = false) := by show _ = _; unfold bareB; simp [*]
             go_enter Tryz.func159, Tryz.ntmps159
             go_wp2
             go_ret
             refine ⟨ret_bool ?_, (Below.refl _ _).alloc (Nat.le_refl _) _⟩
             first | exact HB.out.symm | (rw [HB.out]; simp; omega)
     · have h3p : 0 < nk := by omega
       by_cases a3 : k = 5
       · subst a3
         by_cases h4 : nl = 0
         · subst h4
           have HB : Hid (bareB 5 0 t nk 0 = true) := by show _ = _; unfold bareB; simp [*]
           go_enter Tryz.func159, Tryz.ntmps159
           go_wp2
           go_ret
           refine ⟨ret_bool ?_, (Below.refl _ _).alloc (Nat.le_refl _) _⟩
           first | exact HB.out.symm | (rw [HB.out]; simp; omega)
         · skip
           have HB : Hid (bareB 5 0 t nk nl = true) := by show _ = _; unfold bareB; simp [*]
           go_enter Tryz.func159, Tryz.ntmps159
           go_wp2
           go_ret
           refine ⟨ret_bool ?_, (Below.refl _ _).alloc (Nat.le_refl _) _⟩
           first | exact HB.out.symm | (rw [HB.out]; simp; omega)
       · skip
         have HB : Hid (bareB k 0 t nk nl = false) := by show _ = _; unfold bareB; simp [*]
         go_enter Tryz.func159, Tryz.ntmps159
         go_wp2
         go_ret
         refine ⟨ret_bool ?_, (Below.refl _ _).alloc (Nat.le_refl _) _⟩
         first | exact HB.out.symm | (rw [HB.out]; simp; omega)
   · rw [decide_eq_false h2] at hn
     by_cases a4 : k = 3
     · subst a4
       by_cases h3 : nk = 0
       · subst h3
         by_cases h4 : nl = 0
         · subst h4
           have HB : Hid (bareB 3 0 t 0 0 = true) := by show _ = _; unfold bareB; simp [*]
           go_enter Tryz.func159, Tryz.ntmps159
           go_wp2
           go_ret
           refine ⟨ret_bool ?_, (Below.refl _ _).alloc (Nat.le_refl _) _⟩
           first | exact HB.out.symm | (rw [HB.out]; simp; omega)
         · skip
           have HB : Hid (bareB 3 0 t 0 nl = false) := by show _ = _; unfold bareB; simp [*]
           go_enter Tryz.func159, Tryz.ntmps159
           go_wp2
           go_ret
           refine ⟨ret_bool ?_, (Below.refl _ _).alloc (Nat.le_refl _) _⟩
           first | exact HB.out.symm | (rw [HB.out]; simp; omega)
       · have h3p : 0 < nk := by omega
         have HB : Hid (bareB 3 0 t nk nl = false) := by show _ = _; unfold bareB; simp [*]
         go_enter Tryz.func159, Tryz.ntmps159
         go_wp2
         go_ret
         refine ⟨ret_bool ?_, (Below.refl _ _).alloc (Nat.le_refl _) _⟩
         first | exact HB.out.symm | (rw [HB.out]; simp; omega)
     · skip
       have HB : Hid (bareB k 0 t nk nl = false) := by show _ = _; unfold bareB; simp [*]
       go_enter Tryz.func159, Tryz.ntmps159
       go_wp2
       go_ret
       refine ⟨ret_bool ?_, (Below.refl _ _).alloc (Nat.le_refl _) _⟩
       first | exact HB.out.symm | (rw [HB.out]; simp; omega)
 · skip
   by_cases a5 : k = 1
   · subst a5
     by_cases h2 : t.size = 0
     · rw [decide_eq_true h2] at hn
       by_cases h3 : nk = 0
       · subst h3
         by_cases h4 : nl = 0
         · subst h4
           have HB : Hid (bareB 1 i t 0 0 = true) := by show _ = _; unfold bareB; simp [*]
           go_enter Tryz.func159, Tryz.ntmps159
           go_wp2
           go_ret
           refine ⟨ret_bool ?_, (Below.refl _ _).alloc (Nat.le_refl _) _⟩
           first | exact HB.out.symm | (rw [HB.out]; simp; omega)
         · skip
           have HB : Hid (bareB 1 i t 0 nl = false) := by show _ = _; unfold bareB; simp [*]
           go_enter Tryz.func159, Tryz.ntmps159
           go_wp2
           go_ret
           refine ⟨ret_bool ?_, (Below.refl _ _).alloc (Nat.le_refl _) _⟩
           first | exact HB.out.symm | (rw [HB.out]; simp; omega)
       · have h3p : 0 < nk := by omega
         have HB : Hid (bareB 1 i t nk nl = false) := by show _ = _; unfold bareB; simp [*]
         go_enter Tryz.func159, Tryz.ntmps159
         go_wp2
         go_ret
         refine ⟨ret_bool ?_, (Below.refl _ _).alloc (Nat.le_refl _) _⟩
         first | exact HB.out.symm | (rw [HB.out]; simp; omega)
     · rw [decide_eq_false h2] at hn
       have HB : Hid (bareB 1 i t nk nl = false) := by show _ = _; unfold bareB; simp [*]
       go_enter Tryz.func159, Tryz.ntmps159
       go_wp2
       go_ret
       refine ⟨ret_bool ?_, (Below.refl _ _).alloc (Nat.le_refl _) _⟩
       first | exact HB.out.symm | (rw [HB.out]; simp; omega)
   · skip
     by_cases a6 : k = 2
     · subst a6
       by_cases h2 : t.size = 0
       · rw [decide_eq_true h2] at hn
         by_cases h3 : nk = 0
         · subst h3
           by_cases h4 : nl = 0
           · subst h4
             have HB : Hid (bareB 2 i t 0 0 = true) := by show _ = _; unfold bareB; simp [*]
             go_enter Tryz.func159, Tryz.ntmps159
             go_wp2
             go_ret
             refine ⟨ret_bool ?_, (Below.refl _ _).alloc (Nat.le_refl _) _⟩
             first | exact HB.out.symm | (rw [HB.out]; simp; omega)
           · skip
             have HB : Hid (bareB 2 i t 0 nl = false) := by show _ = _; unfold bareB; simp [*]
             go_enter Tryz.func159, Tryz.ntmps159
             go_wp2
             go_ret
             refine ⟨ret_bool ?_, (Below.refl _ _).alloc (Nat.le_refl _) _⟩
             first | exact HB.out.symm | (rw [HB.out]; simp; omega)
         · have h3p : 0 < nk := by omega
           have HB : Hid (bareB 2 i t nk nl = false) := by show _ = _; unfold bareB; simp [*]
           go_enter Tryz.func159, Tryz.ntmps159
           go_wp2
           go_ret
           refine ⟨ret_bool ?_, (Below.refl _ _).alloc (Nat.le_refl _) _⟩
           first | exact HB.out.symm | (rw [HB.out]; simp; omega)
       · rw [decide_eq_false h2] at hn
         have HB : Hid (bareB 2 i t nk nl = false) := by show _ = _; unfold bareB; simp [*]
         go_enter Tryz.func159, Tryz.ntmps159
         go_wp2
         go_ret
         refine ⟨ret_bool ?_, (Below.refl _ _).alloc (Nat.le_refl _) _⟩
         first | exact HB.out.symm | (rw [HB.out]; simp; omega)
     · skip
       have b1 : (i != 0) = true := by simp [h1]
       have b2 : (k != 1) = true := by simp [*]
       have b3 : (k != 2) = true := by simp [*]
       have HB : Hid (bareB k i t nk nl = false) := by show _ = _; unfold bareB; simp [*]
       go_enter Tryz.func159, Tryz.ntmps159
       go_wp2
       go_ret
       refine ⟨ret_bool ?_, (Below.refl _ _).alloc (Nat.le_refl _) _⟩
       first | exact HB.out.symm | (rw [HB.out]; simp; omega)
end Go.Proofs.YtimhpglfolbomaaGreat

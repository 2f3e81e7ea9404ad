/-
  A map of keys and values, in order: by a contract.
  A text between its signs, read: by a contract.
  Keys that stood already, and a key read: by a contract.
  A list that is being read.
  What is written as a number is read as it was.
  What is written as JSON is read as it was.
  A list read, by a contract: given how a value within it is read.
  Keys and values that are being read.
  Pairs read, by a contract: given how a value within them is read.
  A value read, by a contract: to the depth that may be.
  The whole text read, by a contract.
  The first byte that is no letter's, by a contract.
  Bytes decoded, by a contract.
  What is written, by contracts: the writer's small steps.
  How a letter stands in a text, by a contract.
-/
import Derived.Test.YtalmghbkdelaoaaP03
import Derived.Maps.OwnSet
import Derived.Lib.AppendStr
import Derived.Stop.FmtQuoteTie
set_option maxRecDepth 100000
set_option maxHeartbeats 64000000
namespace Go.Proofs.Ytalmghbkdelaoaa
open Go.RowKit
theorem cell_one_new (w : World) (v : Value) (t : Nat) : ∀ j u, [v][j]? = some u → (w.alloc (.cells #[v] t)).cell? ((⟨w.heap.size, 0, none⟩ : Addr).add j) = some u := by
  intro j u hj
  match j, hj with
  | 0, hj => simp at hj; subst hj; exact cell_row (cur := [_]) (heap_alloc_new _ _) 0 _ rfl
theorem str_one (x : ByteArray) : ∀ u ∈ [Value.string x], u.oneCell' = true := by
  intro u hu; simp at hu; subst hu; rfl
theorem cells_new5 (w : World) (t : Nat) (y0 y1 y2 y3 y4 : Value) : ∀ j u, [y0, y1, y2, y3, y4][j]? = some u → (w.alloc (.cells #[y0, y1, y2, y3, y4] t)).cell? ((⟨w.heap.size, 0, none⟩ : Addr).add j) = some u := by
  intro j u hj
  have e : (⟨w.heap.size, 0, none⟩ : Addr).add j = ⟨w.heap.size, j, none⟩ := by unfold Addr.add; split <;> simp_all
  rw [e]
  exact cell_row (cur := [_, _, _, _, _]) (heap_alloc_new _ _) j u hj
theorem mapOf_any {O : Nat → Prop} {w : World} {ks : List ByteArray} {l : List J} {pk pl : Option Addr} {ck cl : Nat} (hk : RdK O w pk ck ks) (hj : isJs O w pl 0 l) (hll : ks.length = l.length) (hO : ∀ k, O k → k < w.heap.size) (hn : ks.length ≤ 100000) (hd : ks.Pairwise (· ≠ ·)) :
    Calls Try.prog 49 #[.slice pk ks.length ck, .slice pl l.length cl] w fun e w' => ∃ cs, e = .returned (.agg cs) ∧ isJ (fun k => O k ∨ New w w' k) w' (mapOf ks l) cs.toList ∧ Below w.heap.size w w' := by
  have HLL : Hid (ks.length = l.length) := hll
  clear hll
  have hbA : Below w.heap.size w ((w.alloc (.cells #[.int .i64 0, .int .i64 0, .string ⟨#[]⟩, .slice none 0 0, .slice none 0 0] 51)).alloc (.cells #[.int .i64 5, .int .i64 0, .string ⟨#[]⟩, .slice none 0 0, .slice none 0 0] 51)) := ((Below.refl _ _).alloc (Nat.le_refl _) _).alloc (by simp) _
  have hkA := hk.below hO hbA
  have hszA : ((w.alloc (.cells #[.int .i64 0, .int .i64 0, .string ⟨#[]⟩, .slice none 0 0, .slice none 0 0] 51)).alloc (.cells #[.int .i64 5, .int .i64 0, .string ⟨#[]⟩, .slice none 0 0, .slice none 0 0] 51)).heap.size = w.heap.size + 2 := by simp
  have hob : ((w.alloc (.cells #[.int .i64 0, .int .i64 0, .string ⟨#[]⟩, .slice none 0 0, .slice none 0 0] 51)).alloc (.cells #[.int .i64 5, .int .i64 0, .string ⟨#[]⟩, .slice none 0 0, .slice none 0 0] 51)).heap[w.heap.size + 1]? = some (.cells #[.int .i64 5, .int .i64 0, .string ⟨#[]⟩, .slice none 0 0, .slice none 0 0] 51 (0, 0)) := by
    have := heap_alloc_new (w.alloc (.cells #[.int .i64 0, .int .i64 0, .string ⟨#[]⟩, .slice none 0 0, .slice none 0 0] 51)) (.cells #[.int .i64 5, .int .i64 0, .string ⟨#[]⟩, .slice none 0 0, .slice none 0 0] 51)
    rw [show (w.alloc (.cells #[.int .i64 0, .int .i64 0, .string ⟨#[]⟩, .slice none 0 0, .slice none 0 0] 51)).heap.size = w.heap.size + 1 by simp] at this
    exact this
  have hres : ((w.alloc (.cells #[.int .i64 0, .int .i64 0, .string ⟨#[]⟩, .slice none 0 0, .slice none 0 0] 51)).alloc (.cells #[.int .i64 5, .int .i64 0, .string ⟨#[]⟩, .slice none 0 0, .slice none 0 0] 51)).heap[w.heap.size]? = some (.cells #[.int .i64 0, .int .i64 0, .string ⟨#[]⟩, .slice none 0 0, .slice none 0 0] 51 (0, 0)) := by
    rw [Below.heap_alloc _ _ _ (by simp)]; exact heap_alloc_new _ _
  go_enter Try.func49, Try.ntmps49
  go_wp2_with (first
    | (go_at_call 58; refine (rising_any hkA (fun k hk => by have := hO k hk; rw [hszA]; omega) (by omega)).mono ?_; rintro e wB ⟨g, L, rfl, hP, hg1, hg2, hbB⟩))
  rw [hszA] at hg1 hbB
  have hszB := hbB.size
  rw [hszA] at hszB
  have hlen : L.length = ks.length := by rw [hP.1.length_eq]; simp
  have hbw : Below w.heap.size w wB := hbA.trans (hbB.mono (by omega))
  have hmi0 : MI O wB w.heap.size [] [] (.slice none 0 0) (.slice none 0 0) wB := ⟨(hbB.block _ (by omega)).trans hob, (hbB.block _ (by omega)).trans hres, World.ownsRow_nil _ _ _ _, ⟨[], World.ownsRow_nil _ _ _ _, rfl⟩, (fun i h => by cases h), Keep.refl _ _, by omega, hO⟩
  clear hob hres hkA
  go_loopw [12] (fun i wr => ∃ (k : Nat) (vk vl : Value), i = .int .i64 k ∧ k ≤ ks.length ∧ MI O wB w.heap.size ((sel ks l (L.take k)).map (·.1)) ((sel ks l (L.take k)).map (·.2)) vk vl wr) (fun i _ => ks.length - (intOf i).toNat)
  case atStart => exact ⟨0, _, _, rfl, Nat.zero_le _, hmi0⟩
  case round =>
    clear hmi0
    obtain ⟨k, vk, vl, rfl, hkn, hmi⟩ := hrel
    by_cases hlt : k < ks.length
    · obtain ⟨a, ha⟩ : ∃ a, L.getD k 0 = a := ⟨_, rfl⟩
      have hpl : wr.cell? ⟨g, k, none⟩ = some (.int .i64 (a : Int)) := by
        rw [hmi.keep.cell (p := ⟨g, k, none⟩) hg2 (by unfold One; simp only; omega), hP.2.2 k (by omega), ha]
      have hal : a < ks.length := by
        have hm : L.getD k 0 ∈ L := by rw [List.getD_eq_getElem?_getD, List.getElem?_eq_getElem (by omega)]; exact List.getElem_mem _
        have := hP.1.subset hm
        rw [ha] at this
        simpa using this
      have HSEL : Hid (sel ks l (L.take (k + 1)) = sel ks l (L.take k) ++ [(keyAtK ks a, valAt l a)]) := by
        unfold sel
        rw [List.take_add_one, List.getElem?_eq_getElem (by omega : k < L.length), List.map_append]
        rw [List.getD_eq_getElem?_getD, List.getElem?_eq_getElem (by omega : k < L.length)] at ha
        simp only [Option.getD_some] at ha
        rw [ha]; rfl
      obtain ⟨x, hx⟩ : ∃ x, keyAtK ks a = x := ⟨_, rfl⟩
      obtain ⟨y, hy⟩ : ∃ y, valAt l a = y := ⟨_, rfl⟩
      rw [hx, hy] at HSEL
      obtain ⟨adk, rfl, hadk, hck⟩ := hk.2 a hal
      change w.cell? (adk.add a) = some (.string (keyAtK ks a)) at hck
      rw [hx] at hck
      obtain ⟨lb, lo, cs, rfl, hadl, hcl', hyj⟩ := isJs.at l 0 a hj (by rw [← HLL.out]; exact hal)
      change isJ O w (valAt l a) cs at hyj
      rw [hy] at hyj
      rw [Nat.zero_add] at hcl'
      obtain ⟨y0, y1, y2, y3, y4, rfl⟩ : ∃ y0 y1 y2 y3 y4, cs = [y0, y1, y2, y3, y4] := by
        match cs, hyj.five with
        | [y0, y1, y2, y3, y4], _ => exact ⟨y0, y1, y2, y3, y4, rfl⟩
      have hone5 : ∀ u ∈ [y0, y1, y2, y3, y4], u.oneCell' = true := isJ_one hyj
      have hsel : (sel ks l (L.take k)).length = k := by unfold sel; simp; omega
      have hSkl : ((sel ks l (L.take k)).map (·.1)).length = k := by simp [hsel]
      have hSvl : ((sel ks l (L.take k)).map (·.2)).length = k := by simp [hsel]
      obtain ⟨Sk, hSk⟩ : ∃ Sk, (sel ks l (L.take k)).map (·.1) = Sk := ⟨_, rfl⟩
      obtain ⟨Sv, hSv⟩ : ∃ Sv, (sel ks l (L.take k)).map (·.2) = Sv := ⟨_, rfl⟩
      rw [hSk] at hSkl hmi
      rw [hSv] at hSvl hmi
      have HSk : Hid ((sel ks l (L.take (k + 1))).map (·.1) = Sk ++ [x]) := by rw [HSEL.out, List.map_append, hSk]; rfl
      have HSv : Hid ((sel ks l (L.take (k + 1))).map (·.2) = Sv ++ [y]) := by rw [HSEL.out, List.map_append, hSv]; rfl
      have hkeepO : ∀ {Sk' : List ByteArray} {Sv' : List J} {vk' vl' : Value} {W : World}, MI O wB w.heap.size Sk' Sv' vk' vl' W → ∀ i, O i → W.heap[i]? = w.heap[i]? := by
        intro Sk' Sv' vk' vl' W h i hi
        have := hO i hi
        rw [h.keep.block i (by omega) (by unfold One; omega), hbw.block i this]
      have hcx : ∀ {Sk' : List ByteArray} {Sv' : List J} {vk' vl' : Value} (W : World), MI O wB w.heap.size Sk' Sv' vk' vl' W → W.cell? (adk.add a) = some (.string x) := fun W h => (World.cell?_of_block (by rw [add_block]; exact hkeepO h _ hadk)).trans hck
      have hcl5 : ∀ i u, [y0, y1, y2, y3, y4][i]? = some u → w.cell? ⟨lb, lo + a * 5 + i, none⟩ = some u := hcl'
      have hcy : ∀ {Sk' : List ByteArray} {Sv' : List J} {vk' vl' : Value} (W : World), MI O wB w.heap.size Sk' Sv' vk' vl' W → W.cell? ⟨lb, lo + a * 5, none⟩ = some y0 ∧ W.cell? ⟨lb, lo + a * 5 + 1, none⟩ = some y1 ∧ W.cell? ⟨lb, lo + a * 5 + 2, none⟩ = some y2 ∧ W.cell? ⟨lb, lo + a * 5 + 3, none⟩ = some y3 ∧ W.cell? ⟨lb, lo + a * 5 + 4, none⟩ = some y4 := by
        intro Sk' Sv' vk' vl' W h
        have hh := hkeepO h _ hadl
        exact ⟨(World.cell?_of_block hh).trans (hcl5 0 _ rfl), (World.cell?_of_block hh).trans (hcl5 1 _ rfl), (World.cell?_of_block hh).trans (hcl5 2 _ rfl), (World.cell?_of_block hh).trans (hcl5 3 _ rfl), (World.cell?_of_block hh).trans (hcl5 4 _ rfl)⟩
      have hyJ : ∀ {Sk' : List ByteArray} {Sv' : List J} {vk' vl' : Value} (W : World), MI O wB w.heap.size Sk' Sv' vk' vl' W → isJ O W y [y0, y1, y2, y3, y4] := fun W h => hyj.carry fun i hi => ⟨hi, hkeepO h i hi⟩
      have hcx2 : ∀ {Sk' : List ByteArray} {Sv' : List J} {vk' vl' : Value} {W : World} {o : Obj} (W2 : World), (W.alloc o).grownBy W2 vk'.ownBlock → MI O wB w.heap.size Sk' Sv' vk' vl' W → W2.cell? (adk.add a) = some (.string x) := by
        intro Sk' Sv' vk' vl' W o W2 hg h
        have h1 := h.low _ hadk
        have h2 := h.size
        have h3 := h.lt
        have hgk := own_ge h.keys
        rw [World.cell?_of_block (w := W) (by rw [add_block]; exact grown_at hg (by omega) (fun e => by have := hgk _ e; omega))]
        exact hcx W h
      have hcyA : ∀ {Sk' : List ByteArray} {Sv' : List J} {vk' vl' : Value} (W : World), MI O wB w.heap.size Sk' Sv' vk' vl' W → (W.alloc (.cells #[y0, y1, y2, y3, y4] 51)).drew.cell? ⟨lb, lo + a * 5, none⟩ = some y0 ∧ (W.alloc (.cells #[y0, y1, y2, y3, y4] 51)).drew.cell? ⟨lb, lo + a * 5 + 1, none⟩ = some y1 ∧ (W.alloc (.cells #[y0, y1, y2, y3, y4] 51)).drew.cell? ⟨lb, lo + a * 5 + 2, none⟩ = some y2 ∧ (W.alloc (.cells #[y0, y1, y2, y3, y4] 51)).drew.cell? ⟨lb, lo + a * 5 + 3, none⟩ = some y3 ∧ (W.alloc (.cells #[y0, y1, y2, y3, y4] 51)).drew.cell? ⟨lb, lo + a * 5 + 4, none⟩ = some y4 := by
        intro Sk' Sv' vk' vl' W h
        have h1 := h.low _ hadl
        have h2 := h.size
        have h3 := h.lt
        have hh : (W.alloc (.cells #[y0, y1, y2, y3, y4] 51)).drew.heap[lb]? = W.heap[lb]? := Below.heap_alloc W _ _ (by omega)
        obtain ⟨g0, g1, g2, g3, g4⟩ := hcy W h
        exact ⟨(World.cell?_of_block hh).trans g0, (World.cell?_of_block hh).trans g1, (World.cell?_of_block hh).trans g2, (World.cell?_of_block hh).trans g3, (World.cell?_of_block hh).trans g4⟩
      have hcyB : ∀ {Sk' : List ByteArray} {Sv' : List J} {vk' vl' : Value} {W : World} {o : Obj} (W2 : World), (W.alloc o).grownBy W2 vl'.ownBlock → MI O wB w.heap.size Sk' Sv' vk' vl' W → W2.cell? ⟨lb, lo + a * 5, none⟩ = some y0 ∧ W2.cell? ⟨lb, lo + a * 5 + 1, none⟩ = some y1 ∧ W2.cell? ⟨lb, lo + a * 5 + 2, none⟩ = some y2 ∧ W2.cell? ⟨lb, lo + a * 5 + 3, none⟩ = some y3 ∧ W2.cell? ⟨lb, lo + a * 5 + 4, none⟩ = some y4 := by
        intro Sk' Sv' vk' vl' W o W2 hg h
        have h1 := h.low _ hadl
        have h2 := h.size
        have h3 := h.lt
        obtain ⟨xs, hv1, _⟩ := h.vals
        have hgv := own_ge hv1
        have hh : W2.heap[lb]? = W.heap[lb]? := grown_at hg (by omega) (fun e => by have := hgv _ e; omega)
        obtain ⟨g0, g1, g2, g3, g4⟩ := hcy W h
        exact ⟨(World.cell?_of_block hh).trans g0, (World.cell?_of_block hh).trans g1, (World.cell?_of_block hh).trans g2, (World.cell?_of_block hh).trans g3, (World.cell?_of_block hh).trans g4⟩
      have hal' : (a : Int) < (ks.length : Int) := by omega
      have hal2 : (a : Int) < (l.length : Int) := by have := HLL.out; omega
      have hSkb : Sk.length ≤ 100000 := by omega
      have hSvb : Sv.length ≤ 100000 := by omega
      clear hx hy hck hcl' hcl5 hSk hSv hsel hP hj hk hyj ha hSkl hSvl
      go_wp2
      have hmd := hmi.drew
      have hC0 : wr.drew.cell? (adk.add a) = some (.string x) := hcx wr hmi
      have hC1 : (wr.alloc (.cells #[.string x] 9)).drew.cell? (adk.add a) = some (.string x) := by
        have hh := World.cell?_of_block (a := adk.add a) (Below.heap_alloc wr (.cells #[.string x] 9) (adk.add a).block (by rw [add_block]; have := hmi.size; have := hmi.low _ hadk; have := hmi.lt; omega))
        exact hh.trans (hcx wr hmi)
      have d3 := hmd.c3
      have d3a : (wr.alloc (.cells #[.string x] 9)).drew.cell? ⟨w.heap.size + 1, 3, none⟩ = some vk := by
        have hh := World.cell?_of_block (a := ⟨w.heap.size + 1, 3, none⟩) (Below.heap_alloc wr (.cells #[.string x] 9) (w.heap.size + 1) (by have := hmi.size; have := hmi.lt; omega))
        exact hh.trans hmi.c3
      refine wp_region_in (by kernel_rfl) (fun w' => w'.cell? (adk.add a) = some (.string x)) ?_
      change wpIn _ _ _ _ _ _ _ _ (World.drew _)
      refine wpIn_take (i := 0) (d := (some 16)) (v := ?vqk0) (a' := ?aqk0) rfl rfl (by kernel_rfl) (by kernel_rfl) (by kernel_rfl) (fun _ _ _ h => h) (Or.inl ⟨by rfl, ?yqk0⟩) ?fqk0 ?_
      case yqk0 => (intro wq hq; go_simp; first | done | with_reducible rfl)
      case fqk0 => (go_frame; rfl)
      refine wpIn_take (i := 2) (d := (some 18)) (v := ?vqk2) (a' := ?aqk2) rfl rfl (by kernel_rfl) (by kernel_rfl) (by kernel_rfl) (fun _ _ _ h => h) (Or.inl ⟨by rfl, ?yqk2⟩) ?fqk2 ?_
      case yqk2 => (intro wq hq; go_simp; first | done | with_reducible rfl)
      case fqk2 => (go_frame; rfl)
      refine wpIn_take (i := 3) (d := (some 19)) (v := ?vqk3) (a' := ?aqk3) rfl rfl (by kernel_rfl) (by kernel_rfl) (by kernel_rfl) (fun _ _ _ h => h) (Or.inl ⟨by rfl, ?yqk3⟩) ?fqk3 ?_
      case yqk3 => (intro wq hq; go_simp; first | done | with_reducible rfl)
      case fqk3 => (go_frame; rfl)
      refine wpIn_take (i := 4) (d := (some 20)) (v := ?vqk4) (a' := ?aqk4) rfl rfl (by kernel_rfl) (by kernel_rfl) (by kernel_rfl) (fun _ _ _ h => h) (Or.inl ⟨by rfl, ?yqk4⟩) ?fqk4 ?_
      case yqk4 => (intro wq hq; go_simp; first | done | with_reducible rfl)
      case fqk4 => (go_frame; rfl)
      refine wpIn_take (i := 5) (d := (some 21)) (v := ?vqk5) (a' := ?aqk5) rfl rfl (by kernel_rfl) (by kernel_rfl) (by kernel_rfl) (fun _ _ _ h => h) (Or.inl ⟨by rfl, ?yqk5⟩) ?fqk5 ?_
      case yqk5 => (intro wq hq; go_simp; first | done | with_reducible rfl)
      case fqk5 => (go_frame; rfl)
      refine wpIn_pair (i := 1) (j := 6) hC0 (by kernel_rfl) rfl rfl (by rfl) (by rfl) ?_ ?_
      · intro K hK
        go_simp
        refine hK _ _ ?_
        clear hK K
        refine wpIn_do (i := 6) hC0 (by kernel_rfl) rfl (by rfl) ?_
        intro K hK
        go_simp
        refine hK _ _ ?_
        clear hK K
        refine wpIn_do (i := 7) hC1 (by kernel_rfl) rfl (by rfl) ?_
        intro K hK
        refine wp_append_at (.tmp 17) (.tmp 22) 48 rfl wB.heap.size 9 (.string ⟨#[]⟩) 1 16 Try.underlying48 Try.info9 rfl (by decide) (by decide) _ Sk.length (Sk.map Value.string) rfl (hmd.keys.alloc _) _ [.string x] rfl rfl (cell_one_new _ _ _) (str_one x) (by omega) (by have := hmi.size; simp; omega) ?_
        intro vk2 W2 hown2 hg2 hat2
        refine hK _ _ ?_
        clear hK K
        obtain ⟨q2, c2, hv2⟩ : ∃ q c, vk2 = .slice q (Sk.length + 1) c := by
          rcases hown2.2 with ⟨h', h0⟩ | ⟨g', cap', cur, h', _⟩
          · omega
          · exact ⟨_, _, h'⟩
        subst hv2
        have hg2' : (wr.drew.alloc (.cells #[.string x] 9)).grownBy W2 vk.ownBlock := hg2
        have hat2' : (Value.slice q2 (Sk.length + 1) c2).ownBlock = vk.ownBlock ∨ (Value.slice q2 (Sk.length + 1) c2).ownBlock = some (wr.drew.alloc (.cells #[.string x] 9)).heap.size := hat2
        obtain ⟨e3, f3, hmi3⟩ := hmd.key hown2 hg2' hat2'
        have hC2 := hcx2 W2 hg2' hmd
        have hC3 := hcx _ hmi3
        clear hown2 hg2 hat2 hg2' hat2' d3 d3a hC1 hC0
        refine wpIn_take (i := 8) (d := (some 24)) (v := ?vqm08) (a' := ?aqm08) rfl rfl (by kernel_rfl) (by kernel_rfl) (by kernel_rfl) (fun _ _ _ h => h) (Or.inl ⟨by rfl, ?yqm08⟩) ?fqm08 ?_
        case yqm08 => (intro wq hq; go_simp; first | done | with_reducible rfl)
        case fqm08 => (go_frame; rfl)
        refine wpIn_do (i := 9) hC2 (by kernel_rfl) rfl (by rfl) ?_
        intro K hK
        go_simp
        refine hK _ _ ?_
        clear hK K
        refine wpIn_done hC3 (by kernel_rfl) ?_ _
        clear hC2 hC3 e3 f3 hmd hmi
        go_wp2
        obtain ⟨wk, hwk⟩ : ∃ wk, wk = W2.setCell ⟨w.heap.size + 1, 3, none⟩ (.slice q2 (Sk.length + 1) c2) := ⟨_, rfl⟩
        rw [← hwk] at hmi3 ⊢
        clear hwk
        have hmd := hmi3.drew
        obtain ⟨xs, hv1, hv2⟩ := hmd.vals
        have hC0 := hcy wk.drew hmd
        have hC1 := hcyA wk hmi3
        have d4 := hmd.c4
        have d4a : (wk.alloc (.cells #[y0, y1, y2, y3, y4] 51)).drew.cell? ⟨w.heap.size + 1, 4, none⟩ = some vl := by
          have hh := World.cell?_of_block (a := ⟨w.heap.size + 1, 4, none⟩) (Below.heap_alloc wk (.cells #[y0, y1, y2, y3, y4] 51) (w.heap.size + 1) (by have := hmi3.size; have := hmi3.lt; omega))
          exact hh.trans hmi3.c4
        refine wp_region_in (by kernel_rfl) (fun w' => w'.cell? ⟨lb, lo + a * 5, none⟩ = some y0 ∧ w'.cell? ⟨lb, lo + a * 5 + 1, none⟩ = some y1 ∧ w'.cell? ⟨lb, lo + a * 5 + 2, none⟩ = some y2 ∧ w'.cell? ⟨lb, lo + a * 5 + 3, none⟩ = some y3 ∧ w'.cell? ⟨lb, lo + a * 5 + 4, none⟩ = some y4) ?_
        change wpIn _ _ _ _ _ _ _ _ (World.drew _)
        refine wpIn_take (i := 0) (d := (some 25)) (v := ?vqv00) (a' := ?aqv00) rfl rfl (by kernel_rfl) (by kernel_rfl) (by kernel_rfl) (fun _ _ _ h => h) (Or.inl ⟨by rfl, ?yqv00⟩) ?fqv00 ?_
        case yqv00 => (intro wq hq; go_simp; first | done | with_reducible rfl)
        case fqv00 => (go_frame; rfl)
        refine wpIn_take (i := 2) (d := (some 27)) (v := ?vqv02) (a' := ?aqv02) rfl rfl (by kernel_rfl) (by kernel_rfl) (by kernel_rfl) (fun _ _ _ h => h) (Or.inl ⟨by rfl, ?yqv02⟩) ?fqv02 ?_
        case yqv02 => (intro wq hq; go_simp; first | done | with_reducible rfl)
        case fqv02 => (go_frame; rfl)
        refine wpIn_take (i := 3) (d := (some 28)) (v := ?vqv03) (a' := ?aqv03) rfl rfl (by kernel_rfl) (by kernel_rfl) (by kernel_rfl) (fun _ _ _ h => h) (Or.inl ⟨by rfl, ?yqv03⟩) ?fqv03 ?_
        case yqv03 => (intro wq hq; go_simp; first | done | with_reducible rfl)
        case fqv03 => (go_frame; rfl)
        refine wpIn_take (i := 4) (d := (some 29)) (v := ?vqv04) (a' := ?aqv04) rfl rfl (by kernel_rfl) (by kernel_rfl) (by kernel_rfl) (fun _ _ _ h => h) (Or.inl ⟨by rfl, ?yqv04⟩) ?fqv04 ?_
        case yqv04 => (intro wq hq; go_simp; first | done | with_reducible rfl)
        case fqv04 => (go_frame; rfl)
        refine wpIn_take (i := 5) (d := (some 30)) (v := ?vqv05) (a' := ?aqv05) rfl rfl (by kernel_rfl) (by kernel_rfl) (by kernel_rfl) (fun _ _ _ h => h) (Or.inl ⟨by rfl, ?yqv05⟩) ?fqv05 ?_
        case yqv05 => (intro wq hq; obtain ⟨q0, q1, q2, q3, q4⟩ := hq; go_simp; first | done | with_reducible rfl)
        case fqv05 => (go_frame; rfl)
        refine wpIn_pair (i := 1) (j := 6) hC0 (by kernel_rfl) rfl rfl (by rfl) (by rfl) ?_ ?_
        · intro K hK
          go_simp
          refine hK _ _ ?_
          clear hK K
          refine wpIn_do (i := 6) hC0 (by kernel_rfl) rfl (by rfl) ?_
          intro K hK
          go_simp
          refine hK _ _ ?_
          clear hK K
          refine wpIn_do (i := 7) hC1 (by kernel_rfl) rfl (by rfl) ?_
          intro K hK
          refine wp_append_at (.tmp 26) (.tmp 31) 49 rfl wB.heap.size 51 (.agg #[.int .i64 0, .int .i64 0, .string ⟨#[]⟩, .slice none 0 0, .slice none 0 0]) 5 80 Try.underlying49 Try.info51 rfl (by decide) (by decide) _ Sv.length xs rfl (hv1.alloc _) _ [y0, y1, y2, y3, y4] rfl rfl (cells_new5 _ _ _ _ _ _ _) hone5 (by omega) (by have := hmi3.size; simp; omega) ?_
          intro vl2 W4 hown4 hg4 hat4
          refine hK _ _ ?_
          clear hK K
          obtain ⟨q4, c4, hv4⟩ : ∃ q c, vl2 = .slice q (Sv.length + 1) c := by
            rcases hown4.2 with ⟨h', h0⟩ | ⟨g', cap', cur, h', _⟩
            · omega
            · exact ⟨_, _, h'⟩
          subst hv4
          have hg4' : (wk.drew.alloc (.cells #[y0, y1, y2, y3, y4] 51)).grownBy W4 vl.ownBlock := hg4
          have hat4' : (Value.slice q4 (Sv.length + 1) c4).ownBlock = vl.ownBlock ∨ (Value.slice q4 (Sv.length + 1) c4).ownBlock = some (wk.drew.alloc (.cells #[y0, y1, y2, y3, y4] 51)).heap.size := hat4
          obtain ⟨e4, f4, hmi5⟩ := hmd.val hv1 hv2 (hyJ wk.drew hmd) hown4 hg4' hat4'
          have hC2 := hcyB W4 hg4' hmd
          have hC3 := hcy _ hmi5
          clear hown4 hg4 hat4 hg4' hat4' d4 d4a hC1 hC0 hv1 hv2
          refine wpIn_take (i := 8) (d := (some 33)) (v := ?vqn008) (a' := ?aqn008) rfl rfl (by kernel_rfl) (by kernel_rfl) (by kernel_rfl) (fun _ _ _ h => h) (Or.inl ⟨by rfl, ?yqn008⟩) ?fqn008 ?_
          case yqn008 => (intro wq hq; go_simp; first | done | with_reducible rfl)
          case fqn008 => (go_frame; rfl)
          refine wpIn_do (i := 9) hC2 (by kernel_rfl) rfl (by rfl) ?_
          intro K hK
          go_simp
          refine hK _ _ ?_
          clear hK K
          refine wpIn_done hC3 (by kernel_rfl) ?_ _
          clear hC2 hC3 e4 f4 hmd hmi3
          go_wp2
          go_roundw
          case rel => exact ⟨k + 1, _, _, by go_num, by omega, by rw [HSk.out, HSv.out]; exact hmi5⟩
          case measure => simp [intOf]; omega
        · intro K hK
          go_simp
          refine hK _ _ ?_
          clear hK K
          refine wpIn_do (i := 1) hC1 (by kernel_rfl) rfl (by rfl) ?_
          intro K hK
          go_simp
          refine hK _ _ ?_
          clear hK K
          refine wpIn_do (i := 7) hC1 (by kernel_rfl) rfl (by rfl) ?_
          intro K hK
          refine wp_append_at (.tmp 26) (.tmp 31) 49 rfl wB.heap.size 51 (.agg #[.int .i64 0, .int .i64 0, .string ⟨#[]⟩, .slice none 0 0, .slice none 0 0]) 5 80 Try.underlying49 Try.info51 rfl (by decide) (by decide) _ Sv.length xs rfl (hv1.alloc _) _ [y0, y1, y2, y3, y4] rfl rfl (cells_new5 _ _ _ _ _ _ _) hone5 (by omega) (by have := hmi3.size; simp; omega) ?_
          intro vl2 W4 hown4 hg4 hat4
          refine hK _ _ ?_
          clear hK K
          obtain ⟨q4, c4, hv4⟩ : ∃ q c, vl2 = .slice q (Sv.length + 1) c := by
            rcases hown4.2 with ⟨h', h0⟩ | ⟨g', cap', cur, h', _⟩
            · omega
            · exact ⟨_, _, h'⟩
          subst hv4
          have hg4' : (wk.drew.alloc (.cells #[y0, y1, y2, y3, y4] 51)).grownBy W4 vl.ownBlock := hg4
          have hat4' : (Value.slice q4 (Sv.length + 1) c4).ownBlock = vl.ownBlock ∨ (Value.slice q4 (Sv.length + 1) c4).ownBlock = some (wk.drew.alloc (.cells #[y0, y1, y2, y3, y4] 51)).heap.size := hat4
          obtain ⟨e4, f4, hmi5⟩ := hmd.val hv1 hv2 (hyJ wk.drew hmd) hown4 hg4' hat4'
          have hC2 := hcyB W4 hg4' hmd
          have hC3 := hcy _ hmi5
          clear hown4 hg4 hat4 hg4' hat4' d4 d4a hC1 hC0 hv1 hv2
          refine wpIn_take (i := 8) (d := (some 33)) (v := ?vqn018) (a' := ?aqn018) rfl rfl (by kernel_rfl) (by kernel_rfl) (by kernel_rfl) (fun _ _ _ h => h) (Or.inl ⟨by rfl, ?yqn018⟩) ?fqn018 ?_
          case yqn018 => (intro wq hq; go_simp; first | done | with_reducible rfl)
          case fqn018 => (go_frame; rfl)
          refine wpIn_do (i := 9) hC2 (by kernel_rfl) rfl (by rfl) ?_
          intro K hK
          go_simp
          refine hK _ _ ?_
          clear hK K
          refine wpIn_done hC3 (by kernel_rfl) ?_ _
          clear hC2 hC3 e4 f4 hmd hmi3
          go_wp2
          go_roundw
          case rel => exact ⟨k + 1, _, _, by go_num, by omega, by rw [HSk.out, HSv.out]; exact hmi5⟩
          case measure => simp [intOf]; omega
      · intro K hK
        go_simp
        refine hK _ _ ?_
        clear hK K
        refine wpIn_do (i := 1) hC1 (by kernel_rfl) rfl (by rfl) ?_
        intro K hK
        go_simp
        refine hK _ _ ?_
        clear hK K
        refine wpIn_do (i := 7) hC1 (by kernel_rfl) rfl (by rfl) ?_
        intro K hK
        refine wp_append_at (.tmp 17) (.tmp 22) 48 rfl wB.heap.size 9 (.string ⟨#[]⟩) 1 16 Try.underlying48 Try.info9 rfl (by decide) (by decide) _ Sk.length (Sk.map Value.string) rfl (hmd.keys.alloc _) _ [.string x] rfl rfl (cell_one_new _ _ _) (str_one x) (by omega) (by have := hmi.size; simp; omega) ?_
        intro vk2 W2 hown2 hg2 hat2
        refine hK _ _ ?_
        clear hK K
        obtain ⟨q2, c2, hv2⟩ : ∃ q c, vk2 = .slice q (Sk.length + 1) c := by
          rcases hown2.2 with ⟨h', h0⟩ | ⟨g', cap', cur, h', _⟩
          · omega
          · exact ⟨_, _, h'⟩
        subst hv2
        have hg2' : (wr.drew.alloc (.cells #[.string x] 9)).grownBy W2 vk.ownBlock := hg2
        have hat2' : (Value.slice q2 (Sk.length + 1) c2).ownBlock = vk.ownBlock ∨ (Value.slice q2 (Sk.length + 1) c2).ownBlock = some (wr.drew.alloc (.cells #[.string x] 9)).heap.size := hat2
        obtain ⟨e3, f3, hmi3⟩ := hmd.key hown2 hg2' hat2'
        have hC2 := hcx2 W2 hg2' hmd
        have hC3 := hcx _ hmi3
        clear hown2 hg2 hat2 hg2' hat2' d3 d3a hC1 hC0
        refine wpIn_take (i := 8) (d := (some 24)) (v := ?vqm18) (a' := ?aqm18) rfl rfl (by kernel_rfl) (by kernel_rfl) (by kernel_rfl) (fun _ _ _ h => h) (Or.inl ⟨by rfl, ?yqm18⟩) ?fqm18 ?_
        case yqm18 => (intro wq hq; go_simp; first | done | with_reducible rfl)
        case fqm18 => (go_frame; rfl)
        refine wpIn_do (i := 9) hC2 (by kernel_rfl) rfl (by rfl) ?_
        intro K hK
        go_simp
        refine hK _ _ ?_
        clear hK K
        refine wpIn_done hC3 (by kernel_rfl) ?_ _
        clear hC2 hC3 e3 f3 hmd hmi
        go_wp2
        obtain ⟨wk, hwk⟩ : ∃ wk, wk = W2.setCell ⟨w.heap.size + 1, 3, none⟩ (.slice q2 (Sk.length + 1) c2) := ⟨_, rfl⟩
        rw [← hwk] at hmi3 ⊢
        clear hwk
        have hmd := hmi3.drew
        obtain ⟨xs, hv1, hv2⟩ := hmd.vals
        have hC0 := hcy wk.drew hmd
        have hC1 := hcyA wk hmi3
        have d4 := hmd.c4
        have d4a : (wk.alloc (.cells #[y0, y1, y2, y3, y4] 51)).drew.cell? ⟨w.heap.size + 1, 4, none⟩ = some vl := by
          have hh := World.cell?_of_block (a := ⟨w.heap.size + 1, 4, none⟩) (Below.heap_alloc wk (.cells #[y0, y1, y2, y3, y4] 51) (w.heap.size + 1) (by have := hmi3.size; have := hmi3.lt; omega))
          exact hh.trans hmi3.c4
        refine wp_region_in (by kernel_rfl) (fun w' => w'.cell? ⟨lb, lo + a * 5, none⟩ = some y0 ∧ w'.cell? ⟨lb, lo + a * 5 + 1, none⟩ = some y1 ∧ w'.cell? ⟨lb, lo + a * 5 + 2, none⟩ = some y2 ∧ w'.cell? ⟨lb, lo + a * 5 + 3, none⟩ = some y3 ∧ w'.cell? ⟨lb, lo + a * 5 + 4, none⟩ = some y4) ?_
        change wpIn _ _ _ _ _ _ _ _ (World.drew _)
        refine wpIn_take (i := 0) (d := (some 25)) (v := ?vqv10) (a' := ?aqv10) rfl rfl (by kernel_rfl) (by kernel_rfl) (by kernel_rfl) (fun _ _ _ h => h) (Or.inl ⟨by rfl, ?yqv10⟩) ?fqv10 ?_
        case yqv10 => (intro wq hq; go_simp; first | done | with_reducible rfl)
        case fqv10 => (go_frame; rfl)
        refine wpIn_take (i := 2) (d := (some 27)) (v := ?vqv12) (a' := ?aqv12) rfl rfl (by kernel_rfl) (by kernel_rfl) (by kernel_rfl) (fun _ _ _ h => h) (Or.inl ⟨by rfl, ?yqv12⟩) ?fqv12 ?_
        case yqv12 => (intro wq hq; go_simp; first | done | with_reducible rfl)
        case fqv12 => (go_frame; rfl)
        refine wpIn_take (i := 3) (d := (some 28)) (v := ?vqv13) (a' := ?aqv13) rfl rfl (by kernel_rfl) (by kernel_rfl) (by kernel_rfl) (fun _ _ _ h => h) (Or.inl ⟨by rfl, ?yqv13⟩) ?fqv13 ?_
        case yqv13 => (intro wq hq; go_simp; first | done | with_reducible rfl)
        case fqv13 => (go_frame; rfl)
        refine wpIn_take (i := 4) (d := (some 29)) (v := ?vqv14) (a' := ?aqv14) rfl rfl (by kernel_rfl) (by kernel_rfl) (by kernel_rfl) (fun _ _ _ h => h) (Or.inl ⟨by rfl, ?yqv14⟩) ?fqv14 ?_
        case yqv14 => (intro wq hq; go_simp; first | done | with_reducible rfl)
        case fqv14 => (go_frame; rfl)
        refine wpIn_take (i := 5) (d := (some 30)) (v := ?vqv15) (a' := ?aqv15) rfl rfl (by kernel_rfl) (by kernel_rfl) (by kernel_rfl) (fun _ _ _ h => h) (Or.inl ⟨by rfl, ?yqv15⟩) ?fqv15 ?_
        case yqv15 => (intro wq hq; obtain ⟨q0, q1, q2, q3, q4⟩ := hq; go_simp; first | done | with_reducible rfl)
        case fqv15 => (go_frame; rfl)
        refine wpIn_pair (i := 1) (j := 6) hC0 (by kernel_rfl) rfl rfl (by rfl) (by rfl) ?_ ?_
        · intro K hK
          go_simp
          refine hK _ _ ?_
          clear hK K
          refine wpIn_do (i := 6) hC0 (by kernel_rfl) rfl (by rfl) ?_
          intro K hK
          go_simp
          refine hK _ _ ?_
          clear hK K
          refine wpIn_do (i := 7) hC1 (by kernel_rfl) rfl (by rfl) ?_
          intro K hK
          refine wp_append_at (.tmp 26) (.tmp 31) 49 rfl wB.heap.size 51 (.agg #[.int .i64 0, .int .i64 0, .string ⟨#[]⟩, .slice none 0 0, .slice none 0 0]) 5 80 Try.underlying49 Try.info51 rfl (by decide) (by decide) _ Sv.length xs rfl (hv1.alloc _) _ [y0, y1, y2, y3, y4] rfl rfl (cells_new5 _ _ _ _ _ _ _) hone5 (by omega) (by have := hmi3.size; simp; omega) ?_
          intro vl2 W4 hown4 hg4 hat4
          refine hK _ _ ?_
          clear hK K
          obtain ⟨q4, c4, hv4⟩ : ∃ q c, vl2 = .slice q (Sv.length + 1) c := by
            rcases hown4.2 with ⟨h', h0⟩ | ⟨g', cap', cur, h', _⟩
            · omega
            · exact ⟨_, _, h'⟩
          subst hv4
          have hg4' : (wk.drew.alloc (.cells #[y0, y1, y2, y3, y4] 51)).grownBy W4 vl.ownBlock := hg4
          have hat4' : (Value.slice q4 (Sv.length + 1) c4).ownBlock = vl.ownBlock ∨ (Value.slice q4 (Sv.length + 1) c4).ownBlock = some (wk.drew.alloc (.cells #[y0, y1, y2, y3, y4] 51)).heap.size := hat4
          obtain ⟨e4, f4, hmi5⟩ := hmd.val hv1 hv2 (hyJ wk.drew hmd) hown4 hg4' hat4'
          have hC2 := hcyB W4 hg4' hmd
          have hC3 := hcy _ hmi5
          clear hown4 hg4 hat4 hg4' hat4' d4 d4a hC1 hC0 hv1 hv2
          refine wpIn_take (i := 8) (d := (some 33)) (v := ?vqn108) (a' := ?aqn108) rfl rfl (by kernel_rfl) (by kernel_rfl) (by kernel_rfl) (fun _ _ _ h => h) (Or.inl ⟨by rfl, ?yqn108⟩) ?fqn108 ?_
          case yqn108 => (intro wq hq; go_simp; first | done | with_reducible rfl)
          case fqn108 => (go_frame; rfl)
          refine wpIn_do (i := 9) hC2 (by kernel_rfl) rfl (by rfl) ?_
          intro K hK
          go_simp
          refine hK _ _ ?_
          clear hK K
          refine wpIn_done hC3 (by kernel_rfl) ?_ _
          clear hC2 hC3 e4 f4 hmd hmi3
          go_wp2
          go_roundw
          case rel => exact ⟨k + 1, _, _, by go_num, by omega, by rw [HSk.out, HSv.out]; exact hmi5⟩
          case measure => simp [intOf]; omega
        · intro K hK
          go_simp
          refine hK _ _ ?_
          clear hK K
          refine wpIn_do (i := 1) hC1 (by kernel_rfl) rfl (by rfl) ?_
          intro K hK
          go_simp
          refine hK _ _ ?_
          clear hK K
          refine wpIn_do (i := 7) hC1 (by kernel_rfl) rfl (by rfl) ?_
          intro K hK
          refine wp_append_at (.tmp 26) (.tmp 31) 49 rfl wB.heap.size 51 (.agg #[.int .i64 0, .int .i64 0, .string ⟨#[]⟩, .slice none 0 0, .slice none 0 0]) 5 80 Try.underlying49 Try.info51 rfl (by decide) (by decide) _ Sv.length xs rfl (hv1.alloc _) _ [y0, y1, y2, y3, y4] rfl rfl (cells_new5 _ _ _ _ _ _ _) hone5 (by omega) (by have := hmi3.size; simp; omega) ?_
          intro vl2 W4 hown4 hg4 hat4
          refine hK _ _ ?_
          clear hK K
          obtain ⟨q4, c4, hv4⟩ : ∃ q c, vl2 = .slice q (Sv.length + 1) c := by
            rcases hown4.2 with ⟨h', h0⟩ | ⟨g', cap', cur, h', _⟩
            · omega
            · exact ⟨_, _, h'⟩
          subst hv4
          have hg4' : (wk.drew.alloc (.cells #[y0, y1, y2, y3, y4] 51)).grownBy W4 vl.ownBlock := hg4
          have hat4' : (Value.slice q4 (Sv.length + 1) c4).ownBlock = vl.ownBlock ∨ (Value.slice q4 (Sv.length + 1) c4).ownBlock = some (wk.drew.alloc (.cells #[y0, y1, y2, y3, y4] 51)).heap.size := hat4
          obtain ⟨e4, f4, hmi5⟩ := hmd.val hv1 hv2 (hyJ wk.drew hmd) hown4 hg4' hat4'
          have hC2 := hcyB W4 hg4' hmd
          have hC3 := hcy _ hmi5
          clear hown4 hg4 hat4 hg4' hat4' d4 d4a hC1 hC0 hv1 hv2
          refine wpIn_take (i := 8) (d := (some 33)) (v := ?vqn118) (a' := ?aqn118) rfl rfl (by kernel_rfl) (by kernel_rfl) (by kernel_rfl) (fun _ _ _ h => h) (Or.inl ⟨by rfl, ?yqn118⟩) ?fqn118 ?_
          case yqn118 => (intro wq hq; go_simp; first | done | with_reducible rfl)
          case fqn118 => (go_frame; rfl)
          refine wpIn_do (i := 9) hC2 (by kernel_rfl) rfl (by rfl) ?_
          intro K hK
          go_simp
          refine hK _ _ ?_
          clear hK K
          refine wpIn_done hC3 (by kernel_rfl) ?_ _
          clear hC2 hC3 e4 f4 hmd hmi3
          go_wp2
          go_roundw
          case rel => exact ⟨k + 1, _, _, by go_num, by omega, by rw [HSk.out, HSv.out]; exact hmi5⟩
          case measure => simp [intOf]; omega
    · obtain rfl : k = ks.length := by omega
      have hLt : L.take ks.length = L := List.take_of_length_le (by omega)
      rw [hLt, places_sort hP hd HLL.out] at hmi
      obtain ⟨xs, hv1, hv2⟩ := hmi.vals
      have hkl : ((sortK (ks.zip l)).map (·.1)).length = ks.length := by rw [List.length_map, sortK_length]; simp; have := HLL.out; omega
      have hvl : ((sortK (ks.zip l)).map (·.2)).length = ks.length := by rw [List.length_map, sortK_length]; simp; have := HLL.out; omega
      obtain ⟨q1, c1, hvk, hrk⟩ := own_rdK hmi.keys
      obtain ⟨q2, c2, hvl2, hc2, hrj⟩ := own_js hv1 hv2
      subst hvk hvl2
      have j0 := five_c0 hmi.obj; have j1 := five_c1 hmi.obj; have j2 := five_c2 hmi.obj; have j3 := five_c3 hmi.obj; have j4 := five_c4 hmi.obj
      have i0 := five_c0 hmi.res; have i1 := five_c1 hmi.res; have i2 := five_c2 hmi.res; have i3 := five_c3 hmi.res; have i4 := five_c4 hmi.res
      have z0 := five_fz hmi.res 0; have z1 := five_fz hmi.res 1; have z2 := five_fz hmi.res 2; have z3 := five_fz hmi.res 3; have z4 := five_fz hmi.res 4
      have h5 := set5_heap hmi.res (.int .i64 5) (.int .i64 0) (.string ⟨#[]⟩) (.slice q1 ((sortK (ks.zip l)).map (·.1)).length c1) (.slice q2 ((sortK (ks.zip l)).map (·.2)).length c2)
      have HK5 : Keep (One w.heap.size) wr _ := set5_keep wr w.heap.size (.int .i64 5) (.int .i64 0) (.string ⟨#[]⟩) (.slice q1 ((sortK (ks.zip l)).map (·.1)).length c1) (.slice q2 ((sortK (ks.zip l)).map (·.2)).length c2)
      have hsz := hmi.size
      have hkeep := hmi.keep
      unfold set5 at h5 HK5
      have HRK : Hid (RdK (fun k => wB.heap.size ≤ k ∧ k < wr.heap.size) wr q1 c1 ((sortK (ks.zip l)).map (·.1))) := hrk
      have HRJ : Hid (isJs (fun k => O k ∨ (wB.heap.size ≤ k ∧ k < wr.heap.size)) wr q2 0 ((sortK (ks.zip l)).map (·.2))) := hrj
      have k0 := five_c0 h5; have k1 := five_c1 h5; have k2 := five_c2 h5; have k3 := five_c3 h5; have k4 := five_c4 h5
      obtain ⟨n1, hn1⟩ : ∃ n1, ((sortK (ks.zip l)).map (·.1)).length = n1 := ⟨_, rfl⟩
      obtain ⟨n2, hn2⟩ : ∃ n2, ((sortK (ks.zip l)).map (·.2)).length = n2 := ⟨_, rfl⟩
      rw [hn1, hn2] at h5 HK5 k3 k4
      rw [hn1] at j3 k0 k1 k2
      rw [hn2] at j4 k0 k1 k2
      clear hrk hrj hv1 hv2 hmi hP hkl hvl hk hj
      go_wp2
      refine bodyPost_ret (v := .agg #[.int .i64 5, .int .i64 0, .string ⟨#[]⟩, .slice q1 n1 c1, .slice q2 n2 c2]) (by simp [results, Try.results49, go_sem, k0, k1, k2, k3, k4]) rfl ?_
      obtain ⟨r1, r2⟩ := map_end hO hbw hkeep HK5 HRK.out HRJ.out hc2 (by omega)
      rw [hn1, hn2] at r1
      exact ⟨_, rfl, r1, r2⟩
end Go.Proofs.Ytalmghbkdelaoaa
namespace Go.Proofs.Ytalmghbkdelaoaa
open Go.RowKit Go.Maps
def klS (s : ByteArray) : Lit := .string s.data.toList
def okS (s : ByteArray) : Prop := s.size ≤ maxLen
theorem klS_inj {s t : ByteArray} (h : klS s = klS t) : s = t := by
  unfold klS at h
  cases s; cases t
  simp only [Lit.string.injEq] at h
  rw [Array.toList_inj.1 h]
def hasK (ks : List ByteArray) (s : ByteArray) : Bool := ks.any (fun k => decide (k.data = s.data))
/-- Block M is the set of the keys ks. -/
def Stood (w : World) (M : Nat) (ks : List ByteArray) : Prop :=
  ∃ D : DataW Unit, w.ownsMap Try.prog 9 (unitElem (H := Unit)) M ks.length D ∧ IsMap D ∧ ∀ s, okS s → Maps.has D (klS s) = hasK ks s
theorem Stood.keep {S : Nat → Prop} {w w' : World} {M : Nat} {ks : List ByteArray} (h : Stood w M ks) (hk : Keep S w w') (hS : ¬ S M) : Stood w' M ks := by
  obtain ⟨D, ⟨es, clock, hb, F, hs, hD⟩, hm, hh⟩ := h
  exact ⟨D, ⟨es, clock, (hk.block M (Array.getElem?_eq_some_iff.1 hb).1 hS).trans hb, F, hs, hD⟩, hm, hh⟩
theorem Stood.lt {w : World} {M : Nat} {ks : List ByteArray} (h : Stood w M ks) : M < w.heap.size := by
  obtain ⟨D, ⟨es, clock, hb, _⟩, _⟩ := h
  exact (Array.getElem?_eq_some_iff.1 hb).1
theorem hasK_snoc (ks : List ByteArray) (k s : ByteArray) : hasK (ks ++ [k]) s = (hasK ks s || decide (k.data = s.data)) := by
  unfold hasK
  rw [List.any_append]
  simp
theorem Stood.put {w : World} {M : Nat} {ks : List ByteArray} {D : DataW Unit} {s : ByteArray} (hown : w.ownsMap Try.prog 9 (unitElem (H := Unit)) M (ks.length + 1) (D.put (klS s) (.agg []))) (hm : IsMap D) (hh : ∀ s, okS s → Maps.has D (klS s) = hasK ks s) (hs : okS s) : Stood w M (ks ++ [s]) := by
  refine ⟨D.put (klS s) (.agg []), by rw [List.length_append]; exact hown, ?_, fun x hx => ?_⟩
  · obtain ⟨es, rfl⟩ := hm
    exact ⟨_, rfl⟩
  · rw [hasK_snoc]
    by_cases e : x = s
    · subst e
      rw [has_put_same hm (show WideAt.IsKeyLit (klS x) from trivial)]
      simp
    · rw [has_put_other (fun h' => e (klS_inj h')), hh x hx]
      have : decide (s.data = x.data) = false := by
        apply decide_eq_false
        intro h'
        apply e
        cases x; cases s
        simp only at h'
        rw [h']
      rw [this, Bool.or_false]
/-- The blocks R and M. -/
def Two (R M : Nat) : Nat → Prop := fun k => k = R ∨ k = M
theorem Keep.one_two {R M : Nat} {w w' : World} (h : Keep (One R) w w') : Keep (Two R M) w w' := h.mono fun _ _ h => .inl h
end Go.Proofs.Ytalmghbkdelaoaa
namespace Go.Proofs.Ytalmghbkdelaoaa
open Go.RowKit
/-- The blocks in which the values of a row of the call's own may lie. -/
def Elt (B : Nat) (v : Value) (w : World) : Nat → Prop := fun k => B ≤ k ∧ k < w.heap.size ∧ v.ownBlock ≠ some k
/-- The values acc lie in a row of the call's own. -/
def Vals (B : Nat) (w : World) (v : Value) (acc : List J) : Prop := ∃ xs, w.ownsRow B 51 5 v acc.length xs ∧ isRow (Elt B v w) w acc xs
theorem Vals.nil (B : Nat) (w : World) : Vals B w (.slice none 0 0) [] := ⟨[], World.ownsRow_nil _ _ _ _, rfl⟩
theorem Vals.keep {B : Nat} {S : Nat → Prop} {w w' : World} {v : Value} {acc : List J} (h : Vals B w v acc) (hk : Keep S w w') (hS : ∀ k, B ≤ k → ¬ S k) : Vals B w' v acc := by
  obtain ⟨xs, h1, h2⟩ := h
  have hs := hk.size
  refine ⟨xs, own_keep h1 hk fun k e => hS k (own_ge h1 k e).1, h2.carry fun k hk' => ⟨⟨hk'.1, by have := hk'.2.1; omega, hk'.2.2⟩, hk.block k hk'.2.1 (hS k hk'.1)⟩⟩
/-- One value more. -/
theorem Vals.push {B : Nat} {W W2 : World} {v v' : Value} {acc : List J} {y : J} {cs xs : List Value} {o : Obj} (h2 : isRow (Elt B v W) W acc xs) (hy : isJ (Elt B v W) W y cs)
    (hown : W2.ownsRow B 51 5 v' (acc.length + 1) (xs ++ cs)) (hg : (W.alloc o).grownBy W2 v.ownBlock) (hat : v'.ownBlock = v.ownBlock ∨ v'.ownBlock = some (W.alloc o).heap.size) : Vals B W2 v' (acc ++ [y]) := by
  have hs := hg.size
  simp at hs
  have carry : ∀ k, Elt B v W k → Elt B v' W2 k ∧ W2.heap[k]? = W.heap[k]? := by
    intro k hk
    refine ⟨⟨hk.1, by have := hk.2.1; omega, fun e => ?_⟩, grown_at hg hk.2.1 hk.2.2⟩
    rcases hat with h | h
    · exact hk.2.2 (h ▸ e)
    · rw [h] at e
      have h3 : (W.alloc o).heap.size = k := Option.some.inj e
      simp at h3
      have := hk.2.1
      omega
  exact ⟨xs ++ cs, by rw [List.length_append]; exact hown, isRow.snoc hy.five (hy.carry carry) acc xs (h2.carry carry)⟩
/-- The list that is being read: its object behind block b, the values that it has so far. -/
structure LI (B R b : Nat) (WA : World) (acc : List J) (vl : Value) (wr : World) : Prop where
  obj : wr.heap[b + 1]? = some (.cells #[.int .i64 4, .int .i64 0, .string ⟨#[]⟩, .slice none 0 0, vl] 51 (0, 0))
  res : wr.heap[b]? = some (.cells #[.int .i64 0, .int .i64 0, .string ⟨#[]⟩, .slice none 0 0, .slice none 0 0] 51 (0, 0))
  vals : Vals B wr vl acc
  keep : Keep (Two R (b + 1)) WA wr
  szA : WA.heap.size = B
  lt : b + 1 < B
  rb : R < b
section
variable {B R b : Nat} {WA W W2 : World} {acc : List J} {vl vl' : Value}
theorem LI.size (h : LI B R b WA acc vl W) : B ≤ W.heap.size := by have := h.keep.size; have := h.szA; omega
theorem LI.one (h : LI B R b WA acc vl W) (hk : Keep (One R) W W2) : LI B R b WA acc vl W2 := by
  have h1 := h.size
  have h2 := h.lt
  have h3 := h.rb
  exact ⟨(hk.block _ (by omega) (by unfold One; omega)).trans h.obj, (hk.block _ (by omega) (by unfold One; omega)).trans h.res, h.vals.keep hk fun k hB => by unfold One; omega, h.keep.then hk.one_two, h.szA, h2, h3⟩
theorem LI.alloc (h : LI B R b WA acc vl W) (o : Obj) : LI B R b WA acc vl (W.alloc o) := h.one ((Keep.refl _ _).alloc o)
theorem LI.c4 (h : LI B R b WA acc vl W) : W.cell? ⟨b + 1, 4, none⟩ = some vl := five_c4 h.obj
theorem LI.push (h : LI B R b WA acc vl W) {y : J} {cs xs : List Value} {o : Obj} (h1 : W.ownsRow B 51 5 vl acc.length xs) (h2 : isRow (Elt B vl W) W acc xs) (hy : isJ (Elt B vl W) W y cs)
    (hown : W2.ownsRow B 51 5 vl' (acc.length + 1) (xs ++ cs)) (hg : (W.alloc o).grownBy W2 vl.ownBlock) (hat : vl'.ownBlock = vl.ownBlock ∨ vl'.ownBlock = some (W.alloc o).heap.size) :
    W2.cell? ⟨b + 1, 4, none⟩ = some vl ∧ W2.frozen? ⟨b + 1, 4, none⟩ = false ∧ LI B R b WA (acc ++ [y]) vl' (W2.setCell ⟨b + 1, 4, none⟩ vl') := by
  have hsz := h.size
  have hlt := h.lt
  have hrb := h.rb
  have hgv := own_ge h1
  have ob : W2.heap[b + 1]? = some (.cells #[.int .i64 4, .int .i64 0, .string ⟨#[]⟩, .slice none 0 0, vl] 51 (0, 0)) := by
    rw [grown_at hg (by omega) (fun e => by have := hgv _ e; omega)]; exact h.obj
  have rs : W2.heap[b]? = some (.cells #[.int .i64 0, .int .i64 0, .string ⟨#[]⟩, .slice none 0 0, .slice none 0 0] 51 (0, 0)) := by
    rw [grown_at hg (by omega) (fun e => by have := hgv _ e; omega)]; exact h.res
  have K3 : Keep (One (b + 1)) W2 (W2.setCell ⟨b + 1, 4, none⟩ vl') := Keep.setCell (Keep.refl _ _) (fun _ => (rfl : b + 1 = b + 1)) _
  refine ⟨five_c4 ob, five_fz ob 4, ⟨?_, ?_, ?_, ?_, h.szA, hlt, hrb⟩⟩
  · rw [heap_setCell_same _ (b + 1) 4 _ _ _ ob]; rfl
  · rw [K3.block b (by have := (Array.getElem?_eq_some_iff.1 rs).1; omega) (by unfold One; omega)]; exact rs
  · exact (Vals.push h2 hy hown hg hat).keep K3 fun k hB => by unfold One; omega
  · have k1 : Keep (Two R (b + 1)) WA (W.alloc o) := h.keep.alloc o
    have k2 : Keep (Two R (b + 1)) WA W2 := k1.grown hg fun k e => by have := (hgv k e).1; have := h.szA; omega
    exact k2.then (K3.mono fun i _ hi => .inr hi)
end
/-- An append of one element, outside a region that draws. -/
theorem wpList_app {w : World} {ops : Array Oper} {rest : List Oper} {o : Oper} {a : Act} {Q : Exit → Act → World → Prop} (hgd : o.guard = none) (s x : Operand) (t : TypeId)
    (ho : o.op = .call { callee := .builtin .append, args := #[s, x], argTypes := #[t, t] })
    (base : Nat) (e : TypeId) (z : Value) (size bytes : Nat) (ht : Try.prog.underlying t = some (.slice e)) (hinfo : (Try.prog.info? e).map (fun i => (i.zero, i.size, i.bytes)) = some (some z, size, bytes))
    (hzs : z.cells.size = size) (hsz : 0 < size) (hby : bytes ≤ 100)
    (v : Value) (n : Nat) (xs : List Value) (hs : a.eval s = v) (hown : w.ownsRow base e size v n xs)
    (ad : Addr) (news : List Value) (hx : a.eval x = .slice (some ad) 1 1) (hl : news.length = size) (hnews : ∀ j u, news[j]? = some u → w.cell? (ad.add j) = some u) (h1 : ∀ u ∈ news, u.oneCell' = true)
    (hn : n ≤ 1000000) (hbase : base ≤ w.heap.size)
    (h : ∀ v' w', w'.ownsRow base e size v' (n + 1) (xs ++ news) → w.grownBy w' v.ownBlock → (v'.ownBlock = v.ownBlock ∨ v'.ownBlock = some w.heap.size) → wpList Try.prog ops Q rest (a.put o.dst v') w') : wpList Try.prog ops Q (o :: rest) a w :=
  wpList_plain hgd fun _ hK => wp_append_at s x t ho base e z size bytes ht hinfo hzs hsz hby v n xs hs hown ad news hx hl hnews h1 hn hbase fun v' w' h2 h3 h4 => hK _ _ (h v' w' h2 h3 h4)
abbrev zJ : Obj := .cells #[.int .i64 0, .int .i64 0, .string ⟨#[]⟩, .slice none 0 0, .slice none 0 0] 51
abbrev lJ : Obj := .cells #[.int .i64 4, .int .i64 0, .string ⟨#[]⟩, .slice none 0 0, .slice none 0 0] 51
/-- The world in which the loop begins. -/
abbrev atL (w : World) (R p : Nat) : World := ((w.setCell ⟨R, 1, none⟩ (.int .i64 ((p : Int) + 1))).alloc zJ).alloc lJ
theorem LI.ok {w W5 wr : World} {R p : Nat} {acc : List J} {vl : Value} (h : LI (w.heap.size + 2) R w.heap.size (atL w R p) acc vl wr) (hk : Keep (One w.heap.size) wr W5) :
    ∃ q c, vl = .slice q acc.length c ∧ isJ (New w W5) W5 (.mk 4 0 nix [] acc) [.int .i64 4, .int .i64 0, .string nix, .slice none 0 0, .slice q acc.length c] := by
  obtain ⟨xs, h1, h2⟩ := h.vals
  obtain ⟨q, c, e, hc, hj⟩ := own_js h1 h2
  refine ⟨q, c, e, ?_⟩
  unfold isJ
  refine ⟨none, 0, q, c, rfl, RdK.nil _ _, hc, hj.carry fun k hk' => ?_⟩
  have hs := hk.size
  rcases hk' with hk' | hk'
  · exact ⟨⟨by have := hk'.1; omega, by have := hk'.2.1; omega⟩, hk.block k hk'.2.1 (by unfold One; have := hk'.1; omega)⟩
  · exact ⟨⟨by omega, by omega⟩, hk.block k hk'.2 (by unfold One; omega)⟩
theorem own_slice {w : World} {B e size n : Nat} {v : Value} {xs : List Value} (h : w.ownsRow B e size v n xs) : ∃ q n c, v = .slice q n c := by
  rcases h.2 with ⟨h', h0⟩ | ⟨g', cap', cur, h', _⟩
  · exact ⟨_, _, _, h'⟩
  · exact ⟨_, _, _, h'⟩
theorem cells_at5 {W : World} {n : Nat} (h : W.heap.size = n) {t : TypeId} {y0 y1 y2 y3 y4 : Value} : ∀ j u, [y0, y1, y2, y3, y4][j]? = some u → (W.alloc (.cells #[y0, y1, y2, y3, y4] t)).cell? ((⟨n, 0, none⟩ : Addr).add j) = some u := by
  subst h
  exact cells_new5 _ _ _ _ _ _ _
theorem one5 {k i : Int} {t : ByteArray} {pk pl : Option Addr} {nk ck nl cl : Nat} : ∀ u ∈ [Value.int .i64 k, .int .i64 i, .string t, .slice pk nk ck, .slice pl nl cl], u.oneCell' = true := by
  intro u hu
  simp only [List.mem_cons, List.not_mem_nil, or_false] at hu
  rcases hu with rfl | rfl | rfl | rfl | rfl <;> rfl
/-- The blocks in which values may lie: of the call's own, and no row's. -/
def Free (B : Nat) (vk vl : Value) (w : World) : Nat → Prop := fun k => B ≤ k ∧ k < w.heap.size ∧ vk.ownBlock ≠ some k ∧ vl.ownBlock ≠ some k
/-- The keys and values that were read so far. -/
structure PI (B R M b : Nat) (WA : World) (ks : List ByteArray) (acc : List J) (vk vl : Value) (wr : World) : Prop where
  res : wr.heap[b]? = some (.cells #[.int .i64 0, .int .i64 0, .string ⟨#[]⟩, .slice none 0 0, .slice none 0 0] 51 (0, 0))
  keys : wr.ownsRow B 9 1 vk ks.length (ks.map Value.string)
  vals : ∃ xs, wr.ownsRow B 51 5 vl acc.length xs ∧ isRow (Free B vk vl wr) wr acc xs
  ne : ∀ i, vk.ownBlock = some i → vl.ownBlock ≠ some i
  keep : Keep (Two R M) WA wr
  szA : WA.heap.size = B
  rb : R < b
  bm : b < M
  mB : M < B
/-- What is free, or older than the rows, stays. -/
structure Goes (B : Nat) (vk vl : Value) (W : World) (vk' vl' : Value) (W' : World) : Prop where
  free : ∀ k, Free B vk vl W k → Free B vk' vl' W' k ∧ W'.heap[k]? = W.heap[k]?
  low : ∀ k, k < B → W'.heap[k]? = W.heap[k]?
theorem Stood.at {w w' : World} {M : Nat} {ks : List ByteArray} (h : Stood w M ks) (e : w'.heap[M]? = w.heap[M]?) : Stood w' M ks := by
  obtain ⟨D, ⟨es, clock, hb, F, hs, hD⟩, hm, hh⟩ := h
  exact ⟨D, ⟨es, clock, e.trans hb, F, hs, hD⟩, hm, hh⟩
section
variable {B R M b : Nat} {WA W W2 : World} {ks : List ByteArray} {acc : List J} {vk vl vk' vl' : Value}
theorem PI.size (h : PI B R M b WA ks acc vk vl W) : B ≤ W.heap.size := by have := h.keep.size; have := h.szA; omega
theorem PI.two (h : PI B R M b WA ks acc vk vl W) (hk : Keep (Two R M) W W2) : PI B R M b WA ks acc vk vl W2 := by
  have h1 := h.size
  have h2 := h.rb
  have h3 := h.bm
  have h4 := h.mB
  have hs := hk.size
  obtain ⟨xs, hv1, hv2⟩ := h.vals
  refine ⟨(hk.block _ (by omega) (by unfold Two; omega)).trans h.res, own_keep h.keys hk fun k e => ?_, ⟨xs, own_keep hv1 hk fun k e => ?_, hv2.carry fun k hk' => ⟨⟨hk'.1, by have := hk'.2.1; omega, hk'.2.2⟩, hk.block k hk'.2.1 ?_⟩⟩, h.ne, h.keep.then hk, h.szA, h2, h3, h4⟩
  · have := (own_ge h.keys k e).1; unfold Two; omega
  · have := (own_ge hv1 k e).1; unfold Two; omega
  · have := hk'.1; unfold Two; omega
theorem PI.one (h : PI B R M b WA ks acc vk vl W) (hk : Keep (One R) W W2) : PI B R M b WA ks acc vk vl W2 := h.two hk.one_two
theorem PI.alloc (h : PI B R M b WA ks acc vk vl W) (o : Obj) : PI B R M b WA ks acc vk vl (W.alloc o) := h.two ((Keep.refl _ _).alloc o)
theorem PI.drew (h : PI B R M b WA ks acc vk vl W) : PI B R M b WA ks acc vk vl W.drew := h.two (Keep.refl _ _).drew
theorem Goes.keep (hB : B ≤ W.heap.size) (hk : Keep (fun _ => False) W W2) : Goes B vk vl W vk vl W2 :=
  ⟨fun k hk' => ⟨⟨hk'.1, Nat.lt_of_lt_of_le hk'.2.1 hk.size, hk'.2.2⟩, hk.block k hk'.2.1 fun h => h⟩, fun k hk' => hk.block k (by omega) fun h => h⟩
theorem PI.key (h : PI B R M b WA ks acc vk vl W) {x : ByteArray} (hown : W2.ownsRow B 9 1 vk' (ks.length + 1) (ks.map Value.string ++ [.string x])) (hg : W.grownBy W2 vk.ownBlock) (hat : vk'.ownBlock = vk.ownBlock ∨ vk'.ownBlock = some W.heap.size) :
    PI B R M b WA (ks ++ [x]) acc vk' vl W2 ∧ Goes B vk vl W vk' vl W2 := by
  have h1 := h.size
  have h2 := h.rb
  have h3 := h.bm
  have h4 := h.mB
  have hs := hg.size
  have hgk := own_ge h.keys
  obtain ⟨xs, hv1, hv2⟩ := h.vals
  have hgv := own_ge hv1
  have low : ∀ k, k < B → W2.heap[k]? = W.heap[k]? := fun k hk => hg.block k (by omega) fun e => by have := (hgk k e.symm).1; omega
  have free : ∀ k, Free B vk vl W k → Free B vk' vl W2 k ∧ W2.heap[k]? = W.heap[k]? := by
    intro k hk
    refine ⟨⟨hk.1, by have := hk.2.1; omega, fun e => ?_, hk.2.2.2⟩, hg.block k hk.2.1 fun e => hk.2.2.1 e.symm⟩
    rcases hat with h' | h'
    · exact hk.2.2.1 (h' ▸ e)
    · rw [h'] at e
      have := Option.some.inj e
      have := hk.2.1
      omega
  refine ⟨⟨(low b (by omega)).trans h.res, by rw [List.length_append, List.map_append]; exact hown, ⟨xs, own_keep hv1 (S := fun k => vk.ownBlock = some k) (Keep.of_grown hg fun _ _ e => e) fun k e e' => h.ne k e' e, hv2.carry free⟩, ?_, h.keep.grown hg fun k e => by have := (hgk k e).1; have := h.szA; omega, h.szA, h2, h3, h4⟩, ⟨free, low⟩⟩
  intro i e e'
  rcases hat with h' | h'
  · exact h.ne i (h' ▸ e) e'
  · rw [h'] at e
    have := Option.some.inj e
    have := (hgv i e').2
    omega
theorem PI.val (h : PI B R M b WA ks acc vk vl W) {y : J} {cs xs : List Value} (hv1 : W.ownsRow B 51 5 vl acc.length xs) (hv2 : isRow (Free B vk vl W) W acc xs) (hy : isJ (Free B vk vl W) W y cs)
    (hown : W2.ownsRow B 51 5 vl' (acc.length + 1) (xs ++ cs)) (hg : W.grownBy W2 vl.ownBlock) (hat : vl'.ownBlock = vl.ownBlock ∨ vl'.ownBlock = some W.heap.size) :
    PI B R M b WA ks (acc ++ [y]) vk vl' W2 ∧ Goes B vk vl W vk vl' W2 := by
  have h1 := h.size
  have h2 := h.rb
  have h3 := h.bm
  have h4 := h.mB
  have hs := hg.size
  have hgk := own_ge h.keys
  have hgv := own_ge hv1
  have low : ∀ k, k < B → W2.heap[k]? = W.heap[k]? := fun k hk => hg.block k (by omega) fun e => by have := (hgv k e.symm).1; omega
  have free : ∀ k, Free B vk vl W k → Free B vk vl' W2 k ∧ W2.heap[k]? = W.heap[k]? := by
    intro k hk
    refine ⟨⟨hk.1, by have := hk.2.1; omega, hk.2.2.1, fun e => ?_⟩, hg.block k hk.2.1 fun e => hk.2.2.2 e.symm⟩
    rcases hat with h' | h'
    · exact hk.2.2.2 (h' ▸ e)
    · rw [h'] at e
      have := Option.some.inj e
      have := hk.2.1
      omega
  refine ⟨⟨(low b (by omega)).trans h.res, own_keep h.keys (S := fun k => vl.ownBlock = some k) (Keep.of_grown hg fun _ _ e => e) fun k e e' => h.ne k e e', ⟨xs ++ cs, by rw [List.length_append]; exact hown, isRow.snoc hy.five (hy.carry free) acc xs (hv2.carry free)⟩, ?_, h.keep.grown hg fun k e => by have := (hgv k e).1; have := h.szA; omega, h.szA, h2, h3, h4⟩, ⟨free, low⟩⟩
  intro i e e'
  rcases hat with h' | h'
  · exact h.ne i e (h' ▸ e')
  · rw [h'] at e'
    have := Option.some.inj e'
    have := (hgk i e).2
    omega
/-- A value that was just read is free. -/
theorem PI.new {w4 : World} {y : J} {cs : List Value} (h : PI B R M b WA ks acc vk vl W) (hj : isJ (New W w4) w4 y cs) (o : Obj) : isJ (Free B vk vl (w4.alloc o)) (w4.alloc o) y cs := by
  have hs := h.size
  obtain ⟨xs, h1, h2⟩ := h.vals
  refine hj.carry fun k hk' => ⟨⟨by have := hk'.1; omega, by have := hk'.2; simp; omega, fun e => ?_, fun e => ?_⟩, Below.heap_alloc _ _ _ hk'.2⟩
  · have := (own_ge h.keys k e).2
    have := hk'.1
    omega
  · have := (own_ge h1 k e).2
    have := hk'.1
    omega
end
section
variable {B R M b : Nat} {WA W W' : World} {ks ks' : List ByteArray} {acc acc' : List J} {vk vl vk' vl' : Value} {s : ByteArray} {q : Nat} {e l : Int} {st : List ByteArray} {y : J} {y0 y1 y2 y3 y4 : Value} {nv n : Nat} {o : Obj}
end
/-- The letter FFFD, written out. -/
def isF (s : ByteArray) (i : Nat) : Bool := decide (byteAt (ints s) i = 239 ∧ byteAt (ints s) (i + 1) = 191 ∧ byteAt (ints s) (i + 2) = 189)
theorem take_three {l : List UInt8} {n : Nat} (h : n + 3 ≤ l.length) : (l.drop n).take 3 = [l[n], l[n + 1], l[n + 2]] := by
  rw [List.drop_eq_getElem_cons (by omega), List.drop_eq_getElem_cons (i := n + 1) (by omega), List.drop_eq_getElem_cons (i := n + 2) (by omega)]
  rfl
theorem byte_eq (a : UInt8) (n : Nat) (hn : n < 256) : ((a.toNat : Int) = (n : Int)) ↔ a = UInt8.ofNat n := by
  constructor
  · intro h
    apply UInt8.toNat_inj.1
    have : a.toNat = n := by omega
    rw [this]
    simp
    omega
  · intro h
    subst h
    simp
    omega
theorem take_f (s : ByteArray) (i : Nat) : decide ((s.data.toList.drop i).take 3 = [239, 191, 189]) = isF s i := by
  unfold isF
  rw [decide_eq_decide]
  have hl : s.data.toList.length = s.size := by simp
  by_cases h : i + 3 ≤ s.size
  · rw [take_three (by omega), byte_in s i (by omega), byte_in s (i + 1) (by omega), byte_in s (i + 2) (by omega)]
    have e1 := byte_eq s[i] 239 (by omega)
    have e2 := byte_eq s[i + 1] 191 (by omega)
    have e3 := byte_eq s[i + 2] 189 (by omega)
    have g : ∀ k (hk : k < s.size), s.data.toList[k]'(by omega) = s[k] := fun k hk => by simp [ByteArray.getElem_eq_getElem_data]
    rw [g i (by omega), g (i + 1) (by omega), g (i + 2) (by omega)]
    simp only [List.cons.injEq, and_true]
    exact and_congr e1.symm (and_congr e2.symm e3.symm)
  · constructor
    · intro h'
      have := congrArg List.length h'
      simp at this
      omega
    · intro h'
      have := byte_past s (i + 2) (by omega)
      omega
theorem pre_list (s : ByteArray) (i : Nat) : (((s.extract i s.size).extract 0 3).toList == [239, 191, 189]) = isF s i := by
  rw [← take_f, Lib.toList_data, ByteArray.data_extract, Array.toList_extract, ByteArray.data_extract, Array.toList_extract]
  simp only [List.extract_eq_take_drop, List.drop_zero, Nat.sub_zero]
  have : (s.data.toList.drop i).take (s.size - i) = s.data.toList.drop i := List.take_of_length_le (by simp)
  rw [this, Bool.eq_iff_iff]
  simp only [beq_iff_eq, decide_eq_true_eq]
theorem lite_any (s : ByteArray) (i : Nat) (w : World) (hi : i ≤ s.size) (hs : s.size ≤ 1000000000) :
    Calls Try.prog 78 #[.string (s.extract i s.size), .string ⟨#[239, 191, 189]⟩] w fun e w' => e = .returned (.bool (isF s i)) ∧ w = w' := by
  have h1 := pre_list s i
  have hu : (s.extract i s.size).size = s.size - i := by simp
  by_cases h : i + 3 ≤ s.size
  · obtain ⟨u, hu'⟩ : ∃ u, s.extract i s.size = u := ⟨_, rfl⟩
    rw [hu'] at h1 hu ⊢
    have hu1 : 3 ≤ u.size := by omega
    have hu2 : u.size ≤ 1000000000 := by omega
    clear hu hu'
    cases hb : isF s i
    all_goals
      rw [hb] at h1
      go_enter Try.func78, Try.ntmps78
      go_wp2
      go_ret
      exact ⟨rfl, rfl⟩
  · have hF : isF s i = false := by
      unfold isF
      apply decide_eq_false
      intro h'
      have := byte_past s (i + 2) (by omega)
      omega
    rw [hF]
    obtain ⟨u, hu'⟩ : ∃ u, s.extract i s.size = u := ⟨_, rfl⟩
    rw [hu'] at h1 hu ⊢
    have hu1 : u.size < 3 := by omega
    clear hu hu' h1
    go_enter Try.func78, Try.ntmps78
    go_wp2
    go_ret
    exact ⟨rfl, rfl⟩
theorem prefix_any (s : ByteArray) (i : Nat) (w : World) (hi : i ≤ s.size) (hs : s.size ≤ 1000000000) :
    Calls Try.prog 74 #[.string (s.extract i s.size), .string ⟨#[239, 191, 189]⟩] w fun e w' => e = .returned (.bool (isF s i)) ∧ w = w' := by
  go_enter Try.func74, Try.ntmps74
  go_wp2_with (go_at_call 78; refine (lite_any s i _ hi hs).mono ?_; rintro x w' ⟨rfl, rfl⟩)
  go_ret
  exact ⟨rfl, rfl⟩
/-- What the seeker of such a byte returns. -/
def strayTold (r : Option Nat) (x : Ending) : Prop := match r with
  | none => x = .returned (.tuple #[.int .i64 0, .bool false])
  | some p => x = .returned (.tuple #[.int .i64 p, .bool true])
theorem stray_any (s : ByteArray) (w : World) (hs : s.size ≤ 1000000000) :
    Calls Try.prog 66 #[.string s] w fun x w' => strayTold (stray (ints s)) x ∧ ∃ pos, w' = w.iter s pos := by
  go_enter Try.func66, Try.ntmps66
  go_wp2
  go_loopw [4] (fun _ wr => ∃ (pos m : Nat), wr = w.iter s pos ∧ strayL (ints s) m pos = stray (ints s) ∧ s.size ≤ pos + m) (fun _ wr => s.size - wr.iterPos w.heap.size)
  case atStart => exact ⟨0, s.size, rfl, by unfold stray; rw [ints_length], by omega⟩
  case round =>
    obtain ⟨pos, m, rfl, hc, hb⟩ := hrel
    have HC : Hid (strayL (ints s) m pos = stray (ints s)) := hc
    clear hc
    by_cases hp : pos < s.size
    · have hnx : ∀ ty, (Instr.next (.pointer (some ⟨w.heap.size, 0, none⟩)) true ty).run Try.prog (w.iter s pos) = _ := fun ty => run_next_any w s pos ty hp
      have hdec := decode_rune s pos
      obtain ⟨m, rfl⟩ : ∃ m', m = m' + 1 := ⟨m - 1, by omega⟩
      unfold strayL at HC
      rw [ints_length, if_pos hp] at HC
      by_cases h0 : (runeAt (ints s) pos).2 = 0
      · rw [if_pos h0] at HC hdec
        have hF : isF s pos = false := by
          unfold isF
          apply decide_eq_false
          rintro ⟨a, b, c⟩
          rw [rune_fffd _ _ a b c] at h0
          cases h0
        have pf := fun w' => prefix_any s pos w' (by omega) hs
        rw [hF] at pf
        rw [hdec] at hnx
        go_wp2_with (go_at_call 74; refine (pf _).mono ?_; rintro x w' ⟨rfl, rfl⟩)
        go_ret2
        rw [← HC.out]
        exact ⟨rfl, _, rfl⟩
      · rw [if_neg h0] at HC hdec
        have hw4 := rune_width (ints s) pos
        by_cases hr : (runeAt (ints s) pos).1 = 65533
        · have hF : isF s pos = true := decide_eq_true (rune_is (ints s) pos (byte_bd s) h0 hr)
          have pf := fun w' => prefix_any s pos w' (by omega) hs
          rw [hF] at pf
          rw [hr] at hdec
          rw [hdec] at hnx
          obtain ⟨wd, hwd⟩ : ∃ wd, (runeAt (ints s) pos).2 = wd := ⟨_, rfl⟩
          rw [hwd] at hnx HC h0 hw4
          clear hdec hwd
          go_wp2_with (go_at_call 74; refine (pf _).mono ?_; rintro x w' ⟨rfl, rfl⟩)
          go_roundw
          case rel => exact ⟨pos + wd, m, rfl, HC.out, by omega⟩
          case measure => simp; omega
        · obtain ⟨c, hcn⟩ : ∃ c, (runeAt (ints s) pos).1.toNat = c := ⟨_, rfl⟩
          have hc1 : (c : Int) ≠ 65533 := by omega
          rw [hcn] at hdec
          rw [hdec] at hnx
          obtain ⟨wd, hwd⟩ : ∃ wd, (runeAt (ints s) pos).2 = wd := ⟨_, rfl⟩
          rw [hwd] at hnx HC h0 hw4
          clear hdec hwd hcn
          go_wp2
          go_roundw
          case rel => exact ⟨pos + wd, m, rfl, HC.out, by omega⟩
          case measure => simp; omega
    · have hnx : ∀ ty, (Instr.next (.pointer (some ⟨w.heap.size, 0, none⟩)) true ty).run Try.prog (w.iter s pos) = _ := fun ty => run_next_end w s pos ty hp
      go_wp2
      go_ret2
      have hn : strayL (ints s) m pos = none := by
        cases m with
        | zero => rfl
        | succ m => unfold strayL; rw [ints_length, if_neg hp]
      rw [← HC.out, hn]
      exact ⟨rfl, _, rfl⟩
/-- What bytes say, or the first error and its place. -/
def decode (t : List Int) : Res J := if 16384 < t.length then .bad 13 16384 else match stray t with
  | some p => .bad 10 p
  | none => whole t
/-- All stays but block K and rows of bytes from block B on. -/
structure NB (B K : Nat) (w w' : World) : Prop where
  os : w'.os = w.os
  tape : w'.tape = w.tape
  output : w'.output = w.output
  size : w.heap.size ≤ w'.heap.size
  block : ∀ k, k < w.heap.size → k ≠ K → (k < B ∨ ∀ cur fr, w.heap[k]? ≠ some (.cells cur 5 fr)) → w'.heap[k]? = w.heap[k]?
theorem NB.refl (B K : Nat) (w : World) : NB B K w w := ⟨rfl, rfl, rfl, Nat.le_refl _, fun _ _ _ _ => rfl⟩
theorem NB.trans {B K : Nat} {a b c : World} (h : NB B K a b) (g : NB B K b c) : NB B K a c :=
  ⟨g.os.trans h.os, g.tape.trans h.tape, g.output.trans h.output, Nat.le_trans h.size g.size, fun k hk hn hs => by
    have e := h.block k hk hn hs
    exact (g.block k (Nat.lt_of_lt_of_le hk h.size) hn (hs.imp id fun h' cur fr => by rw [e]; exact h' cur fr)).trans e⟩
theorem NB.alloc {B K : Nat} {a b : World} (h : NB B K a b) (o : Obj) : NB B K a (b.alloc o) :=
  h.trans ⟨rfl, rfl, rfl, by simp, fun k hk _ _ => Below.heap_alloc _ _ _ hk⟩
theorem NB.drew {B K : Nat} {a b : World} (h : NB B K a b) : NB B K a b.drew := ⟨h.os, h.tape, h.output, h.size, h.block⟩
theorem NB.keep {B K : Nat} {a b : World} (h : Keep (One K) a b) : NB B K a b := ⟨h.os, h.tape, h.output, h.size, fun k hk hn _ => h.block k hk hn⟩
theorem NB.below {B K : Nat} {a b : World} (h : NB B K a b) (hK : K ≤ B) (hB : K ≤ a.heap.size) : Below K a b := ⟨h.os, h.tape, h.output, h.size, fun k hk => h.block k (by omega) (by omega) (.inl (by omega))⟩
/-- How a letter stands in a text. -/
def escRune (l : Int) : List Int := if l < 128 then escByte l else Lib.encodeRuneZ l
end Go.Proofs.Ytalmghbkdelaoaa

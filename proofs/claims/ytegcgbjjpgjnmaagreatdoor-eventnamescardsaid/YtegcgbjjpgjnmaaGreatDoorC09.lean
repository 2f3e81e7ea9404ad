/-
  Pairs read, by a contract: given how a value within them is read.
-/
import Derived.Test.YtegcgbjjpgjnmaaGreatDoorC08
set_option maxRecDepth 100000
set_option maxHeartbeats 16000000
namespace Go.Proofs.YtegcgbjjpgjnmaaGreatDoor
open Go.RowKit
abbrev atP (w : World) (R p : Nat) : World := (w.setCell ⟨R, 1, none⟩ (.int .i64 ((p : Int) + 1))).alloc zJ
theorem atP_keep (w : World) (R p : Nat) : Keep (One R) w (atP w R p) := (Rdr.setAt w R (p + 1)).alloc _
theorem atP_res {w w2 : World} {R p : Nat} (hR : R < w.heap.size) (hk : Keep (One R) (atP w R p) w2) : w2.heap[w.heap.size]? = some (.cells #[.int .i64 0, .int .i64 0, .string ⟨#[]⟩, .slice none 0 0, .slice none 0 0] 25 (0, 0)) := by
 have := json_keep hk (by simpa using hR)
 rw [show (w.setCell ⟨R, 1, none⟩ (.int .i64 ((p : Int) + 1))).heap.size = w.heap.size by simp] at this
 exact this
theorem PI.start {w w2 : World} {R p : Nat} (hR : R < w.heap.size) (hk : Keep (One R) (atP w R p) w2) : PI (w2.heap.size + 1) R w2.heap.size w.heap.size (w2.alloc (.map #[] 0)) [] [] (.slice none 0 0) (.slice none 0 0) (w2.alloc (.map #[] 0)) := by
 have hs : (w.heap.size + 1) ≤ w2.heap.size := by have := hk.size; simp at this; exact this
 refine ⟨?_, World.ownsRow_nil _ _ _ _, ⟨[], World.ownsRow_nil _ _ _ _, rfl⟩, fun i e => (by cases e), Keep.refl _ _, by simp, hR, by omega, by omega⟩
 rw [Below.heap_alloc _ _ _ (by omega)]
 exact atP_res hR hk
theorem PI.end {w w2 W5 wr : World} {R p : Nat} {ks : List ByteArray} {acc : List J} {vk vl : Value} (h : PI (w2.heap.size + 1) R w2.heap.size w.heap.size (w2.alloc (.map #[] 0)) ks acc vk vl wr) (hkw : Keep (One R) (atP w R p) w2) (hk : Keep (One w.heap.size) wr W5) : Keep (One R) w W5 := by
 have hs : (w.heap.size + 1) ≤ w2.heap.size := by have := hkw.size; simp at this; exact this
 have k1 : Keep (One R) w (w2.alloc (.map #[] 0)) := ((atP_keep w R p).then hkw).alloc _
 have k2 : Keep (One R) w wr := k1.trans h.keep fun i hi h' => by
  rcases h' with h' | h'
  · exact h'
  · omega
 exact k2.trans hk fun i hi h' => by unfold One at h'; omega
theorem map_fin {w w8 W5 : World} {M : Nat} {j : J} {cs : List Value} (hM : w.heap.size < M) (hk : Keep (One w.heap.size) w8 W5) (hj : isJ (fun k => M + 1 ≤ k ∧ k < w8.heap.size) w8 j cs) : isJ (New w W5) W5 j cs := by
 have hs := hk.size
 exact hj.carry fun k hk' => ⟨⟨by have := hk'.1; omega, by have := hk'.2; omega⟩, hk.block k hk'.2 (by unfold One; have := hk'.1; omega)⟩
theorem pairs_any {d : Nat} (V : Reads d) {w : World} {R p : Nat} {s : ByteArray} {e l deep : Int} (hr : Rdr w R s p e l) (hs : short s) (hp : p < s.size) (hdeep : deep = 12 - (d : Int)) (hd : d ≤ 12) :
    Calls Tryz.prog 143 #[.pointer (some ⟨R, 0, none⟩), .int .i64 deep] w fun x w' => valTold w w' R s (pairsAt (ints s) (value (ints s) d) p) x := by
 have hsz := hs
 unfold short at hsz
 have hR := hr.lt
 have hd0 : 0 ≤ deep := by omega
 have hd1 : deep ≤ 12 := by omega
 have HD : Hid (deep = 12 - (d : Int)) := hdeep
 clear hdeep
 have c1 := hr.c1
 have f1 := hr.fz 1
 have HR1 : Rdr (atP w R p) R s (p + 1) e l := (hr.at (p + 1)).keep (S := fun _ => False) ((Keep.refl _ _).alloc _) (fun h => h)
 have hbl := blanks_le (t := ints s) (p := p + 1) (by rw [ints_length]; exact hp)
 rw [ints_length] at hbl
 unfold atP zJ at HR1
 by_cases h93 : byteAt (ints s) (blanks (ints s) (p + 1)) = 125
 · have HL : Hid (pairsAt (ints s) (value (ints s) d) p = .ok (.mk 5 0 nix [] []) (blanks (ints s) (p + 1) + 1)) := by unfold pairsAt; rw [if_pos h93]; rfl
   go_enter Tryz.func143, Tryz.ntmps143
   go_wp2_with (first
    | (go_at_call 114; refine (blanks_any HR1 hs hp).mono ?_; rintro x w2 ⟨rfl, ⟨⟨e2, l2, hr2⟩, hk2⟩⟩)
    | (go_at_call 167; refine (take_yes hr2 (by omega) 125 h93).mono ?_; rintro x w3 ⟨rfl, ⟨⟨e3, l3, hr3⟩, hk3⟩⟩
       have hres := atP_res hR (hk2.then hk3)
       have i0 := five_c0 hres; have i1 := five_c1 hres; have i2 := five_c2 hres; have i3 := five_c3 hres; have i4 := five_c4 hres
       have z0 := five_fz hres 0; have z1 := five_fz hres 1; have z2 := five_fz hres 2; have z3 := five_fz hres 3; have z4 := five_fz hres 4))
   have h5 := set5_heap hres (.int .i64 5) (.int .i64 0) (.string ⟨#[]⟩) (.slice none 0 0) (.slice none 0 0)
   have HK5 : Keep (One w.heap.size) w3 _ := set5_keep w3 w.heap.size (.int .i64 5) (.int .i64 0) (.string ⟨#[]⟩) (.slice none 0 0) (.slice none 0 0)
   unfold set5 at h5 HK5
   have k0 := five_c0 h5; have k1 := five_c1 h5; have k2 := five_c2 h5; have k3 := five_c3 h5; have k4 := five_c4 h5
   refine bodyPost_ret (v := .tuple #[.agg #[.int .i64 5, .int .i64 0, .string ⟨#[]⟩, .slice none 0 0, .slice none 0 0], .bool true]) (by simp [results, Tryz.results143, go_sem, k0, k1, k2, k3, k4]) rfl ?_
   rw [HL.out]
   exact ⟨⟨_, _, _, _, _, _, _, _, _, rfl, flat_isJ _ _ 5 0 nix⟩, ⟨_, _, hr3.keep HK5 (fun h => by unfold One at h; omega)⟩, (((atP_keep w R p).then hk2).then hk3).trans HK5 fun i hi h' => by unfold One at h'; omega⟩
 · have HL : Hid (pairsAt (ints s) (value (ints s) d) p = pairsL (ints s) (value (ints s) d) (s.size + 1) (blanks (ints s) (p + 1)) [] []) := by unfold pairsAt; rw [if_neg h93, ints_length]; rfl
   have hmm := @run_makeMap Tryz.prog
   go_enter Tryz.func143, Tryz.ntmps143
   go_wp2_with (first
    | (go_at_call 114; refine (blanks_any HR1 hs hp).mono ?_; rintro x w2 ⟨rfl, ⟨⟨e2, l2, hr2⟩, hk2⟩⟩)
    | (go_at_call 167; refine (take_no hr2 125 h93).mono ?_; rintro x w' ⟨rfl, rfl⟩))
   have hpi0 := PI.start (p := p) hR hk2
   have HKW : Keep (One R) (atP w R p) w2 := hk2
   have hst0 := Stood.made w2
   have hr0 : Rdr (w2.alloc (.map #[] 0)) R s (blanks (ints s) (p + 1)) e2 l2 := hr2.keep (S := fun _ => False) ((Keep.refl _ _).alloc _) (fun h => h)
   have hMw := hpi0.bm
   go_loopw [6, 7] (fun vk vl wr => ∃ (q m : Nat) (ks : List ByteArray) (acc : List J), q ≤ s.size ∧ s.size < q + m ∧ ks.length ≤ q ∧ ks.length = acc.length ∧ ks.Pairwise (· ≠ ·) ∧ pairsL (ints s) (value (ints s) d) m q ks acc = pairsAt (ints s) (value (ints s) d) p ∧ PI (w2.heap.size + 1) R w2.heap.size w.heap.size (w2.alloc (.map #[] 0)) ks acc vk vl wr ∧ Stood wr w2.heap.size ks ∧ ∃ e l, Rdr wr R s q e l) (fun _ _ wr => s.size - posOf R wr)
   case atStart => exact ⟨_, s.size + 1, [], [], hbl, by omega, by simp, rfl, List.Pairwise.nil, HL.out.symm, hpi0, hst0, _, _, hr0⟩
   case round =>
    clear hmm hpi0 hk2 hr2 HL HR1 c1 f1 hst0 hr0
    obtain ⟨q, m, ks, acc, hq, hm, hal, hlen, hdist, hx, hpi, hst, e1, l1, hr1⟩ := hrel
    have hE0 := own_slice hpi.keys
    obtain ⟨xs0, hE1, _⟩ := hpi.vals
    have hE1 := own_slice hE1
    obtain ⟨sk1, sk2, sk3, rfl⟩ := hE0
    obtain ⟨sl1, sl2, sl3, rfl⟩ := hE1
    have HLEN : Hid (ks.length = acc.length) := hlen
    have HDIST : Hid (ks.Pairwise (· ≠ ·)) := hdist
    clear hlen hdist
    have hb1 := blanks_le (t := ints s) (p := q) (by rw [ints_length]; exact hq)
    have hb0 := blanks_ge (ints s) q
    rw [ints_length] at hb1
    have hkadv := keyAt_adv (ks := ks) (t := ints s) (p := blanks (ints s) q) (by rw [ints_length]; exact hb1)
    have hK := fun (wv : World) (e l : Int) (h : Rdr wv R s (blanks (ints s) q) e l) (hst : Stood wv w2.heap.size ks) => key_any h hs hst (by omega) (by omega)
    obtain ⟨m, rfl⟩ : ∃ m', m = m' + 1 := ⟨m - 1, by omega⟩
    have HX : Hid (pairsL (ints s) (value (ints s) d) (m + 1) q ks acc = pairsAt (ints s) (value (ints s) d) p) := hx
    clear hx
    unfold pairsL at HX
    have HP0 := posOf_rdr hr1
    cases hkv : keyAt (ints s) ks (blanks (ints s) q) with
    | bad er la =>
     rw [hkv] at HX hK
     go_wp2_with (first
      | (go_at_call 114; refine (blanks_any hr1 hs hq).mono ?_; rintro x w3 ⟨rfl, ⟨⟨e3, l3, hr3⟩, hk3⟩⟩)
      | (go_at_call 168; refine (hK _ _ _ hr3 (hst.keep hk3 (by unfold One; omega))).mono ?_; rintro x w3b ⟨rfl, ⟨q3b, hr3b⟩, hk3b⟩
         have hpi3 := (hpi.one hk3).two hk3b
         have i0 := five_c0 hpi3.res; have i1 := five_c1 hpi3.res; have i2 := five_c2 hpi3.res; have i3 := five_c3 hpi3.res; have i4 := five_c4 hpi3.res
         have z0 := five_fz hpi3.res 0; have z1 := five_fz hpi3.res 1; have z2 := five_fz hpi3.res 2; have z3 := five_fz hpi3.res 3; have z4 := five_fz hpi3.res 4))
     have h5 := set5_heap hpi3.res (.int .i64 0) (.int .i64 0) (.string ⟨#[]⟩) (.slice none 0 0) (.slice none 0 0)
     have HK5 : Keep (One w.heap.size) w3b _ := set5_keep w3b w.heap.size (.int .i64 0) (.int .i64 0) (.string ⟨#[]⟩) (.slice none 0 0) (.slice none 0 0)
     unfold set5 at h5 HK5
     have k0 := five_c0 h5; have k1 := five_c1 h5; have k2 := five_c2 h5; have k3 := five_c3 h5; have k4 := five_c4 h5
     refine bodyPost_ret (v := .tuple #[.agg #[.int .i64 0, .int .i64 0, .string ⟨#[]⟩, .slice none 0 0, .slice none 0 0], .bool false]) (by simp [results, Tryz.results143, go_sem, k0, k1, k2, k3, k4]) rfl ?_
     rw [← HX.out]
     exact ⟨⟨0, 0, nix, rfl⟩, ⟨_, hr3b.keep HK5 (fun h => by unfold One at h; omega)⟩, hpi3.end HKW HK5⟩
    | ok c qk =>
     have HNEW : Hid (∀ k ∈ ks, k ≠ c) := keyAt_new hkv
     rw [hkv] at HX hK hkadv
     have hqk := hkadv.2
     have hqk0 := hkadv.1
     rw [ints_length] at hqk
     clear hkadv
     have hadv := value_adv (ints s) d qk (by rw [ints_length]; exact hqk)
     have hV := fun (wv : World) (e l : Int) (h : Rdr wv R s qk e l) => V wv R qk s e l (deep + 1) h hs hqk (by have := HD.out; omega)
     cases hv : value (ints s) d qk with
     | bad er la =>
      have HX : Hid ((value (ints s) d qk).bind _ = pairsAt (ints s) (value (ints s) d) p) := HX
      rw [hv] at HX hV
      go_wp2_with (first
       | (go_at_call 114; refine (blanks_any hr1 hs hq).mono ?_; rintro x w3 ⟨rfl, ⟨⟨e3, l3, hr3⟩, hk3⟩⟩)
       | (go_at_call 168; refine (hK _ _ _ hr3 (hst.keep hk3 (by unfold One; omega))).mono ?_; rintro x w3b ⟨rfl, ⟨e3b, l3b, hr3b⟩, hst3b, hk3b⟩)
       | (go_at_call 115; refine (hV _ _ _ hr3b).mono ?_; rintro x w4 ⟨⟨kv, iv, tv, rfl⟩, ⟨q4, hr4⟩, hk4⟩
          unfold flat
          have hpi4 := (((hpi.one hk3).two hk3b).one hk4).alloc (.cells #[.int .i64 kv, .int .i64 iv, .string tv, .slice none 0 0, .slice none 0 0] 25)
          have hr4a : Rdr (w4.alloc (.cells #[.int .i64 kv, .int .i64 iv, .string tv, .slice none 0 0, .slice none 0 0] 25)) R s q4 er la := hr4.keep (S := fun _ => False) ((Keep.refl _ _).alloc _) (fun h => h)
          have i0 := five_c0 hpi4.res; have i1 := five_c1 hpi4.res; have i2 := five_c2 hpi4.res; have i3 := five_c3 hpi4.res; have i4 := five_c4 hpi4.res
          have z0 := five_fz hpi4.res 0; have z1 := five_fz hpi4.res 1; have z2 := five_fz hpi4.res 2; have z3 := five_fz hpi4.res 3; have z4 := five_fz hpi4.res 4))
      have h5 := set5_heap hpi4.res (.int .i64 0) (.int .i64 0) (.string ⟨#[]⟩) (.slice none 0 0) (.slice none 0 0)
      have HK5 : Keep (One w.heap.size) (w4.alloc (.cells #[.int .i64 kv, .int .i64 iv, .string tv, .slice none 0 0, .slice none 0 0] 25)) _ := set5_keep (w4.alloc (.cells #[.int .i64 kv, .int .i64 iv, .string tv, .slice none 0 0, .slice none 0 0] 25)) w.heap.size (.int .i64 0) (.int .i64 0) (.string ⟨#[]⟩) (.slice none 0 0) (.slice none 0 0)
      unfold set5 at h5 HK5
      have k0 := five_c0 h5; have k1 := five_c1 h5; have k2 := five_c2 h5; have k3 := five_c3 h5; have k4 := five_c4 h5
      refine bodyPost_ret (v := .tuple #[.agg #[.int .i64 0, .int .i64 0, .string ⟨#[]⟩, .slice none 0 0, .slice none 0 0], .bool false]) (by simp [results, Tryz.results143, go_sem, k0, k1, k2, k3, k4]) rfl ?_
      rw [← HX.out]
      exact ⟨⟨0, 0, nix, rfl⟩, ⟨_, hr4a.keep HK5 (fun h => by unfold One at h; omega)⟩, hpi4.end HKW HK5⟩
     | ok y qy =>
      have HX : Hid ((value (ints s) d qk).bind _ = pairsAt (ints s) (value (ints s) d) p) := HX
      rw [hv] at HX hV hadv
      have HX : Hid ((if byteAt (ints s) (blanks (ints s) qy) = 125 then .ok (mapOf (ks ++ [c]) (acc ++ [y])) (blanks (ints s) qy + 1) else if byteAt (ints s) (blanks (ints s) qy) = 44 then pairsL (ints s) (value (ints s) d) m (blanks (ints s) qy + 1) (ks ++ [c]) (acc ++ [y]) else .bad 11 (blanks (ints s) qy)) = pairsAt (ints s) (value (ints s) d) p) := HX
      have hqy := hadv.2
      have hqy0 := hadv.1
      rw [ints_length] at hqy
      have hb2 := blanks_le (t := ints s) (p := qy) (by rw [ints_length]; exact hqy)
      rw [ints_length] at hb2
      have hb3 := blanks_ge (ints s) qy
      clear hadv
      go_wp2_with (first
       | (go_at_call 114; refine (blanks_any hr1 hs hq).mono ?_; rintro x w3 ⟨rfl, ⟨⟨e3, l3, hr3⟩, hk3⟩⟩)
       | (go_at_call 168; refine (hK _ _ _ hr3 (hst.keep hk3 (by unfold One; omega))).mono ?_; rintro x w3b ⟨rfl, ⟨e3b, l3b, hr3b⟩, hst3b, hk3b⟩)
       | (go_at_call 115; refine (hV _ _ _ hr3b).mono ?_; rintro x w4 ⟨⟨kv, iv, tv, pk, nk, ck, pl, nl, cl, rfl, hj⟩, ⟨e4, l4, hr4⟩, hk4⟩
          have hpi3 := (hpi.one hk3).two hk3b
          have hyJ := hpi3.new hj (.cells #[.int .i64 kv, .int .i64 iv, .string tv, .slice pk nk ck, .slice pl nl cl] 25)
          have hfr := (hpi3.one hk4).free_new (.cells #[.int .i64 kv, .int .i64 iv, .string tv, .slice pk nk ck, .slice pl nl cl] 25)
          have hblk : (w4.alloc (.cells #[.int .i64 kv, .int .i64 iv, .string tv, .slice pk nk ck, .slice pl nl cl] 25)).heap[w4.heap.size]? = some (.cells #[.int .i64 kv, .int .i64 iv, .string tv, .slice pk nk ck, .slice pl nl cl] 25 (0, 0)) := heap_alloc_new _ _
          have hpi4 := (hpi3.one hk4).alloc (.cells #[.int .i64 kv, .int .i64 iv, .string tv, .slice pk nk ck, .slice pl nl cl] 25)
          have hr4a : Rdr (w4.alloc (.cells #[.int .i64 kv, .int .i64 iv, .string tv, .slice pk nk ck, .slice pl nl cl] 25)) R s qy e4 l4 := hr4.keep (S := fun _ => False) ((Keep.refl _ _).alloc _) (fun h => h)
          have hst4 : Stood (w4.alloc (.cells #[.int .i64 kv, .int .i64 iv, .string tv, .slice pk nk ck, .slice pl nl cl] 25)) w2.heap.size (ks ++ [c]) := (hst3b.keep hk4 (by unfold One; omega)).at (Below.heap_alloc _ _ _ (by have := (hst3b.keep hk4 (by unfold One; omega)).lt; omega))))
      have HL2 : Hid ((ks ++ [c]).length = (acc ++ [y]).length) := by have := HLEN.out; simp; omega
      have HD2 : Hid ((ks ++ [c]).Pairwise (· ≠ ·)) := pairwise_snoc HDIST.out HNEW.out
      have rs0 : RS (w2.heap.size + 1) R w2.heap.size w.heap.size (w2.alloc (.map #[] 0)) ks acc (.slice sk1 sk2 sk3) (.slice sl1 sl2 sl3) s qy e4 l4 (ks ++ [c]) y (.int .i64 kv) (.int .i64 iv) (.string tv) (.slice pk nk ck) (.slice pl nl cl) w4.heap.size (w4.alloc (.cells #[.int .i64 kv, .int .i64 iv, .string tv, .slice pk nk ck, .slice pl nl cl] 25)) := ⟨hpi4, hyJ, ⟨hfr, hblk⟩, hr4a, hst4⟩
      have rs0 := rs0.go rs0.pi.drew (Goes.keep rs0.pi.size (Keep.refl _ _).drew)
      clear hpi3 hyJ hfr hblk hpi4 hr4a hst4
      refine wp_region_in (by kernel_rfl) (fun w' => w'.heap[w4.heap.size]? = some (.cells #[.int .i64 kv, .int .i64 iv, .string tv, .slice pk nk ck, .slice pl nl cl] 25 (0, 0))) ?_
      change wpIn _ _ _ _ _ _ _ _ (World.drew _)
      generalize (w4.alloc (.cells #[.int .i64 kv, .int .i64 iv, .string tv, .slice pk nk ck, .slice pl nl cl] 25)).drew = W0 at rs0 ⊢
      generalize w4.heap.size = nv at rs0 ⊢
      have hC0 := rs0.blk.2
      have rsK := rs0.alloc (.cells #[.string c] 9)
      have lsK := rs0.pi.lies #[.string c] 9 rfl
      have hCK := rsK.blk.2
      have rsJ := rs0.alloc (.cells #[.int .i64 kv, .int .i64 iv, .string tv, .slice pk nk ck, .slice pl nl cl] 25)
      have lsJ := rs0.pi.lies #[.int .i64 kv, .int .i64 iv, .string tv, .slice pk nk ck, .slice pl nl cl] 25 rfl
      have hCJ := rsJ.blk.2
      have rsKJ := rsK.alloc (.cells #[.int .i64 kv, .int .i64 iv, .string tv, .slice pk nk ck, .slice pl nl cl] 25)
      have lsKJ := rsK.pi.lies (n := W0.heap.size + 1) #[.int .i64 kv, .int .i64 iv, .string tv, .slice pk nk ck, .slice pl nl cl] 25 (by simp)
      have lsKJk := lsK.go (rsK.pi.goes (.cells #[.int .i64 kv, .int .i64 iv, .string tv, .slice pk nk ck, .slice pl nl cl] 25))
      have hCKJ := rsKJ.blk.2
      have rsJK := rsJ.alloc (.cells #[.string c] 9)
      have lsJK := rsJ.pi.lies (n := W0.heap.size + 1) #[.string c] 9 (by simp)
      have lsJKj := lsJ.go (rsJ.pi.goes (.cells #[.string c] 9))
      have hCJK := rsJK.blk.2
      refine wpIn_tk (i := 0) (d := some 46) rfl ?_
      refine wpIn_tk (i := 1) (d := some 47) rfl ?_
      refine wpIn_tk (i := 4) (d := some 50) rfl ?_
      refine wpIn_tp (i := 5) (d := some 51) rfl (by (intro wq hq; have q0 := five_c0 hq; have q1 := five_c1 hq; have q2 := five_c2 hq; have q3 := five_c3 hq; have q4 := five_c4 hq; go_simp; first | done | with_reducible rfl)) ?_
      refine wpIn_pair (i := 2) (j := 6) hC0 (by kernel_rfl) rfl rfl (by rfl) (by rfl) ?_ ?_
      · skip
        intro K hK
        go_simp
        refine hK _ _ ?_
        clear hK K
        refine wpIn_pair (i := 3) (j := 6) hCK (by kernel_rfl) rfl rfl (by rfl) (by rfl) ?_ ?_
        · skip
          intro K hK
          refine wp_append_at (.tmp 46) (.tmp 48) 22 rfl (w2.heap.size + 1) 9 (.string ⟨#[]⟩) 1 16 Tryz.underlying22 Tryz.info9 rfl (by decide) (by decide) _ ks.length (ks.map Value.string) rfl rsK.pi.keys _ [.string c] rfl rfl (lies1 lsK) (str_one c) (by omega) rsK.pi.size ?_
          intro vk2 WK hownK hgK hatK
          refine hK _ _ ?_
          clear hK K
          obtain ⟨qk5, nk5, ck5, hE5⟩ := own_slice hownK
          subst hE5
          have hpg := rsK.pi.key hownK hgK hatK
          have rs2 := rsK.go hpg.1 hpg.2
          have hgo := hpg.2
          clear hownK hgK hatK hpg
          have hC2 := rs2.blk.2
          refine wpIn_do (i := 6) hC2 (by kernel_rfl) rfl (by rfl) ?_
          intro K hK
          go_simp
          refine hK _ _ ?_
          clear hK K
          have rs3 := rs2.alloc (.cells #[.int .i64 kv, .int .i64 iv, .string tv, .slice pk nk ck, .slice pl nl cl] 25)
          have ls3 := rs2.pi.lies #[.int .i64 kv, .int .i64 iv, .string tv, .slice pk nk ck, .slice pl nl cl] 25 rfl
          have hC3 := rs3.blk.2
          refine wpIn_do (i := 7) hC3 (by kernel_rfl) rfl (by rfl) ?_
          intro K hK
          obtain ⟨xs, hv1, hv2⟩ := rs3.pi.vals
          refine wp_append_at (.tmp 50) (.tmp 52) 23 rfl (w2.heap.size + 1) 25 (.agg #[.int .i64 0, .int .i64 0, .string ⟨#[]⟩, .slice none 0 0, .slice none 0 0]) 5 80 Tryz.underlying23 Tryz.info25 rfl (by decide) (by decide) _ acc.length xs rfl hv1 _ [.int .i64 kv, .int .i64 iv, .string tv, .slice pk nk ck, .slice pl nl cl] rfl rfl (lies5 ls3) one5 (by have := HLEN.out; omega) rs3.pi.size ?_
          intro vl2 WV hownV hgV hatV
          refine hK _ _ ?_
          clear hK K
          obtain ⟨ql5, nl5, cl5, hE5⟩ := own_slice hownV
          subst hE5
          have hpg := rs3.pi.val hv1 hv2 rs3.y hownV hgV hatV
          have rsF := rs3.go hpg.1 hpg.2
          have hCF := rsF.blk.2
          clear hownV hgV hatV hpg hv1 hv2
          refine wpIn_tk (i := 8) (d := some 6) rfl ?_
          refine wpIn_tk (i := 9) (d := some 7) rfl ?_
          refine wpIn_done hCF (by kernel_rfl) ?_ _
          have hpiF := rsF.pi
          have hrF := rsF.rdr
          have hstF := rsF.st
          clear hCF rsF
          by_cases h9 : byteAt (ints s) (blanks (ints s) qy) = 125
          · rw [if_pos h9] at HX
            go_wp2_with (first
             | (go_at_call 114; refine (blanks_any hrF hs hqy).mono ?_; rintro x w6 ⟨rfl, ⟨⟨e6, l6, hr6⟩, hk6⟩⟩)
             | (go_at_call 167; refine (take_yes hr6 (by omega) 125 h9).mono ?_; rintro x w7 ⟨rfl, ⟨⟨e7, l7, hr7⟩, hk7⟩⟩
                have hpi7 := (hpiF.one hk6).one hk7)
             | (go_at_call 104; refine (hpi7.mapOf HL2.out (by simp; omega) HD2.out).mono ?_; rintro x w8 ⟨kf, jf, tf, pkf, nkf, ckf, plf, nlf, clf, rfl, hJf, hb8⟩
                have hres8 := (hb8.block _ (Array.getElem?_eq_some_iff.1 hpi7.res).1).trans hpi7.res
                have i0 := five_c0 hres8; have i1 := five_c1 hres8; have i2 := five_c2 hres8; have i3 := five_c3 hres8; have i4 := five_c4 hres8
                have z0 := five_fz hres8 0; have z1 := five_fz hres8 1; have z2 := five_fz hres8 2; have z3 := five_fz hres8 3; have z4 := five_fz hres8 4))
            have h5 := set5_heap hres8 (.int .i64 kf) (.int .i64 jf) (.string tf) (.slice pkf nkf ckf) (.slice plf nlf clf)
            have HK5 : Keep (One w.heap.size) w8 _ := set5_keep w8 w.heap.size (.int .i64 kf) (.int .i64 jf) (.string tf) (.slice pkf nkf ckf) (.slice plf nlf clf)
            unfold set5 at h5 HK5
            have k0 := five_c0 h5; have k1 := five_c1 h5; have k2 := five_c2 h5; have k3 := five_c3 h5; have k4 := five_c4 h5
            refine bodyPost_ret (v := .tuple #[.agg #[.int .i64 kf, .int .i64 jf, .string tf, .slice pkf nkf ckf, .slice plf nlf clf], .bool true]) (by simp [results, Tryz.results143, go_sem, k0, k1, k2, k3, k4]) rfl ?_
            rw [← HX.out]
            have hK8 : Keep (One w.heap.size) w7 _ := (Keep.of_below hb8).then HK5
            exact ⟨⟨_, _, _, _, _, _, _, _, _, rfl, map_fin hMw HK5 hJf⟩, ⟨_, _, (hr7.keep (S := fun _ => False) (Keep.of_below hb8) (fun h => h)).keep HK5 (fun h => by unfold One at h; omega)⟩, hpi7.end HKW hK8⟩
          · rw [if_neg h9] at HX
            by_cases h44 : byteAt (ints s) (blanks (ints s) qy) = 44
            · rw [if_pos h44] at HX
              have hlt := byteAt_lt (t := ints s) (p := blanks (ints s) qy) (by rw [h44]; decide)
              rw [ints_length] at hlt
              go_wp2_with (first
               | (go_at_call 114; refine (blanks_any hrF hs hqy).mono ?_; rintro x w6 ⟨rfl, ⟨⟨e6, l6, hr6⟩, hk6⟩⟩)
               | (go_at_call 167; refine (take_no hr6 125 h9).mono ?_; rintro x w' ⟨rfl, rfl⟩)
               | (go_at_call 164; refine (must_yes hr6 (by omega) 44 h44).mono ?_; rintro x w7 ⟨rfl, ⟨⟨e7, l7, hr7⟩, hk7⟩⟩
                  have hpi7 := (hpiF.one hk6).one hk7
                  have hst7 := (hstF.keep hk6 (by unfold One; omega)).keep hk7 (by unfold One; omega)))
              have HP := posOf_rdr hr7
              go_roundw
              case rel => exact ⟨_, m, ks ++ [c], acc ++ [y], hlt, by omega, by simp; omega, HL2.out, HD2.out, HX.out, hpi7, hst7, _, _, hr7⟩
              case measure => rw [HP, HP0]; omega
            · rw [if_neg h44] at HX
              go_wp2_with (first
               | (go_at_call 114; refine (blanks_any hrF hs hqy).mono ?_; rintro x w6 ⟨rfl, ⟨⟨e6, l6, hr6⟩, hk6⟩⟩)
               | (go_at_call 167; refine (take_no hr6 125 h9).mono ?_; rintro x w' ⟨rfl, rfl⟩)
               | (go_at_call 164; refine (must_no hr6 44 h44).mono ?_; rintro x w7 ⟨rfl, ⟨⟨q7, hr7⟩, hk7⟩⟩
                  have hpi7 := (hpiF.one hk6).one hk7
                  have i0 := five_c0 hpi7.res; have i1 := five_c1 hpi7.res; have i2 := five_c2 hpi7.res; have i3 := five_c3 hpi7.res; have i4 := five_c4 hpi7.res
                  have z0 := five_fz hpi7.res 0; have z1 := five_fz hpi7.res 1; have z2 := five_fz hpi7.res 2; have z3 := five_fz hpi7.res 3; have z4 := five_fz hpi7.res 4))
              have h5 := set5_heap hpi7.res (.int .i64 0) (.int .i64 0) (.string ⟨#[]⟩) (.slice none 0 0) (.slice none 0 0)
              have HK5 : Keep (One w.heap.size) w7 _ := set5_keep w7 w.heap.size (.int .i64 0) (.int .i64 0) (.string ⟨#[]⟩) (.slice none 0 0) (.slice none 0 0)
              unfold set5 at h5 HK5
              have k0 := five_c0 h5; have k1 := five_c1 h5; have k2 := five_c2 h5; have k3 := five_c3 h5; have k4 := five_c4 h5
              refine bodyPost_ret (v := .tuple #[.agg #[.int .i64 0, .int .i64 0, .string ⟨#[]⟩, .slice none 0 0, .slice none 0 0], .bool false]) (by simp [results, Tryz.results143, go_sem, k0, k1, k2, k3, k4]) rfl ?_
              rw [← HX.out]
              exact ⟨⟨0, 0, nix, rfl⟩, ⟨_, hr7.keep HK5 (fun h => by unfold One at h; omega)⟩, hpi7.end HKW HK5⟩
        · skip
          intro K hK
          go_simp
          refine hK _ _ ?_
          clear hK K
          refine wpIn_do (i := 3) hCKJ (by kernel_rfl) rfl (by rfl) ?_
          intro K hK
          refine wp_append_at (.tmp 46) (.tmp 48) 22 rfl (w2.heap.size + 1) 9 (.string ⟨#[]⟩) 1 16 Tryz.underlying22 Tryz.info9 rfl (by decide) (by decide) _ ks.length (ks.map Value.string) rfl rsKJ.pi.keys _ [.string c] rfl rfl (lies1 lsKJk) (str_one c) (by omega) rsKJ.pi.size ?_
          intro vk2 WK hownK hgK hatK
          refine hK _ _ ?_
          clear hK K
          obtain ⟨qk5, nk5, ck5, hE5⟩ := own_slice hownK
          subst hE5
          have hpg := rsKJ.pi.key hownK hgK hatK
          have rs3 := rsKJ.go hpg.1 hpg.2
          have hgo := hpg.2
          clear hownK hgK hatK hpg
          have ls3 := lsKJ.go hgo
          have hC3 := rs3.blk.2
          refine wpIn_do (i := 7) hC3 (by kernel_rfl) rfl (by rfl) ?_
          intro K hK
          obtain ⟨xs, hv1, hv2⟩ := rs3.pi.vals
          refine wp_append_at (.tmp 50) (.tmp 52) 23 rfl (w2.heap.size + 1) 25 (.agg #[.int .i64 0, .int .i64 0, .string ⟨#[]⟩, .slice none 0 0, .slice none 0 0]) 5 80 Tryz.underlying23 Tryz.info25 rfl (by decide) (by decide) _ acc.length xs rfl hv1 _ [.int .i64 kv, .int .i64 iv, .string tv, .slice pk nk ck, .slice pl nl cl] rfl rfl (lies5 ls3) one5 (by have := HLEN.out; omega) rs3.pi.size ?_
          intro vl2 WV hownV hgV hatV
          refine hK _ _ ?_
          clear hK K
          obtain ⟨ql5, nl5, cl5, hE5⟩ := own_slice hownV
          subst hE5
          have hpg := rs3.pi.val hv1 hv2 rs3.y hownV hgV hatV
          have rsF := rs3.go hpg.1 hpg.2
          have hCF := rsF.blk.2
          clear hownV hgV hatV hpg hv1 hv2
          refine wpIn_tk (i := 8) (d := some 6) rfl ?_
          refine wpIn_tk (i := 9) (d := some 7) rfl ?_
          refine wpIn_done hCF (by kernel_rfl) ?_ _
          have hpiF := rsF.pi
          have hrF := rsF.rdr
          have hstF := rsF.st
          clear hCF rsF
          by_cases h9 : byteAt (ints s) (blanks (ints s) qy) = 125
          · rw [if_pos h9] at HX
            go_wp2_with (first
             | (go_at_call 114; refine (blanks_any hrF hs hqy).mono ?_; rintro x w6 ⟨rfl, ⟨⟨e6, l6, hr6⟩, hk6⟩⟩)
             | (go_at_call 167; refine (take_yes hr6 (by omega) 125 h9).mono ?_; rintro x w7 ⟨rfl, ⟨⟨e7, l7, hr7⟩, hk7⟩⟩
                have hpi7 := (hpiF.one hk6).one hk7)
             | (go_at_call 104; refine (hpi7.mapOf HL2.out (by simp; omega) HD2.out).mono ?_; rintro x w8 ⟨kf, jf, tf, pkf, nkf, ckf, plf, nlf, clf, rfl, hJf, hb8⟩
                have hres8 := (hb8.block _ (Array.getElem?_eq_some_iff.1 hpi7.res).1).trans hpi7.res
                have i0 := five_c0 hres8; have i1 := five_c1 hres8; have i2 := five_c2 hres8; have i3 := five_c3 hres8; have i4 := five_c4 hres8
                have z0 := five_fz hres8 0; have z1 := five_fz hres8 1; have z2 := five_fz hres8 2; have z3 := five_fz hres8 3; have z4 := five_fz hres8 4))
            have h5 := set5_heap hres8 (.int .i64 kf) (.int .i64 jf) (.string tf) (.slice pkf nkf ckf) (.slice plf nlf clf)
            have HK5 : Keep (One w.heap.size) w8 _ := set5_keep w8 w.heap.size (.int .i64 kf) (.int .i64 jf) (.string tf) (.slice pkf nkf ckf) (.slice plf nlf clf)
            unfold set5 at h5 HK5
            have k0 := five_c0 h5; have k1 := five_c1 h5; have k2 := five_c2 h5; have k3 := five_c3 h5; have k4 := five_c4 h5
            refine bodyPost_ret (v := .tuple #[.agg #[.int .i64 kf, .int .i64 jf, .string tf, .slice pkf nkf ckf, .slice plf nlf clf], .bool true]) (by simp [results, Tryz.results143, go_sem, k0, k1, k2, k3, k4]) rfl ?_
            rw [← HX.out]
            have hK8 : Keep (One w.heap.size) w7 _ := (Keep.of_below hb8).then HK5
            exact ⟨⟨_, _, _, _, _, _, _, _, _, rfl, map_fin hMw HK5 hJf⟩, ⟨_, _, (hr7.keep (S := fun _ => False) (Keep.of_below hb8) (fun h => h)).keep HK5 (fun h => by unfold One at h; omega)⟩, hpi7.end HKW hK8⟩
          · rw [if_neg h9] at HX
            by_cases h44 : byteAt (ints s) (blanks (ints s) qy) = 44
            · rw [if_pos h44] at HX
              have hlt := byteAt_lt (t := ints s) (p := blanks (ints s) qy) (by rw [h44]; decide)
              rw [ints_length] at hlt
              go_wp2_with (first
               | (go_at_call 114; refine (blanks_any hrF hs hqy).mono ?_; rintro x w6 ⟨rfl, ⟨⟨e6, l6, hr6⟩, hk6⟩⟩)
               | (go_at_call 167; refine (take_no hr6 125 h9).mono ?_; rintro x w' ⟨rfl, rfl⟩)
               | (go_at_call 164; refine (must_yes hr6 (by omega) 44 h44).mono ?_; rintro x w7 ⟨rfl, ⟨⟨e7, l7, hr7⟩, hk7⟩⟩
                  have hpi7 := (hpiF.one hk6).one hk7
                  have hst7 := (hstF.keep hk6 (by unfold One; omega)).keep hk7 (by unfold One; omega)))
              have HP := posOf_rdr hr7
              go_roundw
              case rel => exact ⟨_, m, ks ++ [c], acc ++ [y], hlt, by omega, by simp; omega, HL2.out, HD2.out, HX.out, hpi7, hst7, _, _, hr7⟩
              case measure => rw [HP, HP0]; omega
            · rw [if_neg h44] at HX
              go_wp2_with (first
               | (go_at_call 114; refine (blanks_any hrF hs hqy).mono ?_; rintro x w6 ⟨rfl, ⟨⟨e6, l6, hr6⟩, hk6⟩⟩)
               | (go_at_call 167; refine (take_no hr6 125 h9).mono ?_; rintro x w' ⟨rfl, rfl⟩)
               | (go_at_call 164; refine (must_no hr6 44 h44).mono ?_; rintro x w7 ⟨rfl, ⟨⟨q7, hr7⟩, hk7⟩⟩
                  have hpi7 := (hpiF.one hk6).one hk7
                  have i0 := five_c0 hpi7.res; have i1 := five_c1 hpi7.res; have i2 := five_c2 hpi7.res; have i3 := five_c3 hpi7.res; have i4 := five_c4 hpi7.res
                  have z0 := five_fz hpi7.res 0; have z1 := five_fz hpi7.res 1; have z2 := five_fz hpi7.res 2; have z3 := five_fz hpi7.res 3; have z4 := five_fz hpi7.res 4))
              have h5 := set5_heap hpi7.res (.int .i64 0) (.int .i64 0) (.string ⟨#[]⟩) (.slice none 0 0) (.slice none 0 0)
              have HK5 : Keep (One w.heap.size) w7 _ := set5_keep w7 w.heap.size (.int .i64 0) (.int .i64 0) (.string ⟨#[]⟩) (.slice none 0 0) (.slice none 0 0)
              unfold set5 at h5 HK5
              have k0 := five_c0 h5; have k1 := five_c1 h5; have k2 := five_c2 h5; have k3 := five_c3 h5; have k4 := five_c4 h5
              refine bodyPost_ret (v := .tuple #[.agg #[.int .i64 0, .int .i64 0, .string ⟨#[]⟩, .slice none 0 0, .slice none 0 0], .bool false]) (by simp [results, Tryz.results143, go_sem, k0, k1, k2, k3, k4]) rfl ?_
              rw [← HX.out]
              exact ⟨⟨0, 0, nix, rfl⟩, ⟨_, hr7.keep HK5 (fun h => by unfold One at h; omega)⟩, hpi7.end HKW HK5⟩
      · skip
        intro K hK
        go_simp
        refine hK _ _ ?_
        clear hK K
        refine wpIn_do (i := 2) hCJ (by kernel_rfl) rfl (by rfl) ?_
        intro K hK
        go_simp
        refine hK _ _ ?_
        clear hK K
        refine wpIn_do (i := 3) hCJK (by kernel_rfl) rfl (by rfl) ?_
        intro K hK
        refine wp_append_at (.tmp 46) (.tmp 48) 22 rfl (w2.heap.size + 1) 9 (.string ⟨#[]⟩) 1 16 Tryz.underlying22 Tryz.info9 rfl (by decide) (by decide) _ ks.length (ks.map Value.string) rfl rsJK.pi.keys _ [.string c] rfl rfl (lies1 lsJK) (str_one c) (by omega) rsJK.pi.size ?_
        intro vk2 WK hownK hgK hatK
        refine hK _ _ ?_
        clear hK K
        obtain ⟨qk5, nk5, ck5, hE5⟩ := own_slice hownK
        subst hE5
        have hpg := rsJK.pi.key hownK hgK hatK
        have rs3 := rsJK.go hpg.1 hpg.2
        have hgo := hpg.2
        clear hownK hgK hatK hpg
        have ls3 := lsJKj.go hgo
        have hC3 := rs3.blk.2
        refine wpIn_do (i := 7) hC3 (by kernel_rfl) rfl (by rfl) ?_
        intro K hK
        obtain ⟨xs, hv1, hv2⟩ := rs3.pi.vals
        refine wp_append_at (.tmp 50) (.tmp 52) 23 rfl (w2.heap.size + 1) 25 (.agg #[.int .i64 0, .int .i64 0, .string ⟨#[]⟩, .slice none 0 0, .slice none 0 0]) 5 80 Tryz.underlying23 Tryz.info25 rfl (by decide) (by decide) _ acc.length xs rfl hv1 _ [.int .i64 kv, .int .i64 iv, .string tv, .slice pk nk ck, .slice pl nl cl] rfl rfl (lies5 ls3) one5 (by have := HLEN.out; omega) rs3.pi.size ?_
        intro vl2 WV hownV hgV hatV
        refine hK _ _ ?_
        clear hK K
        obtain ⟨ql5, nl5, cl5, hE5⟩ := own_slice hownV
        subst hE5
        have hpg := rs3.pi.val hv1 hv2 rs3.y hownV hgV hatV
        have rsF := rs3.go hpg.1 hpg.2
        have hCF := rsF.blk.2
        clear hownV hgV hatV hpg hv1 hv2
        refine wpIn_tk (i := 8) (d := some 6) rfl ?_
        refine wpIn_tk (i := 9) (d := some 7) rfl ?_
        refine wpIn_done hCF (by kernel_rfl) ?_ _
        have hpiF := rsF.pi
        have hrF := rsF.rdr
        have hstF := rsF.st
        clear hCF rsF
        by_cases h9 : byteAt (ints s) (blanks (ints s) qy) = 125
        · rw [if_pos h9] at HX
          go_wp2_with (first
           | (go_at_call 114; refine (blanks_any hrF hs hqy).mono ?_; rintro x w6 ⟨rfl, ⟨⟨e6, l6, hr6⟩, hk6⟩⟩)
           | (go_at_call 167; refine (take_yes hr6 (by omega) 125 h9).mono ?_; rintro x w7 ⟨rfl, ⟨⟨e7, l7, hr7⟩, hk7⟩⟩
              have hpi7 := (hpiF.one hk6).one hk7)
           | (go_at_call 104; refine (hpi7.mapOf HL2.out (by simp; omega) HD2.out).mono ?_; rintro x w8 ⟨kf, jf, tf, pkf, nkf, ckf, plf, nlf, clf, rfl, hJf, hb8⟩
              have hres8 := (hb8.block _ (Array.getElem?_eq_some_iff.1 hpi7.res).1).trans hpi7.res
              have i0 := five_c0 hres8; have i1 := five_c1 hres8; have i2 := five_c2 hres8; have i3 := five_c3 hres8; have i4 := five_c4 hres8
              have z0 := five_fz hres8 0; have z1 := five_fz hres8 1; have z2 := five_fz hres8 2; have z3 := five_fz hres8 3; have z4 := five_fz hres8 4))
          have h5 := set5_heap hres8 (.int .i64 kf) (.int .i64 jf) (.string tf) (.slice pkf nkf ckf) (.slice plf nlf clf)
          have HK5 : Keep (One w.heap.size) w8 _ := set5_keep w8 w.heap.size (.int .i64 kf) (.int .i64 jf) (.string tf) (.slice pkf nkf ckf) (.slice plf nlf clf)
          unfold set5 at h5 HK5
          have k0 := five_c0 h5; have k1 := five_c1 h5; have k2 := five_c2 h5; have k3 := five_c3 h5; have k4 := five_c4 h5
          refine bodyPost_ret (v := .tuple #[.agg #[.int .i64 kf, .int .i64 jf, .string tf, .slice pkf nkf ckf, .slice plf nlf clf], .bool true]) (by simp [results, Tryz.results143, go_sem, k0, k1, k2, k3, k4]) rfl ?_
          rw [← HX.out]
          have hK8 : Keep (One w.heap.size) w7 _ := (Keep.of_below hb8).then HK5
          exact ⟨⟨_, _, _, _, _, _, _, _, _, rfl, map_fin hMw HK5 hJf⟩, ⟨_, _, (hr7.keep (S := fun _ => False) (Keep.of_below hb8) (fun h => h)).keep HK5 (fun h => by unfold One at h; omega)⟩, hpi7.end HKW hK8⟩
        · rw [if_neg h9] at HX
          by_cases h44 : byteAt (ints s) (blanks (ints s) qy) = 44
          · rw [if_pos h44] at HX
            have hlt := byteAt_lt (t := ints s) (p := blanks (ints s) qy) (by rw [h44]; decide)
            rw [ints_length] at hlt
            go_wp2_with (first
             | (go_at_call 114; refine (blanks_any hrF hs hqy).mono ?_; rintro x w6 ⟨rfl, ⟨⟨e6, l6, hr6⟩, hk6⟩⟩)
             | (go_at_call 167; refine (take_no hr6 125 h9).mono ?_; rintro x w' ⟨rfl, rfl⟩)
             | (go_at_call 164; refine (must_yes hr6 (by omega) 44 h44).mono ?_; rintro x w7 ⟨rfl, ⟨⟨e7, l7, hr7⟩, hk7⟩⟩
                have hpi7 := (hpiF.one hk6).one hk7
                have hst7 := (hstF.keep hk6 (by unfold One; omega)).keep hk7 (by unfold One; omega)))
            have HP := posOf_rdr hr7
            go_roundw
            case rel => exact ⟨_, m, ks ++ [c], acc ++ [y], hlt, by omega, by simp; omega, HL2.out, HD2.out, HX.out, hpi7, hst7, _, _, hr7⟩
            case measure => rw [HP, HP0]; omega
          · rw [if_neg h44] at HX
            go_wp2_with (first
             | (go_at_call 114; refine (blanks_any hrF hs hqy).mono ?_; rintro x w6 ⟨rfl, ⟨⟨e6, l6, hr6⟩, hk6⟩⟩)
             | (go_at_call 167; refine (take_no hr6 125 h9).mono ?_; rintro x w' ⟨rfl, rfl⟩)
             | (go_at_call 164; refine (must_no hr6 44 h44).mono ?_; rintro x w7 ⟨rfl, ⟨⟨q7, hr7⟩, hk7⟩⟩
                have hpi7 := (hpiF.one hk6).one hk7
                have i0 := five_c0 hpi7.res; have i1 := five_c1 hpi7.res; have i2 := five_c2 hpi7.res; have i3 := five_c3 hpi7.res; have i4 := five_c4 hpi7.res
                have z0 := five_fz hpi7.res 0; have z1 := five_fz hpi7.res 1; have z2 := five_fz hpi7.res 2; have z3 := five_fz hpi7.res 3; have z4 := five_fz hpi7.res 4))
            have h5 := set5_heap hpi7.res (.int .i64 0) (.int .i64 0) (.string ⟨#[]⟩) (.slice none 0 0) (.slice none 0 0)
            have HK5 : Keep (One w.heap.size) w7 _ := set5_keep w7 w.heap.size (.int .i64 0) (.int .i64 0) (.string ⟨#[]⟩) (.slice none 0 0) (.slice none 0 0)
            unfold set5 at h5 HK5
            have k0 := five_c0 h5; have k1 := five_c1 h5; have k2 := five_c2 h5; have k3 := five_c3 h5; have k4 := five_c4 h5
            refine bodyPost_ret (v := .tuple #[.agg #[.int .i64 0, .int .i64 0, .string ⟨#[]⟩, .slice none 0 0, .slice none 0 0], .bool false]) (by simp [results, Tryz.results143, go_sem, k0, k1, k2, k3, k4]) rfl ?_
            rw [← HX.out]
            exact ⟨⟨0, 0, nix, rfl⟩, ⟨_, hr7.keep HK5 (fun h => by unfold One at h; omega)⟩, hpi7.end HKW HK5⟩
end Go.Proofs.YtegcgbjjpgjnmaaGreatDoor

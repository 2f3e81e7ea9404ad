/-
  Bytes decoded, by a contract.
  What is written, by contracts: the writer's small steps.
  How a letter stands in a text, by a contract.
-/
import Derived.Test.YtegcgbjjpgjnmaaGreatDoorC10
import Derived.Lib.AppendStr
import Derived.Stop.FmtQuoteTie
set_option maxRecDepth 100000
set_option maxHeartbeats 16000000
namespace Go.Proofs.YtegcgbjjpgjnmaaGreatDoor
open Go.RowKit
def decode (t : List Int) : Res J := if 16384 < t.length then .bad 13 16384 else match stray t with
 | some p => .bad 10 p
 | none => whole t
def decTold (w w' : World) (r : Res J) (x : Ending) : Prop := match r with
 | .ok j _ => (∃ k i t pk nk ck pl nl cl, x = .returned (.tuple #[.agg #[.int .i64 k, .int .i64 i, .string t, .slice pk nk ck, .slice pl nl cl], .int .i64 0, .int .i64 0]) ∧ isJ (New w w') w' j [.int .i64 k, .int .i64 i, .string t, .slice pk nk ck, .slice pl nl cl]) ∧ Below w.heap.size w w'
 | .bad e l => x = .returned (.tuple #[.agg (flat 0 0 nix), .int .i64 e, .int .i64 l]) ∧ Below w.heap.size w w'
theorem rd_string {B : Nat} {w : World} {p : Option Addr} {c : Nat} {rs : List Int} (h : Rd B w p c rs) :
    (convert 40 9 (.slice p rs.length c)).run Tryz.prog w = .ok (.string (strOfNums rs)) w := by
 cases p with
 | none =>
  have h0 : rs = [] := by
   cases rs with
   | nil => rfl
   | cons x r => obtain ⟨a, ha, _⟩ := h.2.2 0 (by simp); cases ha
  subst h0
  exact run_convert_bytes_nil w 40 5 Tryz.underlying40 Tryz.underlying5 0 c 9 Tryz.underlying9
 | some a =>
  have := run_convert_bytes_back (P := Tryz.prog) w 40 9 5 a c (rs.map fun n => UInt8.ofNat n.toNat) Tryz.underlying40 Tryz.underlying5 Tryz.underlying9 (fun j hj => by
   have hj' : j < rs.length := by simpa using hj
   obtain ⟨a', ha, _, hc⟩ := h.2.2 j hj'
   cases ha
   rw [hc, List.getElem_map]
   have hb := h.2.1 rs[j] (List.getElem_mem hj')
   have hx : rs[j].toNat < 256 := by omega
   rw [UInt8.toNat_ofNat_of_lt' hx, List.getD_eq_getElem?_getD, List.getElem?_eq_getElem hj']
   congr 2
   simp
   omega)
  rw [List.length_map] at this
  exact this
theorem own_rd {w : World} {B : Nat} {v : Value} {L : List Int} (h : w.ownsRow B 5 1 v L.length (L.map (Value.int .u8))) (hL : ∀ x ∈ L, 0 ≤ x ∧ x ≤ 255) : ∃ q cq, v = .slice q L.length cq ∧ Rd w.heap.size w q cq L := by
 rcases h.2 with ⟨rfl, hn⟩ | ⟨g, cap, cur, rfl, hg, hgg, h1, h2, h3, h4⟩
 · obtain rfl : L = [] := List.eq_nil_of_length_eq_zero hn
   exact ⟨none, 0, rfl, Nat.le_refl _, hL, fun j hj => by simp at hj⟩
 · refine ⟨_, cap, rfl, h1, hL, fun j hj => ⟨_, rfl, (Array.getElem?_eq_some_iff.1 hgg).1, ?_⟩⟩
   have e : (⟨g, 0, none⟩ : Addr).add j = ⟨g, j, none⟩ := by unfold Addr.add; split <;> simp_all
   rw [e, h.cellAt j (by omega), List.getElem?_map, List.getElem?_eq_getElem hj, List.getD_eq_getElem?_getD, List.getElem?_eq_getElem hj]
   rfl
theorem dec_below {w w3 W5 : World} {o o' : Obj} {R : Nat} (hR : R = w.heap.size + 1) (hk : Keep (One R) ((w.alloc o).alloc o') w3) (HK5 : Keep (One w.heap.size) w3 W5) : Below w.heap.size w W5 := by
 subst hR
 have k1 : Keep (fun _ => False) w ((w.alloc o).alloc o') := ((Keep.refl _ _).alloc _).alloc _
 have k2 := k1.trans hk (S := fun _ => False) fun i hi h => by unfold One at h; omega
 have k3 := k2.trans HK5 (S := fun _ => False) fun i hi h => by unfold One at h; omega
 exact k3.below (Nat.le_refl _) fun _ _ h => h
theorem dec_res {w w3 : World} {o' : Obj} {cs : Array Value} (hk : Keep (One (w.heap.size + 1)) ((w.alloc (.cells cs 25)).alloc o') w3) : w3.heap[w.heap.size]? = some (.cells cs 25 (0, 0)) := by
 rw [hk.block w.heap.size (by simp; omega) (fun h => by unfold One at h; omega), Below.heap_alloc _ _ _ (by simp)]
 exact heap_alloc_new _ _
theorem dec_rdr (w : World) (s : ByteArray) (pos : Nat) : Rdr (((w.alloc zJ).alloc (.cells #[.string s, .int .i64 0, .int .i64 0, .int .i64 0] 95)).iter s pos) (w.heap.size + 1) s 0 0 0 := by
 unfold Rdr World.iter
 rw [Below.heap_alloc _ _ _ (by simp)]
 have := heap_alloc_new (w.alloc zJ) (.cells #[.string s, .int .i64 0, .int .i64 0, .int .i64 0] 95)
 rw [show (w.alloc zJ).heap.size = w.heap.size + 1 by simp] at this
 exact this
theorem dec_j {w w1 w3 W5 : World} {o2 : Obj} {j : J} {cs : List Value} (hj : isJ (New w1 w3) w3 j cs) (HK5 : Keep (One w.heap.size) (w3.alloc o2) W5) (h1 : w.heap.size < w1.heap.size) : isJ (New w W5) W5 j cs := by
 have hs := HK5.size
 simp at hs
 refine hj.carry fun k hk => ?_
 have g1 := hk.1
 have g2 := hk.2
 exact ⟨⟨by omega, by omega⟩, by rw [HK5.block k (by simp; omega) (by unfold One; omega), Below.heap_alloc _ _ _ g2]⟩
theorem decode_any {w : World} {p : Option Addr} {c : Nat} {rs : List Int} (hrd : Rd w.heap.size w p c rs) (hn : rs.length ≤ 1000000) :
    Calls Tryz.prog 40 #[.slice p rs.length c] w fun x w' => decTold w w' (decode rs) x := by
 obtain ⟨n, hln⟩ : ∃ n, rs.length = n := ⟨_, rfl⟩
 by_cases hlong : 16384 < n
 · have HX : Hid (decode rs = .bad 13 16384) := by unfold decode; rw [hln, if_pos hlong]; rfl
   rw [hln]
   have hres0 := heap_alloc_new w zJ
   unfold zJ at hres0
   have hres : (w.alloc (.cells #[.int .i64 0, .int .i64 0, .string ⟨#[]⟩, .slice none 0 0, .slice none 0 0] 25)).heap[w.heap.size]? = some (.cells #[.int .i64 0, .int .i64 0, .string ⟨#[]⟩, .slice none 0 0, .slice none 0 0] 25 (0, 0)) := hres0
   go_enter Tryz.func40, Tryz.ntmps40
   go_wp2
   have k0 := five_c0 hres; have k1 := five_c1 hres; have k2 := five_c2 hres; have k3 := five_c3 hres; have k4 := five_c4 hres
   refine bodyPost_ret (v := .tuple #[.agg #[.int .i64 0, .int .i64 0, .string ⟨#[]⟩, .slice none 0 0, .slice none 0 0], .int .i64 13, .int .i64 16384]) (by simp [results, Tryz.results40, go_sem, k0, k1, k2, k3, k4]) rfl ?_
   rw [HX.out]
   exact ⟨rfl, (Below.refl _ _).alloc (Nat.le_refl _) _⟩
 · have hcv : (convert 40 9 (.slice p n c)).run Tryz.prog (w.alloc zJ) = .ok (.string (strOfNums rs)) (w.alloc zJ) := by
     rw [← hln]
     exact rd_string (B := w.heap.size) ⟨hrd.1, hrd.2.1, fun j hj => by
      obtain ⟨a, ha, hB, hc⟩ := hrd.2.2 j hj
      exact ⟨a, ha, hB, (World.cell?_of_block (by rw [add_block]; exact Below.heap_alloc _ _ _ hB)).trans hc⟩⟩
   have hint : ints (strOfNums rs) = rs := ints_str rs hrd.2.1
   have hssz : (strOfNums rs).size = n := by rw [str_size]; exact hln
   have HX0 : Hid (decode rs = match stray (ints (strOfNums rs)) with | some p => .bad 10 p | none => whole (ints (strOfNums rs))) := by unfold decode; rw [hln, if_neg hlong, hint]; rfl
   rw [hln]
   obtain ⟨s, hs'⟩ : ∃ s, strOfNums rs = s := ⟨_, rfl⟩
   rw [hs'] at hcv HX0 hssz
   clear hs' hint
   have hs : short s := by unfold short; omega
   have sa := fun w' => stray_any s w' (by omega)
   have hr1 := dec_rdr w s
   unfold zJ at hcv hr1
   cases hst : stray (ints s) with
   | some at1 =>
    have HX : Hid (decode rs = .bad 10 at1) := by rw [HX0.out, hst]; rfl
    rw [hst] at sa
    clear HX0
    go_enter Tryz.func40, Tryz.ntmps40
    go_wp2_with (first
     | (go_at_call 79; refine (sa _).mono ?_; rintro x w1 ⟨rfl, pos, rfl⟩
        have hk9 : Keep (One (w.heap.size + 1)) ((w.alloc (.cells #[.int .i64 0, .int .i64 0, .string ⟨#[]⟩, .slice none 0 0, .slice none 0 0] 25)).alloc (.cells #[.string s, .int .i64 0, .int .i64 0, .int .i64 0] 95)) (((w.alloc (.cells #[.int .i64 0, .int .i64 0, .string ⟨#[]⟩, .slice none 0 0, .slice none 0 0] 25)).alloc (.cells #[.string s, .int .i64 0, .int .i64 0, .int .i64 0] 95)).iter s pos) := (Keep.refl _ _).alloc _
        have hres := dec_res hk9
        have i0 := five_c0 hres; have i1 := five_c1 hres; have i2 := five_c2 hres; have i3 := five_c3 hres; have i4 := five_c4 hres
        have z0 := five_fz hres 0; have z1 := five_fz hres 1; have z2 := five_fz hres 2; have z3 := five_fz hres 3; have z4 := five_fz hres 4))
    have h5 := set5_heap hres (.int .i64 0) (.int .i64 0) (.string ⟨#[]⟩) (.slice none 0 0) (.slice none 0 0)
    have HK5 : Keep (One w.heap.size) (((w.alloc (.cells #[.int .i64 0, .int .i64 0, .string ⟨#[]⟩, .slice none 0 0, .slice none 0 0] 25)).alloc (.cells #[.string s, .int .i64 0, .int .i64 0, .int .i64 0] 95)).iter s pos) _ := set5_keep (((w.alloc (.cells #[.int .i64 0, .int .i64 0, .string ⟨#[]⟩, .slice none 0 0, .slice none 0 0] 25)).alloc (.cells #[.string s, .int .i64 0, .int .i64 0, .int .i64 0] 95)).iter s pos) w.heap.size (.int .i64 0) (.int .i64 0) (.string ⟨#[]⟩) (.slice none 0 0) (.slice none 0 0)
    unfold set5 at h5 HK5
    have k0 := five_c0 h5; have k1 := five_c1 h5; have k2 := five_c2 h5; have k3 := five_c3 h5; have k4 := five_c4 h5
    refine bodyPost_ret (v := .tuple #[.agg #[.int .i64 0, .int .i64 0, .string ⟨#[]⟩, .slice none 0 0, .slice none 0 0], .int .i64 10, .int .i64 at1]) (by simp [results, Tryz.results40, go_sem, k0, k1, k2, k3, k4]) rfl ?_
    rw [HX.out]
    exact ⟨rfl, dec_below rfl hk9 HK5⟩
   | none =>
    rw [hst] at sa
    have HX0 : Hid (decode rs = whole (ints s)) := by rw [HX0.out, hst]; rfl
    have hW := fun pos => whole_any (hr1 pos) hs
    cases hv : whole (ints s) with
    | bad er la =>
     have HX : Hid (decode rs = .bad er la) := by rw [HX0.out, hv]; rfl
     rw [hv] at hW
     clear HX0
     go_enter Tryz.func40, Tryz.ntmps40
     go_wp2_with (first
      | (go_at_call 79; refine (sa _).mono ?_; rintro x w1 ⟨rfl, pos, rfl⟩)
      | (go_at_call 80; refine (hW _).mono ?_; rintro x w3 ⟨⟨kv, iv, tv, rfl⟩, ⟨q3, hr3⟩, hk3⟩
         unfold flat
         have hk9 : Keep (One (w.heap.size + 1)) ((w.alloc (.cells #[.int .i64 0, .int .i64 0, .string ⟨#[]⟩, .slice none 0 0, .slice none 0 0] 25)).alloc (.cells #[.string s, .int .i64 0, .int .i64 0, .int .i64 0] 95)) (w3.alloc (.cells #[.int .i64 kv, .int .i64 iv, .string tv, .slice none 0 0, .slice none 0 0] 25)) := (((Keep.refl _ _).alloc _).then hk3).alloc _
         have hr3a : Rdr (w3.alloc (.cells #[.int .i64 kv, .int .i64 iv, .string tv, .slice none 0 0, .slice none 0 0] 25)) (w.heap.size + 1) s q3 er la := hr3.keep (S := fun _ => False) ((Keep.refl _ _).alloc _) (fun h => h)
         have hres := dec_res hk9))
     refine wp_region_in (by kernel_rfl) (fun w' => Rdr w' (w.heap.size + 1) s q3 er la) ?_
     change wpIn _ _ _ _ _ _ _ _ (World.drew _)
     have hC0 : Rdr (w3.alloc (.cells #[.int .i64 kv, .int .i64 iv, .string tv, .slice none 0 0, .slice none 0 0] 25)).drew (w.heap.size + 1) s q3 er la := hr3a
     have hk9 := hk9.drew
     have hres : (w3.alloc (.cells #[.int .i64 kv, .int .i64 iv, .string tv, .slice none 0 0, .slice none 0 0] 25)).drew.heap[w.heap.size]? = some (.cells #[.int .i64 0, .int .i64 0, .string ⟨#[]⟩, .slice none 0 0, .slice none 0 0] 25 (0, 0)) := hres
     generalize (w3.alloc (.cells #[.int .i64 kv, .int .i64 iv, .string tv, .slice none 0 0, .slice none 0 0] 25)).drew = W0 at hC0 hk9 hres ⊢
     have i0 := five_c0 hres; have i1 := five_c1 hres; have i2 := five_c2 hres; have i3 := five_c3 hres; have i4 := five_c4 hres
     have z0 := five_fz hres 0; have z1 := five_fz hres 1; have z2 := five_fz hres 2; have z3 := five_fz hres 3; have z4 := five_fz hres 4
     refine wpIn_tp (i := 0) (d := some 32) rfl (by (intro wq hq; have q2 := Rdr.c2 hq; have q3 := Rdr.c3 hq; go_simp; first | done | with_reducible rfl)) ?_
     refine wpIn_tp (i := 1) (d := some 33) rfl (by (intro wq hq; have q2 := Rdr.c2 hq; have q3 := Rdr.c3 hq; go_simp; first | done | with_reducible rfl)) ?_
     refine wpIn_tp (i := 2) (d := some 34) rfl (by (intro wq hq; have q2 := Rdr.c2 hq; have q3 := Rdr.c3 hq; go_simp; first | done | with_reducible rfl)) ?_
     refine wpIn_tp (i := 3) (d := some 35) rfl (by (intro wq hq; have q2 := Rdr.c2 hq; have q3 := Rdr.c3 hq; go_simp; first | done | with_reducible rfl)) ?_
     refine wpIn_tp (i := 4) (d := some 36) rfl (by (intro wq hq; have q2 := Rdr.c2 hq; have q3 := Rdr.c3 hq; go_simp; first | done | with_reducible rfl)) ?_
     refine wpIn_do (i := 5) hC0 (by kernel_rfl) rfl (by rfl) ?_
     intro K hK
     go_simp
     refine hK _ _ ?_
     clear hK K
     have HK6 : Keep (One w.heap.size) W0 _ := set5_keep W0 w.heap.size (.int .i64 0) (.int .i64 0) (.string ⟨#[]⟩) (.slice none 0 0) (.slice none 0 0)
     have hC1 := hC0.keep HK6 (by unfold One; omega)
     unfold set5 at hC1 HK6
     refine wpIn_tk (i := 6) (d := some 3) rfl ?_
     refine wpIn_tk (i := 7) (d := some 4) rfl ?_
     refine wpIn_done hC1 (by kernel_rfl) ?_ _
     go_wp2
     have h5 := set5_heap hres (.int .i64 0) (.int .i64 0) (.string ⟨#[]⟩) (.slice none 0 0) (.slice none 0 0)
     have HK5 : Keep (One w.heap.size) W0 _ := set5_keep W0 w.heap.size (.int .i64 0) (.int .i64 0) (.string ⟨#[]⟩) (.slice none 0 0) (.slice none 0 0)
     unfold set5 at h5 HK5
     have k0 := five_c0 h5; have k1 := five_c1 h5; have k2 := five_c2 h5; have k3 := five_c3 h5; have k4 := five_c4 h5
     refine bodyPost_ret (v := .tuple #[.agg #[.int .i64 0, .int .i64 0, .string ⟨#[]⟩, .slice none 0 0, .slice none 0 0], .int .i64 er, .int .i64 la]) (by simp [results, Tryz.results40, go_sem, k0, k1, k2, k3, k4]) rfl ?_
     rw [HX.out]
     exact ⟨rfl, dec_below rfl hk9 HK5⟩
    | ok jv qv =>
     have HX : Hid (decode rs = .ok jv qv) := by rw [HX0.out, hv]; rfl
     rw [hv] at hW
     clear HX0
     go_enter Tryz.func40, Tryz.ntmps40
     go_wp2_with (first
      | (go_at_call 79; refine (sa _).mono ?_; rintro x w1 ⟨rfl, pos, rfl⟩)
      | (go_at_call 80; refine (hW _).mono ?_; rintro x w3 ⟨⟨kv, iv, tv, pk, nk, ck, pl, nl, cl, rfl, hj⟩, ⟨e3, l3, hr3⟩, hk3⟩
         have hk9 : Keep (One (w.heap.size + 1)) ((w.alloc (.cells #[.int .i64 0, .int .i64 0, .string ⟨#[]⟩, .slice none 0 0, .slice none 0 0] 25)).alloc (.cells #[.string s, .int .i64 0, .int .i64 0, .int .i64 0] 95)) (w3.alloc (.cells #[.int .i64 kv, .int .i64 iv, .string tv, .slice pk nk ck, .slice pl nl cl] 25)) := (((Keep.refl _ _).alloc _).then hk3).alloc _
         have hvb : (w3.alloc (.cells #[.int .i64 kv, .int .i64 iv, .string tv, .slice pk nk ck, .slice pl nl cl] 25)).heap[w3.heap.size]? = some (.cells #[.int .i64 kv, .int .i64 iv, .string tv, .slice pk nk ck, .slice pl nl cl] 25 (0, 0)) := heap_alloc_new _ _
         have hres := dec_res hk9
         have i0 := five_c0 hres; have i1 := five_c1 hres; have i2 := five_c2 hres; have i3 := five_c3 hres; have i4 := five_c4 hres
         have z0 := five_fz hres 0; have z1 := five_fz hres 1; have z2 := five_fz hres 2; have z3 := five_fz hres 3; have z4 := five_fz hres 4))
     have h5 := set5_heap hres (.int .i64 kv) (.int .i64 iv) (.string tv) (.slice pk nk ck) (.slice pl nl cl)
     have HK5 : Keep (One w.heap.size) (w3.alloc (.cells #[.int .i64 kv, .int .i64 iv, .string tv, .slice pk nk ck, .slice pl nl cl] 25)) _ := set5_keep (w3.alloc (.cells #[.int .i64 kv, .int .i64 iv, .string tv, .slice pk nk ck, .slice pl nl cl] 25)) w.heap.size (.int .i64 kv) (.int .i64 iv) (.string tv) (.slice pk nk ck) (.slice pl nl cl)
     unfold set5 at h5 HK5
     have k0 := five_c0 h5; have k1 := five_c1 h5; have k2 := five_c2 h5; have k3 := five_c3 h5; have k4 := five_c4 h5
     refine bodyPost_ret (v := .tuple #[.agg #[.int .i64 kv, .int .i64 iv, .string tv, .slice pk nk ck, .slice pl nl cl], .int .i64 0, .int .i64 0]) (by simp [results, Tryz.results40, go_sem, k0, k1, k2, k3, k4]) rfl ?_
     rw [HX.out]
     exact ⟨⟨_, _, _, _, _, _, _, _, _, rfl, dec_j hj HK5 (by simp [World.iter]; omega)⟩, dec_below rfl hk9 HK5⟩
structure NB (B K : Nat) (w w' : World) : Prop where
 os : w'.os = w.os
 tape : w'.tape = w.tape
 output : w'.output = w.output
 size : w.heap.size ≤ w'.heap.size
 block : ∀ k, k < w.heap.size → k ≠ K → (k < B ∨ ∀ cur fr, w.heap[k]? ≠ some (.cells cur 5 fr)) → w'.heap[k]? = w.heap[k]?
theorem NB.refl (B K : Nat) (w : World) : NB B K w w := ⟨rfl, rfl, rfl, Nat.le_refl _, fun _ _ _ _ => rfl⟩
theorem NB.trans {B K : Nat} {a b c : World} (h : NB B K a b) (g : NB B K b c) : NB B K a c :=
 ⟨g.os.trans h.os, g.tape.trans h.tape, g.output.trans h.output, Nat.le_trans h.size g.size, fun k hk hn hs => by
  have e := h.block k hk hn hs
  exact (g.block k (Nat.lt_of_lt_of_le hk h.size) hn (hs.imp id fun h' cur fr => by rw [e]; exact h' cur fr)).trans e⟩
theorem NB.alloc {B K : Nat} {a b : World} (h : NB B K a b) (o : Obj) : NB B K a (b.alloc o) :=
 h.trans ⟨rfl, rfl, rfl, by simp, fun k hk _ _ => Below.heap_alloc _ _ _ hk⟩
theorem NB.keep {B K : Nat} {a b : World} (h : Keep (One K) a b) : NB B K a b := ⟨h.os, h.tape, h.output, h.size, fun k hk hn _ => h.block k hk hn⟩
theorem NB.below {B K : Nat} {a b : World} (h : NB B K a b) (hK : K ≤ B) (hB : K ≤ a.heap.size) : Below K a b := ⟨h.os, h.tape, h.output, h.size, fun k hk => h.block k (by omega) (by omega) (.inl (by omega))⟩
structure Wtr (w : World) (B K : Nat) (out : List Int) : Prop where
 row : ∃ v, w.heap[K]? = some (.cells #[v] 92 (0, 0)) ∧ w.ownsRow B 5 1 v out.length (out.map (Value.int .u8))
 lt : K < B
 size : B ≤ w.heap.size
theorem bytes_own {w : World} {B n : Nat} {v : Value} {xs : List Value} (h : w.ownsRow B 5 1 v n xs) : ∀ k, v.ownBlock = some k → B ≤ k ∧ ∃ cur fr, w.heap[k]? = some (.cells cur 5 fr) := by
 intro k hk
 rcases h.2 with ⟨rfl, _⟩ | ⟨g, cap, cur, rfl, hg, hgg, _⟩
 · cases hk
 · cases hk; exact ⟨hg, cur, _, hgg⟩
theorem Wtr.alloc {w : World} {B K : Nat} {out : List Int} (h : Wtr w B K out) (o : Obj) : Wtr (w.alloc o) B K out := by
 obtain ⟨v, h1, h2⟩ := h.row
 have := h.lt
 have := h.size
 exact ⟨⟨v, by rw [Below.heap_alloc _ _ _ (by omega)]; exact h1, h2.alloc o⟩, h.lt, by simp; omega⟩
theorem one_c0 {w : World} {K : Nat} {v : Value} {t : TypeId} (h : w.heap[K]? = some (.cells #[v] t (0, 0))) : w.cell? ⟨K, 0, none⟩ = some v := cell_row (cur := [_]) h 0 _ rfl
def putTold (w w' : World) (B K : Nat) (out s : List Int) (x : Ending) : Prop := x = .returned (.tuple #[]) ∧ (∃ out', Put out s out' ∧ out'.length ≤ 20000 ∧ Wtr w' B K out') ∧ NB B K w w'
theorem long_any {w : World} {B K : Nat} {out : List Int} (h : Wtr w B K out) :
    Calls Tryz.prog 78 #[.pointer (some ⟨K, 0, none⟩)] w fun x w' => x = .returned (.bool (decide (16384 < out.length))) ∧ w = w' := by
 obtain ⟨v, h1, h2⟩ := h.row
 obtain ⟨q, c, rfl, _⟩ : ∃ q c, v = .slice q out.length c ∧ True := by
  rcases h2.2 with ⟨rfl, hn⟩ | ⟨g, cap, cur, rfl, _⟩
  · exact ⟨none, 0, by rw [hn], trivial⟩
  · exact ⟨_, _, rfl, trivial⟩
 have c0 := one_c0 h1
 obtain ⟨n, hn⟩ : ∃ n, out.length = n := ⟨_, rfl⟩
 rw [hn] at c0 ⊢
 go_enter Tryz.func78, Tryz.ntmps78
 go_wp2
 go_ret
 refine ⟨ret_bool ?_, rfl⟩
 rw [decide_eq_decide]
 omega
theorem strCells_ints (s : ByteArray) : Lib.strCells s = (ints s).map (Value.int .u8) := by
 unfold Lib.strCells ints
 simp
theorem put_any {w : World} {B K : Nat} {out : List Int} (h : Wtr w B K out) (ho : out.length ≤ 20000) (s : ByteArray) (hs : s.size ≤ 100) :
    Calls Tryz.prog 107 #[.pointer (some ⟨K, 0, none⟩), .string s] w fun x w' => putTold w w' B K out (ints s) x := by
 have hl := long_any h
 have hP := Put.one out (ints s)
 by_cases hlong : 16384 < out.length
 · rw [decide_eq_true hlong] at hl
   rw [if_pos hlong] at hP
   go_enter Tryz.func107, Tryz.ntmps107
   go_wp2_with (go_at_call 78; refine hl.mono ?_; rintro x w' ⟨rfl, rfl⟩)
   go_end0
   exact ⟨rfl, ⟨out, hP, ho, h⟩, NB.refl _ _ _⟩
 · rw [decide_eq_false hlong] at hl
   rw [if_neg hlong] at hP
   obtain ⟨v, h1, h2⟩ := h.row
   have c0 := one_c0 h1
   have hB := h.size
   have hlt := h.lt
   obtain ⟨i0, hi, hz0, hz1, hz2⟩ := info_parts Tryz.info5
   go_enter Tryz.func107, Tryz.ntmps107
   go_wp2_with (first
    | (go_at_call 78; refine hl.mono ?_; rintro x w' ⟨rfl, rfl⟩)
    | (at_builtin; refine Lib.wpList_append_own_string _ rfl _ _ 40 9 rfl B 5 i0 Tryz.underlying40 Tryz.underlying9 hi hz0 hz1 hz2 _ _ _ rfl h2 s rfl ?c3 ?c4 ?c5 ?_
       case c3 => unfold maxLen; omega
       case c4 => omega
       case c5 => exact hB
       intro v' w2 hown hg _
       have hgv := bytes_own h2
       have hK2 : w2.heap[K]? = some (.cells #[v] 92 (0, 0)) := by
        rw [hg.block K (by omega) (fun e => by have := (hgv K e.symm).1; omega)]; exact h1
       have d0 := one_c0 hK2
       have z0 : w2.frozen? ⟨K, 0, none⟩ = false := frozen_of_row w2 K 0 _ _ hK2
       obtain ⟨q5, n5, c5, hE5⟩ := own_slice hown
       subst hE5))
   go_end0
   have K3 : Keep (One K) w2 (w2.setCell ⟨K, 0, none⟩ (.slice q5 n5 c5)) := Keep.setCell (Keep.refl _ _) (fun _ => (rfl : K = K)) _
   refine ⟨rfl, ⟨out ++ ints s, hP, by rw [List.length_append, ints_length]; omega, ⟨⟨_, by rw [heap_setCell_same _ K 0 _ _ _ hK2]; rfl, ?_⟩, hlt, ?_⟩⟩, ?_⟩
   · rw [List.length_append, ints_length, List.map_append, ← strCells_ints]
     exact own_keep hown K3 fun k e => by have := (bytes_own hown k e).1; unfold One; omega
   · have := hg.size
     simp
     omega
   · refine NB.trans (b := w2) ⟨hg.os, hg.tape, hg.output, hg.size, fun k hk hn hs' => hg.block k hk fun e => ?_⟩ (NB.keep K3)
     obtain ⟨e1, cur, fr, e2⟩ := hgv k e.symm
     rcases hs' with h' | h'
     · omega
     · exact h' cur fr e2
theorem comma_any {w : World} {B K : Nat} {out : List Int} (hw : Wtr w B K out) (ho : out.length ≤ 20000) (i : Nat) (hi : i ≤ 1000000) :
    Calls Tryz.prog 136 #[.pointer (some ⟨K, 0, none⟩), .int .i64 i] w fun x w' => putTold w w' B K out (if i = 0 then [] else [44]) x := by
 by_cases h0 : i = 0
 · subst h0
   go_enter Tryz.func136, Tryz.ntmps136
   go_wp2
   go_end0
   exact ⟨rfl, ⟨out, Put.nil _, ho, hw⟩, NB.refl _ _ _⟩
 · have hp : 0 < i := by omega
   have hput := put_any hw ho ⟨#[44]⟩ (by decide)
   rw [if_neg h0]
   go_enter Tryz.func136, Tryz.ntmps136
   go_wp2_with (go_at_call 107; refine hput.mono ?_; rintro x w2 ⟨rfl, hp2⟩)
   go_end0
   exact ⟨rfl, hp2⟩
def escRune (l : Int) : List Int := if l < 128 then escByte l else Lib.encodeRuneZ l
theorem escaped_0 (w : World) : Calls Tryz.prog 135 #[.int .i32 0] w fun x w' => x = .returned (.string (strOfNums (escByte 0))) ∧ Keep (fun _ => False) w w' := by
 have hb : bits .and .i32 0 15 = 0 := by kernel_rfl
 go_enter Tryz.func135, Tryz.ntmps135
 go_wp2
 go_quiet (fail)
 go_wp2
 go_ret
 exact ⟨by kernel_rfl, (Keep.refl _ _).drewN _⟩
theorem escaped_1 (w : World) : Calls Tryz.prog 135 #[.int .i32 1] w fun x w' => x = .returned (.string (strOfNums (escByte 1))) ∧ Keep (fun _ => False) w w' := by
 have hb : bits .and .i32 1 15 = 1 := by kernel_rfl
 go_enter Tryz.func135, Tryz.ntmps135
 go_wp2
 go_quiet (fail)
 go_wp2
 go_ret
 exact ⟨by kernel_rfl, (Keep.refl _ _).drewN _⟩
theorem escaped_2 (w : World) : Calls Tryz.prog 135 #[.int .i32 2] w fun x w' => x = .returned (.string (strOfNums (escByte 2))) ∧ Keep (fun _ => False) w w' := by
 have hb : bits .and .i32 2 15 = 2 := by kernel_rfl
 go_enter Tryz.func135, Tryz.ntmps135
 go_wp2
 go_quiet (fail)
 go_wp2
 go_ret
 exact ⟨by kernel_rfl, (Keep.refl _ _).drewN _⟩
theorem escaped_3 (w : World) : Calls Tryz.prog 135 #[.int .i32 3] w fun x w' => x = .returned (.string (strOfNums (escByte 3))) ∧ Keep (fun _ => False) w w' := by
 have hb : bits .and .i32 3 15 = 3 := by kernel_rfl
 go_enter Tryz.func135, Tryz.ntmps135
 go_wp2
 go_quiet (fail)
 go_wp2
 go_ret
 exact ⟨by kernel_rfl, (Keep.refl _ _).drewN _⟩
theorem escaped_4 (w : World) : Calls Tryz.prog 135 #[.int .i32 4] w fun x w' => x = .returned (.string (strOfNums (escByte 4))) ∧ Keep (fun _ => False) w w' := by
 have hb : bits .and .i32 4 15 = 4 := by kernel_rfl
 go_enter Tryz.func135, Tryz.ntmps135
 go_wp2
 go_quiet (fail)
 go_wp2
 go_ret
 exact ⟨by kernel_rfl, (Keep.refl _ _).drewN _⟩
theorem escaped_5 (w : World) : Calls Tryz.prog 135 #[.int .i32 5] w fun x w' => x = .returned (.string (strOfNums (escByte 5))) ∧ Keep (fun _ => False) w w' := by
 have hb : bits .and .i32 5 15 = 5 := by kernel_rfl
 go_enter Tryz.func135, Tryz.ntmps135
 go_wp2
 go_quiet (fail)
 go_wp2
 go_ret
 exact ⟨by kernel_rfl, (Keep.refl _ _).drewN _⟩
theorem escaped_6 (w : World) : Calls Tryz.prog 135 #[.int .i32 6] w fun x w' => x = .returned (.string (strOfNums (escByte 6))) ∧ Keep (fun _ => False) w w' := by
 have hb : bits .and .i32 6 15 = 6 := by kernel_rfl
 go_enter Tryz.func135, Tryz.ntmps135
 go_wp2
 go_quiet (fail)
 go_wp2
 go_ret
 exact ⟨by kernel_rfl, (Keep.refl _ _).drewN _⟩
theorem escaped_7 (w : World) : Calls Tryz.prog 135 #[.int .i32 7] w fun x w' => x = .returned (.string (strOfNums (escByte 7))) ∧ Keep (fun _ => False) w w' := by
 have hb : bits .and .i32 7 15 = 7 := by kernel_rfl
 go_enter Tryz.func135, Tryz.ntmps135
 go_wp2
 go_quiet (fail)
 go_wp2
 go_ret
 exact ⟨by kernel_rfl, (Keep.refl _ _).drewN _⟩
theorem escaped_11 (w : World) : Calls Tryz.prog 135 #[.int .i32 11] w fun x w' => x = .returned (.string (strOfNums (escByte 11))) ∧ Keep (fun _ => False) w w' := by
 have hb : bits .and .i32 11 15 = 11 := by kernel_rfl
 go_enter Tryz.func135, Tryz.ntmps135
 go_wp2
 go_quiet (fail)
 go_wp2
 go_ret
 exact ⟨by kernel_rfl, (Keep.refl _ _).drewN _⟩
theorem escaped_14 (w : World) : Calls Tryz.prog 135 #[.int .i32 14] w fun x w' => x = .returned (.string (strOfNums (escByte 14))) ∧ Keep (fun _ => False) w w' := by
 have hb : bits .and .i32 14 15 = 14 := by kernel_rfl
 go_enter Tryz.func135, Tryz.ntmps135
 go_wp2
 go_quiet (fail)
 go_wp2
 go_ret
 exact ⟨by kernel_rfl, (Keep.refl _ _).drewN _⟩
theorem escaped_15 (w : World) : Calls Tryz.prog 135 #[.int .i32 15] w fun x w' => x = .returned (.string (strOfNums (escByte 15))) ∧ Keep (fun _ => False) w w' := by
 have hb : bits .and .i32 15 15 = 15 := by kernel_rfl
 go_enter Tryz.func135, Tryz.ntmps135
 go_wp2
 go_quiet (fail)
 go_wp2
 go_ret
 exact ⟨by kernel_rfl, (Keep.refl _ _).drewN _⟩
theorem escaped_16 (w : World) : Calls Tryz.prog 135 #[.int .i32 16] w fun x w' => x = .returned (.string (strOfNums (escByte 16))) ∧ Keep (fun _ => False) w w' := by
 have hb : bits .and .i32 16 15 = 0 := by kernel_rfl
 go_enter Tryz.func135, Tryz.ntmps135
 go_wp2
 go_quiet (fail)
 go_wp2
 go_ret
 exact ⟨by kernel_rfl, (Keep.refl _ _).drewN _⟩
theorem escaped_17 (w : World) : Calls Tryz.prog 135 #[.int .i32 17] w fun x w' => x = .returned (.string (strOfNums (escByte 17))) ∧ Keep (fun _ => False) w w' := by
 have hb : bits .and .i32 17 15 = 1 := by kernel_rfl
 go_enter Tryz.func135, Tryz.ntmps135
 go_wp2
 go_quiet (fail)
 go_wp2
 go_ret
 exact ⟨by kernel_rfl, (Keep.refl _ _).drewN _⟩
theorem escaped_18 (w : World) : Calls Tryz.prog 135 #[.int .i32 18] w fun x w' => x = .returned (.string (strOfNums (escByte 18))) ∧ Keep (fun _ => False) w w' := by
 have hb : bits .and .i32 18 15 = 2 := by kernel_rfl
 go_enter Tryz.func135, Tryz.ntmps135
 go_wp2
 go_quiet (fail)
 go_wp2
 go_ret
 exact ⟨by kernel_rfl, (Keep.refl _ _).drewN _⟩
theorem escaped_19 (w : World) : Calls Tryz.prog 135 #[.int .i32 19] w fun x w' => x = .returned (.string (strOfNums (escByte 19))) ∧ Keep (fun _ => False) w w' := by
 have hb : bits .and .i32 19 15 = 3 := by kernel_rfl
 go_enter Tryz.func135, Tryz.ntmps135
 go_wp2
 go_quiet (fail)
 go_wp2
 go_ret
 exact ⟨by kernel_rfl, (Keep.refl _ _).drewN _⟩
theorem escaped_20 (w : World) : Calls Tryz.prog 135 #[.int .i32 20] w fun x w' => x = .returned (.string (strOfNums (escByte 20))) ∧ Keep (fun _ => False) w w' := by
 have hb : bits .and .i32 20 15 = 4 := by kernel_rfl
 go_enter Tryz.func135, Tryz.ntmps135
 go_wp2
 go_quiet (fail)
 go_wp2
 go_ret
 exact ⟨by kernel_rfl, (Keep.refl _ _).drewN _⟩
theorem escaped_21 (w : World) : Calls Tryz.prog 135 #[.int .i32 21] w fun x w' => x = .returned (.string (strOfNums (escByte 21))) ∧ Keep (fun _ => False) w w' := by
 have hb : bits .and .i32 21 15 = 5 := by kernel_rfl
 go_enter Tryz.func135, Tryz.ntmps135
 go_wp2
 go_quiet (fail)
 go_wp2
 go_ret
 exact ⟨by kernel_rfl, (Keep.refl _ _).drewN _⟩
theorem escaped_22 (w : World) : Calls Tryz.prog 135 #[.int .i32 22] w fun x w' => x = .returned (.string (strOfNums (escByte 22))) ∧ Keep (fun _ => False) w w' := by
 have hb : bits .and .i32 22 15 = 6 := by kernel_rfl
 go_enter Tryz.func135, Tryz.ntmps135
 go_wp2
 go_quiet (fail)
 go_wp2
 go_ret
 exact ⟨by kernel_rfl, (Keep.refl _ _).drewN _⟩
theorem escaped_23 (w : World) : Calls Tryz.prog 135 #[.int .i32 23] w fun x w' => x = .returned (.string (strOfNums (escByte 23))) ∧ Keep (fun _ => False) w w' := by
 have hb : bits .and .i32 23 15 = 7 := by kernel_rfl
 go_enter Tryz.func135, Tryz.ntmps135
 go_wp2
 go_quiet (fail)
 go_wp2
 go_ret
 exact ⟨by kernel_rfl, (Keep.refl _ _).drewN _⟩
theorem escaped_24 (w : World) : Calls Tryz.prog 135 #[.int .i32 24] w fun x w' => x = .returned (.string (strOfNums (escByte 24))) ∧ Keep (fun _ => False) w w' := by
 have hb : bits .and .i32 24 15 = 8 := by kernel_rfl
 go_enter Tryz.func135, Tryz.ntmps135
 go_wp2
 go_quiet (fail)
 go_wp2
 go_ret
 exact ⟨by kernel_rfl, (Keep.refl _ _).drewN _⟩
theorem escaped_25 (w : World) : Calls Tryz.prog 135 #[.int .i32 25] w fun x w' => x = .returned (.string (strOfNums (escByte 25))) ∧ Keep (fun _ => False) w w' := by
 have hb : bits .and .i32 25 15 = 9 := by kernel_rfl
 go_enter Tryz.func135, Tryz.ntmps135
 go_wp2
 go_quiet (fail)
 go_wp2
 go_ret
 exact ⟨by kernel_rfl, (Keep.refl _ _).drewN _⟩
theorem escaped_26 (w : World) : Calls Tryz.prog 135 #[.int .i32 26] w fun x w' => x = .returned (.string (strOfNums (escByte 26))) ∧ Keep (fun _ => False) w w' := by
 have hb : bits .and .i32 26 15 = 10 := by kernel_rfl
 go_enter Tryz.func135, Tryz.ntmps135
 go_wp2
 go_quiet (fail)
 go_wp2
 go_ret
 exact ⟨by kernel_rfl, (Keep.refl _ _).drewN _⟩
theorem escaped_27 (w : World) : Calls Tryz.prog 135 #[.int .i32 27] w fun x w' => x = .returned (.string (strOfNums (escByte 27))) ∧ Keep (fun _ => False) w w' := by
 have hb : bits .and .i32 27 15 = 11 := by kernel_rfl
 go_enter Tryz.func135, Tryz.ntmps135
 go_wp2
 go_quiet (fail)
 go_wp2
 go_ret
 exact ⟨by kernel_rfl, (Keep.refl _ _).drewN _⟩
theorem escaped_28 (w : World) : Calls Tryz.prog 135 #[.int .i32 28] w fun x w' => x = .returned (.string (strOfNums (escByte 28))) ∧ Keep (fun _ => False) w w' := by
 have hb : bits .and .i32 28 15 = 12 := by kernel_rfl
 go_enter Tryz.func135, Tryz.ntmps135
 go_wp2
 go_quiet (fail)
 go_wp2
 go_ret
 exact ⟨by kernel_rfl, (Keep.refl _ _).drewN _⟩
theorem escaped_29 (w : World) : Calls Tryz.prog 135 #[.int .i32 29] w fun x w' => x = .returned (.string (strOfNums (escByte 29))) ∧ Keep (fun _ => False) w w' := by
 have hb : bits .and .i32 29 15 = 13 := by kernel_rfl
 go_enter Tryz.func135, Tryz.ntmps135
 go_wp2
 go_quiet (fail)
 go_wp2
 go_ret
 exact ⟨by kernel_rfl, (Keep.refl _ _).drewN _⟩
theorem escaped_30 (w : World) : Calls Tryz.prog 135 #[.int .i32 30] w fun x w' => x = .returned (.string (strOfNums (escByte 30))) ∧ Keep (fun _ => False) w w' := by
 have hb : bits .and .i32 30 15 = 14 := by kernel_rfl
 go_enter Tryz.func135, Tryz.ntmps135
 go_wp2
 go_quiet (fail)
 go_wp2
 go_ret
 exact ⟨by kernel_rfl, (Keep.refl _ _).drewN _⟩
theorem escaped_31 (w : World) : Calls Tryz.prog 135 #[.int .i32 31] w fun x w' => x = .returned (.string (strOfNums (escByte 31))) ∧ Keep (fun _ => False) w w' := by
 have hb : bits .and .i32 31 15 = 15 := by kernel_rfl
 go_enter Tryz.func135, Tryz.ntmps135
 go_wp2
 go_quiet (fail)
 go_wp2
 go_ret
 exact ⟨by kernel_rfl, (Keep.refl _ _).drewN _⟩
theorem escaped_34 (w : World) : Calls Tryz.prog 135 #[.int .i32 34] w fun x w' => x = .returned (.string (strOfNums (escByte 34))) ∧ Keep (fun _ => False) w w' := by
 go_enter Tryz.func135, Tryz.ntmps135
 go_wp2
 go_ret
 exact ⟨by kernel_rfl, Keep.refl _ _⟩
theorem escaped_92 (w : World) : Calls Tryz.prog 135 #[.int .i32 92] w fun x w' => x = .returned (.string (strOfNums (escByte 92))) ∧ Keep (fun _ => False) w w' := by
 go_enter Tryz.func135, Tryz.ntmps135
 go_wp2
 go_ret
 exact ⟨by kernel_rfl, Keep.refl _ _⟩
theorem escaped_8 (w : World) : Calls Tryz.prog 135 #[.int .i32 8] w fun x w' => x = .returned (.string (strOfNums (escByte 8))) ∧ Keep (fun _ => False) w w' := by
 go_enter Tryz.func135, Tryz.ntmps135
 go_wp2
 go_ret
 exact ⟨by kernel_rfl, Keep.refl _ _⟩
theorem escaped_9 (w : World) : Calls Tryz.prog 135 #[.int .i32 9] w fun x w' => x = .returned (.string (strOfNums (escByte 9))) ∧ Keep (fun _ => False) w w' := by
 go_enter Tryz.func135, Tryz.ntmps135
 go_wp2
 go_ret
 exact ⟨by kernel_rfl, Keep.refl _ _⟩
theorem escaped_10 (w : World) : Calls Tryz.prog 135 #[.int .i32 10] w fun x w' => x = .returned (.string (strOfNums (escByte 10))) ∧ Keep (fun _ => False) w w' := by
 go_enter Tryz.func135, Tryz.ntmps135
 go_wp2
 go_ret
 exact ⟨by kernel_rfl, Keep.refl _ _⟩
theorem escaped_12 (w : World) : Calls Tryz.prog 135 #[.int .i32 12] w fun x w' => x = .returned (.string (strOfNums (escByte 12))) ∧ Keep (fun _ => False) w w' := by
 go_enter Tryz.func135, Tryz.ntmps135
 go_wp2
 go_ret
 exact ⟨by kernel_rfl, Keep.refl _ _⟩
theorem escaped_13 (w : World) : Calls Tryz.prog 135 #[.int .i32 13] w fun x w' => x = .returned (.string (strOfNums (escByte 13))) ∧ Keep (fun _ => False) w w' := by
 go_enter Tryz.func135, Tryz.ntmps135
 go_wp2
 go_ret
 exact ⟨by kernel_rfl, Keep.refl _ _⟩
theorem encode_str (r : Nat) : Utf8.encode (r : Int) = strOfNums (Lib.encodeRuneZ (r : Int)) := by
 rw [← Go.Extern.FmtText.encode_eq]
 exact (str_ints _).symm
theorem escaped_big (l : Nat) (h : 32 ≤ l) (h1 : l ≤ 1114111) (h34 : l ≠ 34) (h92 : l ≠ 92) (w : World) : Calls Tryz.prog 135 #[.int .i32 l] w fun x w' => x = .returned (.string (strOfNums (Lib.encodeRuneZ l))) ∧ Keep (fun _ => False) w w' := by
 have g34 : (l : Int) ≠ 34 := by omega
 have g92 : (l : Int) ≠ 92 := by omega
 go_enter Tryz.func135, Tryz.ntmps135
 go_wp2
 go_ret
 exact ⟨ret_str (encode_str l), Keep.refl _ _⟩
theorem escaped_any (l : Nat) (h1 : l ≤ 1114111) (w : World) : Calls Tryz.prog 135 #[.int .i32 l] w fun x w' => x = .returned (.string (strOfNums (escRune l))) ∧ Keep (fun _ => False) w w' := by
 by_cases h : l < 32 ∨ l = 34 ∨ l = 92
 · have e : escRune (l : Int) = escByte l := by unfold escRune; rw [if_pos (by omega)]
   rw [e]
   have hc : l = 0 ∨ l = 1 ∨ l = 2 ∨ l = 3 ∨ l = 4 ∨ l = 5 ∨ l = 6 ∨ l = 7 ∨ l = 8 ∨ l = 9 ∨ l = 10 ∨ l = 11 ∨ l = 12 ∨ l = 13 ∨ l = 14 ∨ l = 15 ∨ l = 16 ∨ l = 17 ∨ l = 18 ∨ l = 19 ∨ l = 20 ∨ l = 21 ∨ l = 22 ∨ l = 23 ∨ l = 24 ∨ l = 25 ∨ l = 26 ∨ l = 27 ∨ l = 28 ∨ l = 29 ∨ l = 30 ∨ l = 31 ∨ l = 34 ∨ l = 92 := by omega
   rcases hc with rfl | rfl | rfl | rfl | rfl | rfl | rfl | rfl | rfl | rfl | rfl | rfl | rfl | rfl | rfl | rfl | rfl | rfl | rfl | rfl | rfl | rfl | rfl | rfl | rfl | rfl | rfl | rfl | rfl | rfl | rfl | rfl | rfl | rfl
   · exact escaped_0 w
   · exact escaped_1 w
   · exact escaped_2 w
   · exact escaped_3 w
   · exact escaped_4 w
   · exact escaped_5 w
   · exact escaped_6 w
   · exact escaped_7 w
   · exact escaped_8 w
   · exact escaped_9 w
   · exact escaped_10 w
   · exact escaped_11 w
   · exact escaped_12 w
   · exact escaped_13 w
   · exact escaped_14 w
   · exact escaped_15 w
   · exact escaped_16 w
   · exact escaped_17 w
   · exact escaped_18 w
   · exact escaped_19 w
   · exact escaped_20 w
   · exact escaped_21 w
   · exact escaped_22 w
   · exact escaped_23 w
   · exact escaped_24 w
   · exact escaped_25 w
   · exact escaped_26 w
   · exact escaped_27 w
   · exact escaped_28 w
   · exact escaped_29 w
   · exact escaped_30 w
   · exact escaped_31 w
   · exact escaped_34 w
   · exact escaped_92 w
 · have e : escRune (l : Int) = Lib.encodeRuneZ l := by
     unfold escRune
     split
     · rw [Lib.encodeRuneZ_one (by omega) (by omega)]
       unfold escByte
       rw [if_neg (by omega), if_neg (by omega), if_neg (by omega), if_neg (by omega), if_neg (by omega), if_neg (by omega), if_neg (by omega), if_neg (by omega)]
     · rfl
   rw [e]
   exact escaped_big l (by omega) h1 (by omega) (by omega) w
end Go.Proofs.YtegcgbjjpgjnmaaGreatDoor

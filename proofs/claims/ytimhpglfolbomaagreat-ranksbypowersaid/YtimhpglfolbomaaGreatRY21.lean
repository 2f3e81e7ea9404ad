/-
  The document's order, by contracts.
-/
import Derived.Test.YtimhpglfolbomaaGreatRY20
set_option maxRecDepth 100000
set_option maxHeartbeats 16000000
namespace Go.Proofs.YtimhpglfolbomaaGreat
open Go.RowKit
def Rords (d : Nat) : Prop := ∀ (w : World) (O : Nat → Prop) (j : J) (k i : Int) (t : ByteArray) (pk pl : Option Addr) (nk ck nl cl : Nat), (∀ x, O x → x < w.heap.size) → goodJ d j = true → szJ d j = true →
 isJ O w j [.int .i64 k, .int .i64 i, .string t, .slice pk nk ck, .slice pl nl cl] →
 Calls Tryz.prog 128 #[.agg #[.int .i64 k, .int .i64 i, .string t, .slice pk nk ck, .slice pl nl cl]] w fun x w' => (∃ kr ir tr pr nr cr qr mr dr, x = .returned (.agg #[.int .i64 kr, .int .i64 ir, .string tr, .slice pr nr cr, .slice qr mr dr]) ∧ isJ (fun b => O b ∨ New w w' b) w' (ord j) [.int .i64 kr, .int .i64 ir, .string tr, .slice pr nr cr, .slice qr mr dr]) ∧ Below w.heap.size w w'
theorem three_new {w : World} (o1 o2 o3 : Obj) : (((w.alloc o1).alloc o2).alloc o3).heap[w.heap.size]? = some o1 ∧ (((w.alloc o1).alloc o2).alloc o3).heap[w.heap.size + 1]? = some o2 ∧ (((w.alloc o1).alloc o2).alloc o3).heap[w.heap.size + 2]? = some o3 := by
 refine ⟨?_, ?_, ?_⟩
 · rw [Below.heap_alloc _ _ _ (by simp; omega), Below.heap_alloc _ _ _ (by simp)]
   exact heap_alloc_new _ _
 · rw [Below.heap_alloc _ _ _ (by simp)]
   have := heap_alloc_new (w.alloc o1) o2
   simpa using this
 · have := heap_alloc_new ((w.alloc o1).alloc o2) o3
   simpa using this
theorem oi_start {O : Nat → Prop} {w : World} (hO : ∀ x, O x → x < w.heap.size) (cs5 : Array Value) (c0 c1 c2 : Value) : OI O w w.heap.size 0 [] cs5 c0 c1 c2 [] [] (.slice none 0 0) (.slice none 0 0) (((w.alloc (.cells cs5 36)).alloc (.cells #[.int .i64 0, .int .i64 0, .string ⟨#[]⟩, .slice none 0 0, .slice none 0 0] 36)).alloc (.cells #[c0, c1, c2, .slice none 0 0, .slice none 0 0] 36)) := by
 obtain ⟨h1, h2, h3⟩ := three_new (w := w) (.cells cs5 36) (.cells #[.int .i64 0, .int .i64 0, .string ⟨#[]⟩, .slice none 0 0, .slice none 0 0] 36) (.cells #[c0, c1, c2, .slice none 0 0, .slice none 0 0] 36)
 exact ⟨h1, h2, h3, World.ownsRow_nil _ _ _ _, ⟨[], World.ownsRow_nil _ _ _ _, rfl⟩, .inl rfl, (fun i h => by cases h), (fun h => by cases h), (fun h => by cases h), hO, (((Below.refl _ _).alloc (Nat.le_refl _) _).alloc (by simp) _).alloc (by simp; omega) _, rfl⟩
theorem valAt_ordL : ∀ (l : List J) (x : Nat), x < l.length → valAt (ordL l) x = ord (valAt l x)
 | [], x, h => absurd h (by simp)
 | j :: r, 0, _ => by rw [ordL]; rfl
 | j :: r, x + 1, h => by
  rw [ordL]
  exact valAt_ordL r x (by simpa using h)
theorem good_map {d : Nat} {i : Int} {t : ByteArray} {ks : List ByteArray} {l : List J} (h : goodJ (d + 1) (.mk 5 i t ks l) = true) : i = 0 ∧ t = nix := by
 rw [goodJ, Bool.and_eq_true] at h
 have hb := h.1
 unfold bare at hb
 simp only [Bool.and_eq_true, Bool.or_eq_true, decide_eq_true_eq] at hb
 obtain ⟨⟨⟨h1, h2⟩, _⟩, _⟩ := hb
 exact ⟨by omega, nix_of (by omega)⟩
theorem ord_parts {d : Nat} {k i : Int} {t : ByteArray} {ks : List ByteArray} {l : List J} {P : List Nat} (hg : goodJ (d + 1) (.mk k i t ks l) = true) (k4 : ¬ k = 4) (hP : Pick ks P) (hlen : P.length = ks.length) : ord (.mk k i t ks l) = .mk k i t (P.map (keyAtK ks)) (P.map fun x => ord (valAt l x)) := by
 obtain ⟨_, hg5, hgn⟩ := good_sub hg
 rw [ord]
 by_cases k5 : k = 5
 · subst k5
   obtain ⟨hkl, hd⟩ := hg5 rfl
   obtain ⟨rfl, rfl⟩ := good_map hg
   have hlo : ks.length = (ordL l).length := by rw [ordL_length]; exact hkl
   have hs := hP.full hlen hlo hd
   rw [if_pos rfl]
   unfold mapOf
   rw [← hs]
   unfold sel
   rw [List.map_map, List.map_map]
   congr 1
   refine List.map_congr_left fun x hx => ?_
   exact valAt_ordL l x (by rw [← hkl]; exact hP.lt x hx)
 · rw [if_neg k5]
   have hk := hgn k5
   subst hk
   obtain rfl : P = [] := List.eq_nil_of_length_eq_zero hlen
   have hl : l = [] := by
    rw [goodJ, Bool.and_eq_true] at hg
    have hb := hg.1
    unfold bare at hb
    simp only [Bool.and_eq_true, Bool.or_eq_true, decide_eq_true_eq] at hb
    exact List.eq_nil_of_length_eq_zero (by omega)
   subst hl
   rfl
theorem set_mark {dn : List Bool} {P : List Nat} {m nk : Nat} (hl : dn.length = nk) (hm : m < nk) (h : ∀ x, x < nk → (dn.getD x false = true ↔ x ∈ P)) : ∀ y, y < nk → ((dn.set m true).getD y false = true ↔ y ∈ P ++ [m]) := fun y hy => by
 have h1 := h y hy
 by_cases e : y = m
 · subst e
   rw [List.getD_eq_getElem?_getD, List.getElem?_set_self (by omega)]
   simp
 · rw [List.getD_eq_getElem?_getD, List.getElem?_set_ne (fun e' => e e'.symm), ← List.getD_eq_getElem?_getD, h1]
   simp [e]
theorem made_bools (n : Nat) : madeCells (Value.bool false).cells (n * 1) = ((List.replicate n false).map Value.bool).toArray := by
 rw [← Array.toList_inj]
 apply List.ext_getElem
 · simp [madeCells]
 · intro i h1 h2
   simp [madeCells, Value.cells]
   rw [Nat.mod_one]
   rfl
theorem Tryz.info4 : (Tryz.prog.info? 4).map (fun i => (i.zero, i.size, i.bytes)) = some (some (.bool false), 1, 1) := by kernel_rfl
theorem make_bools (W : World) (n : Nat) (hn : n ≤ 1000000) : (Instr.makeSlice 25 (.int .i64 (n : Int)) (.int .i64 (n : Int))).run Tryz.prog W = .ok (.slice (some ⟨W.heap.size, 0, none⟩) n n) (W.alloc (.cells ((List.replicate n false).map Value.bool).toArray 4)) := by
 obtain ⟨i0, hi, hz0, hz1, hz2⟩ := info_parts Tryz.info4
 have := run_makeSlice (P := Tryz.prog) W 25 4 i0 (.bool false) Tryz.underlying25 hi hz0 .i64 .i64 n n (by omega) (Int.le_refl _) (by rw [hz1]; simp; omega) (by rw [hz2]; omega) (by omega)
 rw [hz1] at this
 simp only [Int.toNat_natCast] at this
 rw [made_bools] at this
 exact this
theorem wpList_bools {W : World} {ops : Array Oper} {rest : List Oper} {o : Oper} {a : Act} {Q : Exit → Act → World → Prop} (hgd : o.guard = none) (x y : Operand) (ho : o.op = .makeSlice 25 x y) (n : Nat) (hn : n ≤ 1000000) (hx : a.eval x = .int .i64 (n : Int)) (hy : a.eval y = .int .i64 (n : Int))
    (h : wpList Tryz.prog ops Q rest (a.put o.dst (.slice (some ⟨W.heap.size, 0, none⟩) n n)) (W.alloc (.cells ((List.replicate n false).map Value.bool).toArray 4))) : wpList Tryz.prog ops Q (o :: rest) a W := by
 refine wpList_plain hgd fun K hK => ?_
 have hrun := make_bools W n hn
 unfold Oper.wp
 simp [execOp, ho, hx, hy, hrun, Result.andThen]
 refine hK _ _ ?_
 simpa using h
theorem rord_step {d : Nat} (V : Rords d) : Rords (d + 1) := by
 intro w O j k i t pk pl nk ck nl cl hO hg hsz hj
 obtain ⟨kx, ix, tx, ks, l⟩ := j
 unfold isJ at hj
 obtain ⟨pk', ck', pl', cl', e, hk, hl, hs⟩ := hj
 simp only [List.cons.injEq, Value.int.injEq, Value.string.injEq, Value.slice.injEq, true_and, and_true] at e
 obtain ⟨rfl, rfl, rfl, ⟨rfl, rfl, rfl⟩, rfl, rfl, rfl⟩ := e
 unfold szJ at hsz
 simp only [Bool.and_eq_true, decide_eq_true_eq] at hsz
 obtain ⟨_, hks, _, hll, hlsz⟩ := hsz
 obtain ⟨hgl, hg5, hgn⟩ := good_sub hg
 have HLS : Hid (l.all (szJ d) = true) := hlsz
 have HLG : Hid (l.all (goodJ d) = true) := hgl
 have HG : Hid (goodJ (d + 1) (.mk k i t ks l) = true) := hg
 have HG5 : Hid (k = 5 → ks.length = l.length ∧ ks.Pairwise (· ≠ ·)) := hg5
 have HGN : Hid (k ≠ 5 → ks = []) := hgn
 clear hg hgl hg5 hgn hlsz
 obtain ⟨nk, hnk⟩ : ∃ n, ks.length = n := ⟨_, rfl⟩
 obtain ⟨nl, hnl⟩ : ∃ n, l.length = n := ⟨_, rfl⟩
 have HNK : Hid (ks.length = nk) := hnk
 have HNL : Hid (l.length = nl) := hnl
 have hck := hk.1
 rw [hnk] at hck hks ⊢
 rw [hnl] at hl hll ⊢
 clear hnk hnl
 have hoi := oi_start hO #[.int .i64 k, .int .i64 i, .string t, .slice pk nk ck, .slice pl nl cl] (.int .i64 k) (.int .i64 i) (.string t)
 obtain ⟨wI, hwI⟩ : ∃ wI, wI = (((w.alloc (.cells #[.int .i64 k, .int .i64 i, .string t, .slice pk nk ck, .slice pl nl cl] 36)).alloc (.cells #[.int .i64 0, .int .i64 0, .string ⟨#[]⟩, .slice none 0 0, .slice none 0 0] 36)).alloc (.cells #[.int .i64 k, .int .i64 i, .string t, .slice none 0 0, .slice none 0 0] 36)) := ⟨_, rfl⟩
 rw [← hwI] at hoi
 go_enter Tryz.func128, Tryz.ntmps128
 by_cases k4 : k = 4
 rotate_left
 · have hD3 : w.heap.size + 3 ≤ wI.heap.size := by rw [hwI]; simp
   have hom := hoi.marks (List.replicate nk false)
   obtain ⟨wD, hwD⟩ : ∃ wD, wD = wI.alloc (.cells ((List.replicate nk false).map Value.bool).toArray 4) := ⟨_, rfl⟩
   rw [← hwD] at hom
   go_wp2_with (at_make; refine wpList_bools rfl (.tmp 39) (.tmp 39) rfl nk (by omega) rfl rfl ?_; rw [← hwI, ← hwD]; clear hwI hwD)
   clear hoi
   go_loopw [6] (fun v wr => ∃ (P : List Nat) (dn : List Bool) (vk vl : Value), v = .int .i64 (P.length : Int) ∧ P.length ≤ nk ∧ Hid (Pick ks P ∧ dn.length = nk ∧ ∀ x, x < nk → (dn.getD x false = true ↔ x ∈ P)) ∧ OI O w w.heap.size wI.heap.size dn #[.int .i64 k, .int .i64 i, .string t, .slice pk nk ck, .slice pl nl cl] (.int .i64 k) (.int .i64 i) (.string t) (P.map (keyAtK ks)) (P.map fun x => ord (valAt l x)) vk vl wr) (fun v _ => nk - (intOf v).toNat)
   case atStart => exact ⟨[], List.replicate nk false, _, _, rfl, Nat.zero_le _, ⟨Pick.nil ks, by simp, fun x hx => by simp [List.getD_eq_getElem?_getD, hx]⟩, hom⟩
   case round =>
    clear hom
    obtain ⟨P, dn, vk, vl, rfl, hPn, HP, hoi⟩ := hrel
    have b3 := five_c3 hoi.box
    by_cases hlt : P.length < nk
    · have hlti : (P.length : Int) < (nk : Int) := by omega
      have k5 : k = 5 := Classical.byContradiction fun hne => by
       have := HGN.out hne
       have h2 := HNK.out
       rw [this] at h2
       simp at h2
       omega
      obtain ⟨hkl, hdist⟩ := HG5.out k5
      have HK5 : Hid (k = 5) := k5
      clear k5
      have HKL : Hid (ks.length = l.length) := hkl
      have HDI : Hid (ks.Pairwise (· ≠ ·)) := hdist
      clear hkl hdist
      obtain ⟨ka, hpk, hOa, _⟩ := hk.2 0 (by rw [HNK.out]; omega)
      subst hpk
      have HKW : Hid (∀ y, y < nk → w.cell? (ka.add y) = some (.string (keyAtK ks y)) ∧ O ka.block) := fun y hy => by
       obtain ⟨a', ha', hOa', hc'⟩ := hk.2 y (by rw [HNK.out]; exact hy)
       cases ha'
       exact ⟨hc', hOa'⟩
      obtain ⟨n, hn⟩ : ∃ n, P.length = n := ⟨_, rfl⟩
      have HPL : Hid (P.length = n) := hn
      rw [hn] at hlt hlti hPn ⊢
      clear hn
      go_wp2
      go_loopw [7, 8] (fun lv iv w2 => ∃ (x : Nat) (v : Int), iv = .int .i64 x ∧ lv = .int .i64 v ∧ x ≤ nk ∧ Hid (LeastTo ks P x v) ∧ OI O w w.heap.size wI.heap.size dn #[.int .i64 k, .int .i64 i, .string t, .slice (some ka) nk ck, .slice pl nl cl] (.int .i64 k) (.int .i64 i) (.string t) (P.map (keyAtK ks)) (P.map fun x => ord (valAt l x)) vk vl w2) (fun _ iv _ => nk - (intOf iv).toNat)
      case atStart => exact ⟨0, -1, rfl, rfl, Nat.zero_le _, LeastTo.zero, hoi⟩
      case round =>
       clear b3 hoi
       obtain ⟨x, v, rfl, rfl, hx, HLT, hoi⟩ := hrel
       have b3 := five_c3 hoi.box
       by_cases hxn : x < nk
       · have hxi : (x : Int) < (nk : Int) := by omega
         have hdD : wr.heap[wI.heap.size]? = some (.cells (dn.map Value.bool).toArray 4 (0, 0)) := by
          rcases hoi.dnr with h' | h'
          · omega
          · exact h'.2
         have hDs := (Array.getElem?_eq_some_iff.1 hdD).1
         have hbs := hoi.size
         have hlo := hoi.low _ hOa
         obtain ⟨dx, hdx⟩ : ∃ dx, dn.getD x false = dx := ⟨_, rfl⟩
         have HDX : Hid (dx = true ↔ x ∈ P) := by
          have := HP.out.2.2 x hxn
          rw [hdx] at this
          exact this
         have HDC : Hid (∀ W : World, Below wr.heap.size wr W → W.cell? ⟨wI.heap.size, x, none⟩ = some (.bool dx)) := fun W hW => by
          refine (World.cell?_of_block (a := ⟨wI.heap.size, x, none⟩) (hW.block wI.heap.size hDs)).trans (cell_row (cur := dn.map Value.bool) hdD x _ ?_)
          have hl := HP.out.2.1
          rw [List.getElem?_map, List.getElem?_eq_getElem (by omega)]
          rw [List.getD_eq_getElem?_getD, List.getElem?_eq_getElem (by omega)] at hdx
          simp at hdx
          simp [hdx]
         have HB3 : Hid (∀ W : World, Below wr.heap.size wr W → W.cell? ⟨w.heap.size, 3, none⟩ = some (.slice (some ka) nk ck)) := fun W hW => (World.cell?_of_block (a := ⟨w.heap.size, 3, none⟩) (hW.block w.heap.size (by omega))).trans b3
         have HKX : Hid (∀ y, y < nk → ∀ W : World, Below wr.heap.size wr W → W.cell? (ka.add y) = some (.string (keyAtK ks y))) := fun y hy W hW => by
          obtain ⟨h1, h2⟩ := HKW.out y hy
          exact (World.cell?_of_block (by rw [add_block]; exact (hW.block _ (by omega)).trans (hoi.below.block _ hlo))).trans h1
         have hC0 : Below wr.heap.size wr wr.drew := ⟨rfl, rfl, rfl, Nat.le_refl _, fun _ _ => rfl⟩
         clear hdD hdx
         cases dx with
         | true =>
          have HX : Hid (x ∈ P) := HDX.out.1 rfl
          go_wp2
          refine wp_region_in (by kernel_rfl) (fun W => Below wr.heap.size wr W) ?_
          change wpIn _ _ _ _ _ _ _ _ (World.drew _)
          refine wpIn_tk (i := 0) (d := some 55) rfl ?_
          refine wpIn_tk (i := 1) (d := some 56) rfl ?_
          refine wpIn_tk (i := 2) (d := some 57) rfl ?_
          refine wpIn_tp (i := 3) (d := some 58) rfl (by (intro wq hq; have q0 := HDC.out wq hq; go_simp; first | done | with_reducible rfl)) ?_
          refine wpIn_tk (i := 4) (d := some 59) rfl ?_
          refine wpIn_tk (i := 5) (d := some 60) rfl ?_
          refine wpIn_take (i := 6) (d := (some 61)) (v := undef) (a' := ?aqp6) rfl rfl (by kernel_rfl) (by kernel_rfl) (by kernel_rfl) (fun _ _ _ h => h) (Or.inr ⟨by rfl, rfl⟩) ?fqp6 ?_
          case fqp6 => (go_frame; rfl)
          refine wpIn_take (i := 7) (d := (some 62)) (v := undef) (a' := ?aqp7) rfl rfl (by kernel_rfl) (by kernel_rfl) (by kernel_rfl) (fun _ _ _ h => h) (Or.inr ⟨by rfl, rfl⟩) ?fqp7 ?_
          case fqp7 => (go_frame; rfl)
          refine wpIn_take (i := 8) (d := (some 63)) (v := undef) (a' := ?aqp8) rfl rfl (by kernel_rfl) (by kernel_rfl) (by kernel_rfl) (fun _ _ _ h => h) (Or.inr ⟨by rfl, rfl⟩) ?fqp8 ?_
          case fqp8 => (go_frame; rfl)
          refine wpIn_take (i := 9) (d := (some 64)) (v := undef) (a' := ?aqp9) rfl rfl (by kernel_rfl) (by kernel_rfl) (by kernel_rfl) (fun _ _ _ h => h) (Or.inr ⟨by rfl, rfl⟩) ?fqp9 ?_
          case fqp9 => (go_frame; rfl)
          refine wpIn_take (i := 10) (d := (some 65)) (v := undef) (a' := ?aqp10) rfl rfl (by kernel_rfl) (by kernel_rfl) (by kernel_rfl) (fun _ _ _ h => h) (Or.inr ⟨by rfl, rfl⟩) ?fqp10 ?_
          case fqp10 => (go_frame; rfl)
          refine wpIn_take (i := 11) (d := (some 66)) (v := undef) (a' := ?aqp11) rfl rfl (by kernel_rfl) (by kernel_rfl) (by kernel_rfl) (fun _ _ _ h => h) (Or.inr ⟨by rfl, rfl⟩) ?fqp11 ?_
          case fqp11 => (go_frame; rfl)
          refine wpIn_take (i := 12) (d := (some 67)) (v := undef) (a' := ?aqp12) rfl rfl (by kernel_rfl) (by kernel_rfl) (by kernel_rfl) (fun _ _ _ h => h) (Or.inr ⟨by rfl, rfl⟩) ?fqp12 ?_
          case fqp12 => (go_frame; rfl)
          refine wpIn_take (i := 13) (d := (some 68)) (v := undef) (a' := ?aqp13) rfl rfl (by kernel_rfl) (by kernel_rfl) (by kernel_rfl) (fun _ _ _ h => h) (Or.inr ⟨by rfl, rfl⟩) ?fqp13 ?_
          case fqp13 => (go_frame; rfl)
          refine wpIn_take (i := 14) (d := (some 69)) (v := undef) (a' := ?aqp14) rfl rfl (by kernel_rfl) (by kernel_rfl) (by kernel_rfl) (fun _ _ _ h => h) (Or.inr ⟨by rfl, rfl⟩) ?fqp14 ?_
          case fqp14 => (go_frame; rfl)
          refine wpIn_take (i := 15) (d := (some 70)) (v := undef) (a' := ?aqp15) rfl rfl (by kernel_rfl) (by kernel_rfl) (by kernel_rfl) (fun _ _ _ h => h) (Or.inr ⟨by rfl, rfl⟩) ?fqp15 ?_
          case fqp15 => (go_frame; rfl)
          refine wpIn_take (i := 16) (d := (some 71)) (v := undef) (a' := ?aqp16) rfl rfl (by kernel_rfl) (by kernel_rfl) (by kernel_rfl) (fun _ _ _ h => h) (Or.inr ⟨by rfl, rfl⟩) ?fqp16 ?_
          case fqp16 => (go_frame; rfl)
          refine wpIn_take (i := 17) (d := (some 72)) (v := undef) (a' := ?aqp17) rfl rfl (by kernel_rfl) (by kernel_rfl) (by kernel_rfl) (fun _ _ _ h => h) (Or.inr ⟨by rfl, rfl⟩) ?fqp17 ?_
          case fqp17 => (go_frame; rfl)
          refine wpIn_take (i := 18) (d := (some 73)) (v := undef) (a' := ?aqp18) rfl rfl (by kernel_rfl) (by kernel_rfl) (by kernel_rfl) (fun _ _ _ h => h) (Or.inr ⟨by rfl, rfl⟩) ?fqp18 ?_
          case fqp18 => (go_frame; rfl)
          refine wpIn_take (i := 19) (d := (some 74)) (v := undef) (a' := ?aqp19) rfl rfl (by kernel_rfl) (by kernel_rfl) (by kernel_rfl) (fun _ _ _ h => h) (Or.inr ⟨by rfl, rfl⟩) ?fqp19 ?_
          case fqp19 => (go_frame; rfl)
          refine wpIn_take (i := 20) (d := (some 75)) (v := undef) (a' := ?aqp20) rfl rfl (by kernel_rfl) (by kernel_rfl) (by kernel_rfl) (fun _ _ _ h => h) (Or.inr ⟨by rfl, rfl⟩) ?fqp20 ?_
          case fqp20 => (go_frame; rfl)
          refine wpIn_tk (i := 21) (d := some 76) rfl ?_
          refine wpIn_done hC0 (by kernel_rfl) ?_ _
          go_wp2
          go_roundw
          case rel => exact ⟨x + 1, v, by go_num, rfl, hxn, HLT.out.skip HX.out, hoi.drew⟩
          case measure => simp [intOf]; omega
         | false =>
          have HX : Hid (x ∉ P) := fun h => by have := HDX.out.2 h; cases this
          by_cases hv : v < 0
          · have HV : Hid (LeastTo ks P x (-1)) := by
              have h := HLT.out
              rcases h with ⟨h1, h2⟩ | ⟨m, h1, _⟩
              · exact .inl ⟨rfl, h2⟩
              · omega
            go_wp2
            refine wp_region_in (by kernel_rfl) (fun W => Below wr.heap.size wr W) ?_
            change wpIn _ _ _ _ _ _ _ _ (World.drew _)
            refine wpIn_tk (i := 0) (d := some 55) rfl ?_
            refine wpIn_tk (i := 1) (d := some 56) rfl ?_
            refine wpIn_tk (i := 2) (d := some 57) rfl ?_
            refine wpIn_tp (i := 3) (d := some 58) rfl (by (intro wq hq; have q0 := HDC.out wq hq; go_simp; first | done | with_reducible rfl)) ?_
            refine wpIn_tk (i := 4) (d := some 59) rfl ?_
            refine wpIn_tk (i := 5) (d := some 60) rfl ?_
            refine wpIn_tk (i := 6) (d := some 61) rfl ?_
            refine wpIn_tk (i := 7) (d := some 62) rfl ?_
            refine wpIn_tk (i := 8) (d := some 63) rfl ?_
            refine wpIn_take (i := 9) (d := (some 64)) (v := undef) (a' := ?aqf9) rfl rfl (by kernel_rfl) (by kernel_rfl) (by kernel_rfl) (fun _ _ _ h => h) (Or.inr ⟨by rfl, rfl⟩) ?fqf9 ?_
            case fqf9 => (go_frame; rfl)
            refine wpIn_take (i := 10) (d := (some 65)) (v := undef) (a' := ?aqf10) rfl rfl (by kernel_rfl) (by kernel_rfl) (by kernel_rfl) (fun _ _ _ h => h) (Or.inr ⟨by rfl, rfl⟩) ?fqf10 ?_
            case fqf10 => (go_frame; rfl)
            refine wpIn_take (i := 11) (d := (some 66)) (v := undef) (a' := ?aqf11) rfl rfl (by kernel_rfl) (by kernel_rfl) (by kernel_rfl) (fun _ _ _ h => h) (Or.inr ⟨by rfl, rfl⟩) ?fqf11 ?_
            case fqf11 => (go_frame; rfl)
            refine wpIn_take (i := 12) (d := (some 67)) (v := undef) (a' := ?aqf12) rfl rfl (by kernel_rfl) (by kernel_rfl) (by kernel_rfl) (fun _ _ _ h => h) (Or.inr ⟨by rfl, rfl⟩) ?fqf12 ?_
            case fqf12 => (go_frame; rfl)
            refine wpIn_take (i := 13) (d := (some 68)) (v := undef) (a' := ?aqf13) rfl rfl (by kernel_rfl) (by kernel_rfl) (by kernel_rfl) (fun _ _ _ h => h) (Or.inr ⟨by rfl, rfl⟩) ?fqf13 ?_
            case fqf13 => (go_frame; rfl)
            refine wpIn_take (i := 14) (d := (some 69)) (v := undef) (a' := ?aqf14) rfl rfl (by kernel_rfl) (by kernel_rfl) (by kernel_rfl) (fun _ _ _ h => h) (Or.inr ⟨by rfl, rfl⟩) ?fqf14 ?_
            case fqf14 => (go_frame; rfl)
            refine wpIn_take (i := 15) (d := (some 70)) (v := undef) (a' := ?aqf15) rfl rfl (by kernel_rfl) (by kernel_rfl) (by kernel_rfl) (fun _ _ _ h => h) (Or.inr ⟨by rfl, rfl⟩) ?fqf15 ?_
            case fqf15 => (go_frame; rfl)
            refine wpIn_take (i := 16) (d := (some 71)) (v := undef) (a' := ?aqf16) rfl rfl (by kernel_rfl) (by kernel_rfl) (by kernel_rfl) (fun _ _ _ h => h) (Or.inr ⟨by rfl, rfl⟩) ?fqf16 ?_
            case fqf16 => (go_frame; rfl)
            refine wpIn_take (i := 17) (d := (some 72)) (v := undef) (a' := ?aqf17) rfl rfl (by kernel_rfl) (by kernel_rfl) (by kernel_rfl) (fun _ _ _ h => h) (Or.inr ⟨by rfl, rfl⟩) ?fqf17 ?_
            case fqf17 => (go_frame; rfl)
            refine wpIn_take (i := 18) (d := (some 73)) (v := undef) (a' := ?aqf18) rfl rfl (by kernel_rfl) (by kernel_rfl) (by kernel_rfl) (fun _ _ _ h => h) (Or.inr ⟨by rfl, rfl⟩) ?fqf18 ?_
            case fqf18 => (go_frame; rfl)
            refine wpIn_take (i := 19) (d := (some 74)) (v := undef) (a' := ?aqf19) rfl rfl (by kernel_rfl) (by kernel_rfl) (by kernel_rfl) (fun _ _ _ h => h) (Or.inr ⟨by rfl, rfl⟩) ?fqf19 ?_
            case fqf19 => (go_frame; rfl)
            refine wpIn_tk (i := 20) (d := some 75) rfl ?_
            refine wpIn_tk (i := 21) (d := some 76) rfl ?_
            refine wpIn_done hC0 (by kernel_rfl) ?_ _
            go_wp2
            go_roundw
            case rel => exact ⟨x + 1, (x : Int), by go_num, rfl, hxn, HV.out.first HX.out, hoi.drew⟩
            case measure => simp [intOf]; omega
          · obtain ⟨m, rfl, hmx⟩ : ∃ m : Nat, v = (m : Int) ∧ m < x := by
              rcases HLT.out with ⟨h1, _⟩ | ⟨m, h1, h2, _⟩
              · omega
              · exact ⟨m, h1, h2⟩
            have hmn : m < nk := by omega
            have hmi : (m : Int) < (nk : Int) := by omega
            cases hls : ltK (keyAtK ks x) (keyAtK ks m) with
            | true =>
             have hlb : Op.bytesLess (keyAtK ks x).toList (keyAtK ks m).toList = true := by rw [less_ltK]; exact hls
             go_wp2
             refine wp_region_in (by kernel_rfl) (fun W => Below wr.heap.size wr W) ?_
             change wpIn _ _ _ _ _ _ _ _ (World.drew _)
             refine wpIn_tk (i := 0) (d := some 55) rfl ?_
             refine wpIn_tk (i := 1) (d := some 56) rfl ?_
             refine wpIn_tk (i := 2) (d := some 57) rfl ?_
             refine wpIn_tp (i := 3) (d := some 58) rfl (by (intro wq hq; have q0 := HDC.out wq hq; go_simp; first | done | with_reducible rfl)) ?_
             refine wpIn_tk (i := 4) (d := some 59) rfl ?_
             refine wpIn_tk (i := 5) (d := some 60) rfl ?_
             refine wpIn_tk (i := 6) (d := some 61) rfl ?_
             refine wpIn_tk (i := 7) (d := some 62) rfl ?_
             refine wpIn_tk (i := 8) (d := some 63) rfl ?_
             refine wpIn_tk (i := 9) (d := some 64) rfl ?_
             refine wpIn_tp (i := 10) (d := some 65) rfl (by (intro wq hq; have q0 := HB3.out wq hq; go_simp; first | done | with_reducible rfl)) ?_
             refine wpIn_tk (i := 11) (d := some 66) rfl ?_
             refine wpIn_tk (i := 12) (d := some 67) rfl ?_
             refine wpIn_tp (i := 13) (d := some 68) rfl (by (intro wq hq; have q0 := HKX.out x hxn wq hq; go_simp; first | done | with_reducible rfl)) ?_
             refine wpIn_tk (i := 14) (d := some 69) rfl ?_
             refine wpIn_tp (i := 15) (d := some 70) rfl (by (intro wq hq; have q0 := HB3.out wq hq; go_simp; first | done | with_reducible rfl)) ?_
             refine wpIn_tk (i := 16) (d := some 71) rfl ?_
             refine wpIn_tk (i := 17) (d := some 72) rfl ?_
             refine wpIn_tp (i := 18) (d := some 73) rfl (by (intro wq hq; have q0 := HKX.out m hmn wq hq; go_simp; first | done | with_reducible rfl)) ?_
             refine wpIn_tk (i := 19) (d := some 74) rfl ?_
             refine wpIn_tk (i := 20) (d := some 75) rfl ?_
             refine wpIn_tk (i := 21) (d := some 76) rfl ?_
             refine wpIn_done hC0 (by kernel_rfl) ?_ _
             go_wp2
             go_roundw
             case rel => exact ⟨x + 1, (x : Int), by go_num, rfl, hxn, HLT.out.less HX.out hls, hoi.drew⟩
             case measure => simp [intOf]; omega
            | false =>
             have hlb : Op.bytesLess (keyAtK ks x).toList (keyAtK ks m).toList = false := by rw [less_ltK]; exact hls
             go_wp2
             refine wp_region_in (by kernel_rfl) (fun W => Below wr.heap.size wr W) ?_
             change wpIn _ _ _ _ _ _ _ _ (World.drew _)
             refine wpIn_tk (i := 0) (d := some 55) rfl ?_
             refine wpIn_tk (i := 1) (d := some 56) rfl ?_
             refine wpIn_tk (i := 2) (d := some 57) rfl ?_
             refine wpIn_tp (i := 3) (d := some 58) rfl (by (intro wq hq; have q0 := HDC.out wq hq; go_simp; first | done | with_reducible rfl)) ?_
             refine wpIn_tk (i := 4) (d := some 59) rfl ?_
             refine wpIn_tk (i := 5) (d := some 60) rfl ?_
             refine wpIn_tk (i := 6) (d := some 61) rfl ?_
             refine wpIn_tk (i := 7) (d := some 62) rfl ?_
             refine wpIn_tk (i := 8) (d := some 63) rfl ?_
             refine wpIn_tk (i := 9) (d := some 64) rfl ?_
             refine wpIn_tp (i := 10) (d := some 65) rfl (by (intro wq hq; have q0 := HB3.out wq hq; go_simp; first | done | with_reducible rfl)) ?_
             refine wpIn_tk (i := 11) (d := some 66) rfl ?_
             refine wpIn_tk (i := 12) (d := some 67) rfl ?_
             refine wpIn_tp (i := 13) (d := some 68) rfl (by (intro wq hq; have q0 := HKX.out x hxn wq hq; go_simp; first | done | with_reducible rfl)) ?_
             refine wpIn_tk (i := 14) (d := some 69) rfl ?_
             refine wpIn_tp (i := 15) (d := some 70) rfl (by (intro wq hq; have q0 := HB3.out wq hq; go_simp; first | done | with_reducible rfl)) ?_
             refine wpIn_tk (i := 16) (d := some 71) rfl ?_
             refine wpIn_tk (i := 17) (d := some 72) rfl ?_
             refine wpIn_tp (i := 18) (d := some 73) rfl (by (intro wq hq; have q0 := HKX.out m hmn wq hq; go_simp; first | done | with_reducible rfl)) ?_
             refine wpIn_tk (i := 19) (d := some 74) rfl ?_
             refine wpIn_tk (i := 20) (d := some 75) rfl ?_
             refine wpIn_tk (i := 21) (d := some 76) rfl ?_
             refine wpIn_done hC0 (by kernel_rfl) ?_ _
             go_wp2
             go_roundw
             case rel => exact ⟨x + 1, (m : Int), by go_num, rfl, hxn, HLT.out.same hls (fun h e => by
                 have hp := List.pairwise_iff_getElem.1 HDI.out m x (by rw [HNK.out]; exact hmn) (by rw [HNK.out]; exact hxn) h
                 rw [keyAtK_at (by rw [HNK.out]; exact hmn), keyAtK_at (by rw [HNK.out]; exact hxn)] at e
                 exact hp e), hoi.drew⟩
             case measure => simp [intOf]; omega
       · obtain rfl : nk = x := by omega
         obtain ⟨m, rfl, hm1, hm2, hm3⟩ := LeastTo.done (by rw [HNK.out]; exact HLT.out) HP.out.1 (by rw [HPL.out, HNK.out]; exact hlt)
         have hmn : m < nk := by rw [← HNK.out]; exact hm1
         have hmi : (m : Int) < (nk : Int) := by omega
         have hdD : wr.heap[wI.heap.size]? = some (.cells (dn.map Value.bool).toArray 4 (0, 0)) := by
          rcases hoi.dnr with h' | h'
          · omega
          · exact h'.2
         have hcD : wr.cell? ⟨wI.heap.size, m, none⟩ = some (.bool (dn.getD m false)) := by
          refine cell_row (cur := dn.map Value.bool) hdD m _ ?_
          have hl := HP.out.2.1
          rw [List.getElem?_map, List.getElem?_eq_getElem (by omega), List.getD_eq_getElem?_getD, List.getElem?_eq_getElem (by omega)]
          rfl
         have hfD : wr.frozen? ⟨wI.heap.size, m, none⟩ = false := frozen_of_row wr wI.heap.size m _ _ hdD
         have hok := hoi.mark hD3 m
         obtain ⟨wk, hwk⟩ : ∃ wk, wk = wr.setCell ⟨wI.heap.size, m, none⟩ (.bool true) := ⟨_, rfl⟩
         rw [← hwk] at hok
         obtain ⟨u, hu⟩ : ∃ u, keyAtK ks m = u := ⟨_, rfl⟩
         have HU : Hid (keyAtK ks m = u) := hu
         obtain ⟨Sk, hSk⟩ : ∃ Sk, P.map (keyAtK ks) = Sk := ⟨_, rfl⟩
         obtain ⟨Sv, hSv⟩ : ∃ Sv, (P.map fun x => ord (valAt l x)) = Sv := ⟨_, rfl⟩
         have HSK : Hid (P.map (keyAtK ks) = Sk) := hSk
         have HSV : Hid ((P.map fun x => ord (valAt l x)) = Sv) := hSv
         have hskn : Sk.length ≤ 100000 := by rw [← hSk, List.length_map, HPL.out]; omega
         have hsvn : Sv.length ≤ 100000 := by rw [← hSv, List.length_map, HPL.out]; omega
         rw [hSk, hSv] at hok
         have hkb : ka.block < w.heap.size := hO _ hOa
         have B3 : Hid (wk.cell? ⟨w.heap.size, 3, none⟩ = some (.slice (some ka) nk ck)) := five_c3 hok.box
         have HKC : Hid (wk.cell? (ka.add m) = some (.string u)) := by
          rw [← hu]
          exact (World.cell?_of_block (by rw [add_block]; exact hok.below.block _ hkb)).trans (HKW.out m hmn).1
         have hml1 : m < l.length := by rw [← HKL.out]; exact hm1
         obtain ⟨lb, lo, cs, hpl, hOl, hcells, hyj⟩ := isJs.at l 0 m hs hml1
         subst hpl
         obtain ⟨x0, x1, x2, p3, n3, c3, p4, n4, c4, rfl⟩ := isJ_shape hyj
         have hlb : lb < w.heap.size := hO _ hOl
         have hmli : (m : Int) < (nl : Int) := by have := HNL.out; omega
         have HM3 : Hid (Pick ks (P ++ [m])) := hm3
         have HM2 : Hid (m ∉ P) := hm2
         have HWC : Hid (∀ n v, [Value.int .i64 x0, .int .i64 x1, .string x2, .slice p3 n3 c3, .slice p4 n4 c4][n]? = some v → w.cell? ⟨lb, lo + m * 5 + n, none⟩ = some v) := fun n v h => by
          have := hcells n v h
          rwa [Nat.zero_add] at this
         have HYJ : Hid (isJ O w (l.getD m J.zero) [.int .i64 x0, .int .i64 x1, .string x2, .slice p3 n3 c3, .slice p4 n4 c4]) := hyj
         have HMG : Hid (goodJ d (l.getD m J.zero) = true ∧ szJ d (l.getD m J.zero) = true) := ⟨all_at HLG.out hml1, all_at HLS.out hml1⟩
         clear hu hSk hSv hm1 hm2 hm3 hcells hyj hml1 HLT hoi hdD
         go_wp2
         rw [← hwk]
         clear hwk hcD hfD
         refine wp_region_in (by kernel_rfl) (fun W => W.heap[w.heap.size]? = wk.heap[w.heap.size]? ∧ W.heap[ka.block]? = wk.heap[ka.block]?) ?_
         change wpIn _ _ _ _ _ _ _ _ (World.drew _)
         refine wpIn_tk (i := 0) (d := some 81) rfl ?_
         refine wpIn_tk (i := 2) (d := some 83) rfl ?_
         refine wpIn_tp (i := 3) (d := some 84) rfl (by (intro wq hq; have q0 := (World.cell?_of_block (a := ⟨w.heap.size, 3, none⟩) hq.1).trans B3.out; go_simp; first | done | with_reducible rfl)) ?_
         refine wpIn_tk (i := 4) (d := some 85) rfl ?_
         refine wpIn_tk (i := 5) (d := some 86) rfl ?_
         refine wpIn_tp (i := 6) (d := some 87) rfl (by (intro wq hq; have q0 : wq.cell? (ka.add m) = some (.string u) := (World.cell?_of_block (w := wk) (by rw [add_block]; exact hq.2)).trans HKC.out; go_simp; first | done | with_reducible rfl)) ?_
         have hC0 : wk.drew.heap[w.heap.size]? = wk.heap[w.heap.size]? ∧ wk.drew.heap[ka.block]? = wk.heap[ka.block]? := ⟨rfl, rfl⟩
         have hC1 : (wk.drew.alloc (.cells #[.string u] 9)).heap[w.heap.size]? = wk.heap[w.heap.size]? ∧ (wk.drew.alloc (.cells #[.string u] 9)).heap[ka.block]? = wk.heap[ka.block]? := ⟨Below.heap_alloc _ _ _ (by have := hok.size; show w.heap.size < wk.heap.size; omega), Below.heap_alloc _ _ _ (by have := hok.size; show ka.block < wk.heap.size; omega)⟩
         have hod := hok.drew
         have u3 := five_c3 hod.obj
         have v3 : (wk.alloc (.cells #[.string u] 9)).drew.cell? ⟨w.heap.size + 2, 3, none⟩ = some vk := five_c3 (hod.more ((Below.refl _ _).alloc (Nat.le_refl _) (.cells #[.string u] 9))).obj
         refine wpIn_pair (i := 1) (j := 7) hC0 (by kernel_rfl) rfl rfl (by rfl) (by rfl) ?_ ?_
         · intro K hK
           go_simp
           refine hK _ _ ?_
           clear hK K
           refine wpIn_do (i := 7) hC0 (by kernel_rfl) rfl (by rfl) ?_
           intro K hK
           go_simp
           refine hK _ _ ?_
           clear hK K
           refine wpIn_do (i := 8) hC1 (by kernel_rfl) rfl (by rfl) ?_
           intro K hK
           refine wp_append_at (.tmp 82) (.tmp 88) 22 rfl (w.heap.size + 3) 9 (.string ⟨#[]⟩) 1 16 Tryz.underlying22 Tryz.info9 rfl (by decide) (by decide) _ Sk.length (Sk.map Value.string) rfl (hod.keys.alloc _) _ [.string u] rfl rfl (cell_one_new _ _ _) (str_one u) (by omega) (by have := hod.size; simp at this ⊢; omega) ?_
           intro vk2 W2 hown2 hg2 hat2
           refine hK _ _ ?_
           clear hK K
           obtain ⟨q2, c2, hv2⟩ : ∃ q c, vk2 = .slice q (Sk.length + 1) c := by
            rcases hown2.2 with ⟨h', h0⟩ | ⟨g', cap', cur, h', _⟩
            · omega
            · exact ⟨_, _, h'⟩
           subst hv2
           have hg2b : (wk.drew.alloc (.cells #[.string u] 9)).grownBy W2 vk.ownBlock := hg2
           have hat2b : (Value.slice q2 (Sk.length + 1) c2).ownBlock = vk.ownBlock ∨ (Value.slice q2 (Sk.length + 1) c2).ownBlock = some (wk.drew.alloc (.cells #[.string u] 9)).heap.size := hat2
           obtain ⟨e3, f3, hoi2⟩ := hod.key hown2 hg2b hat2b
           have hC2 : W2.heap[w.heap.size]? = wk.heap[w.heap.size]? ∧ W2.heap[ka.block]? = wk.heap[ka.block]? := ⟨grown_at (W := wk.drew) hg2b (by have := hod.size; omega) (fun e => by have := own_ge hod.keys _ e; omega), grown_at (W := wk.drew) hg2b (by have := hod.size; omega) (fun e => by have := own_ge hod.keys _ e; omega)⟩
           have hC3 : (W2.setCell ⟨w.heap.size + 2, 3, none⟩ (.slice q2 (Sk.length + 1) c2)).heap[w.heap.size]? = wk.heap[w.heap.size]? ∧ (W2.setCell ⟨w.heap.size + 2, 3, none⟩ (.slice q2 (Sk.length + 1) c2)).heap[ka.block]? = wk.heap[ka.block]? := ⟨chg (W := wk.drew) hg2b (by have := hod.size; omega) (fun e => by have := own_ge hod.keys _ e; omega) (by omega), chg (W := wk.drew) hg2b (by have := hod.size; omega) (fun e => by have := own_ge hod.keys _ e; omega) (by omega)⟩
           clear hown2 hg2 hat2 hg2b hat2b hC1 hC0 u3 v3
           refine wpIn_tk (i := 9) (d := some 90) rfl ?_
           refine wpIn_do (i := 10) hC2 (by kernel_rfl) rfl (by rfl) ?_
           intro K hK
           go_simp
           refine hK _ _ ?_
           clear hK K
           refine wpIn_done hC3 (by kernel_rfl) ?_ _
           clear hC2 hC3 e3 f3 hod hok
           obtain ⟨wv, hwv⟩ : ∃ wv, wv = W2.setCell ⟨w.heap.size + 2, 3, none⟩ (.slice q2 (Sk.length + 1) c2) := ⟨_, rfl⟩
           rw [← hwv] at hoi2
           have b4 := five_c4 hoi2.box
           have B4 : Hid (wv.cell? ⟨w.heap.size, 4, none⟩ = some (.slice (some ⟨lb, lo, none⟩) nl cl)) := b4
           have HXC : Hid (∀ n v, [Value.int .i64 x0, .int .i64 x1, .string x2, .slice p3 n3 c3, .slice p4 n4 c4][n]? = some v → wv.cell? ⟨lb, lo + m * 5 + n, none⟩ = some v) := fun n v h => (World.cell?_of_block (a := ⟨lb, lo + m * 5 + n, none⟩) (hoi2.below.block lb hlb)).trans (HWC.out n v h)
           have hod := hoi2.drew
           have hV := V wv.drew O (l.getD m J.zero) x0 x1 x2 p3 p4 n3 c3 n4 c4 (fun b hb => Nat.lt_of_lt_of_le (hO b hb) hod.below.size) HMG.out.1 HMG.out.2 (HYJ.out.carry fun b hb => ⟨hb, hod.below.block b (hO b hb)⟩)
           clear b4
           go_wp2
           rw [← hwv]
           clear hwv hoi2
           refine wp_region_in (by kernel_rfl) (fun W => W.heap[w.heap.size]? = wv.heap[w.heap.size]? ∧ W.heap[lb]? = wv.heap[lb]?) ?_
           change wpIn _ _ _ _ _ _ _ _ (World.drew _)
           refine wpIn_tk (i := 0) (d := some 91) rfl ?_
           refine wpIn_tk (i := 2) (d := some 93) rfl ?_
           refine wpIn_tp (i := 3) (d := some 94) rfl (by (intro wq hq; have q0 := (World.cell?_of_block (a := ⟨w.heap.size, 4, none⟩) hq.1).trans B4.out; go_simp; first | done | with_reducible rfl)) ?_
           refine wpIn_tk (i := 4) (d := some 95) rfl ?_
           refine wpIn_tk (i := 5) (d := some 96) rfl ?_
           refine wpIn_tp (i := 6) (d := some 97) rfl (by (intro wq hq; have hx := fun n v h => (World.cell?_of_block (a := ⟨lb, lo + m * 5 + n, none⟩) hq.2).trans (HXC.out n v h); have q0 := hx 0 _ rfl; rw [Nat.add_zero] at q0; have q1 := hx 1 _ rfl; have q2 := hx 2 _ rfl; have q3 := hx 3 _ rfl; have q4 := hx 4 _ rfl; clear hx; go_simp; first | done | with_reducible rfl)) ?_
           have hC0 : wv.drew.heap[w.heap.size]? = wv.heap[w.heap.size]? ∧ wv.drew.heap[lb]? = wv.heap[lb]? := ⟨rfl, rfl⟩
           have u4 := five_c4 hod.obj
           refine wpIn_pair (i := 1) (j := 7) hC0 (by kernel_rfl) rfl rfl (by rfl) (by rfl) ?_ ?_
           · intro K hK
             go_simp
             refine hK _ _ ?_
             clear hK K
             refine wpIn_do (i := 7) hC0 (by kernel_rfl) rfl (by rfl) ?_
             intro K hK
             go_simp
             go_wp2_with (go_at_call 128; refine hV.mono ?_; rintro x w4 ⟨⟨y0, y1, y2, y3, y4, y5, y6, y7, y8, rfl, hy⟩, hb4⟩)
             have ho4 := hod.more hb4
             have hy4 := hod.new hb4 hy
             have hC4 : w4.heap[w.heap.size]? = wv.heap[w.heap.size]? ∧ w4.heap[lb]? = wv.heap[lb]? := ⟨hb4.block w.heap.size (by have := hod.size; omega), hb4.block lb (by have := hod.size; omega)⟩
             have v4 := five_c4 ho4.obj
             have hC5 : (w4.alloc (.cells #[.int .i64 y0, .int .i64 y1, .string y2, .slice y3 y4 y5, .slice y6 y7 y8] 36)).heap[w.heap.size]? = wv.heap[w.heap.size]? ∧ (w4.alloc (.cells #[.int .i64 y0, .int .i64 y1, .string y2, .slice y3 y4 y5, .slice y6 y7 y8] 36)).heap[lb]? = wv.heap[lb]? := ⟨(Below.heap_alloc _ _ _ (by have := ho4.size; omega)).trans hC4.1, (Below.heap_alloc _ _ _ (by have := ho4.size; omega)).trans hC4.2⟩
             have v5 := five_c4 (ho4.more ((Below.refl _ _).alloc (Nat.le_refl _) (.cells #[.int .i64 y0, .int .i64 y1, .string y2, .slice y3 y4 y5, .slice y6 y7 y8] 36))).obj
             clear u4 hC0
             refine wpIn_do (i := 8) hC4 (by kernel_rfl) rfl (by rfl) ?_
             intro K hK
             go_simp
             refine hK _ _ ?_
             clear hK K
             obtain ⟨zs, hv1, hv2⟩ := ho4.vals
             refine wpIn_do (i := 9) hC5 (by kernel_rfl) rfl (by rfl) ?_
             intro K hK
             refine wp_append_at (.tmp 92) (.tmp 99) 34 rfl (w.heap.size + 3) 36 (.agg #[.int .i64 0, .int .i64 0, .string ⟨#[]⟩, .slice none 0 0, .slice none 0 0]) 5 80 Tryz.underlying34 Tryz.info36 rfl (by decide) (by decide) _ Sv.length zs rfl (hv1.alloc _) _ [.int .i64 y0, .int .i64 y1, .string y2, .slice y3 y4 y5, .slice y6 y7 y8] rfl rfl (cells_new5 _ _ _ _ _ _ _) (isJ_one hy4) (by omega) (by have := ho4.size; simp; omega) ?_
             intro vl2 W5 hown5 hg5 hat5
             refine hK _ _ ?_
             clear hK K
             obtain ⟨q5, c5, hv5⟩ : ∃ q c, vl2 = .slice q (Sv.length + 1) c := by
              rcases hown5.2 with ⟨h', h0⟩ | ⟨g', cap', cur, h', _⟩
              · omega
              · exact ⟨_, _, h'⟩
             subst hv5
             have hg5b : (w4.alloc (.cells #[.int .i64 y0, .int .i64 y1, .string y2, .slice y3 y4 y5, .slice y6 y7 y8] 36)).grownBy W5 vl.ownBlock := hg5
             have hat5b : (Value.slice q5 (Sv.length + 1) c5).ownBlock = vl.ownBlock ∨ (Value.slice q5 (Sv.length + 1) c5).ownBlock = some (w4.alloc (.cells #[.int .i64 y0, .int .i64 y1, .string y2, .slice y3 y4 y5, .slice y6 y7 y8] 36)).heap.size := hat5
             obtain ⟨e5, f5, hoi3⟩ := ho4.val hv1 hv2 hy4 hown5 hg5b hat5b
             have hC6 : W5.heap[w.heap.size]? = wv.heap[w.heap.size]? ∧ W5.heap[lb]? = wv.heap[lb]? := ⟨(grown_at hg5b (by have := ho4.size; omega) (fun e => by have := own_ge hv1 _ e; omega)).trans hC4.1, (grown_at hg5b (by have := ho4.size; omega) (fun e => by have := own_ge hv1 _ e; omega)).trans hC4.2⟩
             have hC7 : (W5.setCell ⟨w.heap.size + 2, 4, none⟩ (.slice q5 (Sv.length + 1) c5)).heap[w.heap.size]? = wv.heap[w.heap.size]? ∧ (W5.setCell ⟨w.heap.size + 2, 4, none⟩ (.slice q5 (Sv.length + 1) c5)).heap[lb]? = wv.heap[lb]? := ⟨(chg hg5b (by have := ho4.size; omega) (fun e => by have := own_ge hv1 _ e; omega) (by omega)).trans hC4.1, (chg hg5b (by have := ho4.size; omega) (fun e => by have := own_ge hv1 _ e; omega) (by omega)).trans hC4.2⟩
             clear hown5 hg5 hat5 hg5b hat5b hC5 v5 v4
             refine wpIn_tk (i := 10) (d := some 101) rfl ?_
             refine wpIn_do (i := 11) hC6 (by kernel_rfl) rfl (by rfl) ?_
             intro K hK
             go_simp
             refine hK _ _ ?_
             clear hK K
             refine wpIn_done hC7 (by kernel_rfl) ?_ _
             clear hC6 hC7 e5 f5 hv1 hv2
             go_wp2
             go_roundw
             case rel =>
              exact ⟨P ++ [m], dn.set m true, _, _, by rw [List.length_append, HPL.out]; go_num, by rw [List.length_append, HPL.out]; simp; omega, ⟨HM3.out, by rw [List.length_set]; exact HP.out.2.1, set_mark HP.out.2.1 hmn HP.out.2.2⟩, by rw [List.map_append, List.map_append, HSK.out, HSV.out]; simp only [List.map_cons, List.map_nil]; rw [HU.out]; exact hoi3⟩
             case measure => simp [intOf]; omega
           · intro K hK
             go_simp
             go_wp2_with (go_at_call 128; refine hV.mono ?_; rintro x w4 ⟨⟨y0, y1, y2, y3, y4, y5, y6, y7, y8, rfl, hy⟩, hb4⟩)
             have ho4 := hod.more hb4
             have hy4 := hod.new hb4 hy
             have hC4 : w4.heap[w.heap.size]? = wv.heap[w.heap.size]? ∧ w4.heap[lb]? = wv.heap[lb]? := ⟨hb4.block w.heap.size (by have := hod.size; omega), hb4.block lb (by have := hod.size; omega)⟩
             have v4 := five_c4 ho4.obj
             have hC5 : (w4.alloc (.cells #[.int .i64 y0, .int .i64 y1, .string y2, .slice y3 y4 y5, .slice y6 y7 y8] 36)).heap[w.heap.size]? = wv.heap[w.heap.size]? ∧ (w4.alloc (.cells #[.int .i64 y0, .int .i64 y1, .string y2, .slice y3 y4 y5, .slice y6 y7 y8] 36)).heap[lb]? = wv.heap[lb]? := ⟨(Below.heap_alloc _ _ _ (by have := ho4.size; omega)).trans hC4.1, (Below.heap_alloc _ _ _ (by have := ho4.size; omega)).trans hC4.2⟩
             have v5 := five_c4 (ho4.more ((Below.refl _ _).alloc (Nat.le_refl _) (.cells #[.int .i64 y0, .int .i64 y1, .string y2, .slice y3 y4 y5, .slice y6 y7 y8] 36))).obj
             clear u4 hC0
             refine wpIn_pair (i := 1) (j := 8) hC4 (by kernel_rfl) rfl rfl (by rfl) (by rfl) ?_ ?_
             · intro K hK
               go_simp
               refine hK _ _ ?_
               clear hK K
               refine wpIn_do (i := 8) hC4 (by kernel_rfl) rfl (by rfl) ?_
               intro K hK
               go_simp
               refine hK _ _ ?_
               clear hK K
               obtain ⟨zs, hv1, hv2⟩ := ho4.vals
               refine wpIn_do (i := 9) hC5 (by kernel_rfl) rfl (by rfl) ?_
               intro K hK
               refine wp_append_at (.tmp 92) (.tmp 99) 34 rfl (w.heap.size + 3) 36 (.agg #[.int .i64 0, .int .i64 0, .string ⟨#[]⟩, .slice none 0 0, .slice none 0 0]) 5 80 Tryz.underlying34 Tryz.info36 rfl (by decide) (by decide) _ Sv.length zs rfl (hv1.alloc _) _ [.int .i64 y0, .int .i64 y1, .string y2, .slice y3 y4 y5, .slice y6 y7 y8] rfl rfl (cells_new5 _ _ _ _ _ _ _) (isJ_one hy4) (by omega) (by have := ho4.size; simp; omega) ?_
               intro vl2 W5 hown5 hg5 hat5
               refine hK _ _ ?_
               clear hK K
               obtain ⟨q5, c5, hv5⟩ : ∃ q c, vl2 = .slice q (Sv.length + 1) c := by
                rcases hown5.2 with ⟨h', h0⟩ | ⟨g', cap', cur, h', _⟩
                · omega
                · exact ⟨_, _, h'⟩
               subst hv5
               have hg5b : (w4.alloc (.cells #[.int .i64 y0, .int .i64 y1, .string y2, .slice y3 y4 y5, .slice y6 y7 y8] 36)).grownBy W5 vl.ownBlock := hg5
               have hat5b : (Value.slice q5 (Sv.length + 1) c5).ownBlock = vl.ownBlock ∨ (Value.slice q5 (Sv.length + 1) c5).ownBlock = some (w4.alloc (.cells #[.int .i64 y0, .int .i64 y1, .string y2, .slice y3 y4 y5, .slice y6 y7 y8] 36)).heap.size := hat5
               obtain ⟨e5, f5, hoi3⟩ := ho4.val hv1 hv2 hy4 hown5 hg5b hat5b
               have hC6 : W5.heap[w.heap.size]? = wv.heap[w.heap.size]? ∧ W5.heap[lb]? = wv.heap[lb]? := ⟨(grown_at hg5b (by have := ho4.size; omega) (fun e => by have := own_ge hv1 _ e; omega)).trans hC4.1, (grown_at hg5b (by have := ho4.size; omega) (fun e => by have := own_ge hv1 _ e; omega)).trans hC4.2⟩
               have hC7 : (W5.setCell ⟨w.heap.size + 2, 4, none⟩ (.slice q5 (Sv.length + 1) c5)).heap[w.heap.size]? = wv.heap[w.heap.size]? ∧ (W5.setCell ⟨w.heap.size + 2, 4, none⟩ (.slice q5 (Sv.length + 1) c5)).heap[lb]? = wv.heap[lb]? := ⟨(chg hg5b (by have := ho4.size; omega) (fun e => by have := own_ge hv1 _ e; omega) (by omega)).trans hC4.1, (chg hg5b (by have := ho4.size; omega) (fun e => by have := own_ge hv1 _ e; omega) (by omega)).trans hC4.2⟩
               clear hown5 hg5 hat5 hg5b hat5b hC5 v5 v4
               refine wpIn_tk (i := 10) (d := some 101) rfl ?_
               refine wpIn_do (i := 11) hC6 (by kernel_rfl) rfl (by rfl) ?_
               intro K hK
               go_simp
               refine hK _ _ ?_
               clear hK K
               refine wpIn_done hC7 (by kernel_rfl) ?_ _
               clear hC6 hC7 e5 f5 hv1 hv2
               go_wp2
               go_roundw
               case rel =>
                exact ⟨P ++ [m], dn.set m true, _, _, by rw [List.length_append, HPL.out]; go_num, by rw [List.length_append, HPL.out]; simp; omega, ⟨HM3.out, by rw [List.length_set]; exact HP.out.2.1, set_mark HP.out.2.1 hmn HP.out.2.2⟩, by rw [List.map_append, List.map_append, HSK.out, HSV.out]; simp only [List.map_cons, List.map_nil]; rw [HU.out]; exact hoi3⟩
               case measure => simp [intOf]; omega
             · intro K hK
               go_simp
               refine hK _ _ ?_
               clear hK K
               refine wpIn_do (i := 1) hC5 (by kernel_rfl) rfl (by rfl) ?_
               intro K hK
               go_simp
               refine hK _ _ ?_
               clear hK K
               obtain ⟨zs, hv1, hv2⟩ := ho4.vals
               refine wpIn_do (i := 9) hC5 (by kernel_rfl) rfl (by rfl) ?_
               intro K hK
               refine wp_append_at (.tmp 92) (.tmp 99) 34 rfl (w.heap.size + 3) 36 (.agg #[.int .i64 0, .int .i64 0, .string ⟨#[]⟩, .slice none 0 0, .slice none 0 0]) 5 80 Tryz.underlying34 Tryz.info36 rfl (by decide) (by decide) _ Sv.length zs rfl (hv1.alloc _) _ [.int .i64 y0, .int .i64 y1, .string y2, .slice y3 y4 y5, .slice y6 y7 y8] rfl rfl (cells_new5 _ _ _ _ _ _ _) (isJ_one hy4) (by omega) (by have := ho4.size; simp; omega) ?_
               intro vl2 W5 hown5 hg5 hat5
               refine hK _ _ ?_
               clear hK K
               obtain ⟨q5, c5, hv5⟩ : ∃ q c, vl2 = .slice q (Sv.length + 1) c := by
                rcases hown5.2 with ⟨h', h0⟩ | ⟨g', cap', cur, h', _⟩
                · omega
                · exact ⟨_, _, h'⟩
               subst hv5
               have hg5b : (w4.alloc (.cells #[.int .i64 y0, .int .i64 y1, .string y2, .slice y3 y4 y5, .slice y6 y7 y8] 36)).grownBy W5 vl.ownBlock := hg5
               have hat5b : (Value.slice q5 (Sv.length + 1) c5).ownBlock = vl.ownBlock ∨ (Value.slice q5 (Sv.length + 1) c5).ownBlock = some (w4.alloc (.cells #[.int .i64 y0, .int .i64 y1, .string y2, .slice y3 y4 y5, .slice y6 y7 y8] 36)).heap.size := hat5
               obtain ⟨e5, f5, hoi3⟩ := ho4.val hv1 hv2 hy4 hown5 hg5b hat5b
               have hC6 : W5.heap[w.heap.size]? = wv.heap[w.heap.size]? ∧ W5.heap[lb]? = wv.heap[lb]? := ⟨(grown_at hg5b (by have := ho4.size; omega) (fun e => by have := own_ge hv1 _ e; omega)).trans hC4.1, (grown_at hg5b (by have := ho4.size; omega) (fun e => by have := own_ge hv1 _ e; omega)).trans hC4.2⟩
               have hC7 : (W5.setCell ⟨w.heap.size + 2, 4, none⟩ (.slice q5 (Sv.length + 1) c5)).heap[w.heap.size]? = wv.heap[w.heap.size]? ∧ (W5.setCell ⟨w.heap.size + 2, 4, none⟩ (.slice q5 (Sv.length + 1) c5)).heap[lb]? = wv.heap[lb]? := ⟨(chg hg5b (by have := ho4.size; omega) (fun e => by have := own_ge hv1 _ e; omega) (by omega)).trans hC4.1, (chg hg5b (by have := ho4.size; omega) (fun e => by have := own_ge hv1 _ e; omega) (by omega)).trans hC4.2⟩
               clear hown5 hg5 hat5 hg5b hat5b hC5 v5 v4
               refine wpIn_tk (i := 10) (d := some 101) rfl ?_
               refine wpIn_do (i := 11) hC6 (by kernel_rfl) rfl (by rfl) ?_
               intro K hK
               go_simp
               refine hK _ _ ?_
               clear hK K
               refine wpIn_done hC7 (by kernel_rfl) ?_ _
               clear hC6 hC7 e5 f5 hv1 hv2
               go_wp2
               go_roundw
               case rel =>
                exact ⟨P ++ [m], dn.set m true, _, _, by rw [List.length_append, HPL.out]; go_num, by rw [List.length_append, HPL.out]; simp; omega, ⟨HM3.out, by rw [List.length_set]; exact HP.out.2.1, set_mark HP.out.2.1 hmn HP.out.2.2⟩, by rw [List.map_append, List.map_append, HSK.out, HSV.out]; simp only [List.map_cons, List.map_nil]; rw [HU.out]; exact hoi3⟩
               case measure => simp [intOf]; omega
         · intro K hK
           go_simp
           refine hK _ _ ?_
           clear hK K
           refine wpIn_do (i := 1) hC1 (by kernel_rfl) rfl (by rfl) ?_
           intro K hK
           go_simp
           refine hK _ _ ?_
           clear hK K
           refine wpIn_do (i := 8) hC1 (by kernel_rfl) rfl (by rfl) ?_
           intro K hK
           refine wp_append_at (.tmp 82) (.tmp 88) 22 rfl (w.heap.size + 3) 9 (.string ⟨#[]⟩) 1 16 Tryz.underlying22 Tryz.info9 rfl (by decide) (by decide) _ Sk.length (Sk.map Value.string) rfl (hod.keys.alloc _) _ [.string u] rfl rfl (cell_one_new _ _ _) (str_one u) (by omega) (by have := hod.size; simp at this ⊢; omega) ?_
           intro vk2 W2 hown2 hg2 hat2
           refine hK _ _ ?_
           clear hK K
           obtain ⟨q2, c2, hv2⟩ : ∃ q c, vk2 = .slice q (Sk.length + 1) c := by
            rcases hown2.2 with ⟨h', h0⟩ | ⟨g', cap', cur, h', _⟩
            · omega
            · exact ⟨_, _, h'⟩
           subst hv2
           have hg2b : (wk.drew.alloc (.cells #[.string u] 9)).grownBy W2 vk.ownBlock := hg2
           have hat2b : (Value.slice q2 (Sk.length + 1) c2).ownBlock = vk.ownBlock ∨ (Value.slice q2 (Sk.length + 1) c2).ownBlock = some (wk.drew.alloc (.cells #[.string u] 9)).heap.size := hat2
           obtain ⟨e3, f3, hoi2⟩ := hod.key hown2 hg2b hat2b
           have hC2 : W2.heap[w.heap.size]? = wk.heap[w.heap.size]? ∧ W2.heap[ka.block]? = wk.heap[ka.block]? := ⟨grown_at (W := wk.drew) hg2b (by have := hod.size; omega) (fun e => by have := own_ge hod.keys _ e; omega), grown_at (W := wk.drew) hg2b (by have := hod.size; omega) (fun e => by have := own_ge hod.keys _ e; omega)⟩
           have hC3 : (W2.setCell ⟨w.heap.size + 2, 3, none⟩ (.slice q2 (Sk.length + 1) c2)).heap[w.heap.size]? = wk.heap[w.heap.size]? ∧ (W2.setCell ⟨w.heap.size + 2, 3, none⟩ (.slice q2 (Sk.length + 1) c2)).heap[ka.block]? = wk.heap[ka.block]? := ⟨chg (W := wk.drew) hg2b (by have := hod.size; omega) (fun e => by have := own_ge hod.keys _ e; omega) (by omega), chg (W := wk.drew) hg2b (by have := hod.size; omega) (fun e => by have := own_ge hod.keys _ e; omega) (by omega)⟩
           clear hown2 hg2 hat2 hg2b hat2b hC1 hC0 u3 v3
           refine wpIn_tk (i := 9) (d := some 90) rfl ?_
           refine wpIn_do (i := 10) hC2 (by kernel_rfl) rfl (by rfl) ?_
           intro K hK
           go_simp
           refine hK _ _ ?_
           clear hK K
           refine wpIn_done hC3 (by kernel_rfl) ?_ _
           clear hC2 hC3 e3 f3 hod hok
           obtain ⟨wv, hwv⟩ : ∃ wv, wv = W2.setCell ⟨w.heap.size + 2, 3, none⟩ (.slice q2 (Sk.length + 1) c2) := ⟨_, rfl⟩
           rw [← hwv] at hoi2
           have b4 := five_c4 hoi2.box
           have B4 : Hid (wv.cell? ⟨w.heap.size, 4, none⟩ = some (.slice (some ⟨lb, lo, none⟩) nl cl)) := b4
           have HXC : Hid (∀ n v, [Value.int .i64 x0, .int .i64 x1, .string x2, .slice p3 n3 c3, .slice p4 n4 c4][n]? = some v → wv.cell? ⟨lb, lo + m * 5 + n, none⟩ = some v) := fun n v h => (World.cell?_of_block (a := ⟨lb, lo + m * 5 + n, none⟩) (hoi2.below.block lb hlb)).trans (HWC.out n v h)
           have hod := hoi2.drew
           have hV := V wv.drew O (l.getD m J.zero) x0 x1 x2 p3 p4 n3 c3 n4 c4 (fun b hb => Nat.lt_of_lt_of_le (hO b hb) hod.below.size) HMG.out.1 HMG.out.2 (HYJ.out.carry fun b hb => ⟨hb, hod.below.block b (hO b hb)⟩)
           clear b4
           go_wp2
           rw [← hwv]
           clear hwv hoi2
           refine wp_region_in (by kernel_rfl) (fun W => W.heap[w.heap.size]? = wv.heap[w.heap.size]? ∧ W.heap[lb]? = wv.heap[lb]?) ?_
           change wpIn _ _ _ _ _ _ _ _ (World.drew _)
           refine wpIn_tk (i := 0) (d := some 91) rfl ?_
           refine wpIn_tk (i := 2) (d := some 93) rfl ?_
           refine wpIn_tp (i := 3) (d := some 94) rfl (by (intro wq hq; have q0 := (World.cell?_of_block (a := ⟨w.heap.size, 4, none⟩) hq.1).trans B4.out; go_simp; first | done | with_reducible rfl)) ?_
           refine wpIn_tk (i := 4) (d := some 95) rfl ?_
           refine wpIn_tk (i := 5) (d := some 96) rfl ?_
           refine wpIn_tp (i := 6) (d := some 97) rfl (by (intro wq hq; have hx := fun n v h => (World.cell?_of_block (a := ⟨lb, lo + m * 5 + n, none⟩) hq.2).trans (HXC.out n v h); have q0 := hx 0 _ rfl; rw [Nat.add_zero] at q0; have q1 := hx 1 _ rfl; have q2 := hx 2 _ rfl; have q3 := hx 3 _ rfl; have q4 := hx 4 _ rfl; clear hx; go_simp; first | done | with_reducible rfl)) ?_
           have hC0 : wv.drew.heap[w.heap.size]? = wv.heap[w.heap.size]? ∧ wv.drew.heap[lb]? = wv.heap[lb]? := ⟨rfl, rfl⟩
           have u4 := five_c4 hod.obj
           refine wpIn_pair (i := 1) (j := 7) hC0 (by kernel_rfl) rfl rfl (by rfl) (by rfl) ?_ ?_
           · intro K hK
             go_simp
             refine hK _ _ ?_
             clear hK K
             refine wpIn_do (i := 7) hC0 (by kernel_rfl) rfl (by rfl) ?_
             intro K hK
             go_simp
             go_wp2_with (go_at_call 128; refine hV.mono ?_; rintro x w4 ⟨⟨y0, y1, y2, y3, y4, y5, y6, y7, y8, rfl, hy⟩, hb4⟩)
             have ho4 := hod.more hb4
             have hy4 := hod.new hb4 hy
             have hC4 : w4.heap[w.heap.size]? = wv.heap[w.heap.size]? ∧ w4.heap[lb]? = wv.heap[lb]? := ⟨hb4.block w.heap.size (by have := hod.size; omega), hb4.block lb (by have := hod.size; omega)⟩
             have v4 := five_c4 ho4.obj
             have hC5 : (w4.alloc (.cells #[.int .i64 y0, .int .i64 y1, .string y2, .slice y3 y4 y5, .slice y6 y7 y8] 36)).heap[w.heap.size]? = wv.heap[w.heap.size]? ∧ (w4.alloc (.cells #[.int .i64 y0, .int .i64 y1, .string y2, .slice y3 y4 y5, .slice y6 y7 y8] 36)).heap[lb]? = wv.heap[lb]? := ⟨(Below.heap_alloc _ _ _ (by have := ho4.size; omega)).trans hC4.1, (Below.heap_alloc _ _ _ (by have := ho4.size; omega)).trans hC4.2⟩
             have v5 := five_c4 (ho4.more ((Below.refl _ _).alloc (Nat.le_refl _) (.cells #[.int .i64 y0, .int .i64 y1, .string y2, .slice y3 y4 y5, .slice y6 y7 y8] 36))).obj
             clear u4 hC0
             refine wpIn_do (i := 8) hC4 (by kernel_rfl) rfl (by rfl) ?_
             intro K hK
             go_simp
             refine hK _ _ ?_
             clear hK K
             obtain ⟨zs, hv1, hv2⟩ := ho4.vals
             refine wpIn_do (i := 9) hC5 (by kernel_rfl) rfl (by rfl) ?_
             intro K hK
             refine wp_append_at (.tmp 92) (.tmp 99) 34 rfl (w.heap.size + 3) 36 (.agg #[.int .i64 0, .int .i64 0, .string ⟨#[]⟩, .slice none 0 0, .slice none 0 0]) 5 80 Tryz.underlying34 Tryz.info36 rfl (by decide) (by decide) _ Sv.length zs rfl (hv1.alloc _) _ [.int .i64 y0, .int .i64 y1, .string y2, .slice y3 y4 y5, .slice y6 y7 y8] rfl rfl (cells_new5 _ _ _ _ _ _ _) (isJ_one hy4) (by omega) (by have := ho4.size; simp; omega) ?_
             intro vl2 W5 hown5 hg5 hat5
             refine hK _ _ ?_
             clear hK K
             obtain ⟨q5, c5, hv5⟩ : ∃ q c, vl2 = .slice q (Sv.length + 1) c := by
              rcases hown5.2 with ⟨h', h0⟩ | ⟨g', cap', cur, h', _⟩
              · omega
              · exact ⟨_, _, h'⟩
             subst hv5
             have hg5b : (w4.alloc (.cells #[.int .i64 y0, .int .i64 y1, .string y2, .slice y3 y4 y5, .slice y6 y7 y8] 36)).grownBy W5 vl.ownBlock := hg5
             have hat5b : (Value.slice q5 (Sv.length + 1) c5).ownBlock = vl.ownBlock ∨ (Value.slice q5 (Sv.length + 1) c5).ownBlock = some (w4.alloc (.cells #[.int .i64 y0, .int .i64 y1, .string y2, .slice y3 y4 y5, .slice y6 y7 y8] 36)).heap.size := hat5
             obtain ⟨e5, f5, hoi3⟩ := ho4.val hv1 hv2 hy4 hown5 hg5b hat5b
             have hC6 : W5.heap[w.heap.size]? = wv.heap[w.heap.size]? ∧ W5.heap[lb]? = wv.heap[lb]? := ⟨(grown_at hg5b (by have := ho4.size; omega) (fun e => by have := own_ge hv1 _ e; omega)).trans hC4.1, (grown_at hg5b (by have := ho4.size; omega) (fun e => by have := own_ge hv1 _ e; omega)).trans hC4.2⟩
             have hC7 : (W5.setCell ⟨w.heap.size + 2, 4, none⟩ (.slice q5 (Sv.length + 1) c5)).heap[w.heap.size]? = wv.heap[w.heap.size]? ∧ (W5.setCell ⟨w.heap.size + 2, 4, none⟩ (.slice q5 (Sv.length + 1) c5)).heap[lb]? = wv.heap[lb]? := ⟨(chg hg5b (by have := ho4.size; omega) (fun e => by have := own_ge hv1 _ e; omega) (by omega)).trans hC4.1, (chg hg5b (by have := ho4.size; omega) (fun e => by have := own_ge hv1 _ e; omega) (by omega)).trans hC4.2⟩
             clear hown5 hg5 hat5 hg5b hat5b hC5 v5 v4
             refine wpIn_tk (i := 10) (d := some 101) rfl ?_
             refine wpIn_do (i := 11) hC6 (by kernel_rfl) rfl (by rfl) ?_
             intro K hK
             go_simp
             refine hK _ _ ?_
             clear hK K
             refine wpIn_done hC7 (by kernel_rfl) ?_ _
             clear hC6 hC7 e5 f5 hv1 hv2
             go_wp2
             go_roundw
             case rel =>
              exact ⟨P ++ [m], dn.set m true, _, _, by rw [List.length_append, HPL.out]; go_num, by rw [List.length_append, HPL.out]; simp; omega, ⟨HM3.out, by rw [List.length_set]; exact HP.out.2.1, set_mark HP.out.2.1 hmn HP.out.2.2⟩, by rw [List.map_append, List.map_append, HSK.out, HSV.out]; simp only [List.map_cons, List.map_nil]; rw [HU.out]; exact hoi3⟩
             case measure => simp [intOf]; omega
           · intro K hK
             go_simp
             go_wp2_with (go_at_call 128; refine hV.mono ?_; rintro x w4 ⟨⟨y0, y1, y2, y3, y4, y5, y6, y7, y8, rfl, hy⟩, hb4⟩)
             have ho4 := hod.more hb4
             have hy4 := hod.new hb4 hy
             have hC4 : w4.heap[w.heap.size]? = wv.heap[w.heap.size]? ∧ w4.heap[lb]? = wv.heap[lb]? := ⟨hb4.block w.heap.size (by have := hod.size; omega), hb4.block lb (by have := hod.size; omega)⟩
             have v4 := five_c4 ho4.obj
             have hC5 : (w4.alloc (.cells #[.int .i64 y0, .int .i64 y1, .string y2, .slice y3 y4 y5, .slice y6 y7 y8] 36)).heap[w.heap.size]? = wv.heap[w.heap.size]? ∧ (w4.alloc (.cells #[.int .i64 y0, .int .i64 y1, .string y2, .slice y3 y4 y5, .slice y6 y7 y8] 36)).heap[lb]? = wv.heap[lb]? := ⟨(Below.heap_alloc _ _ _ (by have := ho4.size; omega)).trans hC4.1, (Below.heap_alloc _ _ _ (by have := ho4.size; omega)).trans hC4.2⟩
             have v5 := five_c4 (ho4.more ((Below.refl _ _).alloc (Nat.le_refl _) (.cells #[.int .i64 y0, .int .i64 y1, .string y2, .slice y3 y4 y5, .slice y6 y7 y8] 36))).obj
             clear u4 hC0
             refine wpIn_pair (i := 1) (j := 8) hC4 (by kernel_rfl) rfl rfl (by rfl) (by rfl) ?_ ?_
             · intro K hK
               go_simp
               refine hK _ _ ?_
               clear hK K
               refine wpIn_do (i := 8) hC4 (by kernel_rfl) rfl (by rfl) ?_
               intro K hK
               go_simp
               refine hK _ _ ?_
               clear hK K
               obtain ⟨zs, hv1, hv2⟩ := ho4.vals
               refine wpIn_do (i := 9) hC5 (by kernel_rfl) rfl (by rfl) ?_
               intro K hK
               refine wp_append_at (.tmp 92) (.tmp 99) 34 rfl (w.heap.size + 3) 36 (.agg #[.int .i64 0, .int .i64 0, .string ⟨#[]⟩, .slice none 0 0, .slice none 0 0]) 5 80 Tryz.underlying34 Tryz.info36 rfl (by decide) (by decide) _ Sv.length zs rfl (hv1.alloc _) _ [.int .i64 y0, .int .i64 y1, .string y2, .slice y3 y4 y5, .slice y6 y7 y8] rfl rfl (cells_new5 _ _ _ _ _ _ _) (isJ_one hy4) (by omega) (by have := ho4.size; simp; omega) ?_
               intro vl2 W5 hown5 hg5 hat5
               refine hK _ _ ?_
               clear hK K
               obtain ⟨q5, c5, hv5⟩ : ∃ q c, vl2 = .slice q (Sv.length + 1) c := by
                rcases hown5.2 with ⟨h', h0⟩ | ⟨g', cap', cur, h', _⟩
                · omega
                · exact ⟨_, _, h'⟩
               subst hv5
               have hg5b : (w4.alloc (.cells #[.int .i64 y0, .int .i64 y1, .string y2, .slice y3 y4 y5, .slice y6 y7 y8] 36)).grownBy W5 vl.ownBlock := hg5
               have hat5b : (Value.slice q5 (Sv.length + 1) c5).ownBlock = vl.ownBlock ∨ (Value.slice q5 (Sv.length + 1) c5).ownBlock = some (w4.alloc (.cells #[.int .i64 y0, .int .i64 y1, .string y2, .slice y3 y4 y5, .slice y6 y7 y8] 36)).heap.size := hat5
               obtain ⟨e5, f5, hoi3⟩ := ho4.val hv1 hv2 hy4 hown5 hg5b hat5b
               have hC6 : W5.heap[w.heap.size]? = wv.heap[w.heap.size]? ∧ W5.heap[lb]? = wv.heap[lb]? := ⟨(grown_at hg5b (by have := ho4.size; omega) (fun e => by have := own_ge hv1 _ e; omega)).trans hC4.1, (grown_at hg5b (by have := ho4.size; omega) (fun e => by have := own_ge hv1 _ e; omega)).trans hC4.2⟩
               have hC7 : (W5.setCell ⟨w.heap.size + 2, 4, none⟩ (.slice q5 (Sv.length + 1) c5)).heap[w.heap.size]? = wv.heap[w.heap.size]? ∧ (W5.setCell ⟨w.heap.size + 2, 4, none⟩ (.slice q5 (Sv.length + 1) c5)).heap[lb]? = wv.heap[lb]? := ⟨(chg hg5b (by have := ho4.size; omega) (fun e => by have := own_ge hv1 _ e; omega) (by omega)).trans hC4.1, (chg hg5b (by have := ho4.size; omega) (fun e => by have := own_ge hv1 _ e; omega) (by omega)).trans hC4.2⟩
               clear hown5 hg5 hat5 hg5b hat5b hC5 v5 v4
               refine wpIn_tk (i := 10) (d := some 101) rfl ?_
               refine wpIn_do (i := 11) hC6 (by kernel_rfl) rfl (by rfl) ?_
               intro K hK
               go_simp
               refine hK _ _ ?_
               clear hK K
               refine wpIn_done hC7 (by kernel_rfl) ?_ _
               clear hC6 hC7 e5 f5 hv1 hv2
               go_wp2
               go_roundw
               case rel =>
                exact ⟨P ++ [m], dn.set m true, _, _, by rw [List.length_append, HPL.out]; go_num, by rw [List.length_append, HPL.out]; simp; omega, ⟨HM3.out, by rw [List.length_set]; exact HP.out.2.1, set_mark HP.out.2.1 hmn HP.out.2.2⟩, by rw [List.map_append, List.map_append, HSK.out, HSV.out]; simp only [List.map_cons, List.map_nil]; rw [HU.out]; exact hoi3⟩
               case measure => simp [intOf]; omega
             · intro K hK
               go_simp
               refine hK _ _ ?_
               clear hK K
               refine wpIn_do (i := 1) hC5 (by kernel_rfl) rfl (by rfl) ?_
               intro K hK
               go_simp
               refine hK _ _ ?_
               clear hK K
               obtain ⟨zs, hv1, hv2⟩ := ho4.vals
               refine wpIn_do (i := 9) hC5 (by kernel_rfl) rfl (by rfl) ?_
               intro K hK
               refine wp_append_at (.tmp 92) (.tmp 99) 34 rfl (w.heap.size + 3) 36 (.agg #[.int .i64 0, .int .i64 0, .string ⟨#[]⟩, .slice none 0 0, .slice none 0 0]) 5 80 Tryz.underlying34 Tryz.info36 rfl (by decide) (by decide) _ Sv.length zs rfl (hv1.alloc _) _ [.int .i64 y0, .int .i64 y1, .string y2, .slice y3 y4 y5, .slice y6 y7 y8] rfl rfl (cells_new5 _ _ _ _ _ _ _) (isJ_one hy4) (by omega) (by have := ho4.size; simp; omega) ?_
               intro vl2 W5 hown5 hg5 hat5
               refine hK _ _ ?_
               clear hK K
               obtain ⟨q5, c5, hv5⟩ : ∃ q c, vl2 = .slice q (Sv.length + 1) c := by
                rcases hown5.2 with ⟨h', h0⟩ | ⟨g', cap', cur, h', _⟩
                · omega
                · exact ⟨_, _, h'⟩
               subst hv5
               have hg5b : (w4.alloc (.cells #[.int .i64 y0, .int .i64 y1, .string y2, .slice y3 y4 y5, .slice y6 y7 y8] 36)).grownBy W5 vl.ownBlock := hg5
               have hat5b : (Value.slice q5 (Sv.length + 1) c5).ownBlock = vl.ownBlock ∨ (Value.slice q5 (Sv.length + 1) c5).ownBlock = some (w4.alloc (.cells #[.int .i64 y0, .int .i64 y1, .string y2, .slice y3 y4 y5, .slice y6 y7 y8] 36)).heap.size := hat5
               obtain ⟨e5, f5, hoi3⟩ := ho4.val hv1 hv2 hy4 hown5 hg5b hat5b
               have hC6 : W5.heap[w.heap.size]? = wv.heap[w.heap.size]? ∧ W5.heap[lb]? = wv.heap[lb]? := ⟨(grown_at hg5b (by have := ho4.size; omega) (fun e => by have := own_ge hv1 _ e; omega)).trans hC4.1, (grown_at hg5b (by have := ho4.size; omega) (fun e => by have := own_ge hv1 _ e; omega)).trans hC4.2⟩
               have hC7 : (W5.setCell ⟨w.heap.size + 2, 4, none⟩ (.slice q5 (Sv.length + 1) c5)).heap[w.heap.size]? = wv.heap[w.heap.size]? ∧ (W5.setCell ⟨w.heap.size + 2, 4, none⟩ (.slice q5 (Sv.length + 1) c5)).heap[lb]? = wv.heap[lb]? := ⟨(chg hg5b (by have := ho4.size; omega) (fun e => by have := own_ge hv1 _ e; omega) (by omega)).trans hC4.1, (chg hg5b (by have := ho4.size; omega) (fun e => by have := own_ge hv1 _ e; omega) (by omega)).trans hC4.2⟩
               clear hown5 hg5 hat5 hg5b hat5b hC5 v5 v4
               refine wpIn_tk (i := 10) (d := some 101) rfl ?_
               refine wpIn_do (i := 11) hC6 (by kernel_rfl) rfl (by rfl) ?_
               intro K hK
               go_simp
               refine hK _ _ ?_
               clear hK K
               refine wpIn_done hC7 (by kernel_rfl) ?_ _
               clear hC6 hC7 e5 f5 hv1 hv2
               go_wp2
               go_roundw
               case rel =>
                exact ⟨P ++ [m], dn.set m true, _, _, by rw [List.length_append, HPL.out]; go_num, by rw [List.length_append, HPL.out]; simp; omega, ⟨HM3.out, by rw [List.length_set]; exact HP.out.2.1, set_mark HP.out.2.1 hmn HP.out.2.2⟩, by rw [List.map_append, List.map_append, HSK.out, HSV.out]; simp only [List.map_cons, List.map_nil]; rw [HU.out]; exact hoi3⟩
               case measure => simp [intOf]; omega
    · have HPE : Hid (P.length = nk) := by show _ = _; omega
      have o0 := five_c0 hoi.obj; have o1 := five_c1 hoi.obj; have o2 := five_c2 hoi.obj; have o3 := five_c3 hoi.obj; have o4 := five_c4 hoi.obj
      have r0 := five_c0 hoi.res; have r1 := five_c1 hoi.res; have r2 := five_c2 hoi.res; have r3 := five_c3 hoi.res; have r4 := five_c4 hoi.res
      have z0 := five_fz hoi.res 0; have z1 := five_fz hoi.res 1; have z2 := five_fz hoi.res 2; have z3 := five_fz hoi.res 3; have z4 := five_fz hoi.res 4
      obtain ⟨q1, c1, hvk, hrk⟩ := own_rdK hoi.keys
      obtain ⟨zs, hv1, hv2⟩ := hoi.vals
      obtain ⟨q2, c2, hvl, hc2, hjs⟩ := own_js hv1 hv2
      obtain ⟨Sk, hSk⟩ : ∃ Sk, P.map (keyAtK ks) = Sk := ⟨_, rfl⟩
      obtain ⟨Sv, hSv⟩ : ∃ Sv, (P.map fun x => ord (valAt l x)) = Sv := ⟨_, rfl⟩
      have HE : Hid (ord (.mk k i t ks l) = .mk k i t Sk Sv) := by
       show _ = _
       rw [← hSk, ← hSv]
       exact ord_parts HG.out k4 HP.out.1 (by rw [HPE.out, HNK.out])
      rw [hSk] at hvk hrk
      rw [hSv] at hvl hc2 hjs
      have HRK : Hid (RdK (fun k => w.heap.size + 3 ≤ k ∧ k < wr.heap.size) wr q1 c1 Sk) := hrk
      have HJS : Hid (isJs (fun k => Eb O w.heap.size wI.heap.size vk vl wr k ∨ (w.heap.size + 3 ≤ k ∧ k < wr.heap.size)) wr q2 0 Sv) := hjs
      have HC2 : Hid (Sv.length ≤ c2) := hc2
      have hres := hoi.res
      have hbW := hoi.below
      have hsW := hoi.size
      obtain ⟨nSk, hnSk⟩ : ∃ n, Sk.length = n := ⟨_, rfl⟩
      obtain ⟨nSv, hnSv⟩ : ∃ n, Sv.length = n := ⟨_, rfl⟩
      have HNSK : Hid (Sk.length = nSk) := hnSk
      have HNSV : Hid (Sv.length = nSv) := hnSv
      rw [hnSk] at hvk
      rw [hnSv] at hvl
      clear hnSk hnSv hSk hSv hrk hjs hc2 hv1 hv2 hoi
      subst hvk hvl
      go_wp2
      have h5 := set5_heap hres (.int .i64 k) (.int .i64 i) (.string t) (.slice q1 nSk c1) (.slice q2 nSv c2)
      have HK5 : Keep (One (w.heap.size + 1)) wr _ := set5_keep wr (w.heap.size + 1) (.int .i64 k) (.int .i64 i) (.string t) (.slice q1 nSk c1) (.slice q2 nSv c2)
      unfold set5 at h5 HK5
      have k0 := five_c0 h5; have k1 := five_c1 h5; have k2 := five_c2 h5; have k3 := five_c3 h5; have k4' := five_c4 h5
      refine bodyPost_ret (v := .agg #[.int .i64 k, .int .i64 i, .string t, .slice q1 nSk c1, .slice q2 nSv c2]) (by simp [results, Tryz.results128, go_sem, k0, k1, k2, k3, k4']) rfl ?_
      refine ⟨⟨_, _, _, _, _, _, _, _, _, rfl, ?_⟩, hbW.trans (HK5.below (by omega) fun x hx => by unfold One; omega)⟩
      rw [HE.out]
      have hcar : ∀ x, (O x ∨ (w.heap.size + 3 ≤ x ∧ x < wr.heap.size)) → (O x ∨ New w _ x) ∧ _ = wr.heap[x]? := fun x hx => by
       have hlt : x < wr.heap.size ∧ x ≠ w.heap.size + 1 := by
        rcases hx with hx | hx
        · have := hO x hx; exact ⟨by omega, by omega⟩
        · exact ⟨hx.2, by omega⟩
       refine ⟨?_, HK5.block x hlt.1 (by unfold One; exact hlt.2)⟩
       rcases hx with hx | hx
       · exact .inl hx
       · exact .inr ⟨by omega, Nat.lt_of_lt_of_le hx.2 HK5.size⟩
      unfold isJ
      refine ⟨q1, c1, q2, c2, by rw [HNSK.out, HNSV.out], HRK.out.carry fun x hx => hcar x (.inr hx), HC2.out, HJS.out.carry fun x hx => hcar x ?_⟩
      rcases hx with (hx | hx) | hx
      · exact .inl hx
      · exact .inr ⟨hx.1, hx.2.1⟩
      · exact .inr hx
 · subst k4
   have hk0 : ks = [] := HGN.out (by decide)
   obtain rfl : nk = 0 := by rw [← HNK.out, hk0]; rfl
   subst hk0
   go_wp2
   rw [← hwI]
   clear hwI
   go_loopw [4] (fun v wr => ∃ (x : Nat) (vl : Value), v = .int .i64 x ∧ x ≤ nl ∧ OI O w w.heap.size 0 [] #[.int .i64 4, .int .i64 i, .string t, .slice pk 0 ck, .slice pl nl cl] (.int .i64 4) (.int .i64 i) (.string t) [] (ordL (l.take x)) (.slice none 0 0) vl wr) (fun v _ => nl - (intOf v).toNat)
   case atStart => exact ⟨0, _, rfl, Nat.zero_le _, hoi⟩
   case round =>
    clear hoi
    obtain ⟨x, vl, rfl, hx, hoi⟩ := hrel
    have b4 := five_c4 hoi.box
    by_cases hxn : x < nl
    · have hxi : (x : Int) < (nl : Int) := by omega
      have hml1 : x < l.length := by rw [HNL.out]; exact hxn
      have HML : Hid (x < l.length) := hml1
      obtain ⟨lb, lo, cs, hpl, hOl, hcells, hyj⟩ := isJs.at l 0 x hs hml1
      subst hpl
      obtain ⟨x0, x1, x2, p3, n3, c3, p4, n4, c4, rfl⟩ := isJ_shape hyj
      have hlb : lb < w.heap.size := hO _ hOl
      obtain ⟨Sv, hSv⟩ : ∃ Sv, ordL (l.take x) = Sv := ⟨_, rfl⟩
      have HSV : Hid (ordL (l.take x) = Sv) := hSv
      have hsvn : Sv.length ≤ 100000 := by rw [← hSv, ordL_length, List.length_take]; omega
      rw [hSv] at hoi
      have B4 : Hid (wr.cell? ⟨w.heap.size, 4, none⟩ = some (.slice (some ⟨lb, lo, none⟩) nl cl)) := b4
      have HXC : Hid (∀ n v, [Value.int .i64 x0, .int .i64 x1, .string x2, .slice p3 n3 c3, .slice p4 n4 c4][n]? = some v → wr.cell? ⟨lb, lo + x * 5 + n, none⟩ = some v) := fun n v h => by
       have h1 := hcells n v h
       rw [Nat.zero_add] at h1
       exact (World.cell?_of_block (a := ⟨lb, lo + x * 5 + n, none⟩) (hoi.below.block lb hlb)).trans h1
      have hod := hoi.drew
      have hV := V wr.drew O (l.getD x J.zero) x0 x1 x2 p3 p4 n3 c3 n4 c4 (fun b hb => Nat.lt_of_lt_of_le (hO b hb) hod.below.size) (all_at HLG.out hml1) (all_at HLS.out hml1) (hyj.carry fun b hb => ⟨hb, hod.below.block b (hO b hb)⟩)
      clear hSv hcells hyj hml1 hoi
      go_wp2
      refine wp_region_in (by kernel_rfl) (fun W => W.heap[w.heap.size]? = wr.heap[w.heap.size]? ∧ W.heap[lb]? = wr.heap[lb]?) ?_
      change wpIn _ _ _ _ _ _ _ _ (World.drew _)
      refine wpIn_tk (i := 0) (d := some 26) rfl ?_
      refine wpIn_tk (i := 2) (d := some 28) rfl ?_
      refine wpIn_tp (i := 3) (d := some 29) rfl (by (intro wq hq; have q0 := (World.cell?_of_block (a := ⟨w.heap.size, 4, none⟩) hq.1).trans B4.out; go_simp; first | done | with_reducible rfl)) ?_
      refine wpIn_tk (i := 4) (d := some 30) rfl ?_
      refine wpIn_tk (i := 5) (d := some 31) rfl ?_
      refine wpIn_tp (i := 6) (d := some 32) rfl (by (intro wq hq; have hx := fun n v h => (World.cell?_of_block (a := ⟨lb, lo + x * 5 + n, none⟩) hq.2).trans (HXC.out n v h); have q0 := hx 0 _ rfl; rw [Nat.add_zero] at q0; have q1 := hx 1 _ rfl; have q2 := hx 2 _ rfl; have q3 := hx 3 _ rfl; have q4 := hx 4 _ rfl; clear hx; go_simp; first | done | with_reducible rfl)) ?_
      have hC0 : wr.drew.heap[w.heap.size]? = wr.heap[w.heap.size]? ∧ wr.drew.heap[lb]? = wr.heap[lb]? := ⟨rfl, rfl⟩
      have u4 := five_c4 hod.obj
      refine wpIn_pair (i := 1) (j := 7) hC0 (by kernel_rfl) rfl rfl (by rfl) (by rfl) ?_ ?_
      · intro K hK
        go_simp
        refine hK _ _ ?_
        clear hK K
        refine wpIn_do (i := 7) hC0 (by kernel_rfl) rfl (by rfl) ?_
        intro K hK
        go_simp
        go_wp2_with (go_at_call 128; refine hV.mono ?_; rintro x w4 ⟨⟨y0, y1, y2, y3, y4, y5, y6, y7, y8, rfl, hy⟩, hb4⟩)
        have ho4 := hod.more hb4
        have hy4 := hod.new hb4 hy
        have hC4 : w4.heap[w.heap.size]? = wr.heap[w.heap.size]? ∧ w4.heap[lb]? = wr.heap[lb]? := ⟨hb4.block w.heap.size (by have := hod.size; omega), hb4.block lb (by have := hod.size; omega)⟩
        have v4 := five_c4 ho4.obj
        have hC5 : (w4.alloc (.cells #[.int .i64 y0, .int .i64 y1, .string y2, .slice y3 y4 y5, .slice y6 y7 y8] 36)).heap[w.heap.size]? = wr.heap[w.heap.size]? ∧ (w4.alloc (.cells #[.int .i64 y0, .int .i64 y1, .string y2, .slice y3 y4 y5, .slice y6 y7 y8] 36)).heap[lb]? = wr.heap[lb]? := ⟨(Below.heap_alloc _ _ _ (by have := ho4.size; omega)).trans hC4.1, (Below.heap_alloc _ _ _ (by have := ho4.size; omega)).trans hC4.2⟩
        have v5 := five_c4 (ho4.more ((Below.refl _ _).alloc (Nat.le_refl _) (.cells #[.int .i64 y0, .int .i64 y1, .string y2, .slice y3 y4 y5, .slice y6 y7 y8] 36))).obj
        clear u4 hC0
        refine wpIn_do (i := 8) hC4 (by kernel_rfl) rfl (by rfl) ?_
        intro K hK
        go_simp
        refine hK _ _ ?_
        clear hK K
        obtain ⟨zs, hv1, hv2⟩ := ho4.vals
        refine wpIn_do (i := 9) hC5 (by kernel_rfl) rfl (by rfl) ?_
        intro K hK
        refine wp_append_at (.tmp 27) (.tmp 34) 34 rfl (w.heap.size + 3) 36 (.agg #[.int .i64 0, .int .i64 0, .string ⟨#[]⟩, .slice none 0 0, .slice none 0 0]) 5 80 Tryz.underlying34 Tryz.info36 rfl (by decide) (by decide) _ Sv.length zs rfl (hv1.alloc _) _ [.int .i64 y0, .int .i64 y1, .string y2, .slice y3 y4 y5, .slice y6 y7 y8] rfl rfl (cells_new5 _ _ _ _ _ _ _) (isJ_one hy4) (by omega) (by have := ho4.size; simp; omega) ?_
        intro vl2 W5 hown5 hg5 hat5
        refine hK _ _ ?_
        clear hK K
        obtain ⟨q5, c5, hv5⟩ : ∃ q c, vl2 = .slice q (Sv.length + 1) c := by
         rcases hown5.2 with ⟨h', h0⟩ | ⟨g', cap', cur, h', _⟩
         · omega
         · exact ⟨_, _, h'⟩
        subst hv5
        have hg5b : (w4.alloc (.cells #[.int .i64 y0, .int .i64 y1, .string y2, .slice y3 y4 y5, .slice y6 y7 y8] 36)).grownBy W5 vl.ownBlock := hg5
        have hat5b : (Value.slice q5 (Sv.length + 1) c5).ownBlock = vl.ownBlock ∨ (Value.slice q5 (Sv.length + 1) c5).ownBlock = some (w4.alloc (.cells #[.int .i64 y0, .int .i64 y1, .string y2, .slice y3 y4 y5, .slice y6 y7 y8] 36)).heap.size := hat5
        obtain ⟨e5, f5, hoi3⟩ := ho4.val hv1 hv2 hy4 hown5 hg5b hat5b
        have hC6 : W5.heap[w.heap.size]? = wr.heap[w.heap.size]? ∧ W5.heap[lb]? = wr.heap[lb]? := ⟨(grown_at hg5b (by have := ho4.size; omega) (fun e => by have := own_ge hv1 _ e; omega)).trans hC4.1, (grown_at hg5b (by have := ho4.size; omega) (fun e => by have := own_ge hv1 _ e; omega)).trans hC4.2⟩
        have hC7 : (W5.setCell ⟨w.heap.size + 2, 4, none⟩ (.slice q5 (Sv.length + 1) c5)).heap[w.heap.size]? = wr.heap[w.heap.size]? ∧ (W5.setCell ⟨w.heap.size + 2, 4, none⟩ (.slice q5 (Sv.length + 1) c5)).heap[lb]? = wr.heap[lb]? := ⟨(chg hg5b (by have := ho4.size; omega) (fun e => by have := own_ge hv1 _ e; omega) (by omega)).trans hC4.1, (chg hg5b (by have := ho4.size; omega) (fun e => by have := own_ge hv1 _ e; omega) (by omega)).trans hC4.2⟩
        clear hown5 hg5 hat5 hg5b hat5b hC5 v5 v4
        refine wpIn_tk (i := 10) (d := some 36) rfl ?_
        refine wpIn_do (i := 11) hC6 (by kernel_rfl) rfl (by rfl) ?_
        intro K hK
        go_simp
        refine hK _ _ ?_
        clear hK K
        refine wpIn_done hC7 (by kernel_rfl) ?_ _
        clear hC6 hC7 e5 f5 hv1 hv2
        go_wp2
        go_roundw
        case rel => exact ⟨x + 1, _, by go_num, hxn, by rw [take_snoc HML.out, ordL_snoc, HSV.out]; exact hoi3⟩
        case measure => simp [intOf]; omega
      · intro K hK
        go_simp
        go_wp2_with (go_at_call 128; refine hV.mono ?_; rintro x w4 ⟨⟨y0, y1, y2, y3, y4, y5, y6, y7, y8, rfl, hy⟩, hb4⟩)
        have ho4 := hod.more hb4
        have hy4 := hod.new hb4 hy
        have hC4 : w4.heap[w.heap.size]? = wr.heap[w.heap.size]? ∧ w4.heap[lb]? = wr.heap[lb]? := ⟨hb4.block w.heap.size (by have := hod.size; omega), hb4.block lb (by have := hod.size; omega)⟩
        have v4 := five_c4 ho4.obj
        have hC5 : (w4.alloc (.cells #[.int .i64 y0, .int .i64 y1, .string y2, .slice y3 y4 y5, .slice y6 y7 y8] 36)).heap[w.heap.size]? = wr.heap[w.heap.size]? ∧ (w4.alloc (.cells #[.int .i64 y0, .int .i64 y1, .string y2, .slice y3 y4 y5, .slice y6 y7 y8] 36)).heap[lb]? = wr.heap[lb]? := ⟨(Below.heap_alloc _ _ _ (by have := ho4.size; omega)).trans hC4.1, (Below.heap_alloc _ _ _ (by have := ho4.size; omega)).trans hC4.2⟩
        have v5 := five_c4 (ho4.more ((Below.refl _ _).alloc (Nat.le_refl _) (.cells #[.int .i64 y0, .int .i64 y1, .string y2, .slice y3 y4 y5, .slice y6 y7 y8] 36))).obj
        clear u4 hC0
        refine wpIn_pair (i := 1) (j := 8) hC4 (by kernel_rfl) rfl rfl (by rfl) (by rfl) ?_ ?_
        · intro K hK
          go_simp
          refine hK _ _ ?_
          clear hK K
          refine wpIn_do (i := 8) hC4 (by kernel_rfl) rfl (by rfl) ?_
          intro K hK
          go_simp
          refine hK _ _ ?_
          clear hK K
          obtain ⟨zs, hv1, hv2⟩ := ho4.vals
          refine wpIn_do (i := 9) hC5 (by kernel_rfl) rfl (by rfl) ?_
          intro K hK
          refine wp_append_at (.tmp 27) (.tmp 34) 34 rfl (w.heap.size + 3) 36 (.agg #[.int .i64 0, .int .i64 0, .string ⟨#[]⟩, .slice none 0 0, .slice none 0 0]) 5 80 Tryz.underlying34 Tryz.info36 rfl (by decide) (by decide) _ Sv.length zs rfl (hv1.alloc _) _ [.int .i64 y0, .int .i64 y1, .string y2, .slice y3 y4 y5, .slice y6 y7 y8] rfl rfl (cells_new5 _ _ _ _ _ _ _) (isJ_one hy4) (by omega) (by have := ho4.size; simp; omega) ?_
          intro vl2 W5 hown5 hg5 hat5
          refine hK _ _ ?_
          clear hK K
          obtain ⟨q5, c5, hv5⟩ : ∃ q c, vl2 = .slice q (Sv.length + 1) c := by
           rcases hown5.2 with ⟨h', h0⟩ | ⟨g', cap', cur, h', _⟩
           · omega
           · exact ⟨_, _, h'⟩
          subst hv5
          have hg5b : (w4.alloc (.cells #[.int .i64 y0, .int .i64 y1, .string y2, .slice y3 y4 y5, .slice y6 y7 y8] 36)).grownBy W5 vl.ownBlock := hg5
          have hat5b : (Value.slice q5 (Sv.length + 1) c5).ownBlock = vl.ownBlock ∨ (Value.slice q5 (Sv.length + 1) c5).ownBlock = some (w4.alloc (.cells #[.int .i64 y0, .int .i64 y1, .string y2, .slice y3 y4 y5, .slice y6 y7 y8] 36)).heap.size := hat5
          obtain ⟨e5, f5, hoi3⟩ := ho4.val hv1 hv2 hy4 hown5 hg5b hat5b
          have hC6 : W5.heap[w.heap.size]? = wr.heap[w.heap.size]? ∧ W5.heap[lb]? = wr.heap[lb]? := ⟨(grown_at hg5b (by have := ho4.size; omega) (fun e => by have := own_ge hv1 _ e; omega)).trans hC4.1, (grown_at hg5b (by have := ho4.size; omega) (fun e => by have := own_ge hv1 _ e; omega)).trans hC4.2⟩
          have hC7 : (W5.setCell ⟨w.heap.size + 2, 4, none⟩ (.slice q5 (Sv.length + 1) c5)).heap[w.heap.size]? = wr.heap[w.heap.size]? ∧ (W5.setCell ⟨w.heap.size + 2, 4, none⟩ (.slice q5 (Sv.length + 1) c5)).heap[lb]? = wr.heap[lb]? := ⟨(chg hg5b (by have := ho4.size; omega) (fun e => by have := own_ge hv1 _ e; omega) (by omega)).trans hC4.1, (chg hg5b (by have := ho4.size; omega) (fun e => by have := own_ge hv1 _ e; omega) (by omega)).trans hC4.2⟩
          clear hown5 hg5 hat5 hg5b hat5b hC5 v5 v4
          refine wpIn_tk (i := 10) (d := some 36) rfl ?_
          refine wpIn_do (i := 11) hC6 (by kernel_rfl) rfl (by rfl) ?_
          intro K hK
          go_simp
          refine hK _ _ ?_
          clear hK K
          refine wpIn_done hC7 (by kernel_rfl) ?_ _
          clear hC6 hC7 e5 f5 hv1 hv2
          go_wp2
          go_roundw
          case rel => exact ⟨x + 1, _, by go_num, hxn, by rw [take_snoc HML.out, ordL_snoc, HSV.out]; exact hoi3⟩
          case measure => simp [intOf]; omega
        · intro K hK
          go_simp
          refine hK _ _ ?_
          clear hK K
          refine wpIn_do (i := 1) hC5 (by kernel_rfl) rfl (by rfl) ?_
          intro K hK
          go_simp
          refine hK _ _ ?_
          clear hK K
          obtain ⟨zs, hv1, hv2⟩ := ho4.vals
          refine wpIn_do (i := 9) hC5 (by kernel_rfl) rfl (by rfl) ?_
          intro K hK
          refine wp_append_at (.tmp 27) (.tmp 34) 34 rfl (w.heap.size + 3) 36 (.agg #[.int .i64 0, .int .i64 0, .string ⟨#[]⟩, .slice none 0 0, .slice none 0 0]) 5 80 Tryz.underlying34 Tryz.info36 rfl (by decide) (by decide) _ Sv.length zs rfl (hv1.alloc _) _ [.int .i64 y0, .int .i64 y1, .string y2, .slice y3 y4 y5, .slice y6 y7 y8] rfl rfl (cells_new5 _ _ _ _ _ _ _) (isJ_one hy4) (by omega) (by have := ho4.size; simp; omega) ?_
          intro vl2 W5 hown5 hg5 hat5
          refine hK _ _ ?_
          clear hK K
          obtain ⟨q5, c5, hv5⟩ : ∃ q c, vl2 = .slice q (Sv.length + 1) c := by
           rcases hown5.2 with ⟨h', h0⟩ | ⟨g', cap', cur, h', _⟩
           · omega
           · exact ⟨_, _, h'⟩
          subst hv5
          have hg5b : (w4.alloc (.cells #[.int .i64 y0, .int .i64 y1, .string y2, .slice y3 y4 y5, .slice y6 y7 y8] 36)).grownBy W5 vl.ownBlock := hg5
          have hat5b : (Value.slice q5 (Sv.length + 1) c5).ownBlock = vl.ownBlock ∨ (Value.slice q5 (Sv.length + 1) c5).ownBlock = some (w4.alloc (.cells #[.int .i64 y0, .int .i64 y1, .string y2, .slice y3 y4 y5, .slice y6 y7 y8] 36)).heap.size := hat5
          obtain ⟨e5, f5, hoi3⟩ := ho4.val hv1 hv2 hy4 hown5 hg5b hat5b
          have hC6 : W5.heap[w.heap.size]? = wr.heap[w.heap.size]? ∧ W5.heap[lb]? = wr.heap[lb]? := ⟨(grown_at hg5b (by have := ho4.size; omega) (fun e => by have := own_ge hv1 _ e; omega)).trans hC4.1, (grown_at hg5b (by have := ho4.size; omega) (fun e => by have := own_ge hv1 _ e; omega)).trans hC4.2⟩
          have hC7 : (W5.setCell ⟨w.heap.size + 2, 4, none⟩ (.slice q5 (Sv.length + 1) c5)).heap[w.heap.size]? = wr.heap[w.heap.size]? ∧ (W5.setCell ⟨w.heap.size + 2, 4, none⟩ (.slice q5 (Sv.length + 1) c5)).heap[lb]? = wr.heap[lb]? := ⟨(chg hg5b (by have := ho4.size; omega) (fun e => by have := own_ge hv1 _ e; omega) (by omega)).trans hC4.1, (chg hg5b (by have := ho4.size; omega) (fun e => by have := own_ge hv1 _ e; omega) (by omega)).trans hC4.2⟩
          clear hown5 hg5 hat5 hg5b hat5b hC5 v5 v4
          refine wpIn_tk (i := 10) (d := some 36) rfl ?_
          refine wpIn_do (i := 11) hC6 (by kernel_rfl) rfl (by rfl) ?_
          intro K hK
          go_simp
          refine hK _ _ ?_
          clear hK K
          refine wpIn_done hC7 (by kernel_rfl) ?_ _
          clear hC6 hC7 e5 f5 hv1 hv2
          go_wp2
          go_roundw
          case rel => exact ⟨x + 1, _, by go_num, hxn, by rw [take_snoc HML.out, ordL_snoc, HSV.out]; exact hoi3⟩
          case measure => simp [intOf]; omega
    · obtain rfl : nl = x := by omega
      have hD3 : w.heap.size + 3 ≤ wr.heap.size := hoi.size
      have HT : Hid (l.take nl = l) := List.take_of_length_le (by rw [HNL.out]; omega)
      have hom := hoi.marks []
      obtain ⟨wD, hwD⟩ : ∃ wD, wD = wr.alloc (.cells (([] : List Bool).map Value.bool).toArray 4) := ⟨_, rfl⟩
      have b3 := five_c3 hoi.box
      rw [← hwD] at hom
      clear hoi
      go_wp2_with (at_make; refine wpList_bools rfl (.tmp 39) (.tmp 39) rfl 0 (by omega) rfl rfl ?_; rw [show (List.replicate 0 false) = [] from rfl, ← hwD]; clear hwD)
      rw [HT.out] at hom
      obtain ⟨D, hDe⟩ : ∃ D, wr.heap.size = D := ⟨_, rfl⟩
      obtain ⟨vk, hvk0⟩ : ∃ vk, Value.slice none 0 0 = vk := ⟨_, rfl⟩
      rw [hDe, hvk0] at hom
      clear hDe hvk0
      go_loopw [6] (fun v w2 => v = .int .i64 0 ∧ w2 = wD) (fun _ _ => 0)
      case atStart => exact ⟨rfl, rfl⟩
      case round =>
       obtain ⟨rfl, rfl⟩ := hrel
       have hoi := hom
       clear hom
       have b3' := five_c3 hoi.box
       have o0 := five_c0 hoi.obj; have o1 := five_c1 hoi.obj; have o2 := five_c2 hoi.obj; have o3 := five_c3 hoi.obj; have o4 := five_c4 hoi.obj
       have r0 := five_c0 hoi.res; have r1 := five_c1 hoi.res; have r2 := five_c2 hoi.res; have r3 := five_c3 hoi.res; have r4 := five_c4 hoi.res
       have z0 := five_fz hoi.res 0; have z1 := five_fz hoi.res 1; have z2 := five_fz hoi.res 2; have z3 := five_fz hoi.res 3; have z4 := five_fz hoi.res 4
       obtain ⟨q1, c1, hvk, hrk⟩ := own_rdK hoi.keys
       obtain ⟨zs, hv1, hv2⟩ := hoi.vals
       obtain ⟨q2, c2, hvl, hc2, hjs⟩ := own_js hv1 hv2
       obtain ⟨Sk, hSk⟩ : ∃ Sk, ([] : List ByteArray) = Sk := ⟨_, rfl⟩
       obtain ⟨Sv, hSv⟩ : ∃ Sv, ordL l = Sv := ⟨_, rfl⟩
       have HE : Hid (ord (.mk 4 i t [] l) = .mk 4 i t Sk Sv) := by
        show _ = _
        rw [← hSk, ← hSv]
        rw [ord, if_neg (by decide)]
       rw [hSk] at hvk hrk
       rw [hSv] at hvl hc2 hjs
       have HRK : Hid (RdK (fun k => w.heap.size + 3 ≤ k ∧ k < wr.heap.size) wr q1 c1 Sk) := hrk
       have HJS : Hid (isJs (fun k => Eb O w.heap.size D vk vl wr k ∨ (w.heap.size + 3 ≤ k ∧ k < wr.heap.size)) wr q2 0 Sv) := hjs
       have HC2 : Hid (Sv.length ≤ c2) := hc2
       have hres := hoi.res
       have hbW := hoi.below
       have hsW := hoi.size
       obtain ⟨nSk, hnSk⟩ : ∃ n, Sk.length = n := ⟨_, rfl⟩
       obtain ⟨nSv, hnSv⟩ : ∃ n, Sv.length = n := ⟨_, rfl⟩
       have HNSK : Hid (Sk.length = nSk) := hnSk
       have HNSV : Hid (Sv.length = nSv) := hnSv
       rw [hnSk] at hvk
       rw [hnSv] at hvl
       clear hnSk hnSv hSk hSv hrk hjs hc2 hv1 hv2 hoi
       subst hvk hvl
       go_wp2
       have h5 := set5_heap hres (.int .i64 4) (.int .i64 i) (.string t) (.slice q1 nSk c1) (.slice q2 nSv c2)
       have HK5 : Keep (One (w.heap.size + 1)) wr _ := set5_keep wr (w.heap.size + 1) (.int .i64 4) (.int .i64 i) (.string t) (.slice q1 nSk c1) (.slice q2 nSv c2)
       unfold set5 at h5 HK5
       have k0 := five_c0 h5; have k1 := five_c1 h5; have k2 := five_c2 h5; have k3 := five_c3 h5; have k4' := five_c4 h5
       refine bodyPost_ret (v := .agg #[.int .i64 4, .int .i64 i, .string t, .slice q1 nSk c1, .slice q2 nSv c2]) (by simp [results, Tryz.results128, go_sem, k0, k1, k2, k3, k4']) rfl ?_
       refine ⟨⟨_, _, _, _, _, _, _, _, _, rfl, ?_⟩, hbW.trans (HK5.below (by omega) fun x hx => by unfold One; omega)⟩
       rw [HE.out]
       have hcar : ∀ x, (O x ∨ (w.heap.size + 3 ≤ x ∧ x < wr.heap.size)) → (O x ∨ New w _ x) ∧ _ = wr.heap[x]? := fun x hx => by
        have hlt : x < wr.heap.size ∧ x ≠ w.heap.size + 1 := by
         rcases hx with hx | hx
         · have := hO x hx; exact ⟨by omega, by omega⟩
         · exact ⟨hx.2, by omega⟩
        refine ⟨?_, HK5.block x hlt.1 (by unfold One; exact hlt.2)⟩
        rcases hx with hx | hx
        · exact .inl hx
        · exact .inr ⟨by omega, Nat.lt_of_lt_of_le hx.2 HK5.size⟩
       unfold isJ
       refine ⟨q1, c1, q2, c2, by rw [HNSK.out, HNSV.out], HRK.out.carry fun x hx => hcar x (.inr hx), HC2.out, HJS.out.carry fun x hx => hcar x ?_⟩
       rcases hx with (hx | hx) | hx
       · exact .inl hx
       · exact .inr ⟨hx.1, hx.2.1⟩
       · exact .inr hx
end Go.Proofs.YtimhpglfolbomaaGreat

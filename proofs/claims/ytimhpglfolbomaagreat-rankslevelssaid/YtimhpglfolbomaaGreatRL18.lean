/-
  The document's leans: by a contract.
  The document's levels of a content: a number, what is told under a key, who is a user: by contracts.
  Bits of a letter's bytes, as sums and rests.
  Rune, by a contract.
-/
import Derived.Test.YtimhpglfolbomaaGreatRL17
import Derived.Laws.BitsAllLaws
set_option maxRecDepth 100000
set_option maxHeartbeats 16000000
namespace Go.Proofs.YtimhpglfolbomaaGreat.Od
open Go.RowKit Go.Maps
def rleanV : Option Nat → Int
 | some j => (j : Int)
 | none => -1
theorem cell_ltS {w : World} {a : Addr} {v : Value} (h : w.cell? a = some v) : a.block < w.heap.size := by
 rcases Nat.lt_or_ge a.block w.heap.size with h' | h'
 · exact h'
 · simp [World.cell?, Array.getElem?_eq_none h'] at h
theorem setRow_newS (w : World) (z cs : Array Value) (t : Nat) : ((w.alloc (.cells z t)).setRow w.heap.size cs).heap[w.heap.size]? = some (.cells cs t (0, 0)) := setRow_heap _ _ _ _ _ _ (heap_alloc_new _ _)
theorem below_setRowS (w : World) (z cs : Array Value) (t : Nat) : Below w.heap.size w ((w.alloc (.cells z t)).setRow w.heap.size cs) := by
 have hk := keep_setRow (w.alloc (.cells z t)) w.heap.size cs
 exact (below_al w _).trans (hk.below (by simp) fun k hk e => by unfold OneP at e; omega)
theorem rleans_any {w : World} {p : Pa} {q : Pq} (h : IsPa (· < w.heap.size) w p q) (hz : SzPa p) (hr : backT p.auth p.evs.length = true) (i : Nat) (hi : i < p.evs.length) (kind : ByteArray) :
    Calls Tryz.prog 40 #[valPa p q, .int .i64 (i : Int), .string kind] w fun e w' => e = .returned (.int .i64 (rleanV (leansT p i kind))) ∧ Below w.heap.size w w' := by
 obtain ⟨W0, hW0⟩ : ∃ W0, W0 = w.alloc (.cells (cellsPa p q).toArray 27) := ⟨_, rfl⟩
 have hb0 : Below w.heap.size w W0 := by rw [hW0]; exact (Below.refl _ _).alloc (Nat.le_refl _) _
 have V : IsVP W0 w.heap.size p q := by rw [hW0]; exact isVP_new h
 have HV : Hid (∀ X, Below W0.heap.size W0 X → IsVP X w.heap.size p q) := fun X hX => V.below hX
 obtain ⟨ab, ao, p1, k1, hqa, _, hcr0, hrr0⟩ := V.pa.auth.2 i (by rw [(back_of hr).2.2]; exact hi)
 obtain ⟨hI, hQ, hA⟩ := back_of hr
 have hpq := par_toQ hI i
 rw [← hpq, zs_len] at hcr0
 rw [← hpq] at hrr0
 have hrl := row_len hz hr hi
 have HLT : Hid (∀ x ∈ par (toQ p.auth) i, x < i) := hQ i
 have HEV : Hid (∀ X, Below W0.heap.size W0 X → ∀ j, j < p.evs.length → ∃ b o, q.e = some ⟨b, o, none⟩ ∧ ∃ C : List Value, Hid (X.rangeAt b (o + j * 16) C ∧ C.length = 16 ∧ C.toArray.all (·.oneCell') = true ∧ C[1]? = some (.string (evT p j).typ) ∧ C[3]? = some (.bool (evT p j).st) ∧ C[4]? = some (.string (evT p j).key))) := fun X hX j hj => by
  obtain ⟨b, o, q', h1, _, h3, h4⟩ := (HV.out X hX).pa.evs.2 j hj
  exact ⟨b, o, h1, cellsE (evT p j) q', h3, rfl, one_E _ _, rfl, rfl, rfl⟩
 have HF : Hid (leansT p i kind = (par (toQ p.auth) i).find? fun j => isT (evT p j) kind) := rfl
 have HCA : Hid (∀ X, Below W0.heap.size W0 X → X.cell? ⟨w.heap.size, 3, none⟩ = some (.slice (some ⟨ab, ao, none⟩) p.evs.length q.ca) ∧ X.cell? ⟨ab, ao + i, none⟩ = some (.slice p1 (par (toQ p.auth) i).length k1)) := fun X hX => by
  have h3 := (HV.out X hX).c3
  rw [hqa, hA] at h3
  refine ⟨h3, (hX.cell (p := ⟨ab, ao + i, none⟩) (cell_ltS hcr0)).trans hcr0⟩
 have HCE : Hid (∀ X, Below W0.heap.size W0 X → X.cell? ⟨w.heap.size, 1, none⟩ = some (.slice q.e p.evs.length q.ce)) := fun X hX => (HV.out X hX).c1
 have HRR : Hid (∀ X, Below W0.heap.size W0 X → RdI (· < W0.heap.size) X p1 k1 (zs (par (toQ p.auth) i))) := fun X hX => hrr0.below hX
 have hel := V.pa.evs.1
 have hen := hz.evs
 have hal := V.pa.auth.1
 rw [hA] at hal
 have hzl := zs_len (par (toQ p.auth) i)
 have hcm := hrr0.1
 generalize toQ p.auth = Q at *
 generalize hLT : leansT p i kind = LT at *
 clear hLT
 generalize p.evs.length = n1 at *
 obtain ⟨m, hm⟩ : ∃ m, (par Q i).length = m := ⟨_, rfl⟩
 have HM : Hid ((par Q i).length = m) := hm
 rw [hm] at hrl hzl HCA
 rw [hzl] at hcm
 clear hm V h hz hr hI hQ hA hpq hcr0 hrr0 hqa HV
 unfold valPa
 generalize hCP : cellsPa p q = CP at *
 clear hCP
 go_enter Tryz.func40, Tryz.ntmps40
 go_upto_region 1 with fail
 rw [← hW0]
 clear hW0
 go_upto_region 2 with fail
 go_loopw [7] (fun v wr => ∃ k : Nat, k ≤ m ∧ v = .int .i64 k ∧ Below W0.heap.size W0 wr ∧ Hid (((par Q i).take k).find? (fun j => isT (evT p j) kind) = none)) (fun v _ => m - (intOf v).toNat)
 case atStart => exact ⟨0, Nat.zero_le _, rfl, Below.refl _ _, by show _ = _; simp⟩
 case round =>
  obtain ⟨k, hk, rfl, hb, HN⟩ := hrel
  obtain ⟨a3, ar⟩ := HCA.out wr hb
  by_cases hlt : k < m
  · have hkl : k < (par Q i).length := by rw [HM.out]; exact hlt
    obtain ⟨ad2, hp1, _, _⟩ := (HRR.out wr hb).at k 0 (by rw [hzl]; exact hlt)
    obtain ⟨rb, ro, hpr, _, _⟩ := (HRR.out wr hb).2 (by intro h0; have := congrArg List.length h0; rw [hzl] at this; simp at this; omega)
    have HRX : Hid (∀ X, Below W0.heap.size W0 X → X.cell? ⟨rb, ro + k, none⟩ = some (.int .i64 ((par Q i).getD k 0 : Nat))) := fun X hX => by
     obtain ⟨ad3, h1, _, h3⟩ := (HRR.out X hX).at k 0 (by rw [hzl]; exact hlt)
     rw [zs_getD] at h3
     rw [hpr] at h1
     cases h1
     rw [add_flat] at h3
     exact h3
    have hx := HLT.out _ (getD_inm (d := 0) hkl)
    have HN1 : Hid (isT (evT p ((par Q i).getD k 0)) kind = false → ((par Q i).take (k + 1)).find? (fun j => isT (evT p j) kind) = none) := fun h => find_none HN.out hkl h
    have HN2 : Hid (isT (evT p ((par Q i).getD k 0)) kind = true → LT = some ((par Q i).getD k 0)) := fun h => by rw [HF.out]; exact find_some HN.out hkl h
    generalize (par Q i).getD k 0 = x at *
    have hxn : x < n1 := by omega
    obtain ⟨eb, eo, hqe, C, HC⟩ := HEV.out wr hb x hxn
    have HEX : Hid (∀ X, Below wr.heap.size wr X → (Instr.loadAt 39 (.pointer (some ⟨eb, eo + x * 16, none⟩))).run Tryz.prog X = .ok (.agg C.toArray) X) := fun X hX => run_loadAt_mid X eb (eo + x * 16) 39 C _ (fun j v hv => by
     have h1 := HC.out.1 j v hv
     exact (hX.cell (p := ⟨eb, _, none⟩) (cell_ltS h1)).trans h1) Tryz.underlying39 rfl (by rw [HC.out.2.1]; exact infoE)
    have HXX : Hid (∀ X, Below wr.heap.size wr X → X.cell? ⟨w.heap.size, 1, none⟩ = some (.slice (some ⟨eb, eo, none⟩) n1 q.ce) ∧ X.cell? ⟨w.heap.size, 3, none⟩ = some (.slice (some ⟨ab, ao, none⟩) n1 q.ca) ∧ X.cell? ⟨ab, ao + i, none⟩ = some (.slice (some ⟨rb, ro, none⟩) m k1) ∧ X.cell? ⟨rb, ro + k, none⟩ = some (.int .i64 (x : Int))) := fun X hX => by
     have h1 := HCE.out X (belowP hb hX)
     rw [hqe] at h1
     obtain ⟨h2, h3⟩ := HCA.out X (belowP hb hX)
     rw [hpr] at h3
     exact ⟨h1, h2, h3, HRX.out X (belowP hb hX)⟩
    have HIT : Hid (isT (evT p x) kind = ((evT p x).st && (((evT p x).typ.toList == kind.toList) && ((evT p x).key.toList == [])))) := by show _ = _; unfold isT eqT; rw [show (⟨#[]⟩ : ByteArray).toList = [] from lit_nix]
    have HC2 : Hid (C.length = 16 ∧ C.toArray.all (·.oneCell') = true) := ⟨HC.out.2.1, HC.out.2.2.1⟩
    have HC3 : Hid (∀ X : World, X.heap[wr.heap.size]? = some (.cells C.toArray 39 (0, 0)) → X.cell? ⟨wr.heap.size, 1, none⟩ = some (.string (evT p x).typ) ∧ X.cell? ⟨wr.heap.size, 3, none⟩ = some (.bool (evT p x).st) ∧ X.cell? ⟨wr.heap.size, 4, none⟩ = some (.string (evT p x).key)) := fun X hX => ⟨cell_row hX 1 _ HC.out.2.2.2.1, cell_row hX 3 _ HC.out.2.2.2.2.1, cell_row hX 4 _ HC.out.2.2.2.2.2⟩
    clear hp1 HRR HRX HEV HCE HC hqe HF HN HLT HM hx hkl
    subst hpr
    generalize (evT p x).typ = typ at *
    generalize (evT p x).st = st at *
    generalize (evT p x).key = key at *
    generalize isT (evT p x) kind = IT at *
    go_upto_region 4 with fail
    clear a3 ar
    refine wp_region_in (by kernel_rfl) (fun w' => Below wr.heap.size wr w') ?_
    change wpIn _ _ _ _ _ _ _ _ (World.drew _)
    have hD : Below wr.heap.size wr wr.drew := (Below.refl _ _).drew
    refine wpIn_take (i := 0) (d := (some 19)) (v := .pointer (some ⟨w.heap.size, 1, none⟩)) (a' := ?aw0) rfl rfl (by kernel_rfl) (by kernel_rfl) (by kernel_rfl) (fun _ _ _ h => h) (Or.inl ⟨by rfl, ?yw0⟩) ?fw0 ?_
    case yw0 => (intro wq hq; obtain ⟨g1, g2, g3, g4⟩ := HXX.out wq hq; go_simp; first | done | with_reducible rfl)
    case fw0 => (go_frame; rfl)
    refine wpIn_take (i := 1) (d := (some 20)) (v := .slice (some ⟨eb, eo, none⟩) n1 q.ce) (a' := ?aw1) rfl rfl (by kernel_rfl) (by kernel_rfl) (by kernel_rfl) (fun _ _ _ h => h) (Or.inl ⟨by rfl, ?yw1⟩) ?fw1 ?_
    case yw1 => (intro wq hq; obtain ⟨g1, g2, g3, g4⟩ := HXX.out wq hq; go_simp; first | done | with_reducible rfl)
    case fw1 => (go_frame; rfl)
    refine wpIn_take (i := 2) (d := (some 21)) (v := .pointer (some ⟨w.heap.size, 3, none⟩)) (a' := ?aw2) rfl rfl (by kernel_rfl) (by kernel_rfl) (by kernel_rfl) (fun _ _ _ h => h) (Or.inl ⟨by rfl, ?yw2⟩) ?fw2 ?_
    case yw2 => (intro wq hq; obtain ⟨g1, g2, g3, g4⟩ := HXX.out wq hq; go_simp; first | done | with_reducible rfl)
    case fw2 => (go_frame; rfl)
    refine wpIn_take (i := 3) (d := (some 22)) (v := .slice (some ⟨ab, ao, none⟩) n1 q.ca) (a' := ?aw3) rfl rfl (by kernel_rfl) (by kernel_rfl) (by kernel_rfl) (fun _ _ _ h => h) (Or.inl ⟨by rfl, ?yw3⟩) ?fw3 ?_
    case yw3 => (intro wq hq; obtain ⟨g1, g2, g3, g4⟩ := HXX.out wq hq; go_simp; first | done | with_reducible rfl)
    case fw3 => (go_frame; rfl)
    refine wpIn_take (i := 4) (d := (some 23)) (v := .int .i64 (i : Int)) (a' := ?aw4) rfl rfl (by kernel_rfl) (by kernel_rfl) (by kernel_rfl) (fun _ _ _ h => h) (Or.inl ⟨by rfl, ?yw4⟩) ?fw4 ?_
    case yw4 => (intro wq hq; obtain ⟨g1, g2, g3, g4⟩ := HXX.out wq hq; go_simp; first | done | with_reducible rfl)
    case fw4 => (go_frame; rfl)
    refine wpIn_take (i := 5) (d := (some 24)) (v := .pointer (some ⟨ab, ao + i, none⟩)) (a' := ?aw5) rfl rfl (by kernel_rfl) (by kernel_rfl) (by kernel_rfl) (fun _ _ _ h => h) (Or.inl ⟨by rfl, ?yw5⟩) ?fw5 ?_
    case yw5 => (intro wq hq; obtain ⟨g1, g2, g3, g4⟩ := HXX.out wq hq; go_simp; first | done | with_reducible rfl)
    case fw5 => (go_frame; rfl)
    refine wpIn_take (i := 6) (d := (some 25)) (v := .slice (some ⟨rb, ro, none⟩) m k1) (a' := ?aw6) rfl rfl (by kernel_rfl) (by kernel_rfl) (by kernel_rfl) (fun _ _ _ h => h) (Or.inl ⟨by rfl, ?yw6⟩) ?fw6 ?_
    case yw6 => (intro wq hq; obtain ⟨g1, g2, g3, g4⟩ := HXX.out wq hq; go_simp; first | done | with_reducible rfl)
    case fw6 => (go_frame; rfl)
    refine wpIn_take (i := 7) (d := (some 26)) (v := .int .i64 (k : Int)) (a' := ?aw7) rfl rfl (by kernel_rfl) (by kernel_rfl) (by kernel_rfl) (fun _ _ _ h => h) (Or.inl ⟨by rfl, ?yw7⟩) ?fw7 ?_
    case yw7 => (intro wq hq; obtain ⟨g1, g2, g3, g4⟩ := HXX.out wq hq; go_simp; first | done | with_reducible rfl)
    case fw7 => (go_frame; rfl)
    refine wpIn_take (i := 8) (d := (some 27)) (v := .pointer (some ⟨rb, ro + k, none⟩)) (a' := ?aw8) rfl rfl (by kernel_rfl) (by kernel_rfl) (by kernel_rfl) (fun _ _ _ h => h) (Or.inl ⟨by rfl, ?yw8⟩) ?fw8 ?_
    case yw8 => (intro wq hq; obtain ⟨g1, g2, g3, g4⟩ := HXX.out wq hq; go_simp; first | done | with_reducible rfl)
    case fw8 => (go_frame; rfl)
    refine wpIn_take (i := 9) (d := (some 28)) (v := .int .i64 (x : Int)) (a' := ?aw9) rfl rfl (by kernel_rfl) (by kernel_rfl) (by kernel_rfl) (fun _ _ _ h => h) (Or.inl ⟨by rfl, ?yw9⟩) ?fw9 ?_
    case yw9 => (intro wq hq; obtain ⟨g1, g2, g3, g4⟩ := HXX.out wq hq; go_simp; first | done | with_reducible rfl)
    case fw9 => (go_frame; rfl)
    refine wpIn_take (i := 10) (d := (some 29)) (v := .pointer (some ⟨eb, eo + x * 16, none⟩)) (a' := ?aw10) rfl rfl (by kernel_rfl) (by kernel_rfl) (by kernel_rfl) (fun _ _ _ h => h) (Or.inl ⟨by rfl, ?yw10⟩) ?fw10 ?_
    case yw10 => (intro wq hq; obtain ⟨g1, g2, g3, g4⟩ := HXX.out wq hq; go_simp; first | done | with_reducible rfl)
    case fw10 => (go_frame; rfl)
    refine wpIn_take (i := 11) (d := (some 30)) (v := .agg C.toArray) (a' := ?aw11) rfl rfl (by kernel_rfl) (by kernel_rfl) (by kernel_rfl) (fun _ _ _ h => h) (Or.inl ⟨by rfl, ?yw11⟩) ?fw11 ?_
    case yw11 => exact fun wq hq => exec_loadS rfl rfl (HEX.out wq hq)
    case fw11 => (go_frame; rfl)
    refine wpIn_do (i := 12) hD (by kernel_rfl) rfl (by rfl) ?_
    intro K hK
    go_simp
    refine hK _ _ ?_
    have hD1 : Below wr.heap.size wr (wr.drew.alloc (.cells (cellsE Ev.zero Pt.zero).toArray 39)) := hD.alloc (Nat.le_refl _) _
    refine wpIn_do (i := 13) hD1 (by kernel_rfl) rfl (by rfl) ?_
    intro K2 hK2
    refine wp_store_row 39 _ _ rfl wr.heap.size C.toArray rfl rfl 39 (cellsE Ev.zero Pt.zero).toArray (heap_alloc_new wr.drew _) (by rw [show C.toArray.size = C.length from rfl, HC2.out.1]; exact infoE) (by rw [show C.toArray.size = C.length from rfl, HC2.out.1]; rfl) HC2.out.2 ?_
    refine hK2 _ _ ?_
    have hBN : Below wr.heap.size wr ((wr.drew.alloc (.cells (cellsE Ev.zero Pt.zero).toArray 39)).setRow wr.heap.size C.toArray) := hD.trans (below_setRowS wr.drew _ _ _)
    have hN : ((wr.drew.alloc (.cells (cellsE Ev.zero Pt.zero).toArray 39)).setRow wr.heap.size C.toArray).heap[wr.heap.size]? = some (.cells C.toArray 39 (0, 0)) := setRow_newS wr.drew (cellsE Ev.zero Pt.zero).toArray C.toArray 39
    obtain ⟨e1, e3, e4⟩ := HC3.out _ hN
    obtain ⟨g1, g2, g3, g4⟩ := HXX.out _ hBN
    refine wpIn_done hBN (by kernel_rfl) ?_ _
    change Exit.then _ _ _ _ ((wr.drew.alloc (.cells (cellsE Ev.zero Pt.zero).toArray 39)).setRow wr.heap.size C.toArray)
    generalize (wr.drew.alloc (.cells (cellsE Ev.zero Pt.zero).toArray 39)).setRow wr.heap.size C.toArray = WN at *
    clear hN hD hD1 HXX HEX HC3 HC2
    cases hIT : IT with
    | false =>
     have HX := (show Hid _ from HN1.out hIT)
     rw [hIT] at HIT
     clear HN1 HN2 hIT
     cases st with
     | false =>
      go_wp2
      go_roundw
      case rel => exact ⟨k + 1, by omega, by go_num, belowP hb hBN, HX⟩
      case measure => simp [intOf]; try omega
     | true =>
      cases h1 : (typ.toList == kind.toList) with
      | false =>
       clear HIT
       go_wp2
       go_roundw
       case rel => exact ⟨k + 1, by omega, by go_num, belowP hb hBN, HX⟩
       case measure => simp [intOf]; try omega
      | true =>
       have h2 : (key.toList == ([] : List UInt8)) = false := by have := HIT.out; rw [h1] at this; simpa using this.symm
       clear HIT
       go_wp2
       go_roundw
       case rel => exact ⟨k + 1, by omega, by go_num, belowP hb hBN, HX⟩
       case measure => simp [intOf]; try omega
    | true =>
     have HR : Hid (LT = some x) := HN2.out hIT
     rw [hIT] at HIT
     clear HN1 HN2 hIT
     have hst : st = true := by
      cases st with
      | false => cases HIT.out
      | true => rfl
     subst hst
     have h1 : (typ.toList == kind.toList) = true := by
      have := HIT.out
      cases h : (typ.toList == kind.toList) with
      | false => rw [h] at this; cases this
      | true => rfl
     have h2 : (key.toList == ([] : List UInt8)) = true := by have := HIT.out; rw [h1] at this; simpa using this.symm
     clear HIT
     go_wp2
     go_ret
     exact ⟨ret_int (by rw [HR.out]; rfl), belowP hb0 (belowP hb hBN)⟩
  · obtain rfl : k = m := by omega
    have HR : Hid (LT = none) := by
     have := HN.out
     rw [← HM.out, List.take_length] at this
     show _ = _
     rw [HF.out, this]
    clear HN HF
    go_wp2
    go_ret
    exact ⟨ret_int (by rw [HR.out]; rfl), belowP hb0 hb⟩
end Go.Proofs.YtimhpglfolbomaaGreat.Od
namespace Go.Proofs.YtimhpglfolbomaaGreat
open Go.RowKit
theorem rNumber_any {w : World} (k i : Int) (t : ByteArray) (p q : Option Addr) (n c m d : Nat) :
    Calls Tryz.prog 97 #[.agg #[.int .i64 k, .int .i64 i, .string t, .slice p n c, .slice q m d]] w fun e w' => e = .returned (.tuple #[.int .i64 i, .bool (lvOk k i)]) ∧ Below w.heap.size w w' := by
 obtain ⟨wA, hwA⟩ : ∃ wA, wA = w.alloc (.cells #[.int .i64 k, .int .i64 i, .string t, .slice p n c, .slice q m d] 36) := ⟨_, rfl⟩
 have hbA : Below w.heap.size w wA := by rw [hwA]; exact (Below.refl _ _).alloc (Nat.le_refl _) _
 have hA : wA.heap[w.heap.size]? = some (.cells #[.int .i64 k, .int .i64 i, .string t, .slice p n c, .slice q m d] 36 (0, 0)) := by rw [hwA]; exact newP _
 have i0 := cellP hA 0 _ rfl; have i1 := cellP hA 1 _ rfl
 have HE : Hid (∀ n, Below w.heap.size w (wA.drewN n)) := fun n => belowP hbA (belowN wA n)
 clear hA hbA
 have HL : Hid (lvOk k i = (decide (k = 2) && (decide (-1073741824 ≤ i) && decide (i ≤ 1073741824)))) := rfl
 by_cases h2 : k = 2
 · subst h2
   by_cases ha : -1073741824 ≤ i
   · by_cases hb : i ≤ 1073741824
     · have hd1 : decide (-1073741824 ≤ i) = true := decide_eq_true ha
       have hd2 : decide (i ≤ 1073741824) = true := decide_eq_true hb
       rw [HL.out]
       simp only [ha, hb, decide_true, Bool.and_self]
       go_enter Tryz.func97, Tryz.ntmps97
       go_wp2
       rw [← hwA]
       clear hwA
       go_quiet (fail)
       go_wp2
       go_ret2
       exact ⟨rfl, HE.out _⟩
     · have hd1 : decide (-1073741824 ≤ i) = true := decide_eq_true ha
       have hd2 : decide (i ≤ 1073741824) = false := decide_eq_false hb
       rw [HL.out]
       simp only [ha, hb, decide_true, decide_false, Bool.and_false]
       go_enter Tryz.func97, Tryz.ntmps97
       go_wp2
       rw [← hwA]
       clear hwA
       go_quiet (fail)
       go_wp2
       go_ret2
       exact ⟨rfl, HE.out _⟩
   · have hd : decide (-1073741824 ≤ i) = false := decide_eq_false ha
     rw [HL.out]
     simp only [ha, decide_true, decide_false, Bool.false_and, Bool.and_false]
     go_enter Tryz.func97, Tryz.ntmps97
     go_wp2
     rw [← hwA]
     clear hwA
     go_quiet (fail)
     go_wp2
     go_ret2
     exact ⟨rfl, HE.out _⟩
 · have hd : (k == 2) = false := by simp [h2]
   have hd' : decide (k = 2) = false := decide_eq_false h2
   rw [HL.out]
   simp only [h2, decide_false, Bool.false_and]
   go_enter Tryz.func97, Tryz.ntmps97
   go_wp2
   rw [← hwA]
   clear hwA
   go_quiet (fail)
   go_wp2
   go_ret2
   exact ⟨rfl, HE.out _⟩
theorem rTold_any {O : Nat → Prop} {w : World} {j : J} {k i : Int} {t : ByteArray} {pk pl : Option Addr} {nk ck nl cl : Nat} (hj : isJ O w j [.int .i64 k, .int .i64 i, .string t, .slice pk nk ck, .slice pl nl cl]) (hO : ∀ b, O b → b < w.heap.size) (hz : j.ks.length ≤ 100000) (s : ByteArray) (z : Int) :
    Calls Tryz.prog 67 #[.agg #[.int .i64 k, .int .i64 i, .string t, .slice pk nk ck, .slice pl nl cl], .string s, .int .i64 z] w fun e w' => e = .returned (.tuple #[.int .i64 (numT z (getT j s)).1, .bool (!(numT z (getT j s)).2)]) ∧ Below w.heap.size w w' := by
 obtain ⟨wA, hwA⟩ : ∃ wA, wA = w.alloc (.cells #[.int .i64 k, .int .i64 i, .string t, .slice pk nk ck, .slice pl nl cl] 36) := ⟨_, rfl⟩
 have hbA : Below w.heap.size w wA := by rw [hwA]; exact (Below.refl _ _).alloc (Nat.le_refl _) _
 have hA : wA.heap[w.heap.size]? = some (.cells #[.int .i64 k, .int .i64 i, .string t, .slice pk nk ck, .slice pl nl cl] 36 (0, 0)) := by rw [hwA]; exact newP _
 have hG := get_any (hj.carry (O' := O) (w' := wA) fun x hx => ⟨hx, hbA.block x (hO x hx)⟩) (fun b hb => Nat.lt_of_lt_of_le (hO b hb) hbA.size) hz s
 have i0 := cellP hA 0 _ rfl; have i1 := cellP hA 1 _ rfl; have i2 := cellP hA 2 _ rfl; have i3 := cellP hA 3 _ rfl; have i4 := cellP hA 4 _ rfl
 clear hj hO hA
 generalize getT j s = o at hG
 cases o with
 | none =>
  go_enter Tryz.func67, Tryz.ntmps67
  go_upto_region 1 with fail
  rw [← hwA]
  clear hwA
  go_wp2_with (go_at_call 61; refine hG.mono ?_; rintro e w1 ⟨he, hb1⟩; replace he : e = _ := he; subst he)
  go_ret2
  exact ⟨rfl, belowP hbA (belowP hb1 ((Below.refl _ _).alloc (Nat.le_refl _) _))⟩
 | some v =>
  have HV : Hid (∀ O w' (k i : Int) (t : ByteArray) (p q : Option Addr) (n c m d : Nat), isJ O w' v [.int .i64 k, .int .i64 i, .string t, .slice p n c, .slice q m d] → v.kd = k ∧ v.nm = i) := fun O w' k i t p q n c m d h => by
   obtain ⟨_, _, _, _, _⟩ := v
   obtain ⟨rfl, rfl, _⟩ := isJP_parts h
   exact ⟨rfl, rfl⟩
  go_enter Tryz.func67, Tryz.ntmps67
  go_upto_region 1 with fail
  rw [← hwA]
  clear hwA
  go_wp2_with (first
   | (go_at_call 61; refine hG.mono ?_; rintro e w1 ⟨⟨kv, iv, tv, pv, nv, cv, qv, mv, dv, rfl, hv⟩, hb1⟩; have HVV := (show Hid _ from HV.out _ _ _ _ _ _ _ _ _ _ _ hv); clear hv)
   | (go_at_call 97; refine (rNumber_any _ _ _ _ _ _ _ _ _).mono ?_; rintro e w2 ⟨rfl, hb2⟩))
  go_ret2
  have HNT : Hid (numT z (some v) = (iv, !lvOk kv iv)) := by show _ = _; simp only [numT, HVV.out.1, HVV.out.2]
  refine ⟨?_, belowP hbA (belowP hb1 (belowP ((Below.refl _ _).alloc (Nat.le_refl _) _) hb2))⟩
  rw [HNT.out]
  simp only [Bool.not_not]
  rfl
theorem ofInt_64 (a : Nat) (ha : a < 18446744073709551616) : (BitVec.ofInt 64 (a : Int)).toNat = a := by
 rw [BitVec.ofInt_natCast, BitVec.toNat_ofNat]; exact Nat.mod_eq_of_lt (by omega)
theorem wrap_i64_small (n : Int) (h0 : 0 ≤ n) (h1 : n < 9223372036854775808) : IntKind.i64.wrap n = n := by
 simp [IntKind.wrap, IntKind.bits, IntKind.signed]
 omega
theorem i64_and_nat (a b : Nat) (ha : a < 9223372036854775808) (hb : b < 9223372036854775808) : bits .and .i64 (a : Int) (b : Int) = ((a &&& b : Nat) : Int) := by
 have h1 : a &&& b ≤ a := Nat.and_le_left
 show IntKind.i64.wrap ((BitVec.ofInt 64 (a : Int) &&& BitVec.ofInt 64 (b : Int)).toNat : Int) = _
 rw [BitVec.toNat_and, ofInt_64 a (by omega), ofInt_64 b (by omega)]
 exact wrap_i64_small _ (by omega) (by omega)
theorem i64_or_nat (a b : Nat) (ha : a < 4611686018427387904) (hb : b < 4611686018427387904) : bits .or .i64 (a : Int) (b : Int) = ((a ||| b : Nat) : Int) := by
 have h1 : a ||| b < 2 ^ 62 := Nat.or_lt_two_pow (by omega) (by omega)
 show IntKind.i64.wrap ((BitVec.ofInt 64 (a : Int) ||| BitVec.ofInt 64 (b : Int)).toNat : Int) = _
 rw [BitVec.toNat_or, ofInt_64 a (by omega), ofInt_64 b (by omega)]
 exact wrap_i64_small _ (by omega) (by omega)
theorem and_31 (c : Int) (h0 : 0 ≤ c) (h1 : c ≤ 255) : bits .and .i64 c 31 = c % 32 := by
 obtain ⟨n, rfl⟩ := Int.eq_ofNat_of_zero_le h0
 have := i64_and_nat n 31 (by omega) (by omega)
 rw [show ((31 : Nat) : Int) = 31 from rfl] at this
 rw [this, show (31 : Nat) = 2 ^ 5 - 1 from rfl, Nat.and_two_pow_sub_one_eq_mod]
 omega
theorem and_15 (c : Int) (h0 : 0 ≤ c) (h1 : c ≤ 255) : bits .and .i64 c 15 = c % 16 := by
 obtain ⟨n, rfl⟩ := Int.eq_ofNat_of_zero_le h0
 have := i64_and_nat n 15 (by omega) (by omega)
 rw [show ((15 : Nat) : Int) = 15 from rfl] at this
 rw [this, show (15 : Nat) = 2 ^ 4 - 1 from rfl, Nat.and_two_pow_sub_one_eq_mod]
 omega
theorem and_7 (c : Int) (h0 : 0 ≤ c) (h1 : c ≤ 255) : bits .and .i64 c 7 = c % 8 := by
 obtain ⟨n, rfl⟩ := Int.eq_ofNat_of_zero_le h0
 have := i64_and_nat n 7 (by omega) (by omega)
 rw [show ((7 : Nat) : Int) = 7 from rfl] at this
 rw [this, show (7 : Nat) = 2 ^ 3 - 1 from rfl, Nat.and_two_pow_sub_one_eq_mod]
 omega
theorem and_63 (c : Int) (h0 : 0 ≤ c) (h1 : c ≤ 255) : bits .and .u8 c 63 = c % 64 := by
 obtain ⟨n, rfl⟩ := Int.eq_ofNat_of_zero_le h0
 have := u8_and_nat n 63 (by omega) (by omega)
 rw [show ((63 : Nat) : Int) = 63 from rfl] at this
 rw [this, show (63 : Nat) = 2 ^ 6 - 1 from rfl, Nat.and_two_pow_sub_one_eq_mod]
 omega
theorem and_192_all : ∀ n : Fin 256, (n : Nat) &&& 192 = (n : Nat) / 64 * 64 := by decide +kernel
theorem and_192 (c : Int) (h0 : 0 ≤ c) (h1 : c ≤ 255) : bits .and .u8 c 192 = c / 64 * 64 := by
 obtain ⟨n, rfl⟩ := Int.eq_ofNat_of_zero_le h0
 have := u8_and_nat n 192 (by omega) (by omega)
 rw [show ((192 : Nat) : Int) = 192 from rfl] at this
 rw [this]
 have h := and_192_all ⟨n, by omega⟩
 simp only at h
 rw [h]
 omega
theorem or_64 (c x : Int) (h0 : 0 ≤ c) (h1 : c ≤ 1000000) (h2 : 0 ≤ x) (h3 : x < 64) : bits .or .i64 (c * 64) x = c * 64 + x := by
 obtain ⟨n, rfl⟩ := Int.eq_ofNat_of_zero_le h0
 obtain ⟨m, rfl⟩ := Int.eq_ofNat_of_zero_le h2
 have := i64_or_nat (n * 64) m (by omega) (by omega)
 rw [show ((n * 64 : Nat) : Int) = (n : Int) * 64 by omega] at this
 rw [this]
 have h := Nat.two_pow_add_eq_or_of_lt (i := 6) (b := m) (by omega) n
 rw [show n * 64 = 2 ^ 6 * n by omega, ← h]
 omega
theorem s_at (s : ByteArray) (p : Nat) (hp : p < s.size) : ((s[p]'hp).toNat : Int) = byteAt (ints s) p := by
 unfold byteAt
 rw [ints_getD s p hp]
theorem byte_wrap {b : Int} (h : 0 ≤ b ∧ b ≤ 255) : wrap64 b = b := by
 unfold wrap64
 omega
def accU (t : List Int) (p : Nat) (c : Int) : Nat → Int
 | 0 => c
 | k + 1 => accU t p c k * 64 + byteAt t (p + (k + 1)) % 64
theorem acc_bd (t : List Int) (p : Nat) (c : Int) (h : 0 ≤ c ∧ c ≤ 31) : ∀ n, n ≤ 3 → 0 ≤ accU t p c n ∧ accU t p c n ≤ 32 * 64 ^ n - 1 := by
 have e1 : accU t p c 1 = c * 64 + byteAt t (p + 1) % 64 := rfl
 have e2 : accU t p c 2 = (c * 64 + byteAt t (p + 1) % 64) * 64 + byteAt t (p + 2) % 64 := rfl
 have e3 : accU t p c 3 = ((c * 64 + byteAt t (p + 1) % 64) * 64 + byteAt t (p + 2) % 64) * 64 + byteAt t (p + 3) % 64 := rfl
 intro n hn
 match n, hn with
 | 0, _ => exact ⟨h.1, by show c ≤ _; omega⟩
 | 1, _ => rw [e1]; omega
 | 2, _ => rw [e2]; omega
 | 3, _ => rw [e3]; omega
def runeM (t : List Int) (p : Nat) (many : Nat) (least c : Int) : Int × Nat :=
 if (∀ k, k < many → contAt t (p + (k + 1)) = true) ∧ least ≤ accU t p c many ∧ letterOk (accU t p c many) = true then (accU t p c many, many + 1) else (0, 0)
theorem rune_low1 (s : ByteArray) (p : Nat) (w : World) (hp : p < s.size) (b : Int) (hb : byteAt (ints s) p = b) (h0 : 0 ≤ b ∧ b ≤ 255) (hlow : b < 128) :
    Calls Tryz.prog 171 #[.string s, .int .i64 p] w fun x w' => x = .returned (.tuple #[.int .i64 b, .int .i64 1]) ∧ w = w' := by
 have e0 := s_at s p hp
 rw [hb] at e0
 have e1 := byte_wrap h0
 have hpi : (p : Int) < s.size := by omega
 go_enter Tryz.func171, Tryz.ntmps171
 go_wp2
 go_ret2
 exact ⟨rfl, rfl⟩
theorem rune_bad1 (s : ByteArray) (p : Nat) (w : World) (hp : p < s.size) (b : Int) (hb : byteAt (ints s) p = b) (h0 : 0 ≤ b ∧ b ≤ 255) (hlow : 128 ≤ b) (hbad : b < 192 ∨ 248 ≤ b) :
    Calls Tryz.prog 171 #[.string s, .int .i64 p] w fun x w' => x = .returned (.tuple #[.int .i64 0, .int .i64 0]) ∧ w = w' := by
 have e0 := s_at s p hp
 rw [hb] at e0
 have e1 := byte_wrap h0
 have hpi : (p : Int) < s.size := by omega
 rcases hbad with hbad | hbad
 · go_enter Tryz.func171, Tryz.ntmps171
   go_wp2
   go_ret2
   exact ⟨rfl, rfl⟩
 · go_enter Tryz.func171, Tryz.ntmps171
   go_wp2
   go_ret2
   exact ⟨rfl, rfl⟩
theorem rune_more1 (s : ByteArray) (p : Nat) (w : World) (hp : p < s.size) (hs : s.size ≤ 1000000000) (b : Int) (hb : byteAt (ints s) p = b) (h0 : 0 ≤ b ∧ b ≤ 255) (hlo : 192 ≤ b) (hhi : b < 224) :
    Calls Tryz.prog 171 #[.string s, .int .i64 p] w fun x w' => x = .returned (.tuple #[.int .i64 (runeM (ints s) p 1 128 (b % 32)).1, .int .i64 ((runeM (ints s) p 1 128 (b % 32)).2 : Nat)]) ∧ w = w' := by
 have e0 := s_at s p hp
 rw [hb] at e0
 have e1 := byte_wrap h0
 have hpi : (p : Int) < s.size := by omega
 have em : bits .and .i64 b 31 = b % 32 := and_31 b h0.1 h0.2
 have hbd : ∀ i, 0 ≤ byteAt (ints s) i ∧ byteAt (ints s) i ≤ 255 := byte_bd s
 have HB : Hid (∀ i, 0 ≤ byteAt (ints s) i ∧ byteAt (ints s) i ≤ 255) := hbd
 clear hbd
 obtain ⟨c0, hc0⟩ : ∃ c, b % 32 = c := ⟨_, rfl⟩
 have hcb : 0 ≤ c0 ∧ c0 ≤ 31 := by omega
 rw [hc0] at em ⊢
 go_enter Tryz.func171, Tryz.ntmps171
 go_wp2
 go_loopw [6, 9] (fun c i wr => ∃ n : Nat, i = .int .i64 ((n : Int) + 1) ∧ n ≤ 1 ∧ c = .int .i64 (accU (ints s) p c0 n) ∧ Hid (∀ k, k < n → contAt (ints s) (p + (k + 1)) = true) ∧ wr = w) (fun c i _ => 1 + 1 - (intOf i).toNat)
 case atStart => exact ⟨0, rfl, by omega, rfl, fun k hk => absurd hk (by omega), rfl⟩
 case round =>
  obtain ⟨n, rfl, hn, rfl, HC, rfl⟩ := hrel
  have hab := acc_bd (ints s) p c0 hcb n (by omega)
  have hab2 : 0 ≤ accU (ints s) p c0 n ∧ accU (ints s) p c0 n ≤ 10000000 := by
   refine ⟨hab.1, ?_⟩
   have : (64 : Int) ^ n ≤ 64 ^ 3 := by
    have := Nat.pow_le_pow_right (n := 64) (by decide) (show n ≤ 3 by omega)
    exact_mod_cast this
   omega
  obtain ⟨A, hA⟩ : ∃ A, accU (ints s) p c0 n = A := ⟨_, rfl⟩
  rw [hA] at hab2 ⊢
  have HA : Hid (accU (ints s) p c0 n = A) := hA
  clear hab hA
  by_cases hnM : n < 1
  · have hsmall : A ≤ 131071 := by
      have h1 := acc_bd (ints s) p c0 hcb n (by omega)
      rw [HA.out] at h1
      have : (64 : Int) ^ n ≤ 64 ^ 2 := by
       have := Nat.pow_le_pow_right (n := 64) (by decide) (show n ≤ 2 by omega)
       exact_mod_cast this
      omega
    have hM1 : (n : Int) + 1 ≤ 1 := by omega
    have HNM : Hid (n < 1) := hnM
    clear hnM
    by_cases hin : p + (n + 1) < s.size
    · have hini : (p : Int) + ((n : Int) + 1) < s.size := by omega
      have e2 := s_at s (p + (n + 1)) hin
      obtain ⟨b1, hb1⟩ : ∃ b1, byteAt (ints s) (p + (n + 1)) = b1 := ⟨_, rfl⟩
      have hbb := HB.out (p + (n + 1))
      rw [hb1] at e2 hbb
      have a1 := and_192 b1 hbb.1 hbb.2
      have a2 := and_63 b1 hbb.1 hbb.2
      have a3 := or_64 A (b1 % 64) hab2.1 (by omega) (by omega) (by omega)
      by_cases hcont : b1 / 64 * 64 = 128
      · have HC1 : Hid (contAt (ints s) (p + (n + 1)) = true) := by show _ = _; unfold contAt; rw [hb1]; exact decide_eq_true (by omega)
        go_wp2
        go_roundw
        case rel =>
         refine ⟨n + 1, by go_num, by omega, ?_, fun k hk => ?_, trivial⟩
         · rw [accU, HA.out, hb1]
         · rcases Nat.lt_or_ge k n with h | h
           · exact HC.out k h
           · obtain rfl : k = n := by omega
             exact HC1.out
        case measure => simp [intOf]; omega
      · have HR : Hid (runeM (ints s) p 1 128 c0 = (0, 0)) := by
          show _ = _
          unfold runeM
          refine if_neg fun h => ?_
          have := h.1 n HNM.out
          unfold contAt at this
          rw [hb1] at this
          have := of_decide_eq_true this
          omega
        have hne : (b1 / 64 * 64 != 128) = true := by simp [hcont]
        go_wp2
        go_ret2
        rw [HR.out]
        exact ⟨rfl, rfl⟩
    · have hini : ¬ ((p : Int) + ((n : Int) + 1) < s.size) := by omega
      have HR : Hid (runeM (ints s) p 1 128 c0 = (0, 0)) := by
       show _ = _
       unfold runeM
       refine if_neg fun h => ?_
       have h1 := h.1 n HNM.out
       have h2 : byteAt (ints s) (p + (n + 1)) = 0 := byte_past s (p + (n + 1)) (by omega)
       unfold contAt at h1
       rw [h2] at h1
       exact absurd (of_decide_eq_true h1) (by decide)
      go_wp2
      go_ret2
      rw [HR.out]
      exact ⟨rfl, rfl⟩
  · obtain rfl : n = 1 := by omega
    have hLt := letter_any A hab2.1
    by_cases hl : 128 ≤ A
    · cases hlet : letterOk A with
      | true =>
       have HR : Hid (runeM (ints s) p 1 128 c0 = (A, 1 + 1)) := by
        show _ = _
        unfold runeM
        rw [HA.out, if_pos ⟨HC.out, hl, hlet⟩]
       rw [hlet] at hLt
       go_wp2_with (go_at_call 181; refine (hLt _).mono ?_; rintro x w' ⟨rfl, rfl⟩)
       go_ret2
       rw [HR.out]
       exact ⟨rfl, rfl⟩
      | false =>
       have HR : Hid (runeM (ints s) p 1 128 c0 = (0, 0)) := by
        show _ = _
        unfold runeM
        rw [HA.out, if_neg (fun h => by rw [hlet] at h; cases h.2.2)]
       rw [hlet] at hLt
       go_wp2_with (go_at_call 181; refine (hLt _).mono ?_; rintro x w' ⟨rfl, rfl⟩)
       go_ret2
       rw [HR.out]
       exact ⟨rfl, rfl⟩
    · have HR : Hid (runeM (ints s) p 1 128 c0 = (0, 0)) := by
        show _ = _
        unfold runeM
        rw [HA.out, if_neg (fun h => hl h.2.1)]
      go_wp2
      go_ret2
      rw [HR.out]
      exact ⟨rfl, rfl⟩
theorem rune_more2 (s : ByteArray) (p : Nat) (w : World) (hp : p < s.size) (hs : s.size ≤ 1000000000) (b : Int) (hb : byteAt (ints s) p = b) (h0 : 0 ≤ b ∧ b ≤ 255) (hlo : 224 ≤ b) (hhi : b < 240) :
    Calls Tryz.prog 171 #[.string s, .int .i64 p] w fun x w' => x = .returned (.tuple #[.int .i64 (runeM (ints s) p 2 2048 (b % 16)).1, .int .i64 ((runeM (ints s) p 2 2048 (b % 16)).2 : Nat)]) ∧ w = w' := by
 have e0 := s_at s p hp
 rw [hb] at e0
 have e1 := byte_wrap h0
 have hpi : (p : Int) < s.size := by omega
 have em : bits .and .i64 b 15 = b % 16 := and_15 b h0.1 h0.2
 have hbd : ∀ i, 0 ≤ byteAt (ints s) i ∧ byteAt (ints s) i ≤ 255 := byte_bd s
 have HB : Hid (∀ i, 0 ≤ byteAt (ints s) i ∧ byteAt (ints s) i ≤ 255) := hbd
 clear hbd
 obtain ⟨c0, hc0⟩ : ∃ c, b % 16 = c := ⟨_, rfl⟩
 have hcb : 0 ≤ c0 ∧ c0 ≤ 31 := by omega
 rw [hc0] at em ⊢
 go_enter Tryz.func171, Tryz.ntmps171
 go_wp2
 go_loopw [6, 9] (fun c i wr => ∃ n : Nat, i = .int .i64 ((n : Int) + 1) ∧ n ≤ 2 ∧ c = .int .i64 (accU (ints s) p c0 n) ∧ Hid (∀ k, k < n → contAt (ints s) (p + (k + 1)) = true) ∧ wr = w) (fun c i _ => 2 + 1 - (intOf i).toNat)
 case atStart => exact ⟨0, rfl, by omega, rfl, fun k hk => absurd hk (by omega), rfl⟩
 case round =>
  obtain ⟨n, rfl, hn, rfl, HC, rfl⟩ := hrel
  have hab := acc_bd (ints s) p c0 hcb n (by omega)
  have hab2 : 0 ≤ accU (ints s) p c0 n ∧ accU (ints s) p c0 n ≤ 10000000 := by
   refine ⟨hab.1, ?_⟩
   have : (64 : Int) ^ n ≤ 64 ^ 3 := by
    have := Nat.pow_le_pow_right (n := 64) (by decide) (show n ≤ 3 by omega)
    exact_mod_cast this
   omega
  obtain ⟨A, hA⟩ : ∃ A, accU (ints s) p c0 n = A := ⟨_, rfl⟩
  rw [hA] at hab2 ⊢
  have HA : Hid (accU (ints s) p c0 n = A) := hA
  clear hab hA
  by_cases hnM : n < 2
  · have hsmall : A ≤ 131071 := by
      have h1 := acc_bd (ints s) p c0 hcb n (by omega)
      rw [HA.out] at h1
      have : (64 : Int) ^ n ≤ 64 ^ 2 := by
       have := Nat.pow_le_pow_right (n := 64) (by decide) (show n ≤ 2 by omega)
       exact_mod_cast this
      omega
    have hM1 : (n : Int) + 1 ≤ 2 := by omega
    have HNM : Hid (n < 2) := hnM
    clear hnM
    by_cases hin : p + (n + 1) < s.size
    · have hini : (p : Int) + ((n : Int) + 1) < s.size := by omega
      have e2 := s_at s (p + (n + 1)) hin
      obtain ⟨b1, hb1⟩ : ∃ b1, byteAt (ints s) (p + (n + 1)) = b1 := ⟨_, rfl⟩
      have hbb := HB.out (p + (n + 1))
      rw [hb1] at e2 hbb
      have a1 := and_192 b1 hbb.1 hbb.2
      have a2 := and_63 b1 hbb.1 hbb.2
      have a3 := or_64 A (b1 % 64) hab2.1 (by omega) (by omega) (by omega)
      by_cases hcont : b1 / 64 * 64 = 128
      · have HC1 : Hid (contAt (ints s) (p + (n + 1)) = true) := by show _ = _; unfold contAt; rw [hb1]; exact decide_eq_true (by omega)
        go_wp2
        go_roundw
        case rel =>
         refine ⟨n + 1, by go_num, by omega, ?_, fun k hk => ?_, trivial⟩
         · rw [accU, HA.out, hb1]
         · rcases Nat.lt_or_ge k n with h | h
           · exact HC.out k h
           · obtain rfl : k = n := by omega
             exact HC1.out
        case measure => simp [intOf]; omega
      · have HR : Hid (runeM (ints s) p 2 2048 c0 = (0, 0)) := by
          show _ = _
          unfold runeM
          refine if_neg fun h => ?_
          have := h.1 n HNM.out
          unfold contAt at this
          rw [hb1] at this
          have := of_decide_eq_true this
          omega
        have hne : (b1 / 64 * 64 != 128) = true := by simp [hcont]
        go_wp2
        go_ret2
        rw [HR.out]
        exact ⟨rfl, rfl⟩
    · have hini : ¬ ((p : Int) + ((n : Int) + 1) < s.size) := by omega
      have HR : Hid (runeM (ints s) p 2 2048 c0 = (0, 0)) := by
       show _ = _
       unfold runeM
       refine if_neg fun h => ?_
       have h1 := h.1 n HNM.out
       have h2 : byteAt (ints s) (p + (n + 1)) = 0 := byte_past s (p + (n + 1)) (by omega)
       unfold contAt at h1
       rw [h2] at h1
       exact absurd (of_decide_eq_true h1) (by decide)
      go_wp2
      go_ret2
      rw [HR.out]
      exact ⟨rfl, rfl⟩
  · obtain rfl : n = 2 := by omega
    have hLt := letter_any A hab2.1
    by_cases hl : 2048 ≤ A
    · cases hlet : letterOk A with
      | true =>
       have HR : Hid (runeM (ints s) p 2 2048 c0 = (A, 2 + 1)) := by
        show _ = _
        unfold runeM
        rw [HA.out, if_pos ⟨HC.out, hl, hlet⟩]
       rw [hlet] at hLt
       go_wp2_with (go_at_call 181; refine (hLt _).mono ?_; rintro x w' ⟨rfl, rfl⟩)
       go_ret2
       rw [HR.out]
       exact ⟨rfl, rfl⟩
      | false =>
       have HR : Hid (runeM (ints s) p 2 2048 c0 = (0, 0)) := by
        show _ = _
        unfold runeM
        rw [HA.out, if_neg (fun h => by rw [hlet] at h; cases h.2.2)]
       rw [hlet] at hLt
       go_wp2_with (go_at_call 181; refine (hLt _).mono ?_; rintro x w' ⟨rfl, rfl⟩)
       go_ret2
       rw [HR.out]
       exact ⟨rfl, rfl⟩
    · have HR : Hid (runeM (ints s) p 2 2048 c0 = (0, 0)) := by
        show _ = _
        unfold runeM
        rw [HA.out, if_neg (fun h => hl h.2.1)]
      go_wp2
      go_ret2
      rw [HR.out]
      exact ⟨rfl, rfl⟩
theorem rune_more3 (s : ByteArray) (p : Nat) (w : World) (hp : p < s.size) (hs : s.size ≤ 1000000000) (b : Int) (hb : byteAt (ints s) p = b) (h0 : 0 ≤ b ∧ b ≤ 255) (hlo : 240 ≤ b) (hhi : b < 248) :
    Calls Tryz.prog 171 #[.string s, .int .i64 p] w fun x w' => x = .returned (.tuple #[.int .i64 (runeM (ints s) p 3 65536 (b % 8)).1, .int .i64 ((runeM (ints s) p 3 65536 (b % 8)).2 : Nat)]) ∧ w = w' := by
 have e0 := s_at s p hp
 rw [hb] at e0
 have e1 := byte_wrap h0
 have hpi : (p : Int) < s.size := by omega
 have em : bits .and .i64 b 7 = b % 8 := and_7 b h0.1 h0.2
 have hbd : ∀ i, 0 ≤ byteAt (ints s) i ∧ byteAt (ints s) i ≤ 255 := byte_bd s
 have HB : Hid (∀ i, 0 ≤ byteAt (ints s) i ∧ byteAt (ints s) i ≤ 255) := hbd
 clear hbd
 obtain ⟨c0, hc0⟩ : ∃ c, b % 8 = c := ⟨_, rfl⟩
 have hcb : 0 ≤ c0 ∧ c0 ≤ 31 := by omega
 rw [hc0] at em ⊢
 go_enter Tryz.func171, Tryz.ntmps171
 go_wp2
 go_loopw [6, 9] (fun c i wr => ∃ n : Nat, i = .int .i64 ((n : Int) + 1) ∧ n ≤ 3 ∧ c = .int .i64 (accU (ints s) p c0 n) ∧ Hid (∀ k, k < n → contAt (ints s) (p + (k + 1)) = true) ∧ wr = w) (fun c i _ => 3 + 1 - (intOf i).toNat)
 case atStart => exact ⟨0, rfl, by omega, rfl, fun k hk => absurd hk (by omega), rfl⟩
 case round =>
  obtain ⟨n, rfl, hn, rfl, HC, rfl⟩ := hrel
  have hab := acc_bd (ints s) p c0 hcb n (by omega)
  have hab2 : 0 ≤ accU (ints s) p c0 n ∧ accU (ints s) p c0 n ≤ 10000000 := by
   refine ⟨hab.1, ?_⟩
   have : (64 : Int) ^ n ≤ 64 ^ 3 := by
    have := Nat.pow_le_pow_right (n := 64) (by decide) (show n ≤ 3 by omega)
    exact_mod_cast this
   omega
  obtain ⟨A, hA⟩ : ∃ A, accU (ints s) p c0 n = A := ⟨_, rfl⟩
  rw [hA] at hab2 ⊢
  have HA : Hid (accU (ints s) p c0 n = A) := hA
  clear hab hA
  by_cases hnM : n < 3
  · have hsmall : A ≤ 131071 := by
      have h1 := acc_bd (ints s) p c0 hcb n (by omega)
      rw [HA.out] at h1
      have : (64 : Int) ^ n ≤ 64 ^ 2 := by
       have := Nat.pow_le_pow_right (n := 64) (by decide) (show n ≤ 2 by omega)
       exact_mod_cast this
      omega
    have hM1 : (n : Int) + 1 ≤ 3 := by omega
    have HNM : Hid (n < 3) := hnM
    clear hnM
    by_cases hin : p + (n + 1) < s.size
    · have hini : (p : Int) + ((n : Int) + 1) < s.size := by omega
      have e2 := s_at s (p + (n + 1)) hin
      obtain ⟨b1, hb1⟩ : ∃ b1, byteAt (ints s) (p + (n + 1)) = b1 := ⟨_, rfl⟩
      have hbb := HB.out (p + (n + 1))
      rw [hb1] at e2 hbb
      have a1 := and_192 b1 hbb.1 hbb.2
      have a2 := and_63 b1 hbb.1 hbb.2
      have a3 := or_64 A (b1 % 64) hab2.1 (by omega) (by omega) (by omega)
      by_cases hcont : b1 / 64 * 64 = 128
      · have HC1 : Hid (contAt (ints s) (p + (n + 1)) = true) := by show _ = _; unfold contAt; rw [hb1]; exact decide_eq_true (by omega)
        go_wp2
        go_roundw
        case rel =>
         refine ⟨n + 1, by go_num, by omega, ?_, fun k hk => ?_, trivial⟩
         · rw [accU, HA.out, hb1]
         · rcases Nat.lt_or_ge k n with h | h
           · exact HC.out k h
           · obtain rfl : k = n := by omega
             exact HC1.out
        case measure => simp [intOf]; omega
      · have HR : Hid (runeM (ints s) p 3 65536 c0 = (0, 0)) := by
          show _ = _
          unfold runeM
          refine if_neg fun h => ?_
          have := h.1 n HNM.out
          unfold contAt at this
          rw [hb1] at this
          have := of_decide_eq_true this
          omega
        have hne : (b1 / 64 * 64 != 128) = true := by simp [hcont]
        go_wp2
        go_ret2
        rw [HR.out]
        exact ⟨rfl, rfl⟩
    · have hini : ¬ ((p : Int) + ((n : Int) + 1) < s.size) := by omega
      have HR : Hid (runeM (ints s) p 3 65536 c0 = (0, 0)) := by
       show _ = _
       unfold runeM
       refine if_neg fun h => ?_
       have h1 := h.1 n HNM.out
       have h2 : byteAt (ints s) (p + (n + 1)) = 0 := byte_past s (p + (n + 1)) (by omega)
       unfold contAt at h1
       rw [h2] at h1
       exact absurd (of_decide_eq_true h1) (by decide)
      go_wp2
      go_ret2
      rw [HR.out]
      exact ⟨rfl, rfl⟩
  · obtain rfl : n = 3 := by omega
    have hLt := letter_any A hab2.1
    by_cases hl : 65536 ≤ A
    · cases hlet : letterOk A with
      | true =>
       have HR : Hid (runeM (ints s) p 3 65536 c0 = (A, 3 + 1)) := by
        show _ = _
        unfold runeM
        rw [HA.out, if_pos ⟨HC.out, hl, hlet⟩]
       rw [hlet] at hLt
       go_wp2_with (go_at_call 181; refine (hLt _).mono ?_; rintro x w' ⟨rfl, rfl⟩)
       go_ret2
       rw [HR.out]
       exact ⟨rfl, rfl⟩
      | false =>
       have HR : Hid (runeM (ints s) p 3 65536 c0 = (0, 0)) := by
        show _ = _
        unfold runeM
        rw [HA.out, if_neg (fun h => by rw [hlet] at h; cases h.2.2)]
       rw [hlet] at hLt
       go_wp2_with (go_at_call 181; refine (hLt _).mono ?_; rintro x w' ⟨rfl, rfl⟩)
       go_ret2
       rw [HR.out]
       exact ⟨rfl, rfl⟩
    · have HR : Hid (runeM (ints s) p 3 65536 c0 = (0, 0)) := by
        show _ = _
        unfold runeM
        rw [HA.out, if_neg (fun h => hl h.2.1)]
      go_wp2
      go_ret2
      rw [HR.out]
      exact ⟨rfl, rfl⟩
theorem runeM_1 {t : List Int} {p : Nat} (hb : ∀ i, 0 ≤ byteAt t i ∧ byteAt t i ≤ 255) (h1 : 192 ≤ byteAt t p) (h2 : byteAt t p < 224) : runeAt t p = runeM t p 1 128 (byteAt t p % 32) := by
 have e1 : accU t p (byteAt t p % 32) 1 = byteAt t p % 32 * 64 + byteAt t (p + 1) % 64 := rfl
 have q1 := hb (p + 1)
 unfold runeAt runeM
 rw [e1, if_neg (by omega)]
 by_cases c1 : contAt t (p + 1) = true
 · rw [if_pos (by rw [c1, decide_eq_true (show byteAt t p / 32 = 6 by omega)]; rfl)]
   split
   · rename_i hl
     have hlet : letterOk (byteAt t p % 32 * 64 + byteAt t (p + 1) % 64) = true := by
      unfold letterOk
      simp only [Bool.and_eq_true, Bool.or_eq_true, decide_eq_true_eq]
      omega
     rw [if_pos ⟨fun k hk => (by obtain rfl : k = 0 := (by omega); exact c1), hl, hlet⟩]
   · rename_i hl
     rw [if_neg fun h => hl h.2.1]
 · rw [if_neg (fun h => c1 (Bool.and_eq_true _ _ ▸ h : _ ∧ _).2), decide_eq_false (show ¬ byteAt t p / 16 = 14 by omega), decide_eq_false (show ¬ byteAt t p / 8 = 30 by omega)]
   rw [if_neg (by simp), if_neg (by simp), if_neg fun h => c1 (h.1 0 (by omega))]
theorem runeM_2 {t : List Int} {p : Nat} (h1 : 224 ≤ byteAt t p) (h2 : byteAt t p < 240) : runeAt t p = runeM t p 2 2048 (byteAt t p % 16) := by
 have e1 : accU t p (byteAt t p % 16) 2 = byteAt t p % 16 * 4096 + byteAt t (p + 1) % 64 * 64 + byteAt t (p + 2) % 64 := by
  show (byteAt t p % 16 * 64 + byteAt t (p + 1) % 64) * 64 + byteAt t (p + 2) % 64 = _
  omega
 unfold runeAt runeM
 rw [e1, if_neg (by omega), decide_eq_false (show ¬ byteAt t p / 32 = 6 by omega), decide_eq_true (show byteAt t p / 16 = 14 by omega), decide_eq_false (show ¬ byteAt t p / 8 = 30 by omega), if_neg (by simp)]
 generalize byteAt t p % 16 * 4096 + byteAt t (p + 1) % 64 * 64 + byteAt t (p + 2) % 64 = A
 by_cases c1 : contAt t (p + 1) = true ∧ contAt t (p + 2) = true
 · rw [if_pos (by rw [c1.1, c1.2]; rfl)]
   by_cases hl : 2048 ≤ A ∧ letterOk A = true
   · rw [if_pos (by rw [hl.2, decide_eq_true hl.1]; rfl), if_pos ⟨fun k hk => by
       match k, hk with
       | 0, _ => exact c1.1
       | 1, _ => exact c1.2, hl.1, hl.2⟩]
   · rw [if_neg (fun h => hl (by simpa using h)), if_neg fun h => hl h.2]
 · rw [if_neg (fun h => c1 (by simpa using h)), if_neg (by simp), if_neg fun h => c1 ⟨h.1 0 (by omega), h.1 1 (by omega)⟩]
theorem runeM_3 {t : List Int} {p : Nat} (h1 : 240 ≤ byteAt t p) (h2 : byteAt t p < 248) : runeAt t p = runeM t p 3 65536 (byteAt t p % 8) := by
 have e1 : accU t p (byteAt t p % 8) 3 = byteAt t p % 8 * 262144 + byteAt t (p + 1) % 64 * 4096 + byteAt t (p + 2) % 64 * 64 + byteAt t (p + 3) % 64 := by
  show ((byteAt t p % 8 * 64 + byteAt t (p + 1) % 64) * 64 + byteAt t (p + 2) % 64) * 64 + byteAt t (p + 3) % 64 = _
  omega
 unfold runeAt runeM
 rw [e1, if_neg (by omega), decide_eq_false (show ¬ byteAt t p / 32 = 6 by omega), decide_eq_false (show ¬ byteAt t p / 16 = 14 by omega), decide_eq_true (show byteAt t p / 8 = 30 by omega), if_neg (by simp), if_neg (by simp)]
 generalize byteAt t p % 8 * 262144 + byteAt t (p + 1) % 64 * 4096 + byteAt t (p + 2) % 64 * 64 + byteAt t (p + 3) % 64 = A
 by_cases c1 : contAt t (p + 1) = true ∧ contAt t (p + 2) = true ∧ contAt t (p + 3) = true
 · rw [if_pos (by rw [c1.1, c1.2.1, c1.2.2]; rfl)]
   by_cases hl : 65536 ≤ A ∧ letterOk A = true
   · rw [if_pos (by rw [hl.2, decide_eq_true hl.1]; rfl), if_pos ⟨fun k hk => by
       match k, hk with
       | 0, _ => exact c1.1
       | 1, _ => exact c1.2.1
       | 2, _ => exact c1.2.2, hl.1, hl.2⟩]
   · rw [if_neg (fun h => hl (by simpa using h)), if_neg fun h => hl h.2]
 · rw [if_neg (fun h => c1 (by simp at h; exact ⟨h.1.1, h.1.2, h.2⟩)), if_neg fun h => c1 ⟨h.1 0 (by omega), h.1 1 (by omega), h.1 2 (by omega)⟩]
theorem rune_none {t : List Int} {p : Nat} (h1 : 128 ≤ byteAt t p) (h2 : byteAt t p < 192 ∨ 248 ≤ byteAt t p) : runeAt t p = (0, 0) := by
 unfold runeAt
 rw [if_neg (by omega), decide_eq_false (show ¬ byteAt t p / 32 = 6 by omega), decide_eq_false (show ¬ byteAt t p / 16 = 14 by omega), decide_eq_false (show ¬ byteAt t p / 8 = 30 by omega), if_neg (by simp), if_neg (by simp), if_neg (by simp)]
theorem runes : Runes := fun s p w hp hs => by
 have hbd := byte_bd s
 have h0 := hbd p
 by_cases c1 : byteAt (ints s) p < 128
 · have e : runeAt (ints s) p = (byteAt (ints s) p, 1) := by unfold runeAt; rw [if_pos c1]
   rw [e]
   exact rune_low1 s p w hp _ rfl h0 c1
 by_cases c2 : byteAt (ints s) p < 192 ∨ 248 ≤ byteAt (ints s) p
 · rw [rune_none (by omega) c2]
   exact rune_bad1 s p w hp _ rfl h0 (by omega) c2
 by_cases c3 : byteAt (ints s) p < 224
 · rw [runeM_1 hbd (by omega) c3]
   exact rune_more1 s p w hp hs _ rfl h0 (by omega) c3
 by_cases c4 : byteAt (ints s) p < 240
 · rw [runeM_2 (by omega) c4]
   exact rune_more2 s p w hp hs _ rfl h0 (by omega) c4
 · rw [runeM_3 (by omega) (by omega)]
   exact rune_more3 s p w hp hs _ rfl h0 (by omega) (by omega)
end Go.Proofs.YtimhpglfolbomaaGreat

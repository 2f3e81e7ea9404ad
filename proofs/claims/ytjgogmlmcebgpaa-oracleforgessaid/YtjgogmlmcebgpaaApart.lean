/-
  OracleApart, walked.
-/
import Derived.Test.YtjgogmlmcebgpaaText
import Derived.Test.YtjgogmlmcebgpaaOrd
import Derived.Maps.RangeWalk
namespace Go.Proofs.Ytjgogmlmcebgpaa
open Go.RowKit Go.Maps

/-- The digests of texts. -/
def digs (D L : List ByteArray) : List ByteArray := L.map fun x => lt (no D x)
theorem digs_add {D L : List ByteArray} (h : ∀ x ∈ L, x ∈ D) (y : ByteArray) : digs (add D y) L = digs D L := by
  unfold digs
  refine List.map_congr_left fun x hx => ?_
  rw [no_add (h x hx)]
theorem row_grown {w w' : World} {B b e n : Nat} {v : Value} {xs : List Value} {l : List ByteArray} (h : w.ownsRow B e 1 v n xs) (hT : Texts w b l) (hg : w.grownBy w' (some b)) : w'.ownsRow B e 1 v n xs :=
  h.kept hg (hT.row h)
theorem rds_one (w : World) (x : ByteArray) (t : Nat) : RdS (w.alloc (.cells #[.string x] t)).heap.size (w.alloc (.cells #[.string x] t)) (some ⟨w.heap.size, 0, none⟩) 1 [x] := by
  refine ⟨Nat.le_refl _, fun j hj => ⟨_, rfl, by simp, ?_⟩⟩
  match j, hj with
  | 0, _ => exact cell_row (cur := [_]) (heap_alloc_new _ _) 0 _ rfl
theorem take_snocS (L : List ByteArray) (k : Nat) (hk : k < L.length) (d : ByteArray) : L.take (k + 1) = L.take k ++ [L.getD k d] := by
  rw [List.take_succ_eq_append_getElem hk, List.getD_eq_getElem?_getD, List.getElem?_eq_getElem hk]
  rfl

theorem newNil (w : World) : Calls Try.prog 10 #[.slice none 0 0] w fun e w' => ∃ tb, e = .returned (.tuple #[.pointer (some ⟨tb, 0, none⟩), .int .i64 0]) ∧ TabOk w.heap.size w' tb [] [] [] ∧ Below w.heap.size w w' :=
  new_good [] none 0 w (by decide) (by decide) ⟨Nat.le_refl _, fun j hj => absurd hj (by simp)⟩ (fun _ => rfl)

set_option maxHeartbeats 4000000 in
theorem oracleApart_any (L : List ByteArray) (p : Option Addr) (c : Nat) (w : World) (hL : L.length ≤ 140737488351232) (hLs : ∀ x ∈ L, x.size ≤ 140737488351232) (hrd : RdS w.heap.size w p c L) :
    Calls Try.prog 4 #[.slice p L.length c] w fun e w' => e = .returned (.bool true) ∧ Below w.heap.size w w' := by
  by_cases hl : 60 < L.length
  · go_enter Try.func4, Try.ntmps4
    go_wp2
    go_ret
    exact ⟨rfl, Below.refl _ _⟩
  have hl' : L.length ≤ 60 := by omega
  go_enter Try.func4, Try.ntmps4
  go_wp2_with (first
    | (go_at_call 10; refine (newNil _).mono ?_; rintro e w1 ⟨tb, rfl, ⟨vv, b1, b2, ht1⟩, hb1⟩))
  have hlo := ht1.lo
  obtain ⟨B2, hB2⟩ : ∃ B2, B2 = w1.heap.size := ⟨_, rfl⟩
  rw [← hB2] at hlo
  have hBB : w.heap.size ≤ B2 := by rw [hB2]; exact hb1.size
  have HB2 : Hid (B2 = w1.heap.size) := hB2
  clear hB2
  go_loopw [5, 6] (fun v i wr => ∃ (k : Nat) (D : List ByteArray), k ≤ L.length ∧ i = .int .i64 k ∧ wr.ownsRow B2 9 1 v (digs D (L.take k)).length ((digs D (L.take k)).map Value.string) ∧ Tab w.heap.size wr tb vv b1 b2 [] D [] ∧
      (∀ x ∈ L.take k, x ∈ D ∧ x.size ≤ 500) ∧ D.length ≤ k ∧ Below w.heap.size w wr ∧ B2 ≤ wr.heap.size)
    (fun _ i _ => L.length - (intOf i).toNat)
  case atStart => exact ⟨0, [], Nat.zero_le _, rfl, World.ownsRow_nil _ _ _ _, ht1, by simp, Nat.le_refl _, hb1, Nat.le_of_eq HB2.out⟩
  case round =>
    clear ht1 hb1
    obtain ⟨k, D, hk, rfl, hown, ht, hall, hDl, hb, hBr⟩ := hrel
    have HALL : Hid (∀ x ∈ L.take k, x ∈ D ∧ x.size ≤ 500) := hall
    clear hall
    by_cases hlt : k < L.length
    · obtain ⟨x, hx⟩ : ∃ x, L.getD k ⟨#[]⟩ = x := ⟨_, rfl⟩
      obtain ⟨ad, rfl, had, hcell⟩ := hrd.2 k hlt
      rw [hx] at hcell
      have hcw : wr.cell? (ad.add k) = some (.string x) := (hb.cell (by rw [add_block]; exact had)).trans hcell
      have hxs : x.size ≤ 140737488351232 := hLs x (by rw [← hx, List.getD_eq_getElem?_getD, List.getElem?_eq_getElem hlt]; exact List.getElem_mem hlt)
      have HX : Hid (L.getD k ⟨#[]⟩ = x) := hx
      clear hx
      by_cases hbig : 500 < x.size
      · go_wp2
        go_ret
        exact ⟨rfl, hb⟩
      · have hsm : x.size ≤ 500 := by omega
        obtain ⟨cap, wc, hconv⟩ := bytes_any x wr
        have hrun := hconv.run
        obtain ⟨dn, hdn⟩ : ∃ dn, dn = digs D (L.take k) := ⟨_, rfl⟩
        rw [← hdn] at hown
        have hdl : dn.length = k := by rw [hdn]; unfold digs; rw [List.length_map, List.length_take]; omega
        have HDN : Hid (dn = digs D (L.take k)) := hdn
        have HDL : Hid (dn.length = k) := hdl
        clear hdn hdl
        go_wp2_with (first
          | (go_at_call 14; refine (digest_text ht hconv (by omega) (by omega)).mono ?_; rintro e w2 ⟨rfl, ht2, hg2⟩)
          | (at_builtin; refine wpList_append_rds rfl _ _ rfl B2 _ dn rfl ?a0 _ _ _ [lt (no D x)] rfl (rds_one _ _ _) ?a2 ?a3 ?a4 ?_))
        case a0 => exact (row_grown hown ht.texts hg2).alloc _
        case a2 => intro h; cases h
        case a3 => rw [HDL.out]; simp; omega
        case a4 => have := hg2.size; simp; omega
        intro v' w' hown' hgrow'
        have hb2 : Below w.heap.size w w2 := hb.trans (ht.under1 hg2)
        have hbB : Below B2 w2 w' := ((Below.refl _ _).alloc (by have := hg2.size; omega) _).grown hgrow' (by have := hg2.size; simp; omega) (own_base hown)
        have hb' : Below w.heap.size w w' := hb2.trans (hbB.mono hBB)
        have hBr' : B2 ≤ w'.heap.size := by have := hg2.size; have := hbB.size; omega
        have hT' : Tab w.heap.size w' tb vv b1 b2 [] (add D x) [] := ht2.low hlo hbB
        clear hgrow'
        go_wp2
        go_roundw
        case rel =>
          refine ⟨k + 1, add D x, by omega, by go_num, ?_, hT', ?_, ?_, hb', hBr'⟩
          · have e : digs (add D x) (L.take (k + 1)) = dn ++ [lt (no D x)] := by
              rw [take_snocS L k hlt ⟨#[]⟩, HX.out, HDN.out]
              have e2 := digs_add (D := D) (L := L.take k) (fun y hy => (HALL.out y hy).1) x
              have e3 : lt (no (add D x) x) = lt (no D x) := by
                by_cases hm : x ∈ D
                · rw [no_add hm]
                · unfold no; rw [add_mem ((mem_add D x x).2 (.inr rfl))]
              rw [← e2]
              unfold digs
              rw [List.map_append]
              simp only [List.map_cons, List.map_nil, e3]
            rw [e]
            simpa using hown'
          · intro y hy
            rcases (take_mem_snoc (d := ⟨#[]⟩) hlt).1 hy with h' | h'
            · exact ⟨(mem_add _ _ _).2 (.inl (HALL.out y h').1), (HALL.out y h').2⟩
            · rw [HX.out] at h'
              rw [h']
              exact ⟨(mem_add _ _ _).2 (.inr rfl), hsm⟩
          · have := add_len D x; omega
        case measure => simp [intOf]; omega
    · obtain rfl : k = L.length := by omega
      rw [List.take_length] at hown HALL
      obtain ⟨dn, hdn⟩ : ∃ dn, dn = digs D L := ⟨_, rfl⟩
      rw [← hdn] at hown
      have hdl : dn.length = L.length := by rw [hdn]; unfold digs; rw [List.length_map]
      have HDN : Hid (dn = digs D L) := hdn
      clear hdn
      obtain ⟨q, cq, hu, hrq, _⟩ := own_rds hown
      rw [hdl] at hu
      subst hu
      go_wp2
      rename World => wb
      go_loopw [7] (fun i wr => ∃ k : Nat, k ≤ L.length ∧ i = .int .i64 k ∧ Tab w.heap.size wr tb vv b1 b2 [] D [] ∧ wb.grownBy wr (some b1)) (fun i _ => L.length - (intOf i).toNat)
      case atStart => exact ⟨0, Nat.zero_le _, rfl, ht, ⟨rfl, rfl, rfl, Nat.le_refl _, fun _ _ _ => rfl⟩⟩
      case round =>
        obtain ⟨i, hi, rfl, hti, hgi⟩ := hrel
        by_cases hi1 : i < L.length
        · rename World => wo
          go_wp2
          go_loopw [8] (fun j wr => ∃ k : Nat, k ≤ L.length ∧ j = .int .i64 k ∧ Tab w.heap.size wr tb vv b1 b2 [] D [] ∧ wb.grownBy wr (some b1)) (fun j _ => L.length - (intOf j).toNat)
          case atStart => exact ⟨0, Nat.zero_le _, rfl, hti, hgi⟩
          case round =>
            clear hti hgi
            obtain ⟨k, hk, rfl, htk, hgk⟩ := hrel
            by_cases hlt : k < L.length
            · obtain ⟨ad, rfl, had, _⟩ := hrd.2 i hi1
              obtain ⟨aq, rfl, haq, _⟩ := hrq.2 i (by omega)
              have LC : ∀ w', (Tab w.heap.size w' tb vv b1 b2 [] D [] ∧ wb.grownBy w' (some b1)) → ∀ j, j < L.length → w'.cell? (ad.add j) = some (.string (L.getD j ⟨#[]⟩)) := by
                intro w' hC j hj
                obtain ⟨a', e, hB, hc⟩ := hrd.2 j hj
                cases e
                have hc' := (hb.cell (by rw [add_block]; exact hB)).trans hc
                exact hC.2.cell hc' (fun e => ht.texts.cell hc' (Option.some.inj e))
              have DC : ∀ w', (Tab w.heap.size w' tb vv b1 b2 [] D [] ∧ wb.grownBy w' (some b1)) → ∀ j, j < L.length → w'.cell? (aq.add j) = some (.string (dn.getD j ⟨#[]⟩)) := by
                intro w' hC j hj
                obtain ⟨a', e, hB, hc⟩ := hrq.2 j (by omega)
                cases e
                exact hC.2.cell hc (fun e => ht.texts.cell hc (Option.some.inj e))
              obtain ⟨li, hli⟩ : ∃ x, L.getD i ⟨#[]⟩ = x := ⟨_, rfl⟩
              obtain ⟨lk, hlk⟩ : ∃ x, L.getD k ⟨#[]⟩ = x := ⟨_, rfl⟩
              have hmi : li ∈ L := by rw [← hli, List.getD_eq_getElem?_getD, List.getElem?_eq_getElem hi1]; exact List.getElem_mem hi1
              have hmk : lk ∈ L := by rw [← hlk, List.getD_eq_getElem?_getD, List.getElem?_eq_getElem hlt]; exact List.getElem_mem hlt
              have hei : dn.getD i ⟨#[]⟩ = lt (no D li) := by
                rw [HDN.out, ← hli]; unfold digs
                rw [List.getD_eq_getElem?_getD, List.getElem?_map, List.getElem?_eq_getElem hi1, List.getD_eq_getElem?_getD, List.getElem?_eq_getElem hi1]; rfl
              have hek : dn.getD k ⟨#[]⟩ = lt (no D lk) := by
                rw [HDN.out, ← hlk]; unfold digs
                rw [List.getD_eq_getElem?_getD, List.getElem?_map, List.getElem?_eq_getElem hlt, List.getD_eq_getElem?_getD, List.getElem?_eq_getElem hlt]; rfl
              obtain ⟨di, hdi⟩ : ∃ x, dn.getD i ⟨#[]⟩ = x := ⟨_, rfl⟩
              obtain ⟨dk, hdk⟩ : ∃ x, dn.getD k ⟨#[]⟩ = x := ⟨_, rfl⟩
              obtain ⟨bq, hbq⟩ : ∃ b, b = decide (li = lk) := ⟨_, rfl⟩
              have g2 : (li.toList == lk.toList) = bq := by rw [beqS, hbq]
              have g1 : (di.toList == dk.toList) = bq := by
                rw [beqS, hbq, ← hdi, ← hdk, hei, hek]
                have hn1 := no_pos D li
                have hn2 := no_le D li
                have hn3 := no_pos D lk
                have hn4 := no_le D lk
                rw [Bool.eq_iff_iff, decide_eq_true_eq, decide_eq_true_eq]
                exact ⟨fun h => no_inj (HALL.out li hmi).1 (HALL.out lk hmk).1 (lt_inj (by omega) (by omega) (by omega) (by omega) h), fun h => by rw [h]⟩
              have HDK : Hid (dk = lt (no D lk)) := hdk.symm.trans hek
              have hsk : lk.size ≤ 1000 := by have := (HALL.out lk hmk).2; omega
              have HADD : Hid (add D lk = D) := add_mem (HALL.out lk hmk).1
              clear hei hek hmi hmk
              have hC0 : Tab w.heap.size wr.drew tb vv b1 b2 [] D [] ∧ wb.grownBy wr.drew (some b1) := ⟨htk.grown (grown_drew wr none), hgk.trans (grown_drew wr _)⟩
              have htd := hC0.1
              obtain ⟨cap, wc, hconv⟩ := bytes_any lk wr.drew
              have hC1 : Tab w.heap.size wc tb vv b1 b2 [] D [] ∧ wb.grownBy wc (some b1) := ⟨htd.below hconv.below, hC0.2.trans (grown_any (below_grown hconv.below) _)⟩
              have hrun := hconv.run
              have HLC := Hid.out (show Hid (∀ w', (Tab w.heap.size w' tb vv b1 b2 [] D [] ∧ wb.grownBy w' (some b1)) → w'.cell? (ad.add i) = some (.string li) ∧ w'.cell? (ad.add k) = some (.string lk) ∧ w'.cell? (aq.add i) = some (.string di) ∧ w'.cell? (aq.add k) = some (.string dk)) from
                fun w' hC => ⟨hli ▸ LC w' hC i hi1, hlk ▸ LC w' hC k hlt, hdi ▸ DC w' hC i hi1, hdk ▸ DC w' hC k hlt⟩)
              have HF : Hid (∀ w', (Tab w.heap.size w' tb vv b1 b2 [] D [] ∧ wb.grownBy w' (some b1)) → w'.cell? (ad.add i) = some (.string li) ∧ w'.cell? (ad.add k) = some (.string lk) ∧ w'.cell? (aq.add i) = some (.string di) ∧ w'.cell? (aq.add k) = some (.string dk)) := HLC
              clear HLC LC DC hli hlk hdi hdk
              go_wp2
              refine wp_region_in (by kernel_rfl) (fun w' => Tab w.heap.size w' tb vv b1 b2 [] D [] ∧ wb.grownBy w' (some b1)) ?_
              change wpIn _ _ _ _ _ _ _ _ (World.drew _)
              refine wpIn_take (i := 0) (d := (some 54)) (v := ?vqr0) (a' := ?aqr0) rfl rfl (by kernel_rfl) (by kernel_rfl) (by kernel_rfl) (fun _ _ _ h => h) (Or.inl ⟨by rfl, ?yqr0⟩) ?fqr0 ?_
              case yqr0 => (intro wq hq; go_simp; first | done | with_reducible rfl)
              case fqr0 => (go_frame; rfl)
              refine wpIn_take (i := 1) (d := (some 55)) (v := ?vqr1) (a' := ?aqr1) rfl rfl (by kernel_rfl) (by kernel_rfl) (by kernel_rfl) (fun _ _ _ h => h) (Or.inl ⟨by rfl, ?yqr1⟩) ?fqr1 ?_
              case yqr1 => (intro wq hq; go_simp; first | done | with_reducible rfl)
              case fqr1 => (go_frame; rfl)
              refine wpIn_take (i := 2) (d := (some 56)) (v := ?vqr2) (a' := ?aqr2) rfl rfl (by kernel_rfl) (by kernel_rfl) (by kernel_rfl) (fun _ _ _ h => h) (Or.inl ⟨by rfl, ?yqr2⟩) ?fqr2 ?_
              case yqr2 => (intro wq hq; go_simp; first | done | with_reducible rfl)
              case fqr2 => (go_frame; rfl)
              refine wpIn_take (i := 3) (d := (some 57)) (v := ?vqr3) (a' := ?aqr3) rfl rfl (by kernel_rfl) (by kernel_rfl) (by kernel_rfl) (fun _ _ _ h => h) (Or.inl ⟨by rfl, ?yqr3⟩) ?fqr3 ?_
              case yqr3 => (intro wq hq; obtain ⟨f1, f2, f3, f4⟩ := HF.out wq hq; go_simp; first | done | with_reducible rfl)
              case fqr3 => (go_frame; rfl)
              refine wpIn_take (i := 4) (d := (some 58)) (v := ?vqr4) (a' := ?aqr4) rfl rfl (by kernel_rfl) (by kernel_rfl) (by kernel_rfl) (fun _ _ _ h => h) (Or.inl ⟨by rfl, ?yqr4⟩) ?fqr4 ?_
              case yqr4 => (intro wq hq; go_simp; first | done | with_reducible rfl)
              case fqr4 => (go_frame; rfl)
              refine wpIn_take (i := 5) (d := (some 59)) (v := ?vqr5) (a' := ?aqr5) rfl rfl (by kernel_rfl) (by kernel_rfl) (by kernel_rfl) (fun _ _ _ h => h) (Or.inl ⟨by rfl, ?yqr5⟩) ?fqr5 ?_
              case yqr5 => (intro wq hq; go_simp; first | done | with_reducible rfl)
              case fqr5 => (go_frame; rfl)
              refine wpIn_take (i := 6) (d := (some 60)) (v := ?vqr6) (a' := ?aqr6) rfl rfl (by kernel_rfl) (by kernel_rfl) (by kernel_rfl) (fun _ _ _ h => h) (Or.inl ⟨by rfl, ?yqr6⟩) ?fqr6 ?_
              case yqr6 => (intro wq hq; go_simp; first | done | with_reducible rfl)
              case fqr6 => (go_frame; rfl)
              refine wpIn_take (i := 7) (d := (some 61)) (v := ?vqr7) (a' := ?aqr7) rfl rfl (by kernel_rfl) (by kernel_rfl) (by kernel_rfl) (fun _ _ _ h => h) (Or.inl ⟨by rfl, ?yqr7⟩) ?fqr7 ?_
              case yqr7 => (intro wq hq; obtain ⟨f1, f2, f3, f4⟩ := HF.out wq hq; go_simp; first | done | with_reducible rfl)
              case fqr7 => (go_frame; rfl)
              refine wpIn_take (i := 8) (d := (some 62)) (v := ?vqr8) (a' := ?aqr8) rfl rfl (by kernel_rfl) (by kernel_rfl) (by kernel_rfl) (fun _ _ _ h => h) (Or.inl ⟨by rfl, ?yqr8⟩) ?fqr8 ?_
              case yqr8 => (intro wq hq; go_simp; first | done | with_reducible rfl)
              case fqr8 => (go_frame; rfl)
              refine wpIn_take (i := 9) (d := (some 63)) (v := ?vqr9) (a' := ?aqr9) rfl rfl (by kernel_rfl) (by kernel_rfl) (by kernel_rfl) (fun _ _ _ h => h) (Or.inl ⟨by rfl, ?yqr9⟩) ?fqr9 ?_
              case yqr9 => (intro wq hq; go_simp; first | done | with_reducible rfl)
              case fqr9 => (go_frame; rfl)
              refine wpIn_take (i := 10) (d := (some 64)) (v := ?vqr10) (a' := ?aqr10) rfl rfl (by kernel_rfl) (by kernel_rfl) (by kernel_rfl) (fun _ _ _ h => h) (Or.inl ⟨by rfl, ?yqr10⟩) ?fqr10 ?_
              case yqr10 => (intro wq hq; go_simp; first | done | with_reducible rfl)
              case fqr10 => (go_frame; rfl)
              refine wpIn_take (i := 11) (d := (some 65)) (v := ?vqr11) (a' := ?aqr11) rfl rfl (by kernel_rfl) (by kernel_rfl) (by kernel_rfl) (fun _ _ _ h => h) (Or.inl ⟨by rfl, ?yqr11⟩) ?fqr11 ?_
              case yqr11 => (intro wq hq; go_simp; first | done | with_reducible rfl)
              case fqr11 => (go_frame; rfl)
              refine wpIn_take (i := 12) (d := (some 66)) (v := ?vqr12) (a' := ?aqr12) rfl rfl (by kernel_rfl) (by kernel_rfl) (by kernel_rfl) (fun _ _ _ h => h) (Or.inl ⟨by rfl, ?yqr12⟩) ?fqr12 ?_
              case yqr12 => (intro wq hq; obtain ⟨f1, f2, f3, f4⟩ := HF.out wq hq; go_simp; first | done | with_reducible rfl)
              case fqr12 => (go_frame; rfl)
              refine wpIn_take (i := 13) (d := (some 67)) (v := ?vqr13) (a' := ?aqr13) rfl rfl (by kernel_rfl) (by kernel_rfl) (by kernel_rfl) (fun _ _ _ h => h) (Or.inl ⟨by rfl, ?yqr13⟩) ?fqr13 ?_
              case yqr13 => (intro wq hq; go_simp; first | done | with_reducible rfl)
              case fqr13 => (go_frame; rfl)
              refine wpIn_take (i := 14) (d := (some 68)) (v := ?vqr14) (a' := ?aqr14) rfl rfl (by kernel_rfl) (by kernel_rfl) (by kernel_rfl) (fun _ _ _ h => h) (Or.inl ⟨by rfl, ?yqr14⟩) ?fqr14 ?_
              case yqr14 => (intro wq hq; go_simp; first | done | with_reducible rfl)
              case fqr14 => (go_frame; rfl)
              refine wpIn_take (i := 15) (d := (some 69)) (v := ?vqr15) (a' := ?aqr15) rfl rfl (by kernel_rfl) (by kernel_rfl) (by kernel_rfl) (fun _ _ _ h => h) (Or.inl ⟨by rfl, ?yqr15⟩) ?fqr15 ?_
              case yqr15 => (intro wq hq; go_simp; first | done | with_reducible rfl)
              case fqr15 => (go_frame; rfl)
              refine wpIn_take (i := 16) (d := (some 70)) (v := ?vqr16) (a' := ?aqr16) rfl rfl (by kernel_rfl) (by kernel_rfl) (by kernel_rfl) (fun _ _ _ h => h) (Or.inl ⟨by rfl, ?yqr16⟩) ?fqr16 ?_
              case yqr16 => (intro wq hq; obtain ⟨f1, f2, f3, f4⟩ := HF.out wq hq; go_simp; first | done | with_reducible rfl)
              case fqr16 => (go_frame; rfl)
              refine wpIn_take (i := 17) (d := (some 71)) (v := ?vqr17) (a' := ?aqr17) rfl rfl (by kernel_rfl) (by kernel_rfl) (by kernel_rfl) (fun _ _ _ h => h) (Or.inl ⟨by rfl, ?yqr17⟩) ?fqr17 ?_
              case yqr17 => (intro wq hq; go_simp; first | done | with_reducible rfl)
              case fqr17 => (go_frame; rfl)
              refine wpIn_take (i := 18) (d := (some 72)) (v := ?vqr18) (a' := ?aqr18) rfl rfl (by kernel_rfl) (by kernel_rfl) (by kernel_rfl) (fun _ _ _ h => h) (Or.inl ⟨by rfl, ?yqr18⟩) ?fqr18 ?_
              case yqr18 => (intro wq hq; go_simp; first | done | with_reducible rfl)
              case fqr18 => (go_frame; rfl)
              refine wpIn_take (i := 19) (d := (some 73)) (v := ?vqr19) (a' := ?aqr19) rfl rfl (by kernel_rfl) (by kernel_rfl) (by kernel_rfl) (fun _ _ _ h => h) (Or.inl ⟨by rfl, ?yqr19⟩) ?fqr19 ?_
              case yqr19 => (intro wq hq; go_simp; first | done | with_reducible rfl)
              case fqr19 => (go_frame; rfl)
              refine wpIn_take (i := 20) (d := (some 74)) (v := ?vqr20) (a' := ?aqr20) rfl rfl (by kernel_rfl) (by kernel_rfl) (by kernel_rfl) (fun _ _ _ h => h) (Or.inl ⟨by rfl, ?yqr20⟩) ?fqr20 ?_
              case yqr20 => (intro wq hq; go_simp; first | done | with_reducible rfl)
              case fqr20 => (go_frame; rfl)
              refine wpIn_take (i := 21) (d := (some 75)) (v := ?vqr21) (a' := ?aqr21) rfl rfl (by kernel_rfl) (by kernel_rfl) (by kernel_rfl) (fun _ _ _ h => h) (Or.inl ⟨by rfl, ?yqr21⟩) ?fqr21 ?_
              case yqr21 => (intro wq hq; go_simp; first | done | with_reducible rfl)
              case fqr21 => (go_frame; rfl)
              refine wpIn_take (i := 22) (d := (some 76)) (v := ?vqr22) (a' := ?aqr22) rfl rfl (by kernel_rfl) (by kernel_rfl) (by kernel_rfl) (fun _ _ _ h => h) (Or.inl ⟨by rfl, ?yqr22⟩) ?fqr22 ?_
              case yqr22 => (intro wq hq; go_simp; first | done | with_reducible rfl)
              case fqr22 => (go_frame; rfl)
              refine wpIn_take (i := 23) (d := (some 77)) (v := ?vqr23) (a' := ?aqr23) rfl rfl (by kernel_rfl) (by kernel_rfl) (by kernel_rfl) (fun _ _ _ h => h) (Or.inl ⟨by rfl, ?yqr23⟩) ?fqr23 ?_
              case yqr23 => (intro wq hq; go_simp; first | done | with_reducible rfl)
              case fqr23 => (go_frame; rfl)
              refine wpIn_take (i := 24) (d := (some 78)) (v := ?vqr24) (a' := ?aqr24) rfl rfl (by kernel_rfl) (by kernel_rfl) (by kernel_rfl) (fun _ _ _ h => h) (Or.inl ⟨by rfl, ?yqr24⟩) ?fqr24 ?_
              case yqr24 => (intro wq hq; obtain ⟨f1, f2, f3, f4⟩ := HF.out wq hq; go_simp; first | done | with_reducible rfl)
              case fqr24 => (go_frame; rfl)
              refine wpIn_take (i := 27) (d := (some 81)) (v := ?vqr27) (a' := ?aqr27) rfl rfl (by kernel_rfl) (by kernel_rfl) (by kernel_rfl) (fun _ _ _ h => h) (Or.inl ⟨by rfl, ?yqr27⟩) ?fqr27 ?_
              case yqr27 => (intro wq hq; go_simp; first | done | with_reducible rfl)
              case fqr27 => (go_frame; rfl)
              refine wpIn_take (i := 28) (d := (some 82)) (v := ?vqr28) (a' := ?aqr28) rfl rfl (by kernel_rfl) (by kernel_rfl) (by kernel_rfl) (fun _ _ _ h => h) (Or.inl ⟨by rfl, ?yqr28⟩) ?fqr28 ?_
              case yqr28 => (intro wq hq; go_simp; first | done | with_reducible rfl)
              case fqr28 => (go_frame; rfl)
              refine wpIn_take (i := 29) (d := (some 83)) (v := ?vqr29) (a' := ?aqr29) rfl rfl (by kernel_rfl) (by kernel_rfl) (by kernel_rfl) (fun _ _ _ h => h) (Or.inl ⟨by rfl, ?yqr29⟩) ?fqr29 ?_
              case yqr29 => (intro wq hq; go_simp; first | done | with_reducible rfl)
              case fqr29 => (go_frame; rfl)
              refine wpIn_take (i := 30) (d := (some 84)) (v := ?vqr30) (a' := ?aqr30) rfl rfl (by kernel_rfl) (by kernel_rfl) (by kernel_rfl) (fun _ _ _ h => h) (Or.inl ⟨by rfl, ?yqr30⟩) ?fqr30 ?_
              case yqr30 => (intro wq hq; obtain ⟨f1, f2, f3, f4⟩ := HF.out wq hq; go_simp; first | done | with_reducible rfl)
              case fqr30 => (go_frame; rfl)
              refine wpIn_do (i := 25) hC0 (by kernel_rfl) rfl (by rfl) ?_
              intro K hK
              go_simp
              refine hK _ _ ?_
              clear hK K
              refine wpIn_do (i := 26) hC1 (by kernel_rfl) rfl (by rfl) ?_
              intro K hK
              go_simp
              go_wp2_with (go_at_call 14; refine (digest_text htd hconv hsk (by omega)).mono ?_; rintro e w2 ⟨rfl, ht2, hg2⟩)
              rw [HADD.out] at ht2
              have hC2 : Tab w.heap.size w2 tb vv b1 b2 [] D [] ∧ wb.grownBy w2 (some b1) := ⟨ht2, hC0.2.trans hg2⟩
              have g3 : (lt (no D lk)).toList == dk.toList := by rw [HDK.out]; exact beq_self_eq_true _
              refine wpIn_take (i := 31) (d := (some 85)) (v := ?vqr31) (a' := ?aqr31) rfl rfl (by kernel_rfl) (by kernel_rfl) (by kernel_rfl) (fun _ _ _ h => h) (Or.inl ⟨by rfl, ?yqr31⟩) ?fqr31 ?_
              case yqr31 => (intro wq hq; go_simp; first | done | with_reducible rfl)
              case fqr31 => (go_frame; rfl)
              refine wpIn_take (i := 32) (d := (some 86)) (v := ?vqr32) (a' := ?aqr32) rfl rfl (by kernel_rfl) (by kernel_rfl) (by kernel_rfl) (fun _ _ _ h => h) (Or.inl ⟨by rfl, ?yqr32⟩) ?fqr32 ?_
              case yqr32 => (intro wq hq; go_simp; first | done | with_reducible rfl)
              case fqr32 => (go_frame; rfl)
              refine wpIn_done hC2 (by kernel_rfl) ?_ _
              go_wp2
              go_roundw
              case rel => exact ⟨k + 1, by omega, by go_num, hC2.1, hC2.2⟩
              case measure => simp [intOf]; omega
            · obtain rfl : k = L.length := by omega
              go_wp2
              go_roundw
              case rel => exact ⟨i + 1, by omega, by go_num, htk, hgk⟩
              case measure => simp [intOf]; omega
        · obtain rfl : i = L.length := by omega
          go_wp2_with (go_at_call 12; refine (awake_any _).mono ?_; rintro e w3 ⟨rfl, hb3⟩)
          go_ret
          have hbi := hb.trans (ht.under1 hgi)
          exact ⟨rfl, hbi.trans (hb3.mono hbi.size)⟩
end Go.Proofs.Ytjgogmlmcebgpaa

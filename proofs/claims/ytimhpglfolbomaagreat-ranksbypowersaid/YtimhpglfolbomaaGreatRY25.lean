/-
  Rows of rows and of ranks that a call builds, one after another.
  The statements' own helpers: few, same, at.
  The document's has and ready.
  The document's Linear, by the same contract.
-/
import Derived.Test.YtimhpglfolbomaaGreatRY24
set_option maxRecDepth 100000
set_option maxHeartbeats 16000000
namespace Go.Proofs.YtimhpglfolbomaaGreat.Od
open Go.RowKit Go.Maps
def slV (s : Option Addr × Nat × Nat) : Value := .slice s.1 s.2.1 s.2.2
theorem slV_one (s : Option Addr × Nat × Nat) : (slV s).oneCell' = true := rfl
structure Bw (B : Nat) (w : World) (bv rv : Value) (vs : List (Option Addr × Nat × Nat)) (rows : List (List Int)) (rs : List Int) : Prop where
 len : vs.length = rows.length
 brow : w.ownsRow B 28 1 bv vs.length (vs.map slV)
 cells : ∀ j, j < rows.length → (vs.getD j (none, 0, 0)).2.1 = (rows.getD j []).length ∧ RdI (fun k => B ≤ k ∧ k < w.heap.size ∧ bv.ownBlock ≠ some k ∧ rv.ownBlock ≠ some k) w (vs.getD j (none, 0, 0)).1 (vs.getD j (none, 0, 0)).2.2 (rows.getD j [])
 rrow : w.ownsRow B 2 1 rv rs.length (rs.map (Value.int .i64))
 apart : ∀ k, bv.ownBlock = some k → rv.ownBlock ≠ some k
theorem Bw.nil (B : Nat) (w : World) : Bw B w (.slice none 0 0) (.slice none 0 0) [] [] [] := ⟨rfl, World.ownsRow_nil _ _ _ _, fun j hj => absurd hj (by simp), World.ownsRow_nil _ _ _ _, by simp [Value.ownBlock]⟩
theorem getD_snoc {α : Type} (l : List α) (x d : α) (j : Nat) : (l ++ [x]).getD j d = if j < l.length then l.getD j d else if j = l.length then x else d := by
 simp only [List.getD_eq_getElem?_getD]
 split
 · rename_i h; rw [List.getElem?_append_left h]
 · rename_i h
   split
   · rename_i h'; subst h'; simp
   · rw [List.getElem?_eq_none (by simp; omega)]; rfl
section
variable {B : Nat} {w w1 w2 : World} {bv rv : Value} {vs : List (Option Addr × Nat × Nat)} {rows : List (List Int)} {rs : List Int}
theorem Bw.row {lv bv' : Value} {l : List Int} {tr : Option Addr × Nat × Nat} (h : Bw B w bv rv vs rows rs) (hB : B ≤ w.heap.size) (hb : Below w.heap.size w w1) (hl : w1.ownsRow w.heap.size 3 1 lv l.length (l.map (Value.int .i64))) (htr : lv = slV tr)
    (ho : w2.ownsRow B 28 1 bv' (vs ++ [tr]).length ((vs ++ [tr]).map slV)) (hk : Keep (bv.ownBlock = some ·) w1 w2) (hlo : bv'.ownBlock = bv.ownBlock ∨ ∀ k, bv'.ownBlock = some k → w1.heap.size ≤ k) : Bw B w2 bv' rv (vs ++ [tr]) (rows ++ [l]) rs := by
 have hz := hb.size
 have hz2 := hk.size
 have hnew : ∀ k, k < w1.heap.size → bv.ownBlock ≠ some k → bv'.ownBlock ≠ some k := by
  intro k h1 h2 e
  rcases hlo with h' | h'
  · exact h2 (h'.symm.trans e)
  · have := h' k e; omega
 refine ⟨by simp [h.len], ho, fun j hj => ?_, ?_, fun k hk' e => ?_⟩
 · rw [getD_snoc, getD_snoc, h.len]
   simp only [List.length_append, List.length_singleton] at hj
   by_cases hj' : j < rows.length
   · rw [if_pos hj', if_pos hj']
     obtain ⟨e1, r1⟩ := h.cells j hj'
     refine ⟨e1, r1.carry (fun k hk' => ?_) fun k hk' => ⟨hk'.1, by omega, hnew k (by omega) hk'.2.2.1, hk'.2.2.2⟩⟩
     rw [hk.block k (by omega) hk'.2.2.1]
     exact hb.block k hk'.2.1
   · rw [if_neg hj', if_pos (by omega), if_neg hj', if_pos (by omega)]
     subst htr
     obtain ⟨q, cq, e, hr⟩ := own_rd hl
     unfold slV at e
     simp only [Value.slice.injEq] at e
     obtain ⟨e1, e2, e3⟩ := e
     have hbn : ∀ k, (slV tr).ownBlock = some k → bv.ownBlock ≠ some k := fun k e e' => by have := (hl.lt k e).1; have := (h.brow.lt k e').2; omega
     refine ⟨e2, ?_⟩
     rw [e1, e3]
     refine hr.carry (fun k hk' => hk.block k (hl.lt k hk').2 (hbn k hk')) fun k hk' => ⟨by have := (hl.lt k hk').1; omega, by have := (hl.lt k hk').2; omega, hnew k (hl.lt k hk').2 (hbn k hk'), fun e => ?_⟩
     have := (hl.lt k hk').1
     have := (h.rrow.lt k e).2
     omega
 · refine own_same h.rrow fun k hk' => ?_
   have := (h.rrow.lt k hk').2
   rw [hk.block k (by omega) (fun e => h.apart k e hk')]
   exact hb.block k this
 · have := (h.rrow.lt k e).2
   exact hnew k (by omega) (fun e' => h.apart k e' e) hk'
theorem Bw.rank {rv' : Value} {x : Int} (h : Bw B w bv rv vs rows rs) (ho : w2.ownsRow B 2 1 rv' (rs ++ [x]).length ((rs ++ [x]).map (Value.int .i64))) (hk : Keep (rv.ownBlock = some ·) w w2) (hlo : rv'.ownBlock = rv.ownBlock ∨ ∀ k, rv'.ownBlock = some k → w.heap.size ≤ k) : Bw B w2 bv rv' vs rows (rs ++ [x]) := by
 have hz2 := hk.size
 have hnew : ∀ k, k < w.heap.size → rv.ownBlock ≠ some k → rv'.ownBlock ≠ some k := by
  intro k h1 h2 e
  rcases hlo with h' | h'
  · exact h2 (h'.symm.trans e)
  · have := h' k e; omega
 refine ⟨h.len, own_same h.brow (Same.of_keep hk fun k e => ⟨(h.brow.lt k e).2, h.apart k e⟩), fun j hj => ?_, ho, fun k hk' => hnew k (h.brow.lt k hk').2 (h.apart k hk')⟩
 obtain ⟨e1, r1⟩ := h.cells j hj
 exact ⟨e1, r1.carry (fun k hk' => hk.block k hk'.2.1 hk'.2.2.2) fun k hk' => ⟨hk'.1, by omega, hk'.2.2.1, hnew k hk'.2.1 hk'.2.2.2⟩⟩
theorem Bw.read (h : Bw B w bv rv vs rows rs) : ∃ q c q' c', bv = .slice q rows.length c ∧ rv = .slice q' rs.length c' ∧ RdR (· < w.heap.size) w q c rows ∧ RdI (· < w.heap.size) w q' c' rs := by
 obtain ⟨q', c', hr, hrr⟩ := own_rd h.rrow
 obtain ⟨q, c, hv, hrd⟩ := own_rd h.brow
 refine ⟨q, c, q', c', by rw [hv, h.len], hr, ⟨by have := hrd.1; rw [h.len] at this; exact this, fun j hj => ?_⟩, hrr.carry (fun _ _ => rfl) fun k e => (h.rrow.lt k e).2⟩
 obtain ⟨e1, r1⟩ := h.cells j hj
 have hjv : j < vs.length := by rw [h.len]; exact hj
 obtain ⟨b, o, hq, hO, hc⟩ := hrd.2 (by intro e; rw [e] at hjv; simp at hjv)
 refine ⟨b, o, _, _, hq, (h.brow.lt b hO).2, ?_, r1.carry (fun _ _ => rfl) fun k hk => hk.2.1⟩
 rw [hc j (vs.getD j (none, 0, 0)) (by rw [List.getElem?_eq_getElem hjv, getD_in hjv]), ← e1]
 rfl
end
theorem hasO_any {O : Nat → Prop} (x : Int) (l : List Int) (p : Option Addr) (c : Nat) (w : World) (r : RdI O w p c l) (hl : l.length ≤ 1000000) :
    Calls Tryz.prog 85 #[.int .i64 x, .slice p l.length c] w fun e w' => e = .returned (.bool (decide (x ∈ l))) ∧ w = w' := by
 obtain ⟨n, hn⟩ : ∃ n, l.length = n := ⟨_, rfl⟩
 have HN : Hid (l.length = n) := hn
 rw [hn] at hl ⊢
 clear hn
 go_enter Tryz.func85, Tryz.ntmps85
 go_wp2
 go_loopw [5] (fun i wr => ∃ k : Nat, k ≤ n ∧ i = .int .i64 k ∧ wr = w ∧ Hid (x ∉ l.take k)) (fun i _ => n - (intOf i).toNat)
 case atStart => exact ⟨0, Nat.zero_le _, rfl, rfl, by show _ ∉ _; simp⟩
 case round =>
  obtain ⟨k, hk, rfl, rfl, HA⟩ := hrel
  by_cases hlt : k < n
  · have hkl : k < l.length := by rw [HN.out]; exact hlt
    obtain ⟨ad, rfl, _, hc⟩ := r.at k 0 hkl
    have HT : Hid (l.take (k + 1) = l.take k ++ [l.getD k 0]) := take_snoc l k 0 hkl
    have HM : Hid (l.getD k 0 ∈ l) := getD_inm hkl
    generalize l.getD k 0 = y at *
    by_cases e : y = x
    · subst e
      go_wp2
      go_ret
      exact ⟨ret_bool (decide_eq_true HM.out).symm, rfl⟩
    · have e' : (y == x) = false := by simpa using e
      go_wp2
      go_roundw
      case rel => exact ⟨k + 1, by omega, by go_num, by first | rfl | trivial, by show _ ∉ _; rw [HT.out, List.mem_append, List.mem_singleton]; exact fun h => h.elim HA.out fun h => e h.symm⟩
      case measure => simp [intOf]; omega
  · obtain rfl : k = n := by omega
    have HF : Hid (x ∉ l) := by have := HA.out; rw [← HN.out, List.take_length] at this; exact this
    go_wp2
    go_ret
    exact ⟨ret_bool (decide_eq_false HF.out).symm, rfl⟩
theorem ready_any {O : Nat → Prop} (q l : List Int) (p p' : Option Addr) (c c' : Nat) (w : World) (r : RdI O w p c q) (r' : RdI O w p' c' l) (hq : q.length ≤ 1000000) (hl : l.length ≤ 1000000) :
    Calls Tryz.prog 86 #[.slice p q.length c, .slice p' l.length c'] w fun e w' => e = .returned (.bool (decide (∀ x ∈ q, x ∈ l))) ∧ w = w' := by
 have HH : Hid (∀ x, _) := fun x => hasO_any x l p' c' w r' hl
 obtain ⟨n, hn⟩ : ∃ n, q.length = n := ⟨_, rfl⟩
 have HN : Hid (q.length = n) := hn
 rw [hn] at hq ⊢
 clear hn r'
 go_enter Tryz.func86, Tryz.ntmps86
 go_wp2
 go_loopw [5] (fun i wr => ∃ k : Nat, k ≤ n ∧ i = .int .i64 k ∧ wr = w ∧ Hid (∀ x ∈ q.take k, x ∈ l)) (fun i _ => n - (intOf i).toNat)
 case atStart => exact ⟨0, Nat.zero_le _, rfl, rfl, by show ∀ _ ∈ _, _; simp⟩
 case round =>
  obtain ⟨k, hk, rfl, rfl, HA⟩ := hrel
  by_cases hlt : k < n
  · have hkl : k < q.length := by rw [HN.out]; exact hlt
    obtain ⟨ad, rfl, _, hc⟩ := r.at k 0 hkl
    have HT : Hid (q.take (k + 1) = q.take k ++ [q.getD k 0]) := take_snoc q k 0 hkl
    have HM : Hid (q.getD k 0 ∈ q) := getD_inm hkl
    generalize q.getD k 0 = y at *
    have hh := HH.out y
    by_cases e : y ∈ l
    · have HE : Hid (y ∈ l) := e
      rw [decide_eq_true e] at hh
      clear e
      go_wp2_with (first
       | (go_at_call 85; refine hh.mono ?_; rintro e w' ⟨rfl, rfl⟩))
      go_roundw
      case rel =>
       refine ⟨k + 1, by omega, by go_num, by first | rfl | trivial, fun z hz => ?_⟩
       rw [HT.out, List.mem_append, List.mem_singleton] at hz
       exact hz.elim (HA.out z) fun h => h ▸ HE.out
      case measure => simp [intOf]; omega
    · have HE : Hid (¬ ∀ x ∈ q, x ∈ l) := fun h => e (h y HM.out)
      rw [decide_eq_false e] at hh
      clear e
      go_wp2_with (first
       | (go_at_call 85; refine hh.mono ?_; rintro e w' ⟨rfl, rfl⟩))
      go_ret
      exact ⟨ret_bool (decide_eq_false HE.out).symm, rfl⟩
  · obtain rfl : k = n := by omega
    have HF : Hid (∀ x ∈ q, x ∈ l) := by have := HA.out; rw [← HN.out, List.take_length] at this; exact this
    go_wp2
    go_ret
    exact ⟨ret_bool (decide_eq_true HF.out).symm, rfl⟩
theorem same_drewN (O : Nat → Prop) (w : World) (n : Nat) : Same O w (w.drewN n) := fun _ _ => rfl
theorem has_quiet {O : Nat → Prop} (x : Int) (l : List Int) (p : Option Addr) (c : Nat) (w : World) (r : RdI O w p c l) (hl : l.length ≤ 1000000) (n : Nat) :
    Calls Tryz.prog 85 #[.int .i64 x, .slice p l.length c] (w.drewN n) fun e w' => e = .returned (.bool (decide (x ∈ l))) ∧ w' = w.drewN n :=
 (hasO_any x l p c (w.drewN n) (r.same (same_drewN O w n)) hl).mono fun _ _ h => ⟨h.1, h.2.symm⟩
theorem ready_quiet {O : Nat → Prop} (q l : List Int) (p p' : Option Addr) (c c' : Nat) (w : World) (r : RdI O w p c q) (r' : RdI O w p' c' l) (hq : q.length ≤ 1000000) (hl : l.length ≤ 1000000) (n : Nat) :
    Calls Tryz.prog 86 #[.slice p q.length c, .slice p' l.length c'] (w.drewN n) fun e w' => e = .returned (.bool (decide (∀ x ∈ q, x ∈ l))) ∧ w' = w.drewN n :=
 (ready_any q l p p' c c' (w.drewN n) (r.same (same_drewN O w n)) (r'.same (same_drewN O w n)) hq hl).mono fun _ _ h => ⟨h.1, h.2.symm⟩
def bestV : Option Nat → Int
 | none => -1
 | some b => b
theorem best_no {Q : List (List Nat)} {R : List Int} {T : List Nat} {i : Nat} (h : ¬ Rdy Q T i) : bestTo Q R T (i + 1) = bestTo Q R T i := by
 rw [bestTo]
 cases bestTo Q R T i with
 | none => simp only; rw [if_neg h]
 | some b => simp only; rw [if_neg fun h' => h h'.1]
theorem best_first {Q : List (List Nat)} {R : List Int} {T : List Nat} {i : Nat} (h : Rdy Q T i) (hb : bestTo Q R T i = none) : bestTo Q R T (i + 1) = some i := by
 rw [bestTo, hb]
 simp only
 rw [if_pos h]
theorem best_less {Q : List (List Nat)} {R : List Int} {T : List Nat} {i b : Nat} (h : Rdy Q T i) (hb : bestTo Q R T i = some b) (hr : rk R i < rk R b) : bestTo Q R T (i + 1) = some i := by
 rw [bestTo, hb]
 simp only
 rw [if_pos ⟨h, hr⟩]
theorem best_more {Q : List (List Nat)} {R : List Int} {T : List Nat} {i b : Nat} (hb : bestTo Q R T i = some b) (hr : ¬ rk R i < rk R b) : bestTo Q R T (i + 1) = some b := by
 rw [bestTo, hb]
 simp only
 rw [if_neg fun h => hr h.2]
theorem rdy_zs {Q : List (List Nat)} {T : List Nat} {i : Nat} : (∀ x ∈ zs (par Q i), x ∈ zs T) ↔ ∀ p ∈ par Q i, p ∈ T := by
 constructor
 · intro h p hp
   exact (zs_mem _ _).1 (h p ((zs_mem _ _).2 hp))
 · intro h x hx
   obtain ⟨p, hp, rfl⟩ := List.mem_map.1 hx
   exact (zs_mem _ _).2 (h p hp)
theorem rlinear_len (P : List (List Int)) (R : List Int) (p rp : Option Addr) (c rc : Nat) (w : World) (hne : R.length ≠ P.length) (_hP : P.length ≤ 1000) (_hR : R.length ≤ 1000) :
    Calls Tryz.prog 52 #[.slice p P.length c, .slice rp R.length rc] w (LinP (linP P R) w) := by
 rw [linP_len hne]
 generalize P.length = n at *
 generalize R.length = m at *
 have hne' : ((m : Int) == (n : Int)) = false := by rw [beq_eq_false_iff_ne]; omega
 go_enter Tryz.func52, Tryz.ntmps52
 go_wp2
 go_ret2
 exact ⟨_, rfl, World.ownsRow_nil _ _ _ _, Below.refl _ _⟩
theorem rlinear_eq (P : List (List Int)) (R : List Int) (p rp : Option Addr) (c rc : Nat) (w : World) (he : R.length = P.length) (r : RdR (· < w.heap.size) w p c P) (rr : RdI (· < w.heap.size) w rp rc R) (hP : P.length ≤ 900) (hl : ∀ x ∈ P, x.length ≤ 1000) :
    Calls Tryz.prog 52 #[.slice p P.length c, .slice rp R.length rc] w (LinP (linP P R) w) := by
 have HL : Hid (∀ x ∈ P, x.length ≤ 1000) := hl
 have HE : Hid (R.length = P.length) := he
 rw [he]
 obtain ⟨n, hn⟩ : ∃ n, P.length = n := ⟨_, rfl⟩
 have HN : Hid (P.length = n) := hn
 have HI : Hid (insB n P = false → linP P R = none) := fun h => linP_ins (by rw [hn]; exact h)
 have HIt : Hid (insB n P = true → linP P R = lin (toQ P) R) := fun h => linP_ok HE.out (by rw [hn]; exact h)
 rw [hn] at hP ⊢
 obtain ⟨B, hB⟩ : ∃ B, w.heap.size = B := ⟨_, rfl⟩
 have HB : Hid (w.heap.size = B) := hB
 rw [hB] at r rr
 clear hn he hl hB
 go_enter Tryz.func52, Tryz.ntmps52
 go_wp2
 go_loopw [7] (fun i wr => ∃ k : Nat, k ≤ n ∧ i = .int .i64 k ∧ wr = w ∧ Hid ((P.take k).all (rowB n) = true)) (fun i _ => n - (intOf i).toNat)
 case atStart => exact ⟨0, Nat.zero_le _, rfl, rfl, by show _ = _; simp⟩
 case round =>
  obtain ⟨k, hk, rfl, rfl, HA⟩ := hrel
  by_cases hlt : k < n
  · obtain ⟨ad, p1, c1, rfl, _, hcell, hr⟩ := r.at k (by rw [HN.out]; exact hlt)
    have hrl := HL.out _ (getD_inm (l := P) (j := k) (d := []) (by rw [HN.out]; exact hlt))
    have HT := all_next (rowB n) P k [] (by rw [HN.out]; exact hlt)
    have HB1 : Hid (rowB n (P.getD k []) = false → insB n P = false) := fun h => all_bad (by rw [HN.out]; exact hlt) h
    rw [HA.out, Bool.true_and] at HT
    have HT' : Hid _ := HT
    clear HT HA
    generalize P.getD k [] = row at *
    go_wp2
    go_loopw [8] (fun i wx => ∃ j : Nat, j ≤ row.length ∧ i = .int .i64 j ∧ wx = wr ∧ Hid ((row.take j).all (fun p => decide (0 ≤ p ∧ p < (n : Int))) = true)) (fun i _ => row.length - (intOf i).toNat)
    case atStart => exact ⟨0, Nat.zero_le _, rfl, rfl, by show _ = _; simp⟩
    case round =>
     obtain ⟨j, hj, rfl, rfl, HA⟩ := hrel
     by_cases hjt : j < row.length
     · obtain ⟨ad, rfl, _, hc1⟩ := hr.at j 0 hjt
       have HT2 : Hid _ := all_next (fun p => decide (0 ≤ p ∧ p < (n : Int))) row j 0 hjt
       have HB2 : Hid ((decide (0 ≤ row.getD j 0 ∧ row.getD j 0 < (n : Int))) = false → rowB n row = false) := fun h => all_bad (d := 0) hjt h
       generalize row.getD j 0 = x at *
       by_cases h0 : x < 0
       · have d0 : decide (x < 0) = true := decide_eq_true h0
         have HF : Hid (linP P R = none) := HI.out (HB1.out (HB2.out (by simp; omega)))
         go_wp2
         go_ret2
         exact ⟨_, by rw [HF.out]; rfl, by rw [HF.out]; exact World.ownsRow_nil _ _ _ _, Below.refl _ _⟩
       · have d0 : decide (x < 0) = false := decide_eq_false h0
         by_cases h1 : (n : Int) ≤ x
         · have HF : Hid (linP P R = none) := HI.out (HB1.out (HB2.out (by simp; omega)))
           go_wp2
           go_ret2
           exact ⟨_, by rw [HF.out]; rfl, by rw [HF.out]; exact World.ownsRow_nil _ _ _ _, Below.refl _ _⟩
         · go_wp2
           go_roundw
           case rel => exact ⟨j + 1, by omega, by go_num, by first | rfl | trivial, by show _ = _; rw [HT2.out, HA.out]; simp; omega⟩
           case measure => simp [intOf]; omega
     · obtain rfl : j = row.length := by omega
       rw [List.take_length] at HA
       go_wp2
       go_roundw
       case rel => exact ⟨k + 1, by omega, by go_num, by first | rfl | trivial, HT'.out.trans HA.out⟩
       case measure => simp [intOf]; omega
  · obtain rfl : k = n := by omega
    have hins : insB k P = true := by
     have := HA.out
     rw [← HN.out, List.take_length] at this
     rw [← HN.out]
     exact this
    have HF : Hid (linP P R = lin (toQ P) R) := HIt.out hins
    have hq := toQ_zs hins
    have HPl : Hid (∀ i, (par (toQ P) i).length ≤ 1000) := par_len hins HL.out
    have hQl := toQ_len P
    rw [HN.out] at hQl
    have HQl : Hid ((toQ P).length = k) := hQl
    rw [← hq] at r
    clear hq hQl hlt HA hins HI HIt HL
    generalize toQ P = Q at *
    have HR : Hid (RdR (· < B) wr p c (Q.map zs)) := r
    have HRR : Hid (RdI (· < B) wr rp rc R) := rr
    clear r rr
    obtain ⟨w0, hw0⟩ : ∃ w0, wr = w0 := ⟨_, rfl⟩
    have HW0 : Hid (wr = w0) := hw0
    have hb0 : Below B w0 wr := by rw [hw0]; exact Below.refl _ _
    rw [hw0] at HR HRR HB
    have HG : Hid (LinP (linP P R) wr = LinP (lin Q R) w0) := by show _ = _; rw [hw0, HF.out]
    clear hw0 HF
    go_wp2
    go_loopw [9] (fun tv wx => ∃ T : List Nat, wx.ownsRow B 3 1 tv (zs T).length ((zs T).map (Value.int .i64)) ∧ Below B w0 wx ∧ T.length ≤ k ∧ Hid (lin Q R = linTo Q R (k - T.length) T)) (fun tv _ => k - lenV tv)
    case atStart => exact ⟨[], World.ownsRow_nil _ _ _ _, hb0, Nat.zero_le _, by show _ = _; rw [← HQl.out]; rfl⟩
    case round =>
     clear hb0
     obtain ⟨T, hown, hbl, hTk, HLn⟩ := hrel
     obtain ⟨q, cq, htv, hrd⟩ := own_rd hown
     rw [zs_len] at htv
     subst htv
     by_cases hT : T.length < k
     · have HRD : Hid (∀ wx, wx.heap = wr.heap → RdI (· < wr.heap.size) wx q cq (zs T)) := fun wx hx => (hrd.carry (fun _ _ => by rw [hx]) fun k e => (hown.lt k e).2)
       have hzl : (zs T).length ≤ 1000000 := by rw [zs_len]; omega
       have HS1 : Hid (∀ b, bestTo Q R T k = some b → lin Q R = linTo Q R (k - (T.length + 1)) (T ++ [b])) := fun b hb => by
        rw [HLn.out, show k - T.length = k - (T.length + 1) + 1 by omega, linTo_step (by rw [HQl.out]; exact hb)]
       have HS2 : Hid (bestTo Q R T k = none → lin Q R = none) := fun hb => by
        rw [HLn.out, show k - T.length = k - (T.length + 1) + 1 by omega, linTo_stuck (by rw [HQl.out]; exact hb)]
       obtain ⟨w5, hw5⟩ : ∃ w5, wr = w5 := ⟨_, rfl⟩
       have HW5 : Hid (wr = w5) := hw5
       rw [hw5] at hown hbl HRD hrd
       clear HLn hw5 hrd
       go_wp2
       go_loopw [10, 11] (fun bv iv wx => ∃ (i : Nat) (bo : Option Nat), i ≤ k ∧ iv = .int .i64 i ∧ bv = .int .i64 (bestV bo) ∧ wx.heap = w5.heap ∧ Keep (fun _ => False) w5 wx ∧ Hid (bestTo Q R T i = bo)) (fun _ iv _ => k - (intOf iv).toNat)
       case atStart => exact ⟨0, none, Nat.zero_le _, rfl, rfl, by rw [HW5.out], by rw [HW5.out]; exact Keep.refl _ _, rfl⟩
       case round =>
        obtain ⟨i, bo, hi, rfl, rfl, hhp, hkp, HBt⟩ := hrel
        have HHP : Hid (wr.heap = w5.heap) := hhp
        have hk1 : ∀ (wx : World) (k : Nat), Keep (fun _ => False) w5 wx → Keep (fun _ => False) w5 (wx.drewN k) := fun wx k h => ⟨h.os, h.tape, h.output, h.size, h.block⟩
        clear hhp
        by_cases hik : i < k
        · have hS : Same (· < B) w0 wr := fun j hj => by rw [HHP.out]; exact hbl.block j hj
          obtain ⟨ad, p1, c1, rfl, _, hcell, hr⟩ := (HR.out.carry hS fun _ h => h).at i (by rw [List.length_map, HQl.out]; exact hik)
          rw [rows_at] at hcell hr
          rw [zs_len] at hcell
          have hpl := HPl.out i
          have hBs : B ≤ wr.heap.size := by have := hbl.size; rw [HB.out] at this; rw [HHP.out]; exact this
          have HHs : Hid (∀ n, _) := has_quiet (i : Int) (zs T) q cq wr (HRD.out wr HHP.out) hzl
          have HRy : Hid (∀ n, _) := ready_quiet (zs (par Q i)) (zs T) p1 q c1 cq wr (hr.carry (fun _ _ => rfl) fun j hj => by rw [← HHP.out]; omega) (HRD.out wr HHP.out) (by rw [zs_len]; omega) hzl
          rw [zs_len] at HHs HRy
          rw [zs_len] at HRy
          have HNo : Hid (¬ Rdy Q T i → bestTo Q R T (i + 1) = bo) := fun h => (best_no h).trans HBt.out
          clear hr hS
          by_cases h1 : i ∈ T
          · have HN1 : Hid (bestTo Q R T (i + 1) = bo) := HNo.out fun h => h.1 h1
            rw [decide_eq_true ((zs_mem _ _).2 h1)] at HHs
            clear HNo HRy h1
            go_wp2_with fail
            go_quiet ((go_at_call 85; exact Calls.quiet_of_same (HHs.out _)))
            go_wp2_with fail
            go_roundw
            case rel => exact ⟨i + 1, bo, by omega, by go_num, rfl, HHP.out, hk1 _ _ hkp, HN1⟩
            case measure => simp [intOf]; omega
          · rw [decide_eq_false (fun h => h1 ((zs_mem _ _).1 h))] at HHs
            by_cases h2 : ∀ p ∈ par Q i, p ∈ T
            · have HRdy : Hid (Rdy Q T i) := ⟨h1, h2⟩
              rw [decide_eq_true (rdy_zs.2 h2)] at HRy
              clear HNo h1 h2
              cases bo with
              | none =>
               have HN1 : Hid (bestTo Q R T (i + 1) = some i) := best_first HRdy.out HBt.out
               clear HRdy HBt
               unfold bestV
               go_wp2_with fail
               go_quiet ((first | (go_at_call 85; exact Calls.quiet_of_same (HHs.out _)) | (go_at_call 86; exact Calls.quiet_of_same (HRy.out _))))
               go_wp2_with fail
               go_roundw
               case rel => exact ⟨i + 1, some i, by omega, by go_num, rfl, HHP.out, hk1 _ _ hkp, HN1⟩
               case measure => simp [intOf]; omega
              | some b =>
               have hbk : b < i := (bestTo_some HBt.out).1
               have hRl : R.length = k := by rw [← HN.out]; exact HE.out
               have hSr : Same (· < B) w0 wr := fun j hj => by rw [HHP.out]; exact hbl.block j hj
               obtain ⟨ar, rfl, _, ci⟩ := (HRR.out.same hSr).at i 0 (by omega)
               obtain ⟨ar', e, _, cb⟩ := (HRR.out.same hSr).at b 0 (by omega)
               cases e
               have HLs : Hid (rk R i < rk R b → bestTo Q R T (i + 1) = some i) := fun h => best_less HRdy.out HBt.out h
               have HMr : Hid (¬ rk R i < rk R b → bestTo Q R T (i + 1) = some b) := fun h => best_more HBt.out h
               unfold rk at HLs HMr
               generalize R.getD i 0 = x at *
               generalize R.getD b 0 = y at *
               have hb0 : decide ((b : Int) < 0) = false := by rw [decide_eq_false_iff_not]; omega
               clear hRl hSr HRdy HBt
               unfold bestV
               by_cases hxy : x < y
               · have HN1 : Hid _ := HLs.out hxy
                 clear HLs HMr
                 go_wp2_with fail
                 go_quiet ((first | (go_at_call 85; exact Calls.quiet_of_same (HHs.out _)) | (go_at_call 86; exact Calls.quiet_of_same (HRy.out _))))
                 go_wp2_with fail
                 go_roundw
                 case rel => exact ⟨i + 1, some i, by omega, by go_num, rfl, HHP.out, hk1 _ _ hkp, HN1⟩
                 case measure => simp [intOf]; omega
               · have hxy' : decide (x < y) = false := decide_eq_false hxy
                 have HN1 : Hid _ := HMr.out hxy
                 clear HLs HMr
                 go_wp2_with fail
                 go_quiet ((first | (go_at_call 85; exact Calls.quiet_of_same (HHs.out _)) | (go_at_call 86; exact Calls.quiet_of_same (HRy.out _))))
                 go_wp2_with fail
                 go_roundw
                 case rel => exact ⟨i + 1, some b, by omega, by go_num, rfl, HHP.out, hk1 _ _ hkp, HN1⟩
                 case measure => simp [intOf]; omega
            · have HN1 : Hid (bestTo Q R T (i + 1) = bo) := HNo.out fun h => h2 h.2
              rw [decide_eq_false (fun h => h2 (rdy_zs.1 h))] at HRy
              clear HNo h1 h2
              go_wp2_with fail
              go_quiet ((first | (go_at_call 85; exact Calls.quiet_of_same (HHs.out _)) | (go_at_call 86; exact Calls.quiet_of_same (HRy.out _))))
              go_wp2_with fail
              go_roundw
              case rel => exact ⟨i + 1, bo, by omega, by go_num, rfl, HHP.out, hk1 _ _ hkp, HN1⟩
              case measure => simp [intOf]; omega
        · obtain rfl : i = k := by omega
          have hbl2 : Below B w0 wr := hbl.trans (hkp.below (by have := hbl.size; rw [HB.out] at this; omega) fun _ _ h => h)
          have hown2 : wr.ownsRow B 3 1 (.slice q T.length cq) (zs T).length ((zs T).map (Value.int .i64)) := own_same hown fun _ _ => by rw [HHP.out]
          clear hown hbl hkp hk1
          cases bo with
          | none =>
           have HF : Hid (lin Q R = none) := HS2.out HBt.out
           unfold bestV
           go_wp2
           go_ret2
           rw [HG.out]
           exact ⟨_, by rw [HF.out]; rfl, by rw [HF.out]; exact World.ownsRow_nil _ _ _ _, by rw [HB.out]; exact hbl2⟩
          | some b =>
           have HF : Hid _ := HS1.out b HBt.out
           have hbB := hbl2.size
           rw [HB.out] at hbB
           have hb0 : decide ((b : Int) < 0) = false := by rw [decide_eq_false_iff_not]; omega
           have hb1 : ¬ ((b : Int) < 0) := by omega
           unfold bestV
           go_wp2_with (first
            | (at_builtin; refine wpList_push rfl (.tmp 90) (.tmp 92) 28 3 (.int .i64 0) 8 rfl Tryz.underlying28 Tryz.info3 rfl (by decide) int_one B _ (zs T) rfl ?a0 _ (b : Int) rfl ?a1 ?a2 ?a3 ?_))
           case a0 => exact hown2.alloc _
           case a2 => omega
           case a3 => omega
           intro v' w6 ho6 hg6 _
           have ho7 : w6.ownsRow B 3 1 v' (zs (T ++ [b])).length ((zs (T ++ [b])).map (Value.int .i64)) := by
            have e2 : zs (T ++ [b]) = zs T ++ [(b : Int)] := by simp [zs]
            rw [e2, List.length_append, List.map_append]
            exact ho6
           have hb7 : Below B w0 w6 := (hbl2.alloc hbB _).grown hg6 (by simp; omega) fun k hk => (hown2.lt k hk).1
           obtain ⟨q7, c7, hv7, _⟩ := own_rd ho7
           rw [zs_len] at hv7
           have hlv : lenV v' = T.length + 1 := by rw [hv7]; simp [lenV]
           have HO7 : Hid _ := ho7
           have HLV : Hid _ := hlv
           clear ho6 hg6 ho7 hv7 hlv hown2
           go_wp2
           go_roundw
           case rel => exact ⟨T ++ [b], HO7.out, hb7, by simp; omega, by rw [List.length_append]; exact HF⟩
           case measure =>
            have := HLV.out
            simp [lenV] at this ⊢
            omega
     · have HF : Hid (lin Q R = some T) := by
         show _ = _
         rw [HLn.out, show k - T.length = 0 by omega]
         rfl
       go_wp2
       go_ret2
       rw [HG.out]
       exact ⟨_, by rw [HF.out]; rfl, by rw [HF.out, HB.out]; exact hown, by rw [HB.out]; exact hbl⟩
theorem rlinear_any (P : List (List Int)) (R : List Int) (p rp : Option Addr) (c rc : Nat) (w : World) (r : RdR (· < w.heap.size) w p c P) (rr : RdI (· < w.heap.size) w rp rc R) (hP : P.length ≤ 900) (hl : ∀ x ∈ P, x.length ≤ 1000) (hR : R.length ≤ 1000) :
    Calls Tryz.prog 52 #[.slice p P.length c, .slice rp R.length rc] w (LinP (linP P R) w) := by
 by_cases he : R.length = P.length
 · exact rlinear_eq P R p rp c rc w he r rr hP hl
 · exact rlinear_len P R p rp c rc w he (by omega) hR
end Go.Proofs.YtimhpglfolbomaaGreat.Od

/-
  The example of ranks, as the statements make it: by a contract. The rows are made in whatever order.
  The statements' own same, of ranks: by a contract.
  The examples of ranks hold: by a contract.
  How many of so many values are left (the law of events), by a contract.
  Sixteen cells that are written one by one.
  Which events are small, by a contract.
-/
import Derived.Test.YtimhpglfolbomaaGreatRY16
import Derived.Great.BuildSlice
import Derived.Great.Frames
import Derived.Laws.MakeOwn
import Derived.Deep.QuietTactic
set_option maxRecDepth 100000
set_option maxHeartbeats 16000000
namespace Go.Proofs.YtimhpglfolbomaaGreat.Od
open Go.RowKit Go.Maps
def Ob (b : Nat) (w : World) (k : Nat) : Prop := k < w.heap.size ∧ k ≠ b
theorem Ob.same {b : Nat} {w w' : World} (h : Keep (· = b) w w') : Same (Ob b w) w w' := fun k hk => h.block k hk.1 hk.2
theorem Ob.more {b : Nat} {w w' : World} (h : Keep (· = b) w w') {k : Nat} (hk : Ob b w k) : Ob b w' k := ⟨Nat.lt_of_lt_of_le hk.1 h.size, hk.2⟩
def Ft (b : Nat) : Nat → Value → World → Prop
 | 0, v, w => ∃ g, v = .slice (some ⟨g, 0, none⟩) 3 3 ∧ RdS (Ob b w) w (some ⟨g, 0, none⟩) 3 smpP.names
 | 6, v, w => ∃ g, v = .slice (some ⟨g, 0, none⟩) 3 3 ∧ RdEv (Ob b w) w (some ⟨g, 0, none⟩) 3 smpP.evs
 | 7, v, w => ∃ g, v = .slice (some ⟨g, 0, none⟩) 3 3 ∧ RdR (Ob b w) w (some ⟨g, 0, none⟩) 3 smpP.prev
 | 8, v, w => ∃ g, v = .slice (some ⟨g, 0, none⟩) 1 1 ∧ RdI (Ob b w) w (some ⟨g, 0, none⟩) 1 [0]
 | 9, v, w => ∃ g, v = .slice (some ⟨g, 0, none⟩) 1 1 ∧ RdI (Ob b w) w (some ⟨g, 0, none⟩) 1 [0]
 | 10, v, w => ∃ g, v = .slice (some ⟨g, 0, none⟩) 3 3 ∧ RdR (Ob b w) w (some ⟨g, 0, none⟩) 3 smpP.auth
 | 11, v, w => ∃ g, v = .slice (some ⟨g, 0, none⟩) 3 3 ∧ RdB (Ob b w) w (some ⟨g, 0, none⟩) 3 smpP.den
 | 12, v, w => ∃ q, v = .agg (cellsPa smpP q).toArray ∧ IsPa (Ob b w) w smpP q
 | _, _, _ => True
theorem Ft.carry {b : Nat} {v : Value} {w w' : World} (h : Keep (· = b) w w') : ∀ {k : Nat}, Ft b k v w → Ft b k v w' := by
 have hs := Ob.same h
 have hm := fun k (hk : Ob b w k) => Ob.more h hk
 intro k hf
 unfold Ft at hf ⊢
 split at hf
 · obtain ⟨g, e, r⟩ := hf; exact ⟨g, e, r.carry hs hm⟩
 · obtain ⟨g, e, r⟩ := hf; exact ⟨g, e, r.carry fun k hk => ⟨hm k hk, hs k hk⟩⟩
 · obtain ⟨g, e, r⟩ := hf; exact ⟨g, e, r.carry hs hm⟩
 · obtain ⟨g, e, r⟩ := hf; exact ⟨g, e, r.carry hs hm⟩
 · obtain ⟨g, e, r⟩ := hf; exact ⟨g, e, r.carry hs hm⟩
 · obtain ⟨g, e, r⟩ := hf; exact ⟨g, e, r.carry hs hm⟩
 · obtain ⟨g, e, r⟩ := hf; exact ⟨g, e, r.carry hs hm⟩
 · obtain ⟨g, e, r⟩ := hf; exact ⟨g, e, r.carry fun k hk => ⟨hm k hk, hs k hk⟩⟩
 · trivial
def opS : List (Nat × Nat) := [(0, 3), (6, 9), (7, 10), (8, 11), (9, 12), (10, 13), (11, 14), (12, 15)]
theorem opS_one {k s k' s' : Nat} (h : (k, s) ∈ opS) (h' : (k', s') ∈ opS) (hs : s = s') : k = k' := by
 simp [opS] at h h'; omega
structure SmpJ (W : World) (b : Nat) (l : Array Bool) (a : Act) (w : World) : Prop where
 size : l.size = 14
 tm : a.tmps.size = 16
 df : a.defers = []
 pure : ∀ k, 1 ≤ k → k ≤ 5 → l.getD k true = true
 e0 : a.eval (.tmp 0) = .pointer (some ⟨b, 0, none⟩)
 e4 : a.eval (.tmp 4) = .agg (cellsE smpC Pt.zero).toArray
 e6 : a.eval (.tmp 6) = .agg (cellsE smpX Pt.zero).toArray
 e8 : a.eval (.tmp 8) = .agg (cellsE smpY Pt.zero).toArray
 keep : Keep (· = b) W w
 facts : ∀ k s, (k, s) ∈ opS → l.getD k false = true → Ft b k (a.eval (.tmp s)) w
 blk : l.getD 13 true = false → ∃ cs : List Value, cs.length = 5 ∧ w.heap[b]? = some (.cells cs.toArray 27 (0, 0))
 ord : l.getD 13 true = true → ∀ k, k < 13 → l.getD k true = true
 fin : l.getD 13 true = true → ∃ q, w.heap[b]? = some (.cells (cellsPa smpP q).toArray 27 (0, 0)) ∧ IsPa (Ob b w) w smpP q
theorem SmpJ.put {W : World} {b : Nat} {l : Array Bool} {a : Act} {w w' : World} (h : SmpJ W b l a w) {k s : Nat} (hk : (k, s) ∈ opS) (h13 : l.getD 13 true = false) {v : Value} (hw : Below w.heap.size w w') (hF : Ft b k v w') :
    SmpJ W b (l.setIfInBounds k true) (a.put (some s) v) w' := by
 have hkp : Keep (· = b) w w' := Keep.of_below hw
 obtain ⟨cs, hcs, hb⟩ := h.blk h13
 have hbl := obj_lt hb
 have hk13 : k ≠ 13 ∧ k < 14 ∧ s < 16 ∧ s ≠ 0 ∧ s ≠ 4 ∧ s ≠ 6 ∧ s ≠ 8 := by simp [opS] at hk; omega
 have h13' : (l.setIfInBounds k true).getD 13 true = false := by rw [getD_set_ne true hk13.1]; exact h13
 refine ⟨by simp [h.size], by simp [Act.put, h.tm], h.df, fun j h1 h2 => ?_, ?_, ?_, ?_, ?_, h.keep.trans hkp fun _ _ e => e, fun k' s' hk' hl => ?_, fun _ => ⟨cs, hcs, (hw.block b hbl).trans hb⟩, fun hc => absurd (h13'.symm.trans hc) (by decide), fun hc => absurd (h13'.symm.trans hc) (by decide)⟩
 · by_cases hj : k = j
   · subst hj
     have : k < l.size := by rw [h.size]; omega
     simp [this]
   · rw [getD_set_ne true hj]; exact h.pure j h1 h2
 · rw [Act.eval_put_ne _ _ _ _ (by omega)]; exact h.e0
 · rw [Act.eval_put_ne _ _ _ _ (by omega)]; exact h.e4
 · rw [Act.eval_put_ne _ _ _ _ (by omega)]; exact h.e6
 · rw [Act.eval_put_ne _ _ _ _ (by omega)]; exact h.e8
 · by_cases hs : s = s'
   · obtain rfl := opS_one hk hk' hs
     subst hs
     rw [Act.eval_put_same _ _ _ (by rw [h.tm]; omega)]
     exact hF
   · rw [Act.eval_put_ne _ _ _ _ hs]
     have hne : k ≠ k' := by rintro rfl; simp [opS] at hk hk'; omega
     rw [getD_set_ne false hne] at hl
     exact (h.facts k' s' hk' hl).carry hkp
theorem dep_of {o : Oper} {l : Array Bool} (hall : ∀ e ∈ o.after, Region.binds .any e = true → l.getD e.on false = true) (j : Nat) (h : o.after.any (fun e => Region.binds .any e && e.on == j) = true) : l.getD j false = true := by
 obtain ⟨i, hi, h2⟩ := Array.any_eq_true.1 h
 have he := Array.getElem_mem hi
 generalize o.after[i] = e at *
 rw [Bool.and_eq_true, beq_iff_eq] at h2
 rw [← h2.2]
 exact hall e he h2.1
theorem exec_loadS {a : Act} {o : Oper} {m : Operand} {T : TypeId} {ad : Addr} {w : World} {v : Value} (hop : o.op = Op.load T m) (hm : a.eval m = .pointer (some ad)) (hl : (Instr.loadAt T (.pointer (some ad))).run Tryz.prog w = .ok v w) : (execOp a.eval o).run Tryz.prog w = .ok (.value v) w := by
 simp [execOp, hop, hm, hl]
theorem exec_buildS {a : Act} {o : Oper} {T : TypeId} {parts : Array (Nat × Operand)} {w : World} {cells : Array Value} (hop : o.op = Op.build T parts) (hb : Tryz.prog.built T (parts.map fun (i, x) => (i, a.eval x)).toList = some cells) : (execOp a.eval o).run Tryz.prog w = .ok (.value (.agg cells)) w := by
 have := run_build (P := Tryz.prog) w T (parts.map fun (i, x) => (i, a.eval x)) cells hb
 simp [execOp, hop, this]
def mcS : List Value := [.int .i64 5, .int .i64 0, .string ⟨#[]⟩, .slice none 0 0, .slice none 0 0]
theorem infoJS : (Tryz.prog.info? 36).map (·.size) = some 5 := by kernel_rfl
theorem loadJS {w : World} {b : Nat} (h : w.heap[b]? = some (.cells mcS.toArray 36 (0, 0))) : (Instr.loadAt 36 (.pointer (some ⟨b, 0, none⟩))).run Tryz.prog w = .ok (.agg mcS.toArray) w :=
 run_loadAt_mid w b 0 36 mcS _ (rangeK_of h) Tryz.underlying36 rfl infoJS
theorem wp_rowS {o : Oper} {a : Act} {w : World} {K : Act → World → Prop} {Q : Exit → Act → World → Prop} (t e len : Nat) (parts : Array (Nat × Operand)) (ho : o.op = .buildSlice t len parts) (z : Value) (size bytes : Nat)
    (hu : Tryz.prog.underlying t = some (.slice e)) (hinfo : (Tryz.prog.info? e).map (fun i => (i.zero, i.size, i.bytes)) = some (some z, size, bytes)) (h1 : 0 < len) (h2 : len ≤ 100) (h3 : 0 < size) (h4 : size ≤ 100) (vs : List (Nat × Value)) (hvs : (parts.map fun (i, x) => (i, a.eval x)).toList = vs) (cells : Array Value)
    (hf : Instr.fill (fun i => some (i * size, size)) ((Array.range (len * size)).map (z.cells[· % z.cells.size]!)) vs = some cells)
    (h : K (a.put o.dst (.slice (some ⟨w.heap.size, 0, none⟩) len len)) (w.alloc (.cells cells e))) : o.wp Tryz.prog a w K Q := by
 obtain ⟨i0, hi, hz0, hz1, hz2⟩ := info_parts hinfo
 have hb : len * size ≤ 100 * 100 := Nat.mul_le_mul h2 h4
 have hc : 0 < len * size := Nat.mul_pos h1 h3
 exact wp_buildSlice t e len parts ho cells i0 z hu hi hz0 (by rw [hz1]; omega) (by rw [hz1]; omega) (by rw [hz1, hvs]; exact hf) h
theorem wp_madeS {o : Oper} {a : Act} {w : World} {K : Act → World → Prop} {Q : Exit → Act → World → Prop} (t e : Nat) (ho : o.op = .makeSlice t (.const (.int .i64 3)) (.const (.int .i64 3))) (z : Value) (bytes : Nat)
    (hu : Tryz.prog.underlying t = some (.slice e)) (hinfo : (Tryz.prog.info? e).map (fun i => (i.zero, i.size, i.bytes)) = some (some z, 1, bytes)) (hb : bytes ≤ 100) (cells : Array Value) (hc : madeCells z.cells 3 = cells)
    (h : K (a.put o.dst (.slice (some ⟨w.heap.size, 0, none⟩) 3 3)) (w.alloc (.cells cells e))) : o.wp Tryz.prog a w K Q := by
 obtain ⟨i0, hi, hz0, hz1, hz2⟩ := info_parts hinfo
 have hrun := run_makeSlice (P := Tryz.prog) w t e i0 z hu hi hz0 .i64 .i64 3 3 (by omega) (Int.le_refl _) (by rw [hz1]; simp) (by rw [hz2]; omega) (by omega)
 rw [hz1] at hrun
 replace hrun : (Instr.makeSlice t (.int .i64 3) (.int .i64 3)).run Tryz.prog w = .ok (.slice (some ⟨w.heap.size, 0, none⟩) 3 3) (w.alloc (.cells (madeCells z.cells 3) e)) := hrun
 unfold Oper.wp execOp
 simp only [ho, Act.eval, Sem.run_bind, hrun, Result.andThen_ok, hc]
 exact h
theorem info9S : (Tryz.prog.info? 9).map (fun i => (i.zero, i.size, i.bytes)) = some (some (.string ⟨#[]⟩), 1, 16) := by kernel_rfl
theorem info3S : (Tryz.prog.info? 3).map (fun i => (i.zero, i.size, i.bytes)) = some (some (.int .i64 0), 1, 8) := by kernel_rfl
theorem info4S : (Tryz.prog.info? 4).map (fun i => (i.zero, i.size, i.bytes)) = some (some (.bool false), 1, 1) := by kernel_rfl
theorem infoIS : (Tryz.prog.info? 28).map (fun i => (i.zero, i.size, i.bytes)) = some (some (.slice none 0 0), 1, 24) := by kernel_rfl
theorem infoES : (Tryz.prog.info? 39).map (fun i => (i.zero, i.size, i.bytes)) = some (some (.agg (cellsE Ev.zero Pt.zero).toArray), 16, 256) := by kernel_rfl
theorem below_al (w : World) (o : Obj) : Below w.heap.size w (w.alloc o) := (Below.refl _ _).alloc (Nat.le_refl _) _
theorem rd_newS {α : Type} {enc : α → Value} {b t : Nat} {w : World} (hb : b < w.heap.size) (xs : List α) : Rd enc (Ob b (w.alloc (.cells (xs.map enc).toArray t))) (w.alloc (.cells (xs.map enc).toArray t)) (some ⟨w.heap.size, 0, none⟩) xs.length xs :=
 ⟨Nat.le_refl _, fun _ => ⟨_, _, rfl, ⟨by simp, by omega⟩, fun j x hj => by
  rw [Nat.zero_add]
  exact cell_row (heap_alloc_new _ _) j _ (by rw [List.getElem?_map, hj]; rfl)⟩⟩
theorem wp_pureS {o : Oper} {a : Act} {w : World} {K : Act → World → Prop} {Q : Exit → Act → World → Prop} {v : Value} (h : (execOp a.eval o).run Tryz.prog w = .ok (.value v) w) (hK : K (a.put o.dst v) w) : o.wp Tryz.prog a w K Q := by
 unfold Oper.wp
 rw [h]
 exact hK
theorem isJ_bareS (O : Nat → Prop) (w : World) (k : Int) : isJ O w (.mk k 0 nix [] []) [.int .i64 k, .int .i64 0, .string nix, .slice none 0 0, .slice none 0 0] := by
 unfold isJ
 exact ⟨none, 0, none, 0, rfl, RdK.nil _ _, Nat.le_refl _, by unfold isJs; trivial⟩
def evCells : List Value := cellsE smpC Pt.zero ++ cellsE smpX Pt.zero ++ cellsE smpY Pt.zero
theorem rd_evS {b : Nat} {w : World} (hb : b < w.heap.size) : RdEv (Ob b (w.alloc (.cells evCells.toArray 39))) (w.alloc (.cells evCells.toArray 39)) (some ⟨w.heap.size, 0, none⟩) 3 smpP.evs :=
 ⟨by decide, fun j hj => ⟨w.heap.size, 0, Pt.zero, rfl, ⟨by simp, by omega⟩, fun m v hv => by
  have hm : m < 16 := by
   have h1 : m < (cellsE (smpP.evs.getD j Ev.zero) Pt.zero).length := (List.getElem?_eq_some_iff.1 hv).1
   exact h1
  refine cell_row (heap_alloc_new _ _) _ v ?_
  rw [← hv]
  obtain rfl | rfl | rfl : j = 0 ∨ j = 1 ∨ j = 2 := by have : j < 3 := hj; omega
  · show evCells[0 + 0 * 16 + m]? = (cellsE smpC Pt.zero)[m]?
    rw [show 0 + 0 * 16 + m = m by omega]; unfold evCells
    rw [List.append_assoc, List.getElem?_append_left (by exact hm)]
  · show evCells[0 + 1 * 16 + m]? = (cellsE smpX Pt.zero)[m]?
    unfold evCells
    rw [List.append_assoc, List.getElem?_append_right (by show 16 ≤ _; omega), List.getElem?_append_left (by show 0 + 1 * 16 + m - 16 < 16; omega)]
    congr 1; show 0 + 1 * 16 + m - 16 = m; omega
  · show evCells[0 + 2 * 16 + m]? = (cellsE smpY Pt.zero)[m]?
    unfold evCells
    rw [List.getElem?_append_right (by show 32 ≤ _; omega)]
    congr 1; show 0 + 2 * 16 + m - 32 = m; omega, by
  obtain rfl | rfl | rfl : j = 0 ∨ j = 1 ∨ j = 2 := by have : j < 3 := hj; omega
  · exact ⟨isJ_bareS _ _ _, RdK.nil _ _, RdK.nil _ _, RdS.nil _ _ _ _⟩
  · exact ⟨isJ_bareS _ _ _, RdK.nil _ _, RdK.nil _ _, RdS.nil _ _ _ _⟩
  · exact ⟨isJ_bareS _ _ _, RdK.nil _ _, RdK.nil _ _, RdS.nil _ _ _ _⟩⟩⟩
theorem sample_any (w : World) : Calls Tryz.prog 33 #[] w fun e w' => ∃ q, e = .returned (valPa smpP q) ∧ IsPa (· < w'.heap.size) w' smpP q ∧ Below w.heap.size w w' := by
 obtain ⟨b, hb⟩ : ∃ b, w.heap.size = b := ⟨_, rfl⟩
 go_enter Tryz.func33, Tryz.ntmps33
 go_upto_region 2 with fail
 rename_i Q' K HK
 obtain ⟨W1, hW1⟩ : ∃ W1, W1 = (w.alloc (.cells #[.slice none 0 0, .slice none 0 0, .slice none 0 0, .slice none 0 0, .slice none 0 0] 27)).alloc (.cells #[.int .i64 5, .int .i64 0, .string ⟨#[]⟩, .slice none 0 0, .slice none 0 0] 36) := ⟨_, rfl⟩
 have hb1 : Below w.heap.size w W1 := by rw [hW1]; exact ((Below.refl _ _).alloc (Nat.le_refl _) _).alloc (by simp) _
 have hs1 : W1.heap.size = b + 2 := by rw [hW1]; simp only [World.size_alloc]; omega
 have hm1 : W1.heap[b + 1]? = some (.cells mcS.toArray 36 (0, 0)) := by
  have := heap_alloc_new (w.alloc (.cells #[.slice none 0 0, .slice none 0 0, .slice none 0 0, .slice none 0 0, .slice none 0 0] 27)) (.cells mcS.toArray 36 (0, 0))
  rw [World.size_alloc, hb] at this
  rw [hW1]; exact this
 have hz1 : W1.heap[b]? = some (.cells [Value.slice none 0 0, .slice none 0 0, .slice none 0 0, .slice none 0 0, .slice none 0 0].toArray 27 (0, 0)) := by
  rw [hW1, Below.heap_alloc _ _ _ (by simp; omega), ← hb]; exact heap_alloc_new _ _
 rw [← hW1]
 have HLM : Hid (∀ X, Keep (· = b) W1 X → (Instr.loadAt 36 (.pointer (some ⟨b + 1, 0, none⟩))).run Tryz.prog X = .ok (.agg mcS.toArray) X) := fun X hX => loadJS ((hX.block (b + 1) (by omega) (by omega)).trans hm1)
 clear hW1 hm1
 refine wp_region_in (by kernel_rfl) (fun X => Keep (· = b) W1 X) ?_
 change wpIn _ _ _ _ _ _ _ _ (World.drew _)
 have hD : Keep (· = b) W1 W1.drew := (Keep.refl _ _).drew
 refine wpIn_take (i := 1) (d := (some 4)) (v := .agg (cellsE smpC Pt.zero).toArray) (a' := ?aw1) rfl rfl (by kernel_rfl) (by kernel_rfl) (by kernel_rfl) (fun _ _ _ h => h) (Or.inl ⟨by rfl, ?yw1⟩) ?fw1 ?_
 case yw1 => exact fun wq hq => exec_buildS rfl (by kernel_rfl)
 case fw1 => (go_frame; rfl)
 refine wpIn_take (i := 2) (d := (some 5)) (v := .agg mcS.toArray) (a' := ?aw2) rfl rfl (by kernel_rfl) (by kernel_rfl) (by kernel_rfl) (fun _ _ _ h => h) (Or.inl ⟨by rfl, ?yw2⟩) ?fw2 ?_
 case yw2 => exact fun wq hq => exec_loadS rfl rfl (HLM.out wq hq)
 case fw2 => (go_frame; rfl)
 refine wpIn_take (i := 3) (d := (some 6)) (v := .agg (cellsE smpX Pt.zero).toArray) (a' := ?aw3) rfl rfl (by kernel_rfl) (by kernel_rfl) (by kernel_rfl) (fun _ _ _ h => h) (Or.inl ⟨by rfl, ?yw3⟩) ?fw3 ?_
 case yw3 => exact fun wq hq => exec_buildS rfl (by kernel_rfl)
 case fw3 => (go_frame; rfl)
 refine wpIn_take (i := 4) (d := (some 7)) (v := .agg mcS.toArray) (a' := ?aw4) rfl rfl (by kernel_rfl) (by kernel_rfl) (by kernel_rfl) (fun _ _ _ h => h) (Or.inl ⟨by rfl, ?yw4⟩) ?fw4 ?_
 case yw4 => exact fun wq hq => exec_loadS rfl rfl (HLM.out wq hq)
 case fw4 => (go_frame; rfl)
 refine wpIn_take (i := 5) (d := (some 8)) (v := .agg (cellsE smpY Pt.zero).toArray) (a' := ?aw5) rfl rfl (by kernel_rfl) (by kernel_rfl) (by kernel_rfl) (fun _ _ _ h => h) (Or.inl ⟨by rfl, ?yw5⟩) ?fw5 ?_
 case yw5 => exact fun wq hq => exec_buildS rfl (by kernel_rfl)
 case fw5 => (go_frame; rfl)
 refine wpIn_inv (SmpJ W1 b) (fun _ _ _ h => h.keep) ?step ?fin _ _ _ _ ?n ?start
 case n => exact Nat.le_of_eq (by kernel_rfl)
 case start =>
  refine SmpJ.mk (by kernel_rfl) (by kernel_rfl) rfl ?smpp rfl rfl rfl rfl hD ?smpf (fun _ => ⟨_, rfl, hz1⟩) (fun h => by cases h) (fun h => by cases h)
  case smpp =>
   intro k h1 h2
   obtain rfl | rfl | rfl | rfl | rfl : k = 1 ∨ k = 2 ∨ k = 3 ∨ k = 4 ∨ k = 5 := by omega
   all_goals kernel_rfl
  case smpf =>
   intro k s hk hl
   exfalso
   simp only [opS, List.mem_cons, Prod.mk.injEq, List.not_mem_nil, or_false] at hk
   rcases hk with ⟨rfl, rfl⟩ | ⟨rfl, rfl⟩ | ⟨rfl, rfl⟩ | ⟨rfl, rfl⟩ | ⟨rfl, rfl⟩ | ⟨rfl, rfl⟩ | ⟨rfl, rfl⟩ | ⟨rfl, rfl⟩ <;> cases hl
 case fin =>
  intro l a wx hJ hr
  have hall := ready_all (by rw [hJ.size]; rfl) (by kernel_rfl) hr
  obtain ⟨q, hbk, hp⟩ := hJ.fin (hall 13)
  refine HK _ _ ?_
  refine wp_ret ?_
  refine bodyPost_ret (resultsP_cell (fn := Tryz.f33) rfl _ _ _ (v := valPa smpP q) hJ.e0 ?_) hJ.df ?_
  · exact run_loadVar_mid (P := Tryz.prog) wx b 0 27 (cellsPa smpP q) _ (rangeK_of hbk) Tryz.underlying27 rfl infoPa
  · refine ⟨q, rfl, hp.carry fun k hk => ⟨hk.1, rfl⟩, hb1.trans (hJ.keep.below hb1.size fun k hk e => ?_)⟩
    omega
 case step =>
  intro l a wx i o hJ ho h0 hall
  have hi : i < 14 := by
   have := hJ.size
   refine Classical.byContradiction fun hn => ?_
   rw [Array.getD_eq_getD_getElem?, Array.getElem?_eq_none (by omega)] at h0
   cases h0
  have hip : ¬ (1 ≤ i ∧ i ≤ 5) := fun h => by rw [hJ.pure i h.1 h.2] at h0; cases h0
  have h13 : l.getD 13 true = false := by
   by_cases h : l.getD 13 true = true
   · by_cases h' : i = 13
     · subst h'; exact h0
     · rw [hJ.ord h i (by omega)] at h0; cases h0
   · simpa using h
  obtain rfl | rfl | rfl | rfl | rfl | rfl | rfl | rfl | rfl : i = 0 ∨ i = 6 ∨ i = 7 ∨ i = 8 ∨ i = 9 ∨ i = 10 ∨ i = 11 ∨ i = 12 ∨ i = 13 := by omega
  · cases ho
    refine ⟨rfl, fun K' hK' => ?_⟩
    have hbl := obj_lt (hJ.blk h13).choose_spec.2
    refine wp_rowS 22 9 3 _ rfl _ _ _ Tryz.underlying22 info9S (by decide) (by decide) (by decide) (by decide) _ rfl (smpP.names.map Value.string).toArray (by kernel_rfl) ?_
    exact hK' _ _ (hJ.put (k := 0) (s := 3) (by decide) h13 (below_al _ _) ⟨_, rfl, rd_newS hbl smpP.names⟩)
  · cases ho
    refine ⟨rfl, fun K' hK' => ?_⟩
    have hbl := obj_lt (hJ.blk h13).choose_spec.2
    refine wp_rowS 23 39 3 _ rfl _ _ _ Tryz.underlying23 infoES (by decide) (by decide) (by decide) (by decide) [(0, .agg (cellsE smpC Pt.zero).toArray), (1, .agg (cellsE smpX Pt.zero).toArray), (2, .agg (cellsE smpY Pt.zero).toArray)] ?_ evCells.toArray (by kernel_rfl) ?_
    · simp only [List.map_toArray, List.map_cons, List.map_nil, hJ.e4, hJ.e6, hJ.e8]
    exact hK' _ _ (hJ.put (k := 6) (s := 9) (by decide) h13 (below_al _ _) ⟨_, rfl, rd_evS hbl⟩)
  · cases ho
    refine ⟨rfl, fun K' hK' => ?_⟩
    have hbl := obj_lt (hJ.blk h13).choose_spec.2
    refine wp_madeS 24 28 rfl _ _ Tryz.underlying24 infoIS (by decide) [Value.slice none 0 0, .slice none 0 0, .slice none 0 0].toArray (by kernel_rfl) ?_
    refine hK' _ _ (hJ.put (k := 7) (s := 10) (by decide) h13 (below_al _ _) ⟨_, rfl, by decide, fun j hj => ⟨_, _, none, 0, rfl, ⟨by simp, by omega⟩, ?_, ?_⟩⟩)
    · obtain rfl | rfl | rfl : j = 0 ∨ j = 1 ∨ j = 2 := by have : j < 3 := hj; omega
      all_goals exact cell_row (heap_alloc_new _ _) _ _ rfl
    · obtain rfl | rfl | rfl : j = 0 ∨ j = 1 ∨ j = 2 := by have : j < 3 := hj; omega
      all_goals exact Rd.nil _ _ _ _ _
  · cases ho
    refine ⟨rfl, fun K' hK' => ?_⟩
    have hbl := obj_lt (hJ.blk h13).choose_spec.2
    refine wp_rowS 28 3 1 _ rfl _ _ _ Tryz.underlying28 info3S (by decide) (by decide) (by decide) (by decide) _ rfl (([0] : List Int).map (Value.int .i64)).toArray (by kernel_rfl) ?_
    exact hK' _ _ (hJ.put (k := 8) (s := 11) (by decide) h13 (below_al _ _) ⟨_, rfl, rd_newS hbl [0]⟩)
  · cases ho
    refine ⟨rfl, fun K' hK' => ?_⟩
    have hbl := obj_lt (hJ.blk h13).choose_spec.2
    refine wp_rowS 28 3 1 _ rfl _ _ _ Tryz.underlying28 info3S (by decide) (by decide) (by decide) (by decide) _ rfl (([0] : List Int).map (Value.int .i64)).toArray (by kernel_rfl) ?_
    exact hK' _ _ (hJ.put (k := 9) (s := 12) (by decide) h13 (below_al _ _) ⟨_, rfl, rd_newS hbl [0]⟩)
  · cases ho
    obtain ⟨g1, e1, r1⟩ := hJ.facts 8 11 (by decide) (dep_of hall 8 (by kernel_rfl))
    obtain ⟨g2, e2, r2⟩ := hJ.facts 9 12 (by decide) (dep_of hall 9 (by kernel_rfl))
    refine ⟨rfl, fun K' hK' => ?_⟩
    have hbl := obj_lt (hJ.blk h13).choose_spec.2
    refine wp_rowS 24 28 3 _ rfl _ _ _ Tryz.underlying24 infoIS (by decide) (by decide) (by decide) (by decide) [(0, .slice none 0 0), (1, .slice (some ⟨g1, 0, none⟩) 1 1), (2, .slice (some ⟨g2, 0, none⟩) 1 1)] ?_ [Value.slice none 0 0, .slice (some ⟨g1, 0, none⟩) 1 1, .slice (some ⟨g2, 0, none⟩) 1 1].toArray (by kernel_rfl) ?_
    · simp only [List.map_toArray, List.map_cons, List.map_nil, e1, e2]; rfl
    have hk : Keep (· = b) wx (wx.alloc (.cells [Value.slice none 0 0, .slice (some ⟨g1, 0, none⟩) 1 1, .slice (some ⟨g2, 0, none⟩) 1 1].toArray 28)) := Keep.of_below (below_al _ _)
    refine hK' _ _ (hJ.put (k := 10) (s := 13) (by decide) h13 (below_al _ _) ⟨_, rfl, by decide, fun j hj => ?_⟩)
    obtain rfl | rfl | rfl : j = 0 ∨ j = 1 ∨ j = 2 := by have : j < 3 := hj; omega
    · exact ⟨_, _, none, 0, rfl, ⟨by simp, by omega⟩, cell_row (heap_alloc_new _ _) _ _ rfl, Rd.nil _ _ _ _ _⟩
    · exact ⟨_, _, _, 1, rfl, ⟨by simp, by omega⟩, cell_row (heap_alloc_new _ _) _ _ rfl, r1.carry (Ob.same hk) fun k hk' => Ob.more hk hk'⟩
    · exact ⟨_, _, _, 1, rfl, ⟨by simp, by omega⟩, cell_row (heap_alloc_new _ _) _ _ rfl, r2.carry (Ob.same hk) fun k hk' => Ob.more hk hk'⟩
  · cases ho
    refine ⟨rfl, fun K' hK' => ?_⟩
    have hbl := obj_lt (hJ.blk h13).choose_spec.2
    refine wp_madeS 25 4 rfl _ _ Tryz.underlying25 info4S (by decide) (smpP.den.map Value.bool).toArray (by kernel_rfl) ?_
    exact hK' _ _ (hJ.put (k := 11) (s := 14) (by decide) h13 (below_al _ _) ⟨_, rfl, rd_newS hbl smpP.den⟩)
  · cases ho
    obtain ⟨g0, e0, r0⟩ := hJ.facts 0 3 (by decide) (dep_of hall 0 (by kernel_rfl))
    obtain ⟨g1, e1, r1⟩ := hJ.facts 6 9 (by decide) (dep_of hall 6 (by kernel_rfl))
    obtain ⟨g2, e2, r2⟩ := hJ.facts 7 10 (by decide) (dep_of hall 7 (by kernel_rfl))
    obtain ⟨g3, e3, r3⟩ := hJ.facts 10 13 (by decide) (dep_of hall 10 (by kernel_rfl))
    obtain ⟨g4, e4, r4⟩ := hJ.facts 11 14 (by decide) (dep_of hall 11 (by kernel_rfl))
    refine ⟨rfl, fun K' hK' => ?_⟩
    refine wp_pureS (v := .agg (cellsPa smpP ⟨some ⟨g0, 0, none⟩, 3, some ⟨g1, 0, none⟩, 3, some ⟨g2, 0, none⟩, 3, some ⟨g3, 0, none⟩, 3, some ⟨g4, 0, none⟩, 3⟩).toArray) (exec_buildS rfl ?_) ?_
    · simp only [List.map_toArray, List.map_cons, List.map_nil, e0, e1, e2, e3, e4]
      kernel_rfl
    exact hK' _ _ (hJ.put (k := 12) (s := 15) (by decide) h13 (Below.refl _ _) ⟨_, rfl, r0, r1, r2, r3, r4⟩)
  · cases ho
    obtain ⟨q, e, r⟩ := hJ.facts 12 15 (by decide) (dep_of hall 12 (by kernel_rfl))
    obtain ⟨cs, hcs, hbk⟩ := hJ.blk h13
    refine ⟨rfl, fun K' hK' => ?_⟩
    refine wp_store_row 27 _ _ rfl b (cellsPa smpP q).toArray hJ.e0 e 27 cs.toArray hbk infoPa (by simp [hcs, cellsPa]) (by simp [cellsPa, Value.oneCell']) ?_
    have hk : Keep (· = b) wx (wx.setRow b (cellsPa smpP q).toArray) := by
     have hk0 := keep_setRow wx b (cellsPa smpP q).toArray
     exact ⟨hk0.os, hk0.tape, hk0.output, hk0.size, hk0.block⟩
    have hset : ∀ j, (l.setIfInBounds 13 true).getD 13 j = true := fun j => by have := hJ.size; simp [this]
    refine hK' _ _ ⟨by simp [hJ.size], hJ.tm, hJ.df, fun k h1 h2 => by rw [getD_set_ne true (by omega)]; exact hJ.pure k h1 h2, hJ.e0, hJ.e4, hJ.e6, hJ.e8, hJ.keep.trans hk fun _ _ e => e, fun k s hks hl => ?_, fun h => ?_, fun _ k hk13 => ?_, fun _ => ⟨q, setRow_heap _ _ _ _ _ _ hbk, r.carry fun k hk' => ⟨Ob.more hk hk', Ob.same hk k hk'⟩⟩⟩
    · have hne : (13 : Nat) ≠ k := by rintro rfl; simp [opS] at hks
      rw [getD_set_ne false hne] at hl
      exact (hJ.facts k s hks hl).carry hk
    · rw [hset] at h; cases h
    · rw [getD_set_ne true (by omega)]
      by_cases hp : 1 ≤ k ∧ k ≤ 5
      · exact hJ.pure k hp.1 hp.2
      · have hd : l.getD k false = true := by
          obtain rfl | rfl | rfl | rfl | rfl | rfl | rfl | rfl : k = 0 ∨ k = 6 ∨ k = 7 ∨ k = 8 ∨ k = 9 ∨ k = 10 ∨ k = 11 ∨ k = 12 := by omega
          all_goals exact dep_of hall _ (by kernel_rfl)
        have hkl : k < l.size := by rw [hJ.size]; omega
        rw [Array.getD_eq_getD_getElem?, Array.getElem?_eq_getElem hkl] at hd ⊢
        simpa using hd
theorem take_ext {a b : List Int} (h : a.length = b.length) : (∀ k, k < a.length → a.getD k 0 = b.getD k 0) → a = b := by
 intro hk
 apply List.ext_getElem h
 intro i h1 h2
 have := hk i h1
 rw [getD_in h1, getD_in h2] at this
 exact this
theorem same12_any {O O' : Nat → Prop} (a b : List Int) (p q : Option Addr) (c d : Nat) (w : World) (ra : RdI O w p c a) (rb : RdI O' w q d b) (ha : a.length ≤ 1000000) (_hb : b.length ≤ 1000000) :
    Calls Tryz.prog 12 #[.slice p a.length c, .slice q b.length d] w fun e w' => e = .returned (.bool (decide (a = b))) ∧ Keep (fun _ => False) w w' := by
 by_cases hab : a.length = b.length
 · have HX : Hid ((∀ k, k < a.length → a.getD k 0 = b.getD k 0) → a = b) := take_ext hab
   rw [← hab]
   obtain ⟨n, hn⟩ : ∃ n, a.length = n := ⟨_, rfl⟩
   have HN : Hid (a.length = n) := hn
   have HN' : Hid (b.length = n) := hab.symm.trans hn
   rw [hn] at ha HX ⊢
   clear hn hab
   go_enter Tryz.func12, Tryz.ntmps12
   go_wp2
   go_loopw [5] (fun i wr => ∃ k : Nat, k ≤ n ∧ i = .int .i64 k ∧ Keep (fun _ => False) w wr ∧ wr.heap = w.heap ∧ Hid (∀ j, j < k → a.getD j 0 = b.getD j 0)) (fun i _ => n - (intOf i).toNat)
   case atStart => exact ⟨0, Nat.zero_le _, rfl, Keep.refl _ _, rfl, fun j hj => absurd hj (by omega)⟩
   case round =>
    obtain ⟨k, hk, rfl, hkp, hheap, HA⟩ := hrel
    have hS : ∀ O : Nat → Prop, Same O w wr := fun O k _ => by rw [hheap]
    by_cases hlt : k < n
    · obtain ⟨ad, rfl, _, hca⟩ := (ra.same (hS O)).at k 0 (by rw [HN.out]; exact hlt)
      obtain ⟨ad', rfl, _, hcb⟩ := (rb.same (hS O')).at k 0 (by rw [HN'.out]; exact hlt)
      have HE : Hid (a = b → a.getD k 0 = b.getD k 0) := fun h => by rw [h]
      have HA2 : Hid (a.getD k 0 = b.getD k 0 → ∀ j, j < k + 1 → a.getD j 0 = b.getD j 0) := fun h j hj => by
       rcases Nat.lt_or_ge j k with h' | h'
       · exact HA.out j h'
       · rw [show j = k by omega]; exact h
      have hk1 : ∀ (wx : World) (k : Nat), Keep (fun _ => False) w wx → Keep (fun _ => False) w (wx.drewN k) := fun wx k h => ⟨h.os, h.tape, h.output, h.size, h.block⟩
      generalize a.getD k 0 = x at *
      generalize b.getD k 0 = y at *
      clear hS HA
      have HHp : Hid (wr.heap = w.heap) := hheap
      clear hheap
      by_cases e : x = y
      · subst e
        have HB := HA2.out rfl
        have HB' : Hid _ := HB
        clear HA2 HE HB
        go_wp2_with fail
        go_quiet (fail)
        go_wp2_with fail
        go_roundw
        case rel => exact ⟨k + 1, by omega, by go_num, hk1 _ _ hkp, HHp.out, HB'⟩
        case measure => simp [intOf]; omega
      · have e' : (x == y) = false := by simpa using e
        have HF : Hid (¬ a = b) := fun h => e (HE.out h)
        clear HA2 HE
        go_wp2_with fail
        go_quiet (fail)
        go_wp2_with fail
        go_ret
        exact ⟨ret_bool (decide_eq_false HF.out).symm, hk1 _ _ hkp⟩
    · obtain rfl : k = n := by omega
      have HF : Hid (a = b) := HX.out HA.out
      clear HX HA
      go_wp2_with fail
      go_ret
      exact ⟨ret_bool (decide_eq_true HF.out).symm, hkp⟩
 · have HF : Hid (¬ a = b) := fun h => hab (by rw [h])
   have hab' : ((a.length : Int) == (b.length : Int)) = false := by rw [beq_eq_false_iff_ne]; omega
   generalize a.length = n at *
   generalize b.length = m at *
   go_enter Tryz.func12, Tryz.ntmps12
   go_wp2
   go_ret
   exact ⟨ret_bool (decide_eq_false HF.out).symm, Keep.refl _ _⟩
end Go.Proofs.YtimhpglfolbomaaGreat.Od
namespace Go.Proofs.YtimhpglfolbomaaGreat.Od
open Go.RowKit Go.Maps Go.Shelf
theorem smp_szs : SzEs smpP := ⟨fun e he => by
 have h : e = smpC ∨ e = smpX ∨ e = smpY := by simpa using he
 rcases h with rfl | rfl | rfl
 all_goals exact ⟨by decide, by decide, by decide, by decide, by decide, by kernel_rfl, by decide, (fun x hx => by cases hx), by decide, (fun x hx => by cases hx), by decide, (fun x hx => by cases hx)⟩⟩
theorem pa_new {w : World} {p : Pa} {q : Pq} (z : Array Value) (h : IsPa (· < w.heap.size) w p q) : Below w.heap.size w ((w.alloc (.cells z 27)).setRow w.heap.size (cellsPa p q).toArray) ∧ IsVP ((w.alloc (.cells z 27)).setRow w.heap.size (cellsPa p q).toArray) w.heap.size p q := by
 have hk := keep_setRow (w.alloc (.cells z 27)) w.heap.size (cellsPa p q).toArray
 have hb : Below w.heap.size w ((w.alloc (.cells z 27)).setRow w.heap.size (cellsPa p q).toArray) := ((Below.refl _ _).alloc (Nat.le_refl _) _).trans (hk.below (by simp) fun k hk e => by unfold OneP at e; omega)
 exact ⟨hb, setRow_heap _ _ _ _ _ _ (newP _), h.below hb⟩
theorem sample_op (w : World) : Calls Tryz.prog 33 #[] w fun e w' => (∃ L : List Value, e = .returned (.agg L.toArray) ∧ ∃ q, Hid (L = cellsPa smpP q) ∧ IsPa (· < w'.heap.size) w' smpP q) ∧ Below w.heap.size w w' :=
 (sample_any w).mono fun _ _ ⟨q, he, hp, hb⟩ => ⟨⟨_, he, q, rfl, hp⟩, hb⟩
theorem one_Pa (p : Pa) (q : Pq) : (cellsPa p q).toArray.all (·.oneCell') = true := by simp [cellsPa, Value.oneCell']
theorem awake12_any (w : World) : Calls Tryz.prog 15 #[] w fun x w' => x = .returned (.bool true) ∧ Below w.heap.size w w' := by
 go_enter Tryz.func15, Tryz.ntmps15
 go_upto_region 2 with (first
  | (go_at_call 33; refine (sample_op _).mono ?_; rintro x w1 ⟨⟨L, rfl, q, HL, hp⟩, hb1⟩)
  | (refine wpList_store_row rfl 27 _ _ rfl w1.heap.size 27 _ L.toArray rfl rfl (newP _) (by rw [HL.out]; exact infoPa) (by rw [HL.out]; rfl) (by rw [HL.out]; exact one_Pa _ _) ?_))
 have hPN := pa_new (p := smpP) (q := q) #[.slice none 0 0, .slice none 0 0, .slice none 0 0, .slice none 0 0, .slice none 0 0] hp
 rw [← HL.out] at hPN
 generalize (w1.alloc (.cells #[.slice none 0 0, .slice none 0 0, .slice none 0 0, .slice none 0 0, .slice none 0 0] 27)).setRow w1.heap.size L.toArray = W1 at hPN
 obtain ⟨hbP, hVP⟩ := hPN
 have hW0 : Below w.heap.size w W1 := belowP hb1 hbP
 have HV : Hid (∀ X, Below W1.heap.size W1 X → IsVP X w1.heap.size smpP q) := fun X hX => hVP.below hX
 obtain ⟨eb, eo, q1, hqe, hqr⟩ := hVP.pa.evs.2 1 (by decide)
 have hec : 3 ≤ q.ce := hVP.pa.evs.1
 have HEV : Hid (∀ X, Below W1.heap.size W1 X → ∀ j, j < 3 → ∃ q', X.rangeAt eb (eo + j * 16) (cellsE (smpP.evs.getD j Ev.zero) q') ∧ IsE (· < X.heap.size) X (smpP.evs.getD j Ev.zero) q') := fun X hX j hj => by
  obtain ⟨b, o, q', h1, _, h3, h4⟩ := (HV.out X hX).pa.evs.2 j hj
  rw [hqe] at h1
  cases h1
  exact ⟨q', h3, h4⟩
 have HEX : Hid (∀ X, Below W1.heap.size W1 X → ∃ LX : List Value, Hid ((Instr.loadAt 39 (.pointer (some ⟨eb, eo + 16, none⟩))).run Tryz.prog X = .ok (.agg LX.toArray) X ∧ Calls Tryz.prog 17 #[.agg LX.toArray] X fun e w' => e = .returned (.bool true) ∧ Below X.heap.size X w')) := fun X hX => by
  obtain ⟨q', h3, h4⟩ := HEV.out X hX 1 (by decide)
  refine ⟨cellsE smpX q', run_loadAt_mid X eb (eo + 16) 39 (cellsE smpX q') _ h3 Tryz.underlying39 rfl infoE, ?_⟩
  have := powers_any h4 (fun _ h => h) (smp_szs.ev smpX (by simp))
  rw [show powersT (smpP.evs.getD 1 Ev.zero) = true from smp_px] at this
  exact this
 have HEC : Hid (∀ X, Below W1.heap.size W1 X → ∃ LX : List Value, Hid ((Instr.loadAt 39 (.pointer (some ⟨eb, eo, none⟩))).run Tryz.prog X = .ok (.agg LX.toArray) X ∧ Calls Tryz.prog 17 #[.agg LX.toArray] X fun e w' => e = .returned (.bool false) ∧ Below X.heap.size X w')) := fun X hX => by
  obtain ⟨q', h3, h4⟩ := HEV.out X hX 0 (by decide)
  rw [show eo + 0 * 16 = eo by omega] at h3
  refine ⟨cellsE smpC q', run_loadAt_mid X eb eo 39 (cellsE smpC q') _ h3 Tryz.underlying39 rfl infoE, ?_⟩
  have := powers_any h4 (fun _ h => h) (smp_szs.ev smpC (by simp))
  rw [show powersT (smpP.evs.getD 0 Ev.zero) = false from smp_pc] at this
  exact this
 have HC1 : Hid (∀ X, Below W1.heap.size W1 X → X.cell? ⟨w1.heap.size, 1, none⟩ = some (.slice (some ⟨eb, eo, none⟩) 3 q.ce)) := fun X hX => by
  have := (HV.out X hX).c1
  rw [hqe] at this
  exact this
 have HLD : Hid (∀ X, Below W1.heap.size W1 X → (Instr.loadAt 27 (.pointer (some ⟨w1.heap.size, 0, none⟩))).run Tryz.prog X = .ok (.agg L.toArray) X) := fun X hX => by
  have := (HV.out X hX).load
  rw [← HL.out] at this
  exact this
 have HVA : Hid (valPa smpP q = .agg L.toArray) := by show _ = _; unfold valPa; rw [← HL.out]
 have HRI : Hid (∀ X, Below W1.heap.size W1 X → Calls Tryz.prog 10 #[.agg L.toArray] X fun e w' => e = .returned (.bool true) ∧ Below X.heap.size X w') := fun X hX => by
  have := right_any (HV.out X hX).pa smp_sz
  rw [HVA.out, smp_right] at this
  exact this
 have HBP : Hid (∀ X, Below W1.heap.size W1 X → Calls Tryz.prog 21 #[.agg L.toArray, .slice (some ⟨X.heap.size, 0, none⟩) 2 2] (X.alloc (.cells #[.int .i64 1, .int .i64 2] 3)) fun e w' => ∃ p c, e = .returned (.slice p 2 c) ∧ RdI (· < w'.heap.size) w' p c [2, 1] ∧ Below X.heap.size X w') := fun X hX => by
  have hbX : Below X.heap.size X (X.alloc (.cells #[.int .i64 1, .int .i64 2] 3)) := (Below.refl _ _).alloc (Nat.le_refl _) _
  have := byPower_ok (O := fun k => k = X.heap.size) (l := [1, 2]) (pl := some ⟨X.heap.size, 0, none⟩) (cl := 2) (HV.out _ (belowP hX hbX)).pa smp_sz smp_szs smp_right ⟨Nat.le_refl _, fun _ => ⟨_, _, rfl, rfl, fun j x hj => by
   rw [Nat.zero_add]
   exact cell_row (cur := [Value.int .i64 1, .int .i64 2]) (heap_alloc_new _ _) j _ (by rw [show [Value.int .i64 1, .int .i64 2] = ([1, 2] : List Int).map (Value.int .i64) from rfl, List.getElem?_map, hj]; rfl)⟩⟩ (fun k hk => by subst hk; simp) (by decide)
  rw [HVA.out, smp_there] at this
  refine this.mono fun e w' h => ?_
  obtain ⟨p, c, h1, h2, h3⟩ := (smp_byp h).rd
  exact ⟨p, c, h1, h2.carry (fun _ _ => rfl) fun k hk => hk.2, belowP hbX h3⟩
 have HSA : Hid (∀ X p c, RdI (· < X.heap.size) X p c [2, 1] → Calls Tryz.prog 12 #[.slice p 2 c, .slice (some ⟨X.heap.size, 0, none⟩) 2 2] (X.alloc (.cells #[.int .i64 2, .int .i64 1] 3)) fun e w' => e = .returned (.bool true) ∧ Below X.heap.size X w') := fun X p c hr => by
  have hbX : Below X.heap.size X (X.alloc (.cells #[.int .i64 2, .int .i64 1] 3)) := (Below.refl _ _).alloc (Nat.le_refl _) _
  have := same12_any (O := (· < X.heap.size)) (O' := fun k => k = X.heap.size) [2, 1] [2, 1] p (some ⟨X.heap.size, 0, none⟩) c 2 _ (hr.same (Same.of_below hbX fun _ h => h)) ⟨Nat.le_refl _, fun _ => ⟨_, _, rfl, rfl, fun j x hj => by
   rw [Nat.zero_add]
   exact cell_row (cur := [Value.int .i64 2, .int .i64 1]) (heap_alloc_new _ _) j _ (by rw [show [Value.int .i64 2, .int .i64 1] = ([2, 1] : List Int).map (Value.int .i64) from rfl, List.getElem?_map, hj]; rfl)⟩⟩ (by decide) (by decide)
  refine this.mono fun e w' h => ⟨h.1, belowP hbX (h.2.below (Nat.le_refl _) fun _ _ h => h)⟩
 have HL2 : Hid (∀ X, Below W1.heap.size W1 X → Calls Tryz.prog 19 #[.agg L.toArray, .int .i64 2] X fun e w' => e = .returned (.int .i64 100) ∧ Below X.heap.size X w') := fun X hX => by
  have := level_top (HV.out X hX).pa smp_sz smp_szs 2
  rw [HVA.out, smp_v2] at this
  exact this
 have HL1 : Hid (∀ X, Below W1.heap.size W1 X → Calls Tryz.prog 19 #[.agg L.toArray, .int .i64 1] X fun e w' => e = .returned (.int .i64 0) ∧ Below X.heap.size X w') := fun X hX => by
  have := level_top (HV.out X hX).pa smp_sz smp_szs 1
  rw [HVA.out, smp_v1] at this
  exact this
 have HNE : Hid (∀ X, Below W1.heap.size W1 X → Calls Tryz.prog 26 #[.agg L.toArray, .slice none 0 0, .int .i64 1] X fun e w' => e = .returned (.int .i64 0) ∧ Below X.heap.size X w') := fun X hX => by
  have := nearP_any (O := fun _ => False) (l := []) (pl := none) (cl := 0) (HV.out X hX).pa smp_sz (Rd.nil _ _ _ _ _) (fun _ h => h.elim) (by decide) (fun x hx => by cases hx) 1
  rw [HVA.out, smp_near] at this
  exact this
 have hcur : Below W1.heap.size W1 W1 := Below.refl _ _
 have HW0 : Hid (Below w.heap.size w W1) := hW0
 generalize q.ce = ce at *
 clear hp hb1 hbP hVP HL HV hqe HVA hW0 hqr HEV
 go_wp2_with (first
  | (refine wpList_loadK rfl 27 _ rfl w1.heap.size 0 rfl L (HLD.out _ hcur) ?_)
  | (refine wpList_load_midg (by kernel_rfl) 27 _ rfl w1.heap.size 0 rfl L (HLD.out _ hcur) ?_)
  | (go_at_call 10; refine (HRI.out _ hcur).mono ?_; rintro e w2 ⟨rfl, hb2⟩; replace hcur := belowP hcur hb2)
  | (go_at_call 21; refine (HBP.out _ hcur).mono ?_; rintro e w3 ⟨p3, c3, rfl, hr3, hb3⟩; replace hcur := belowP hcur hb3)
  | (go_at_call 12; refine (HSA.out _ p3 c3 hr3).mono ?_; rintro e w4 ⟨rfl, hb4⟩; clear hr3; replace hcur := belowP hcur hb4)
  | (go_at_call 19; refine (HL2.out _ hcur).mono ?_; rintro e w5 ⟨rfl, hb5⟩; clear HL2; replace hcur := belowP hcur hb5)
  | (go_at_call 19; refine (HL1.out _ hcur).mono ?_; rintro e w5 ⟨rfl, hb5⟩; replace hcur := belowP hcur hb5; have c1 := HC1.out _ hcur; obtain ⟨LX, HLX⟩ := HEX.out _ hcur)
  | (refine wpList_load_midg (by kernel_rfl) 39 _ rfl eb (eo + 16) rfl LX HLX.out.1 ?_)
  | (go_at_call 17; refine HLX.out.2.mono ?_; rintro e w6 ⟨rfl, hb6⟩; clear HLX; obtain ⟨LX, HLX⟩ := HEC.out _ (belowP hcur hb6); have c1 := HC1.out _ (belowP hcur hb6); clear HEX; replace hcur := belowP hcur hb6)
  | (refine wpList_load_midg (by kernel_rfl) 39 _ rfl eb eo rfl LX HLX.out.1 ?_)
  | (go_at_call 17; refine HLX.out.2.mono ?_; rintro e w8 ⟨rfl, hb8⟩; replace hcur := belowP hcur hb8)
  | (go_at_call 26; refine (HNE.out _ hcur).mono ?_; rintro e w7 ⟨rfl, hb7⟩; replace hcur := belowP hcur hb7))
 go_ret
 exact ⟨rfl, belowP HW0.out hcur⟩
end Go.Proofs.YtimhpglfolbomaaGreat.Od
namespace Go.Proofs.YtimhpglfolbomaaGreat
open Go.RowKit
def LeftsE (d : Nat) : Prop := ∀ (w : World) (O : Nat → Prop) (j : J) (k i deep n : Int) (t : ByteArray) (pk pl : Option Addr) (nk ck nl cl : Nat), (∀ x, O x → x < w.heap.size) → deep = (d : Int) → d ≤ 100 → 0 ≤ n → n ≤ 100000 →
 isJ O w j [.int .i64 k, .int .i64 i, .string t, .slice pk nk ck, .slice pl nl cl] →
 Calls Tryz.prog 34 #[.agg #[.int .i64 k, .int .i64 i, .string t, .slice pk nk ck, .slice pl nl cl], .int .i64 n, .int .i64 deep] w fun x w' => (∃ r : Int, x = .returned (.int .i64 r) ∧ r ≤ n ∧ -1 ≤ r ∧ (0 ≤ r → szJ d j = true)) ∧ Below w.heap.size w w'
theorem eleft_zero : LeftsE 0 := by
 intro w O j k i deep n t pk pl nk ck nl cl hO hdeep _ h0 hn _
 subst hdeep
 have hbA : Below w.heap.size w (w.alloc (.cells #[.int .i64 k, .int .i64 i, .string t, .slice pk nk ck, .slice pl nl cl] 36)) := (Below.refl _ _).alloc (Nat.le_refl _) _
 by_cases h1 : n < 1
 · go_enter Tryz.func34, Tryz.ntmps34
   go_wp2
   go_ret
   exact ⟨⟨-1, rfl, by omega, by omega, fun h => absurd h (by decide)⟩, hbA⟩
 · go_enter Tryz.func34, Tryz.ntmps34
   go_wp2
   go_ret
   exact ⟨⟨-1, rfl, by omega, by omega, fun h => absurd h (by decide)⟩, hbA⟩
theorem eleft_step {d : Nat} (V : LeftsE d) : LeftsE (d + 1) := by
 intro w O j k i deep n t pk pl nk ck nl cl hO hdeep hd h0 hn hj
 obtain ⟨kx, ix, tx, ks, l⟩ := j
 unfold isJ at hj
 obtain ⟨pk', ck', pl', cl', e, hk, hl, hs⟩ := hj
 simp only [List.cons.injEq, Value.int.injEq, Value.string.injEq, Value.slice.injEq, true_and, and_true] at e
 obtain ⟨rfl, rfl, rfl, ⟨rfl, rfl, rfl⟩, rfl, rfl, rfl⟩ := e
 have hd1 : 1 ≤ deep := by omega
 have hd2 : deep ≤ 101 := by omega
 have HD : Hid (deep - 1 = (d : Int)) := by show _ = _; omega
 have HDL : Hid (d ≤ 100) := by show _ ≤ _; omega
 clear hdeep hd
 obtain ⟨nk, hnk⟩ : ∃ n, ks.length = n := ⟨_, rfl⟩
 obtain ⟨nl, hnl⟩ : ∃ n, l.length = n := ⟨_, rfl⟩
 have HNK : Hid (ks.length = nk) := hnk
 have HNL : Hid (l.length = nl) := hnl
 have hck := hk.1
 rw [hnk] at hck ⊢
 rw [hnl] at hl ⊢
 clear hnk hnl
 have hbA : Below w.heap.size w (w.alloc (.cells #[.int .i64 k, .int .i64 i, .string t, .slice pk nk ck, .slice pl nl cl] 36)) := (Below.refl _ _).alloc (Nat.le_refl _) _
 have neg : ∀ (w' : World) (x : Ending), x = .returned (.int .i64 (-1)) → Below w.heap.size w w' → (∃ r : Int, x = .returned (.int .i64 r) ∧ r ≤ n ∧ -1 ≤ r ∧ (0 ≤ r → szJ (d + 1) (.mk k i t ks l) = true)) ∧ Below w.heap.size w w' := fun w' x hx hb => ⟨⟨-1, hx, by omega, by omega, fun h => absurd h (by decide)⟩, hb⟩
 have HNEG : Hid (∀ (w' : World) (x : Ending), x = .returned (.int .i64 (-1)) → Below w.heap.size w w' → (∃ r : Int, x = .returned (.int .i64 r) ∧ r ≤ n ∧ -1 ≤ r ∧ (0 ≤ r → szJ (d + 1) (.mk k i t ks l) = true)) ∧ Below w.heap.size w w') := neg
 clear neg
 by_cases h1 : n < 1
 · go_enter Tryz.func34, Tryz.ntmps34
   go_wp2
   go_ret
   exact HNEG.out _ _ rfl hbA
 by_cases h2 : (2000 : Int) < t.size
 · go_enter Tryz.func34, Tryz.ntmps34
   go_wp2
   go_ret
   exact HNEG.out _ _ rfl hbA
 by_cases h3 : (100 : Int) < nk
 · go_enter Tryz.func34, Tryz.ntmps34
   go_wp2
   go_ret
   exact HNEG.out _ _ rfl hbA
 by_cases h4 : (300 : Int) < nl
 · go_enter Tryz.func34, Tryz.ntmps34
   go_wp2
   go_ret
   exact HNEG.out _ _ rfl hbA
 obtain ⟨wB, hwB⟩ : ∃ wB, wB = w.alloc (.cells #[.int .i64 k, .int .i64 i, .string t, .slice pk nk ck, .slice pl nl cl] 36) := ⟨_, rfl⟩
 have hA : wB.heap[w.heap.size]? = some (.cells #[.int .i64 k, .int .i64 i, .string t, .slice pk nk ck, .slice pl nl cl] 36 (0, 0)) := by rw [hwB]; exact heap_alloc_new _ _
 have hsB : w.heap.size < wB.heap.size := (Array.getElem?_eq_some_iff.1 hA).1
 rw [← hwB] at hbA
 have HCA : Hid (∀ W : World, Below wB.heap.size wB W → ∀ n v, [Value.int .i64 k, .int .i64 i, .string t, .slice pk nk ck, .slice pl nl cl][n]? = some v → W.cell? ⟨w.heap.size, n, none⟩ = some v) := fun W hW n v hv =>
  (World.cell?_of_block (a := ⟨w.heap.size, n, none⟩) (hW.block w.heap.size hsB)).trans (cell_row (cur := [.int .i64 k, .int .i64 i, .string t, .slice pk nk ck, .slice pl nl cl]) hA n v hv)
 go_enter Tryz.func34, Tryz.ntmps34
 go_wp2
 rw [← hwB]
 clear hwB hA
 go_loopw [7] (fun v wr => ∃ m : Nat, v = .int .i64 m ∧ m ≤ nk ∧ Hid (∀ x, x < m → (ks.getD x nix).size ≤ 300) ∧ wr = wB) (fun v _ => nk - (intOf v).toNat)
 case atStart => exact ⟨0, rfl, Nat.zero_le _, fun m hm => absurd hm (by omega), rfl⟩
 case round =>
  obtain ⟨m, rfl, hm, HE, rfl⟩ := hrel
  have a3 := HCA.out wr (Below.refl _ _) 3 _ rfl
  by_cases hmk : m < nk
  · have hmi : (m : Int) < (nk : Int) := by omega
    obtain ⟨ka, hpk, hOa, hcka⟩ := hk.2 m (by rw [HNK.out]; exact hmk)
    subst hpk
    have hKA : wr.cell? (ka.add m) = some (.string (ks.getD m nix)) := (World.cell?_of_block (by rw [add_block]; exact hbA.block _ (hO _ hOa))).trans hcka
    obtain ⟨u, hu⟩ : ∃ u, ks.getD m nix = u := ⟨_, rfl⟩
    have HU : Hid (ks.getD m nix = u) := hu
    rw [hu] at hKA
    clear hu hcka
    by_cases hus : (300 : Int) < u.size
    · go_wp2
      go_ret
      exact HNEG.out _ _ rfl hbA
    · go_wp2
      go_roundw
      case rel => exact ⟨m + 1, by go_num, hmk, fun x hx => (Nat.lt_succ_iff_lt_or_eq.1 hx).elim (HE.out x) fun e => by rw [e, HU.out]; omega, trivial⟩
      case measure => simp [intOf]; omega
  · obtain rfl : m = nk := by omega
    have HKS : Hid (ks.all (fun k => decide (k.size ≤ 1000000000)) = true) := by
     show _ = _
     rw [List.all_eq_true]
     intro x hx
     obtain ⟨y, hy, rfl⟩ := List.getElem_of_mem hx
     have := HE.out y (by rw [← HNK.out]; exact hy)
     rw [key_getD hy] at this
     exact decide_eq_true (by omega)
    go_wp2
    go_loopw [1, 8] (fun u v w2 => ∃ (m : Nat) (r : Int), v = .int .i64 m ∧ u = .int .i64 r ∧ m ≤ nl ∧ r ≤ n - 1 ∧ -1 ≤ r ∧ Hid (0 ≤ r → (l.take m).all (szJ d) = true) ∧ Below wr.heap.size wr w2) (fun _ v _ => nl - (intOf v).toNat)
    case atStart => exact ⟨0, n - 1, rfl, rfl, Nat.zero_le _, by omega, by omega, fun _ => rfl, Below.refl _ _⟩
    case round =>
     obtain ⟨m', r, rfl, rfl, hm', hrn, hr0, HT, hb2⟩ := hrel
     have a4 := HCA.out wr hb2 4 _ rfl
     by_cases hml : m' < nl
     · have hmi : (m' : Int) < (nl : Int) := by omega
       by_cases hr : 0 ≤ r
       · have hml1 : m' < l.length := by rw [HNL.out]; exact hml
         have HML : Hid (m' < l.length) := hml1
         obtain ⟨lb, lo, cs, hpl, hOl, hcells, hyj⟩ := isJs.at l 0 m' hs hml1
         subst hpl
         obtain ⟨x0, x1, x2, p3, n3, c3, p4, n4, c4, rfl⟩ := isJ_shape hyj
         have hblk := (hb2.block lb (by have := hO _ hOl; omega)).trans (hbA.block lb (hO _ hOl))
         have cc : ∀ m v, [Value.int .i64 x0, .int .i64 x1, .string x2, .slice p3 n3 c3, .slice p4 n4 c4][m]? = some v → wr.cell? ⟨lb, lo + m' * 5 + m, none⟩ = some v := fun m v h => by
          have := hcells m v h
          rw [Nat.zero_add] at this
          exact (World.cell?_of_block (a := ⟨lb, lo + m' * 5 + m, none⟩) hblk).trans this
         have y0 : wr.cell? ⟨lb, lo + m' * 5, none⟩ = some (.int .i64 x0) := cc 0 _ rfl
         have y1 := cc 1 _ rfl
         have y2 := cc 2 _ rfl
         have y3 := cc 3 _ rfl
         have y4 := cc 4 _ rfl
         have hB2 := below_cat hbA (by omega) hb2
         have hV := V wr O (l.getD m' J.zero) x0 x1 (deep - 1) r x2 p3 p4 n3 c3 n4 c4 (fun b hb => Nat.lt_of_lt_of_le (hO b hb) hB2.size) HD.out HDL.out hr (by omega) (hyj.carry fun b hb => ⟨hb, hB2.block b (hO b hb)⟩)
         clear cc hcells hml1 hyj hblk
         go_wp2_with (go_at_call 34; refine hV.mono ?_; rintro x w4 ⟨⟨r4, rfl, hr4, hr5, hr6⟩, hb4⟩)
         go_roundw
         case rel => exact ⟨m' + 1, r4, by go_num, rfl, hml, by omega, hr5, fun h => by rw [all_take HML.out, HT.out hr, hr6 h]; rfl, below_cat hb2 hb2.size hb4⟩
         case measure => simp [intOf]; omega
       · go_wp2
         go_ret
         refine ⟨⟨r, rfl, by omega, hr0, fun h => absurd h (by omega)⟩, below_cat hbA (by omega) hb2⟩
     · obtain rfl : m' = nl := by omega
       go_wp2
       go_ret
       refine ⟨⟨r, rfl, by omega, hr0, fun h => ?_⟩, below_cat hbA (by omega) hb2⟩
       have ht := HT.out h
       rw [List.take_of_length_le (by rw [HNL.out]; omega)] at ht
       unfold szJ
       rw [HKS.out, ht, HNK.out, HNL.out, decide_eq_true (show t.size ≤ 1000000000 by omega), decide_eq_true (show m ≤ 100000 by omega), decide_eq_true (show m' ≤ 100000 by omega)]
       rfl
theorem elefts : ∀ d, LeftsE d
 | 0 => eleft_zero
 | d + 1 => eleft_step (elefts d)
theorem six_c {w : World} {b : Nat} {t : TypeId} {a0 a1 a2 a3 a4 a5 a6 a7 a8 a9 a10 a11 a12 a13 a14 a15 : Value} (h : w.heap[b]? = some (.cells #[a0, a1, a2, a3, a4, a5, a6, a7, a8, a9, a10, a11, a12, a13, a14, a15] t (0, 0))) (j : Nat) (v : Value) (hj : [a0, a1, a2, a3, a4, a5, a6, a7, a8, a9, a10, a11, a12, a13, a14, a15][j]? = some v) : w.cell? ⟨b, j, none⟩ = some v := cell_row (cur := [a0, a1, a2, a3, a4, a5, a6, a7, a8, a9, a10, a11, a12, a13, a14, a15]) h j v hj
end Go.Proofs.YtimhpglfolbomaaGreat
namespace Go.Proofs.YtimhpglfolbomaaGreat
open Go.RowKit Go.Maps
structure BigE (e : Ev) : Prop where
 room : e.room.size ≤ 140737488355328
 typ : e.typ.size ≤ 140737488355328
 sender : e.sender.size ≤ 140737488355328
 key : e.key.size ≤ 140737488355328
 hash : e.hash.size ≤ 140737488355328
 sigs : ∀ x ∈ e.sigs, x.1.size ≤ 140737488355328 ∧ x.2.size ≤ 140737488355328
structure FewE (e : Ev) : Prop where
 texts : e.room.size + e.typ.size + e.sender.size + e.key.size + e.hash.size ≤ 2000
 prev : e.prev.length ≤ 30
 prevs : ∀ x ∈ e.prev, x.size ≤ 100
 auth : e.auth.length ≤ 30
 auths : ∀ x ∈ e.auth, x.size ≤ 100
 sigs : e.sigs.length ≤ 30
 sigss : ∀ x ∈ e.sigs, x.1.size + x.2.size ≤ 200
 cont : szJ 20 e.content = true
theorem FewE.sz {e : Ev} (h : FewE e) : SzE e := by
 have t := h.texts
 exact ⟨by omega, by omega, by omega, by omega, by omega, sz_less 12 20 _ (by decide) h.cont, Nat.le_trans h.prev (by decide), fun x hx => Nat.le_trans (h.prevs x hx) (by decide), Nat.le_trans h.auth (by decide), fun x hx => Nat.le_trans (h.auths x hx) (by decide), Nat.le_trans h.sigs (by decide), fun x hx => by have := h.sigss x hx; omega⟩
def FewP (w w' : World) (e : Ev) (x : Ending) : Prop := (∃ b : Bool, x = .returned (.bool b) ∧ (b = true → FewE e)) ∧ Below w.heap.size w w'
theorem all_getD {l : List ByteArray} {B : Nat} (h : ∀ x, x < l.length → (l.getD x nix).size ≤ B) : ∀ x ∈ l, x.size ≤ B := fun x hx => by
 obtain ⟨y, hy, rfl⟩ := List.getElem_of_mem hx
 have := h y hy
 rwa [key_getD hy] at this
theorem eFew_any {O : Nat → Prop} (e : Ev) (p : Pt) (w : World) (hE : IsE O w e p) (hO : ∀ k, O k → k < w.heap.size) (hl : BigE e) :
    Calls Tryz.prog 16 #[valE e p] w fun x w' => FewP w w' e x := by
 obtain ⟨room, typ, sender, st, key, ⟨k, i, t, ks, l⟩, prev, auth, depth, ts, hash, sigs⟩ := e
 obtain ⟨pk, ck, pl, cl, pp, cp, pa, ca, ps, cs⟩ := p
 obtain ⟨z0, z1, z2, z4, z14, z15⟩ := hl
 obtain ⟨hc, hp, ha, hs⟩ := hE
 simp only at z0 z1 z2 z4 z14 z15 hc hp ha hs
 unfold five at hc
 simp only [J.kind, J.int, J.text, J.keys, J.list] at hc
 simp only [valE, cellsE, J.kind, J.int, J.text, J.keys, J.list]
 obtain ⟨np, hnp⟩ : ∃ n, prev.length = n := ⟨_, rfl⟩
 obtain ⟨na, hna⟩ : ∃ n, auth.length = n := ⟨_, rfl⟩
 obtain ⟨ns, hns⟩ : ∃ n, sigs.length = n := ⟨_, rfl⟩
 have HNP : Hid (prev.length = np) := hnp
 have HNA : Hid (auth.length = na) := hna
 have HNS : Hid (sigs.length = ns) := hns
 have hcp := hp.1
 have hca := ha.1
 have hcs := hs.1
 rw [hnp] at hcp ⊢
 rw [hna] at hca ⊢
 rw [hns] at hcs ⊢
 clear hnp hna hns
 obtain ⟨WB, hWB⟩ : ∃ WB, WB = w.alloc (.cells #[.string room, .string typ, .string sender, .bool st, .string key, .int .i64 k, .int .i64 i, .string t, .slice pk ks.length ck, .slice pl l.length cl, .slice pp np cp, .slice pa na ca, .int .i64 depth, .int .i64 ts, .string hash, .slice ps ns cs] 39) := ⟨_, rfl⟩
 have hbw : Below w.heap.size w WB := by rw [hWB]; exact (Below.refl _ _).alloc (Nat.le_refl _) _
 have hrs : WB.heap[w.heap.size]? = some (.cells #[.string room, .string typ, .string sender, .bool st, .string key, .int .i64 k, .int .i64 i, .string t, .slice pk ks.length ck, .slice pl l.length cl, .slice pp np cp, .slice pa na ca, .int .i64 depth, .int .i64 ts, .string hash, .slice ps ns cs] 39 (0, 0)) := by rw [hWB]; exact heap_alloc_new _ _
 have HNO : Hid (∀ W', Below w.heap.size w W' → ∀ x : Ending, x = .returned (.bool false) → FewP w W' ⟨room, typ, sender, st, key, ⟨k, i, t, ks, l⟩, prev, auth, depth, ts, hash, sigs⟩ x) := fun W' h x hx => ⟨⟨false, hx, fun h => by cases h⟩, h⟩
 by_cases h1 : (2000 : Int) < (room.size : Int) + typ.size + sender.size + key.size + hash.size
 · go_enter Tryz.func16, Tryz.ntmps16
   go_wp2
   go_ret
   exact HNO.out _ (hWB ▸ hbw) _ rfl
 by_cases h2 : (30 : Int) < np
 · go_enter Tryz.func16, Tryz.ntmps16
   go_wp2
   go_ret
   exact HNO.out _ (hWB ▸ hbw) _ rfl
 by_cases h3 : (30 : Int) < na
 · go_enter Tryz.func16, Tryz.ntmps16
   go_wp2
   go_ret
   exact HNO.out _ (hWB ▸ hbw) _ rfl
 by_cases h4 : (30 : Int) < ns
 · go_enter Tryz.func16, Tryz.ntmps16
   go_wp2
   go_ret
   exact HNO.out _ (hWB ▸ hbw) _ rfl
 have H1 : Hid (room.size + typ.size + sender.size + key.size + hash.size ≤ 2000) := by show _ ≤ _; omega
 have HP : Hid (∀ j, j < np → ∃ a, pp = some a ∧ WB.cell? (a.add j) = some (.string (prev.getD j nix))) := fun j hj => by
  obtain ⟨a, e, hOa, hca⟩ := hp.2 j (by rw [HNP.out]; exact hj)
  exact ⟨a, e, (World.cell?_of_block (by rw [add_block]; exact hbw.block _ (hO _ hOa))).trans hca⟩
 have HA : Hid (∀ j, j < na → ∃ a, pa = some a ∧ WB.cell? (a.add j) = some (.string (auth.getD j nix))) := fun j hj => by
  obtain ⟨a, e, hOa, hca⟩ := ha.2 j (by rw [HNA.out]; exact hj)
  exact ⟨a, e, (World.cell?_of_block (by rw [add_block]; exact hbw.block _ (hO _ hOa))).trans hca⟩
 have HSG : Hid (∀ j, j < ns → ∃ b o, ps = some ⟨b, o, none⟩ ∧ WB.cell? ⟨b, o + j * 2, none⟩ = some (.string (sigs.getD j (nix, nix)).1) ∧ WB.cell? ⟨b, o + j * 2 + 1, none⟩ = some (.string (sigs.getD j (nix, nix)).2)) := fun j hj => by
  obtain ⟨b, o, e, hOb, h1, h2⟩ := hs.2 j (by rw [HNS.out]; exact hj)
  exact ⟨b, o, e, (World.cell?_of_block (a := ⟨b, o + j * 2, none⟩) (hbw.block _ (hO _ hOb))).trans h1, (World.cell?_of_block (a := ⟨b, o + j * 2 + 1, none⟩) (hbw.block _ (hO _ hOb))).trans h2⟩
 have HL : Hid (∀ n, Calls Tryz.prog 34 #[.agg #[.int .i64 k, .int .i64 i, .string t, .slice pk ks.length ck, .slice pl l.length cl], .int .i64 300, .int .i64 20] (WB.drewN n) fun x w' => (∃ r : Int, x = .returned (.int .i64 r) ∧ r ≤ 300 ∧ -1 ≤ r ∧ (0 ≤ r → szJ 20 (.mk k i t ks l) = true)) ∧ Below (WB.drewN n).heap.size (WB.drewN n) w') := fun n =>
  elefts 20 (WB.drewN n) O (.mk k i t ks l) k i 20 300 t pk pl ks.length ck l.length cl (fun b hb => Nat.lt_of_lt_of_le (hO b hb) (below_in hbw (Id.below_drewN WB n)).size) rfl (by decide) (by decide) (by decide) (hc.carry fun b hb => ⟨hb, (below_in hbw (Id.below_drewN WB n)).block b (hO b hb)⟩)
 have HBW : Hid (Below w.heap.size w WB) := hbw
 have HZS : Hid (∀ x ∈ sigs, x.1.size ≤ 140737488355328 ∧ x.2.size ≤ 140737488355328) := z15
 clear hc hp ha hs hO hbw z15
 have q0 := six_c hrs 0 _ rfl; have q1 := six_c hrs 1 _ rfl; have q2 := six_c hrs 2 _ rfl; have q4 := six_c hrs 4 _ rfl; have q14 := six_c hrs 14 _ rfl; have q10 := six_c hrs 10 _ rfl; have q11 := six_c hrs 11 _ rfl; have q15 := six_c hrs 15 _ rfl
 have q5 := six_c hrs 5 _ rfl; have q6 := six_c hrs 6 _ rfl; have q7 := six_c hrs 7 _ rfl; have q8 := six_c hrs 8 _ rfl; have q9 := six_c hrs 9 _ rfl
 go_enter Tryz.func16, Tryz.ntmps16
 go_wp2
 rw [← hWB]
 clear hWB hrs
 go_loopw [3] (fun v wr => ∃ m : Nat, v = .int .i64 m ∧ m ≤ np ∧ Hid (∀ x, x < m → (prev.getD x nix).size ≤ 100) ∧ wr = WB) (fun v _ => np - (intOf v).toNat)
 case atStart => exact ⟨0, rfl, Nat.zero_le _, fun m hm => absurd hm (by omega), rfl⟩
 case round =>
  obtain ⟨m, rfl, hm, HX, rfl⟩ := hrel
  by_cases hlt : m < np
  · have hmi : (m : Int) < (np : Int) := by omega
    obtain ⟨a, rfl, hca1⟩ := HP.out m hlt
    obtain ⟨u, hu⟩ : ∃ u, prev.getD m nix = u := ⟨_, rfl⟩
    have HU : Hid (prev.getD m nix = u) := hu
    rw [hu] at hca1
    clear hu
    by_cases hus : (100 : Int) < u.size
    · go_wp2
      go_ret
      exact HNO.out _ HBW.out _ rfl
    · go_wp2
      go_roundw
      case rel => exact ⟨m + 1, by go_num, hlt, fun x hx => (Nat.lt_succ_iff_lt_or_eq.1 hx).elim (HX.out x) fun e => by rw [e, HU.out]; omega, trivial⟩
      case measure => simp [intOf]; omega
  · obtain rfl : m = np := by omega
    have HXP : Hid (∀ x ∈ prev, x.size ≤ 100) := all_getD (by rw [HNP.out]; exact HX.out)
    clear HX hlt hm
    go_wp2
    go_loopw [4] (fun v wr2 => ∃ n : Nat, v = .int .i64 n ∧ n ≤ na ∧ Hid (∀ x, x < n → (auth.getD x nix).size ≤ 100) ∧ wr2 = wr) (fun v _ => na - (intOf v).toNat)
    case atStart => exact ⟨0, rfl, Nat.zero_le _, fun m hm => absurd hm (by omega), rfl⟩
    case round =>
     obtain ⟨n, rfl, hn, HX, rfl⟩ := hrel
     by_cases hlt : n < na
     · have hmi : (n : Int) < (na : Int) := by omega
       obtain ⟨a, rfl, hca1⟩ := HA.out n hlt
       obtain ⟨u, hu⟩ : ∃ u, auth.getD n nix = u := ⟨_, rfl⟩
       have HU : Hid (auth.getD n nix = u) := hu
       rw [hu] at hca1
       clear hu
       by_cases hus : (100 : Int) < u.size
       · go_wp2
         go_ret
         exact HNO.out _ HBW.out _ rfl
       · go_wp2
         go_roundw
         case rel => exact ⟨n + 1, by go_num, hlt, fun x hx => (Nat.lt_succ_iff_lt_or_eq.1 hx).elim (HX.out x) fun e => by rw [e, HU.out]; omega, trivial⟩
         case measure => simp [intOf]; omega
     · obtain rfl : n = na := by omega
       have HXA : Hid (∀ x ∈ auth, x.size ≤ 100) := all_getD (by rw [HNA.out]; exact HX.out)
       clear HX hlt hn
       go_wp2
       go_loopw [5] (fun v wr3 => ∃ (h d : Nat), v = .int .i64 h ∧ h ≤ ns ∧ Hid (∀ x, x < h → (sigs.getD x (nix, nix)).1.size + (sigs.getD x (nix, nix)).2.size ≤ 200) ∧ wr3 = wr.drewN d) (fun v _ => ns - (intOf v).toNat)
       case atStart => exact ⟨0, 0, rfl, Nat.zero_le _, fun m hm => absurd hm (by omega), rfl⟩
       case round =>
        obtain ⟨h, d, rfl, hh, HX, rfl⟩ := hrel
        by_cases hlt : h < ns
        · have hmi : (h : Int) < (ns : Int) := by omega
          obtain ⟨b, o, rfl, hc1, hc2⟩ := HSG.out h hlt
          have hmem : sigs.getD h (nix, nix) ∈ sigs := by
           rw [List.getD_eq_getElem?_getD, List.getElem?_eq_getElem (by rw [HNS.out]; exact hlt)]
           exact List.getElem_mem _
          have hz := HZS.out _ hmem
          obtain ⟨uv, huv⟩ : ∃ u, sigs.getD h (nix, nix) = u := ⟨_, rfl⟩
          have HU : Hid (sigs.getD h (nix, nix) = uv) := huv
          rw [huv] at hc1 hc2 hz
          clear huv hmem
          obtain ⟨u, v⟩ := uv
          obtain ⟨y1, y2⟩ := hz
          simp only at hc1 hc2 y1 y2
          by_cases hus : (200 : Int) < (u.size : Int) + v.size
          · go_wp2
            refine wp_region_quiet_lit (by kernel_rfl) (by kernel_rfl) ?_
            repeat (any_goals (first | go_big_quiet_step (fail) | quiet_step (fail)))
            refine wpQuiet_nil ?_
            intro _ hw
            obtain ⟨nq, hw⟩ := hw
            subst hw
            go_wp2
            go_ret
            exact HNO.out _ (below_in HBW.out (by simpa [World.drewN_drewN] using Id.below_drewN _ _)) _ rfl
          · go_wp2
            refine wp_region_quiet_lit (by kernel_rfl) (by kernel_rfl) ?_
            repeat (any_goals (first | go_big_quiet_step (fail) | quiet_step (fail)))
            refine wpQuiet_nil ?_
            intro _ hw
            obtain ⟨nq, hw⟩ := hw
            subst hw
            go_wp2
            go_roundw
            case rel => exact ⟨h + 1, _, by go_num, hlt, fun x hx => (Nat.lt_succ_iff_lt_or_eq.1 hx).elim (HX.out x) fun e => by rw [e, HU.out]; show u.size + v.size ≤ 200; omega, rfl⟩
            case measure => simp [intOf]; omega
        · obtain rfl : h = ns := by omega
          have hL := HL.out d
          go_wp2_with (go_at_call 34; refine hL.mono ?_; rintro x w4 ⟨⟨r4, rfl, hr4, hr5, hr6⟩, hb4⟩)
          go_ret
          refine ⟨⟨_, rfl, fun hh => ?_⟩, below_in HBW.out (below_in (Id.below_drewN _ _) hb4)⟩
          refine ⟨H1.out, by show prev.length ≤ 30; rw [HNP.out]; omega, HXP.out, by show auth.length ≤ 30; rw [HNA.out]; omega, HXA.out, by show sigs.length ≤ 30; rw [HNS.out]; omega, fun x hx => ?_, hr6 (of_decide_eq_true hh)⟩
          obtain ⟨y, hy, rfl⟩ := List.getElem_of_mem hx
          have := HX.out y (by rw [← HNS.out]; exact hy)
          rw [List.getD_eq_getElem?_getD, List.getElem?_eq_getElem hy] at this
          exact this
end Go.Proofs.YtimhpglfolbomaaGreat

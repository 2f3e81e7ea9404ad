/-
  Add where it is taken, and where something is missing, by contracts.
-/
import Derived.Test.YtbjeaogblpjpeaaGAdd
namespace Go.Proofs.Ytbjeaogblpjpeaa
open Go.RowKit Go.Maps

/-- One more thing of three cells at the end of a row of the call's own. -/
theorem wpList_append3 {w : World} {ops : Array Oper} {rest : List Oper} {o : Oper} {a : Act} {Q : Exit → Act → World → Prop} (hgd : o.guard = none) (s x : Operand) (t e : TypeId) (z : Value)
    (ho : o.op = .call { callee := .builtin .append, args := #[s, x], argTypes := #[t, t] }) (ht : Try.prog.underlying t = some (.slice e)) (hinfo : (Try.prog.info? e).map (fun i => (i.zero, i.size, i.bytes)) = some (some z, 3, 64)) (hzs : z.cells.size = 3)
    (v : Value) (n : Nat) (xs : List Value) (hs : a.eval s = v) (hown : w.ownsRow 0 e 3 v n xs)
    (b : Nat) (c0 c1 c2 : Value) (hx : a.eval x = .slice (some ⟨b, 0, none⟩) 1 1) (hb : w.heap[b]? = some (.cells #[c0, c1, c2] e)) (k0 : c0.oneCell' = true) (k1 : c1.oneCell' = true) (k2 : c2.oneCell' = true)
    (hn : n ≤ 1000000)
    (h : ∀ v' w', w'.ownsRow 0 e 3 v' (n + 1) (xs ++ [c0, c1, c2]) → w.grownBy w' v.ownBlock → (v'.ownBlock = v.ownBlock ∨ v'.ownBlock = some w.heap.size) → wpList Try.prog ops Q rest (a.put o.dst v') w') : wpList Try.prog ops Q (o :: rest) a w := by
  refine wpList_plain hgd fun K hK => ?_
  obtain ⟨i0, hi, hz0, hz1, hz2⟩ := info_parts hinfo
  obtain ⟨v', w', hr, h2, h3, h4, h5⟩ := run_append_own_at (P := Try.prog) w 0 t o.type e i0 z 3 64 ht hi hz0 hz1 hz2 hzs (by decide) v n xs hown ⟨b, 0, none⟩ 1 1 [c0, c1, c2] rfl (fun j u hj => by
    rw [add_flat, Nat.zero_add]
    exact cell_row (cur := [c0, c1, c2]) hb j u hj) (fun u hu => by
      simp only [List.mem_cons, List.not_mem_nil, or_false] at hu
      rcases hu with rfl | rfl | rfl <;> assumption) (by unfold maxLen; omega) (by omega) (Nat.zero_le _)
  unfold Oper.wp execOp
  simp only [ho, resolve, invoke, builtin, Sem.run_bind, Sem.run_pure, Result.andThen_ok, List.map_toArray, List.map_cons, List.map_nil, hs, hx, hr]
  exact hK _ _ (h v' w' h2 h3 h5)

theorem own_slice {w : World} {B e size n : Nat} {v : Value} {xs : List Value} (h : w.ownsRow B e size v n xs) : ∃ q c, v = .slice q n c := by
  rcases h.2 with ⟨rfl, rfl⟩ | ⟨g, cap, cur, rfl, _⟩
  · exact ⟨_, _, rfl⟩
  · exact ⟨_, _, rfl⟩
theorem sl_one (p : Option Addr) (n c : Nat) : (Value.slice p n c).oneCell' = true := rfl
theorem Rd.same_keep {α : Type} {enc : α → Value} {O S : Nat → Prop} {w w' : World} {p : Option Addr} {c : Nat} {xs : List α} (h : Rd enc O w p c xs) (hk : Keep S w w') (hO : ∀ k, O k → k < w.heap.size ∧ ¬ S k) : Rd enc O w' p c xs := h.same (Same.of_keep hk hO)

/-- What Add leaves where it takes a thing. -/
theorem add_end {O : Nat → Prop} {gb mb : Nat} {v v' : Value} {xs : List Value} {T : List Th} {d : Dd} {w w2 w3 w4 : World} {p1 p2 : Option Addr} {c1 c2 : Nat} {ob : Obj}
    (h : PG O w gb mb v xs T) (he : errOf T d = 0 ∧ addT T d = T ++ [thOf T d]) (hb2 : Below w.heap.size w w2) (hnm : Nms w3 mb (nms T ++ [d.name])) (hg3 : w2.drew.grownBy w3 (some mb))
    (r1 : RdI (fun k => w.heap.size ≤ k ∧ k < w2.heap.size) w2 p1 c1 (zs (plsOf T d.prev))) (r2 : RdI (fun k => w.heap.size ≤ k ∧ k < w2.heap.size) w2 p2 c2 (zs (plsOf T d.auth)))
    (hown4 : w4.ownsRow 0 63 3 v' (T.length + 1) (xs ++ [.string d.name, .slice p1 (zs (plsOf T d.prev)).length c1, .slice p2 (zs (plsOf T d.auth)).length c2])) (hg4 : (w3.alloc ob).grownBy w4 v.ownBlock)
    (hat : v'.ownBlock = v.ownBlock ∨ v'.ownBlock = some (w3.alloc ob).heap.size) : AddP O gb T d w (.returned (.int .i64 0)) (w4.setCell ⟨gb, 1, none⟩ v') := by
  have hz2 := hb2.size
  have hz3 : w2.heap.size ≤ w3.heap.size := hg3.size
  have hz4 := hg4.size
  have hza : (w3.alloc ob).heap.size = w3.heap.size + 1 := by simp
  have hgl := h.lt gb h.og
  have hml := h.lt mb h.om
  have hgm : gb ≠ mb := by
    rintro rfl
    exact h.names.bare h.obj
  have hvg : v.ownBlock ≠ some gb := by
    rcases h.row.2 with ⟨rfl, _⟩ | ⟨g, cap, cur, rfl, _, hg, _⟩
    · intro e; cases e
    · intro e
      cases e
      rw [h.obj] at hg
      cases hg
  have hvm : v.ownBlock ≠ some mb := by
    rcases h.row.2 with ⟨rfl, _⟩ | ⟨g, cap, cur, rfl, _, hg, _⟩
    · intro e; cases e
    · intro e
      cases e
      exact h.names.bare hg
  have s3 : ∀ k, k < w2.heap.size → k ≠ mb → w3.heap[k]? = w2.heap[k]? := fun k hk hn => hg3.block k hk (fun e => hn (Option.some.inj e))
  have s4 : ∀ k, k < w3.heap.size → v.ownBlock ≠ some k → w4.heap[k]? = w3.heap[k]? := fun k hk hn => (hg4.block k (by omega) (fun e => hn e.symm)).trans (((Below.refl _ _).alloc (Nat.le_refl _) ob).block k hk)
  have s5 : ∀ k, k ≠ gb → (w4.setCell ⟨gb, 1, none⟩ v').heap[k]? = w4.heap[k]? := fun k hk => heap_setCell_other w4 _ k _ hk
  have sz5 : (w4.setCell ⟨gb, 1, none⟩ v').heap.size = w4.heap.size := by simp
  have all : ∀ k, k < w2.heap.size → k ≠ gb → k ≠ mb → v.ownBlock ≠ some k → (w4.setCell ⟨gb, 1, none⟩ v').heap[k]? = w2.heap[k]? := fun k hk h1 h2 h3 => ((s5 k h1).trans (s4 k (by omega) h3)).trans (s3 k hk h2)
  have ov' : ∀ k, v'.ownBlock = some k → More O w (w4.setCell ⟨gb, 1, none⟩ v') k ∧ k ≠ gb := by
    intro k hk
    rcases hat with e | e
    · rw [e] at hk; exact ⟨.inl (h.ov k hk), fun e' => hvg (by rw [hk, e'])⟩
    · have hl := (hown4.lt k hk).2
      rw [e] at hk
      cases hk
      exact ⟨.inr ⟨by omega, by omega⟩, by omega⟩
  have nv' : ∀ k, k < w3.heap.size → v.ownBlock ≠ some k → v'.ownBlock ≠ some k := by
    intro k hk hn e
    rcases hat with e' | e'
    · exact hn (e' ▸ e)
    · rw [e'] at e
      cases e
      omega
  refine ⟨by rw [he.1], ⟨hg4.os.trans (hg3.os.trans hb2.os), hg4.tape.trans (hg3.tape.trans hb2.tape), hg4.output.trans (hg3.output.trans hb2.output), by omega, fun k hk hn => ?_⟩, mb, v', xs ++ [.string d.name, .slice p1 (zs (plsOf T d.prev)).length c1, .slice p2 (zs (plsOf T d.auth)).length c2], ?_⟩
  · exact (all k (by omega) (fun e => hn (e ▸ h.og)) (fun e => hn (e ▸ h.om)) (fun e => hn (h.ov k e))).trans (hb2.block k hk)
  · rw [he.2]
    refine ⟨?_, ?_, ?_, ?_, .inl h.og, .inl h.om, fun k hk => (ov' k hk).1, fun k hk => ?_⟩
    · have o4 : w4.heap[gb]? = some (.cells #[.map (some mb), v] 68) := ((s4 gb (by omega) hvg).trans (s3 gb (by omega) hgm)).trans ((hb2.block gb hgl).trans h.obj)
      rw [heap_setCell_same w4 gb 1 _ _ _ o4]
      rfl
    · rw [nms_snoc]
      exact hnm.same ((s5 mb hgm.symm).trans (s4 mb (by omega) hvm))
    · rw [List.length_append]
      exact ownsRow_setCell_other hown4 (fun e => (ov' gb e).2 rfl) _
    · refine Thx.snoc ?_ h.row.1 ?_ ?_
      · refine h.cells.carry (fun k hk => ?_) fun k hk => ⟨.inl hk.1, hk.2.1, hk.2.2.1, nv' k (by have := h.lt k hk.1; omega) hk.2.2.2⟩
        have := h.lt k hk.1
        exact (all k (by omega) hk.2.1 hk.2.2.1 hk.2.2.2).trans (hb2.block k this)
      · refine r1.carry (fun k hk => ?_) fun k hk => ?_
        · exact all k hk.2 (by omega) (by omega) (fun e => by have := h.lt k (h.ov k e); omega)
        · exact ⟨.inr ⟨hk.1, by omega⟩, by omega, by omega, nv' k (by omega) (fun e => by have := h.lt k (h.ov k e); omega)⟩
      · refine r2.carry (fun k hk => ?_) fun k hk => ?_
        · exact all k hk.2 (by omega) (by omega) (fun e => by have := h.lt k (h.ov k e); omega)
        · exact ⟨.inr ⟨hk.1, by omega⟩, by omega, by omega, nv' k (by omega) (fun e => by have := h.lt k (h.ov k e); omega)⟩
    · rcases hk with hk | hk
      · have := h.lt k hk; omega
      · exact hk.2

set_option maxHeartbeats 2000000 in
theorem add_missing {O : Nat → Prop} {gb : Nat} {T : List Th} (d : Dd) (p2 p3 : Option Addr) (k2 k3 : Nat) (w : World) (h : Gp O w gb T) (hT : T.length ≤ 100) (hs : d.name.size ≤ 100) (h0 : d.name ≠ ⟨#[]⟩) (h1 : d.name ∉ nms T)
    (r2 : RdS (· < w.heap.size) w p2 k2 d.prev) (r3 : RdS (· < w.heap.size) w p3 k3 d.auth) (l2 : d.prev.length ≤ 10) (l3 : d.auth.length ≤ 10) (s2 : ∀ s ∈ d.prev, s.size ≤ 100) (s3 : ∀ s ∈ d.auth, s.size ≤ 100) (hm : (allIn T d.prev && allIn T d.auth) = false) :
    Calls Try.prog 29 #[.pointer (some ⟨gb, 0, none⟩), .string d.name, .slice p2 d.prev.length k2, .slice p3 d.auth.length k3] w (AddP O gb T d w) := by
  have HE := err_missing h0 h1 hm
  have HP : Hid (∀ w', Below w.heap.size w w' → AddP O gb T d w (.returned (.int .i64 80)) w') := fun w' hb => ⟨by rw [HE.1], Keep.of_below hb, by rw [HE.2]; exact h.more hb⟩
  have hpl := place_out d.name w h.q (by omega) (inn_not.2 h1)
  have ra := row_any d.prev p2 k2 w h.q r2 hT l2 s2
  have HR : Hid (∀ w1, Below w.heap.size w w1 → Calls Try.prog 40 #[.pointer (some ⟨gb, 0, none⟩), .slice p3 d.auth.length k3] w1 (RowP T d.auth w1)) := fun w1 hb => row_any d.auth p3 k3 w1 (h.q.below hb) (((r3.below hb)).carry (fun _ _ => rfl) fun k hk => by have := hb.size; omega) hT l3 s3
  obtain ⟨mb, v, xs, h⟩ := h
  have hc := cell_row (cur := [_, _]) h.obj 0 _ rfl
  have q := eqMap
  have he : d.name.toList.isEmpty = false := by rw [empty_iff]; simpa using h0
  clear h HE h0 h1 r2 r3 s2 s3
  generalize d.name = nm at *
  cases ha : allIn T d.prev with
  | false =>
    go_enter Try.func29, Try.ntmps29
    go_wp2_with (first
      | (go_at_call 19; refine hpl.mono ?_; rintro e w' ⟨rfl, rfl⟩)
      | (go_at_call 40; have _h := rb; refine rb.mono ?_; rintro e w2 ⟨hb2, va, rfl, _⟩)
      | (go_at_call 40; refine ra.mono ?_; rintro e w1 ⟨hb1, vp, rfl, _⟩; rw [ha]; have rb := HR.out w1 hb1))
    go_ret
    exact HP.out _ (hb1.trans (hb2.mono hb1.size))
  | true =>
    have ha2 : allIn T d.auth = false := by rw [ha] at hm; simpa using hm
    go_enter Try.func29, Try.ntmps29
    go_wp2_with (first
      | (go_at_call 19; refine hpl.mono ?_; rintro e w' ⟨rfl, rfl⟩)
      | (go_at_call 40; have _h := rb; refine rb.mono ?_; rintro e w2 ⟨hb2, va, rfl, _⟩; rw [ha2])
      | (go_at_call 40; refine ra.mono ?_; rintro e w1 ⟨hb1, vp, rfl, _⟩; rw [ha]; have rb := HR.out w1 hb1))
    go_ret
    exact HP.out _ (hb1.trans (hb2.mono hb1.size))
theorem own_rdO {w w' : World} {B : Nat} {v : Value} {l : List Int} (h : w.ownsRow B 3 1 v l.length (l.map (Value.int .i64))) (hb : Below w.heap.size w w') : ∃ q cq, v = .slice q l.length cq ∧ RdI (fun k => B ≤ k ∧ k < w'.heap.size) w' q cq l := by
  obtain ⟨q, cq, e, r⟩ := own_rd h
  exact ⟨q, cq, e, r.carry (Same.of_below hb fun k hk => (h.lt k hk).2) fun k hk => by have := h.lt k hk; have := hb.size; omega⟩
set_option maxRecDepth 100000 in
set_option maxHeartbeats 2000000 in
theorem add_ok {O : Nat → Prop} {gb : Nat} {T : List Th} (d : Dd) (p2 p3 : Option Addr) (k2 k3 : Nat) (w : World) (h : Gp O w gb T) (hT : T.length ≤ 100) (hs : d.name.size ≤ 100) (h0 : d.name ≠ ⟨#[]⟩) (h1 : d.name ∉ nms T)
    (r2 : RdS (· < w.heap.size) w p2 k2 d.prev) (r3 : RdS (· < w.heap.size) w p3 k3 d.auth) (l2 : d.prev.length ≤ 10) (l3 : d.auth.length ≤ 10) (s2 : ∀ s ∈ d.prev, s.size ≤ 100) (s3 : ∀ s ∈ d.auth, s.size ≤ 100) (ha : allIn T d.prev = true) (hb : allIn T d.auth = true) :
    Calls Try.prog 29 #[.pointer (some ⟨gb, 0, none⟩), .string d.name, .slice p2 d.prev.length k2, .slice p3 d.auth.length k3] w (AddP O gb T d w) := by
  have HE : Hid (errOf T d = 0 ∧ addT T d = T ++ [thOf T d]) := err_ok h0 h1 ha hb
  have hpl := place_out d.name w h.q (by omega) (inn_not.2 h1)
  have ra := row_any d.prev p2 k2 w h.q r2 hT l2 s2
  have HR : Hid (∀ w1, Below w.heap.size w w1 → Calls Try.prog 40 #[.pointer (some ⟨gb, 0, none⟩), .slice p3 d.auth.length k3] w1 (RowP T d.auth w1)) := fun w1 hb => row_any d.auth p3 k3 w1 (h.q.below hb) (((r3.below hb)).carry (fun _ _ => rfl) fun k hk => by have := hb.size; omega) hT l3 s3
  obtain ⟨mb, v, xs, h⟩ := h
  have HH : Hid (PG O w gb mb v xs T) := h
  have hc := cell_row (cur := [_, _]) h.obj 0 _ rfl
  have hgl := h.lt gb h.og
  obtain ⟨qv, cv, hqv, _, _⟩ := th_at h.row h.cellsO
  have q := eqMap
  have he : d.name.toList.isEmpty = false := by rw [empty_iff]; simpa using h0
  have hkey := keyS (s := d.name) (by unfold maxLen; omega)
  have HN1 : Hid (d.name ∉ nms T) := h1
  have hmx : d.name.size ≤ maxLen := by unfold maxLen; omega
  have HV : Hid (plainElem (H := Unit) Try.prog 3 (.int .i64 (T.length : Int)) = some (.lit (.int .i64 (T.length : Int)), [])) := plainElem_int Try.underlying3 (WalkArith.wf_i64 (by omega))
  have HU : Hid (∀ wx : World, Below w.heap.size w wx → ∃ w', (Instr.mapUpdate 65 (.map (some mb)) (.string d.name) (.int .i64 (T.length : Int))).run Try.prog wx.drew = .ok () w' ∧ Nms w' mb (nms T ++ [d.name]) ∧ wx.drew.grownBy w' (some mb)) := by
    intro wx hbx
    obtain ⟨D, hown, hnum⟩ := (h.names.same (hbx.block mb (h.lt mb h.om)) : Nms wx mb (nms T))
    have hown' : wx.drew.ownsMap Try.prog 9 (plainElem Try.prog 3) mb (nms T).length D := hown
    obtain ⟨w', e1, e2, e3⟩ := hown'.update law9 Try.underlying65 (by rw [nms_len]; unfold maxLen; omega) hkey HV.out
    refine ⟨w', e1, ⟨_, by rw [List.length_append]; exact e2, ?_⟩, e3⟩
    have := hnum.put hmx h1
    rw [nms_len] at this
    exact this
  clear h0 h1 r2 r3 s2 s3
  have HD : Hid (d = d) := rfl
  have ha' : Hid (allIn T d.prev = true) := ha
  have hb' : Hid (allIn T d.auth = true) := hb
  subst hqv
  go_enter Try.func29, Try.ntmps29
  go_wp2_with (first
    | (go_at_call 19; refine hpl.mono ?_; rintro e w' ⟨rfl, rfl⟩)
    | (go_at_call 40; have _h := rb; refine rb.mono ?_; rintro e w2 ⟨hb2, va, rfl, hoa⟩; rw [hb'.out]
       have hba := hb1.trans (hb2.mono hb1.size)
       obtain ⟨w3, hup, hnm, hg3⟩ := HU.out w2 hba
       have hcm : w2.drew.cell? ⟨gb, 0, none⟩ = some (.map (some mb)) := cell_row (cur := [_, _]) ((hba.block gb hgl).trans h.obj) 0 _ rfl
       have hcv : w2.drew.cell? ⟨gb, 1, none⟩ = some (.slice qv T.length cv) := cell_row (cur := [_, _]) ((hba.block gb hgl).trans h.obj) 1 _ rfl)
    | (go_at_call 40; refine ra.mono ?_; rintro e w1 ⟨hb1, vp, rfl, hop⟩; rw [ha'.out]; have rb := HR.out w1 hb1))
  have hz := hba.size
  have hcv3 : w3.cell? ⟨gb, 1, none⟩ = some (.slice qv T.length cv) := by
    refine (World.cell?_of_block (hg3.block gb (by show gb < w2.heap.size; omega) (fun e => ?_))).trans hcv
    cases e
    exact h.names.bare h.obj
  have hf3 : w3.heap[gb]? = some (.cells #[.map (some mb), .slice qv T.length cv] 68) := by
    refine (hg3.block gb (by show gb < w2.heap.size; omega) (fun e => ?_)).trans ((hba.block gb hgl).trans h.obj)
    cases e
    exact h.names.bare h.obj
  have hz3 : w2.heap.size ≤ w3.heap.size := hg3.size
  have ro : w3.ownsRow 0 63 3 (.slice qv T.length cv) T.length xs := (own_below h.row (hba)).kept (w := w2.drew) hg3 (.inr (fun e => by
    rcases h.row.2 with ⟨e0, _⟩ | ⟨g, cap, cur, e0, _, hg, _⟩
    · rw [e0] at e; cases e
    · rw [e0] at e; cases e
      exact h.names.bare hg))
  have hvg : (Value.slice qv T.length cv).ownBlock ≠ some gb := by
    intro e
    rcases h.row.2 with ⟨e0, _⟩ | ⟨g, cap, cur, e0, _, hg, _⟩
    · rw [e0] at e; cases e
    · rw [e0] at e; cases e
      rw [h.obj] at hg
      cases hg
  obtain ⟨q1, c1, rfl, x1⟩ := own_rdO (hop ha'.out) hb2
  obtain ⟨q2, c2, rfl, x2⟩ := own_rdO (own_le (hoa hb'.out) hb1.size) (Below.refl _ _)
  clear hop hoa rb ra hpl
  go_region
  all_goals
    go_wp2_with (first
      | (at_builtin; refine wpList_append3 rfl (.tmp 67) (.tmp 72) 66 63 _ rfl Try.underlying66 Try.infoT rfl _ T.length xs rfl (ro.alloc _) _ _ _ _ rfl (heap_alloc_new _ _) rfl rfl rfl (by omega) ?_; intro v' w4 hown4 hg4 hat4
         obtain ⟨q4, cq4, rfl⟩ := own_slice hown4
         have hf4 := (hg4.block gb (by simp; omega) (fun e => hvg e.symm)).trans ((((Below.refl w3.heap.size w3).alloc (Nat.le_refl _) _).block gb (by omega)).trans hf3)
         have hc4 := cell_row (cur := [_, _]) hf4 1 _ rfl
         have hz4 := frozen_of_row w4 gb 1 _ _ hf4))
    go_ret
    exact add_end HH.out HE.out hba hnm hg3 x1 x2 hown4 hg4 hat4
/-- A deed that is small. -/
def fitD (d : Dd) : Prop := d.name.size ≤ 100 ∧ (d.prev.length ≤ 10 ∧ ∀ s ∈ d.prev, s.size ≤ 100) ∧ d.auth.length ≤ 10 ∧ ∀ s ∈ d.auth, s.size ≤ 100
theorem add_any {O : Nat → Prop} {gb : Nat} {T : List Th} (d : Dd) (p2 p3 : Option Addr) (k2 k3 : Nat) (w : World) (h : Gp O w gb T) (hT : T.length ≤ 100) (hd : fitD d)
    (r2 : RdS (· < w.heap.size) w p2 k2 d.prev) (r3 : RdS (· < w.heap.size) w p3 k3 d.auth) :
    Calls Try.prog 29 #[.pointer (some ⟨gb, 0, none⟩), .string d.name, .slice p2 d.prev.length k2, .slice p3 d.auth.length k3] w (AddP O gb T d w) := by
  obtain ⟨hs, ⟨l2, s2⟩, l3, s3⟩ := hd
  by_cases h0 : d.name = ⟨#[]⟩
  · exact add_arg d _ _ w h h0
  · by_cases h1 : d.name ∈ nms T
    · exact add_have d _ _ w h hs h0 h1
    · cases ha : allIn T d.prev with
      | false => exact add_missing d p2 p3 k2 k3 w h hT hs h0 h1 r2 r3 l2 l3 s2 s3 (by rw [ha]; rfl)
      | true =>
        cases hb : allIn T d.auth with
        | false => exact add_missing d p2 p3 k2 k3 w h hT hs h0 h1 r2 r3 l2 l3 s2 s3 (by rw [ha, hb]; rfl)
        | true => exact add_ok d p2 p3 k2 k3 w h hT hs h0 h1 r2 r3 l2 l3 s2 s3 ha hb
end Go.Proofs.Ytbjeaogblpjpeaa

/-
  The comparisons of ranked, one behind the other: by contracts.
  Places sorted by comparisons, one behind the other: by a contract.
  Places in order: by a contract.
  Things of which some are told as soon as they may be: the others come in the same order without them.
  By power: as plain functions, and rows of levels.
-/
import Derived.Test.YtimhpglfolbomaaGreatRY14
set_option maxRecDepth 100000
set_option maxHeartbeats 16000000
namespace Go.Proofs.YtimhpglfolbomaaGreat.Od
open Go.RowKit Go.Maps
def MapL (w : World) (b N : Nat) (f : Int → Option Int) : Prop := ∃ D : DataW Unit, w.ownsMap Tryz.prog 3 (plainElem Tryz.prog 2) b N D ∧ unM 2 .i64 f D
theorem mapL_made (w : World) : MapL (w.alloc (.map #[] 0)) w.heap.size 0 (fun _ => none) := ⟨.map [], World.ownsMap_made _ _ _ _, unM_empty 2 .i64⟩
theorem MapL.same {w w' : World} {b N : Nat} {f : Int → Option Int} (h : MapL w b N f) (hs : w'.heap[b]? = w.heap[b]?) : MapL w' b N f := by
 obtain ⟨D, ⟨es, clock, hb, r⟩, hn⟩ := h
 exact ⟨D, ⟨es, clock, by rw [hs]; exact hb, r⟩, hn⟩
theorem MapL.lt {w : World} {b N : Nat} {f : Int → Option Int} (h : MapL w b N f) : b < w.heap.size := by
 obtain ⟨D, h1, _⟩ := h
 exact h1.lt
theorem zero2 (w : World) : (zeroValue 2).run Tryz.prog w = .ok (.int .i64 0) w := by kernel_rfl
theorem wpList_lookupL {w : World} {ops : Array Oper} {rest : List Oper} {o : Oper} {a : Act} {Q : Exit → Act → World → Prop} (hg : o.guard = none) (m x : Operand) (hop : o.op = Op.lookup 99 m x false) (b N : Nat) (f : Int → Option Int) (hm : a.eval m = .map (some b)) (h : MapL w b N f) (z : Int) (hz : wf64 z) (hx : a.eval x = .int .i64 z)
    (hK : wpList Tryz.prog ops Q rest (a.put o.dst (.int .i64 ((f z).getD 0))) w) : wpList Tryz.prog ops Q (o :: rest) a w := by
 obtain ⟨D, h1, h2⟩ := h
 refine wpList_lookup_own_int w hg m x 99 hop 3 2 .i64 lawI Tryz.underlying99 Tryz.underlying2 (zero2 _) b N D hm h1 _ _ hx (keyI hz) ?_
 intro c hat _
 obtain ⟨e1, _⟩ := unM_look h2 hz hat
 rw [e1]
 exact hK
theorem wp_updateL {w : World} {op : Oper} {a : Act} {K : Act → World → Prop} {Q : Exit → Act → World → Prop} (m x v : Operand) (hop : op.op = Op.mapUpdate 99 m x v) (b N : Nat) (f : Int → Option Int) (hm : a.eval m = .map (some b)) (h : MapL w b N f) (hN : N < 1000000) (z c : Int) (hz : wf64 z) (hc : wf64 c) (hx : a.eval x = .int .i64 z) (hv : a.eval v = .int .i64 c)
    (hK : ∀ w', MapL w' b (N + 1) (more f z c) → w.grownBy w' (some b) → K (a.put op.dst undef) w') : op.wp Tryz.prog a w K Q := by
 obtain ⟨D, h1, h2⟩ := h
 obtain ⟨w', hrun, r1, r2⟩ := h1.update lawI Tryz.underlying99 (by unfold maxLen; omega) (keyI hz) (plainElem_int Tryz.underlying2 (wf_lit hc))
 unfold Oper.wp
 simp [execOp, hop, hm, hx, hv, hrun, Result.andThen]
 exact hK w' ⟨_, r1, unM_put h2 z c⟩ r2
structure CloP (w : World) (O : Nat → Prop) (num : Nat → Int) (S : List Nat) (p : Pa) (q : Pq) (pb mc mb N fb bx : Nat) (f : Int → Option Int) : Prop where
 pa : w.heap[pb]? = some (.cells (cellsPa p q).toArray 27 (0, 0))
 is : IsPa O w p q
 mcell : w.cell? ⟨mc, 0, none⟩ = some (.map (some mb))
 map : MapL w mb N f
 tells : ∀ x ∈ S, f (x : Int) = some (num x)
 box : w.cell? ⟨bx, 0, none⟩ = some (.slice (some ⟨fb, 0, none⟩) 4 4)
 f0 : w.cell? ⟨fb, 0, none⟩ = some (.func (.func 70) #[] #[.pointer (some ⟨mc, 0, none⟩)])
 f1 : w.cell? ⟨fb, 1, none⟩ = some (.func (.func 72) #[] #[.pointer (some ⟨pb, 0, none⟩)])
 f2 : w.cell? ⟨fb, 2, none⟩ = some (.func (.func 73) #[] #[.pointer (some ⟨pb, 0, none⟩)])
 f3 : w.cell? ⟨fb, 3, none⟩ = some (.func (.func 78) #[] #[])
theorem clo1_any {w : World} {num : Nat → Int} {mc mb N : Nat} {f : Int → Option Int} (hc : w.cell? ⟨mc, 0, none⟩ = some (.map (some mb))) (hm : MapL w mb N f) (a b : Nat) (ha : f (a : Int) = some (num a)) (hb : f (b : Int) = some (num b)) (la : a ≤ 1000000) (lb : b ≤ 1000000) :
    Calls Tryz.prog 70 #[.int .i64 a, .int .i64 b, .pointer (some ⟨mc, 0, none⟩)] w fun e w' => e = .returned (.int .i64 (cmpZ (num b) (num a))) ∧ ∃ n, w' = w.drewN n := by
 have wa := wf_nat la
 have wb := wf_nat lb
 have HCM : Hid (∀ X : World, Calls Tryz.prog 71 #[.int .i64 (num b), .int .i64 (num a)] X fun e w' => e = .returned (.int .i64 (cmpZ (num b) (num a))) ∧ X = w') := fun X => cmp2_any _ _
 generalize cmpZ (num b) (num a) = r at *
 go_enter Tryz.func70, Tryz.ntmps70
 go_wp2_with (first
  | (at_lookup; refine wpList_lookupL rfl _ _ rfl mb N f rfl hm b wb rfl ?_; rw [hb])
  | (at_lookup; refine wpList_lookupL rfl _ _ rfl mb N f rfl hm a wa rfl ?_; rw [ha])
  | (go_at_call 71; refine (HCM.out _).mono ?_; rintro e w' ⟨rfl, rfl⟩))
 go_ret
 exact ⟨rfl, 0, rfl⟩
theorem clo2_any {w : World} {O : Nat → Prop} {p : Pa} {q : Pq} {pb : Nat} (hp : w.heap[pb]? = some (.cells (cellsPa p q).toArray 27 (0, 0))) (hi : IsPa O w p q) (_hn : p.evs.length ≤ 30) (a b : Nat) (la : a < p.evs.length) (lb : b < p.evs.length) :
    Calls Tryz.prog 72 #[.int .i64 a, .int .i64 b, .pointer (some ⟨pb, 0, none⟩)] w fun e w' => e = .returned (.int .i64 (cmpZ (evT p a).ts (evT p b).ts)) ∧ ∃ n, w' = w.drewN n := by
 have c1 : w.cell? ⟨pb, 1, none⟩ = some (.slice q.e p.evs.length q.ce) := cell_row hp 1 _ rfl
 obtain ⟨eb, eo, qa, hqe, _, hca, _⟩ := hi.evs.2 a la
 obtain ⟨eb', eo', qb, hqe', _, hcb, _⟩ := hi.evs.2 b lb
 rw [hqe] at hqe'
 cases hqe'
 have d1 : w.cell? ⟨eb, eo + a * 16 + 13, none⟩ = some (.int .i64 (evT p a).ts) := hca 13 _ rfl
 have d2 : w.cell? ⟨eb, eo + b * 16 + 13, none⟩ = some (.int .i64 (evT p b).ts) := hcb 13 _ rfl
 rw [hqe] at c1
 have hcon := fun wx : World => (cmp2_any (w := wx) (evT p a).ts (evT p b).ts).mono fun _ _ h => (⟨h.1, h.2.symm⟩ : _ ∧ _)
 generalize cmpZ (evT p a).ts (evT p b).ts = r at *
 generalize (evT p a).ts = ta at *
 generalize (evT p b).ts = tb at *
 have hel := hi.evs.1
 clear hca hcb hp hi
 generalize p.evs.length = n1 at *
 go_enter Tryz.func72, Tryz.ntmps72
 go_wp2
 go_quiet (first | (go_at_call 71; exact Calls.quiet_of_same (hcon _)))
 go_wp2
 go_ret
 exact ⟨rfl, nq, rfl⟩
theorem clo3_any {w : World} {O : Nat → Prop} {p : Pa} {q : Pq} {pb : Nat} (hp : w.heap[pb]? = some (.cells (cellsPa p q).toArray 27 (0, 0))) (hi : IsPa O w p q) (_hn : p.names.length ≤ 30) (a b : Nat) (la : a < p.names.length) (lb : b < p.names.length) :
    Calls Tryz.prog 73 #[.int .i64 a, .int .i64 b, .pointer (some ⟨pb, 0, none⟩)] w fun e w' => e = .returned (.int .i64 (cmpB (nmT p a) (nmT p b))) ∧ ∃ n, w' = w.drewN n := by
 have c1 : w.cell? ⟨pb, 0, none⟩ = some (.slice q.n p.names.length q.cn) := cell_row hp 0 _ rfl
 obtain ⟨ad, hqn, _, d1⟩ := hi.names.at a nix la
 obtain ⟨ad', hqn', _, d2⟩ := hi.names.at b nix lb
 rw [hqn] at hqn'
 cases hqn'
 change w.cell? (ad.add a) = some (.string (nmT p a)) at d1
 change w.cell? (ad.add b) = some (.string (nmT p b)) at d2
 rw [hqn] at c1
 have hcon := fun wx : World => (cmpS_any (w := wx) (nmT p a) (nmT p b)).mono fun _ _ h => (⟨h.1, h.2.symm⟩ : _ ∧ _)
 generalize cmpB (nmT p a) (nmT p b) = r at *
 generalize nmT p a = ta at *
 generalize nmT p b = tb at *
 have hel := hi.names.1
 clear hp hi
 generalize p.names.length = n1 at *
 go_enter Tryz.func73, Tryz.ntmps73
 go_wp2
 go_quiet (first | (go_at_call 74; exact Calls.quiet_of_same (hcon _)))
 go_wp2
 go_ret
 exact ⟨rfl, nq, rfl⟩
theorem turn_any {w : World} {O : Nat → Prop} {num : Nat → Int} {S : List Nat} {p : Pa} {q : Pq} {pb mc mb N fb bx : Nat} {f : Int → Option Int} (C : CloP w O num S p q pb mc mb N fb bx f) (hz : SzPa p) (hnl : p.names.length = p.evs.length) (hS : ∀ x ∈ S, x < p.evs.length) (a b : Nat) (ha : a ∈ S) (hb : b ∈ S) :
    Calls Tryz.prog 104 #[.int .i64 a, .int .i64 b, .pointer (some ⟨bx, 0, none⟩)] w fun e w' => e = .returned (.int .i64 (cmpT num p a b)) ∧ ∃ n, w' = w.drewN n := by
 have la := hS a ha
 have lb := hS b hb
 have hen := hz.evs
 have h1 := clo1_any C.mcell C.map a b (C.tells a ha) (C.tells b hb) (by omega) (by omega)
 have H2 : Hid (∀ n, Calls Tryz.prog 72 #[.int .i64 a, .int .i64 b, .pointer (some ⟨pb, 0, none⟩)] (w.drewN n) fun e w' => e = .returned (.int .i64 (cmpZ (evT p a).ts (evT p b).ts)) ∧ ∃ m, w' = w.drewN m) := fun n => (clo2_any (w := w.drewN n) C.pa (C.is.carry fun k hk => ⟨hk, rfl⟩) hen a b la lb).mono fun _ _ ⟨h1, m, h2⟩ => ⟨h1, n + m, by rw [h2, World.drewN_drewN]⟩
 have H3 : Hid (∀ n, Calls Tryz.prog 73 #[.int .i64 a, .int .i64 b, .pointer (some ⟨pb, 0, none⟩)] (w.drewN n) fun e w' => e = .returned (.int .i64 (cmpB (nmT p a) (nmT p b))) ∧ ∃ m, w' = w.drewN m) := fun n => (clo3_any (w := w.drewN n) C.pa (C.is.carry fun k hk => ⟨hk, rfl⟩) hz.names a b (by omega) (by omega)).mono fun _ _ ⟨h1, m, h2⟩ => ⟨h1, n + m, by rw [h2, World.drewN_drewN]⟩
 have H4 : Hid (∀ X : World, Calls Tryz.prog 78 #[.int .i64 a, .int .i64 b] X fun e w' => e = .returned (.int .i64 (cmpZ a b)) ∧ X = w') := fun X => cmp3_any _ _
 have HT : Hid (cmpT num p a b = if cmpZ (num b) (num a) ≠ 0 then cmpZ (num b) (num a) else if cmpZ (evT p a).ts (evT p b).ts ≠ 0 then cmpZ (evT p a).ts (evT p b).ts else if cmpB (nmT p a) (nmT p b) ≠ 0 then cmpB (nmT p a) (nmT p b) else cmpZ a b) := rfl
 have HC : Hid (∀ n : Nat, ((w.drewN n).cell? ⟨bx, 0, none⟩ = some (.slice (some ⟨fb, 0, none⟩) 4 4) ∧ (w.drewN n).cell? ⟨fb, 0, none⟩ = some (.func (.func 70) #[] #[.pointer (some ⟨mc, 0, none⟩)])) ∧ (w.drewN n).cell? ⟨fb, 1, none⟩ = some (.func (.func 72) #[] #[.pointer (some ⟨pb, 0, none⟩)]) ∧ (w.drewN n).cell? ⟨fb, 2, none⟩ = some (.func (.func 73) #[] #[.pointer (some ⟨pb, 0, none⟩)]) ∧ (w.drewN n).cell? ⟨fb, 3, none⟩ = some (.func (.func 78) #[] #[])) := fun n => ⟨⟨C.box, C.f0⟩, C.f1, C.f2, C.f3⟩
 have k0 := C.box; have k1 := C.f0
 clear C hz la lb hen hnl hS ha hb
 generalize cmpT num p a b = R at *
 generalize cmpZ (num b) (num a) = r1 at *
 generalize cmpZ (evT p a).ts (evT p b).ts = r2 at *
 generalize cmpB (nmT p a) (nmT p b) = r3 at *
 generalize cmpZ a b = r4 at *
 go_enter Tryz.func104, Tryz.ntmps104
 by_cases c1 : r1 = 0
 · subst c1
   by_cases c2 : r2 = 0
   · subst c2
     by_cases c3 : r3 = 0
     · subst c3
       have HT1 : Hid (R = r4) := by show _ = _; rw [HT.out]; simp
       by_cases c4 : r4 = 0
       · subst c4
         go_wp2
         refine wp_loop_rounds 5 ?_
         rw [rounds_succ]
         go_wp2_with (go_at_call 70; refine h1.mono ?_; rintro e w1 ⟨rfl, n1, rfl⟩; obtain ⟨_, k2, _, _⟩ := HC.out n1; have h2 := H2.out n1; clear h1)
         rw [rounds_succ]
         go_wp2_with (go_at_call 72; refine h2.mono ?_; rintro e w2 ⟨rfl, n2, rfl⟩; obtain ⟨_, _, k3, _⟩ := HC.out n2; have h3 := H3.out n2; clear h2 k2)
         rw [rounds_succ]
         go_wp2_with (go_at_call 73; refine h3.mono ?_; rintro e w3 ⟨rfl, n3, rfl⟩; obtain ⟨_, _, _, k4⟩ := HC.out n3; have h4 := H4.out (w.drewN n3); clear h3 k3)
         rw [rounds_succ]
         go_wp2_with (go_at_call 78; refine h4.mono ?_; rintro e w4 ⟨rfl, rfl⟩; clear h4 k4)
         rw [rounds_succ]
         go_wp2
         go_ret
         exact ⟨ret_int HT1.out.symm, _, rfl⟩
       · have e4 : (r4 == 0) = false := by simpa using c4
         go_wp2
         refine wp_loop_rounds 5 ?_
         rw [rounds_succ]
         go_wp2_with (go_at_call 70; refine h1.mono ?_; rintro e w1 ⟨rfl, n1, rfl⟩; obtain ⟨_, k2, _, _⟩ := HC.out n1; have h2 := H2.out n1; clear h1)
         rw [rounds_succ]
         go_wp2_with (go_at_call 72; refine h2.mono ?_; rintro e w2 ⟨rfl, n2, rfl⟩; obtain ⟨_, _, k3, _⟩ := HC.out n2; have h3 := H3.out n2; clear h2 k2)
         rw [rounds_succ]
         go_wp2_with (go_at_call 73; refine h3.mono ?_; rintro e w3 ⟨rfl, n3, rfl⟩; obtain ⟨_, _, _, k4⟩ := HC.out n3; have h4 := H4.out (w.drewN n3); clear h3 k3)
         rw [rounds_succ]
         go_wp2_with (go_at_call 78; refine h4.mono ?_; rintro e w4 ⟨rfl, rfl⟩; clear h4 k4)
         go_ret
         exact ⟨ret_int HT1.out.symm, _, rfl⟩
     · have e3 : (r3 == 0) = false := by simpa using c3
       have HT1 : Hid (R = r3) := by show _ = _; rw [HT.out]; simp [c3]
       go_wp2
       refine wp_loop_rounds 5 ?_
       rw [rounds_succ]
       go_wp2_with (go_at_call 70; refine h1.mono ?_; rintro e w1 ⟨rfl, n1, rfl⟩; obtain ⟨_, k2, _, _⟩ := HC.out n1; have h2 := H2.out n1; clear h1)
       rw [rounds_succ]
       go_wp2_with (go_at_call 72; refine h2.mono ?_; rintro e w2 ⟨rfl, n2, rfl⟩; obtain ⟨_, _, k3, _⟩ := HC.out n2; have h3 := H3.out n2; clear h2 k2)
       rw [rounds_succ]
       go_wp2_with (go_at_call 73; refine h3.mono ?_; rintro e w3 ⟨rfl, n3, rfl⟩; obtain ⟨_, _, _, k4⟩ := HC.out n3; have h4 := H4.out (w.drewN n3); clear h3 k3)
       go_ret
       exact ⟨ret_int HT1.out.symm, _, rfl⟩
   · have e2 : (r2 == 0) = false := by simpa using c2
     have HT1 : Hid (R = r2) := by show _ = _; rw [HT.out]; simp [c2]
     go_wp2
     refine wp_loop_rounds 5 ?_
     rw [rounds_succ]
     go_wp2_with (go_at_call 70; refine h1.mono ?_; rintro e w1 ⟨rfl, n1, rfl⟩; obtain ⟨_, k2, _, _⟩ := HC.out n1; have h2 := H2.out n1; clear h1)
     rw [rounds_succ]
     go_wp2_with (go_at_call 72; refine h2.mono ?_; rintro e w2 ⟨rfl, n2, rfl⟩; obtain ⟨_, _, k3, _⟩ := HC.out n2; have h3 := H3.out n2; clear h2 k2)
     go_ret
     exact ⟨ret_int HT1.out.symm, _, rfl⟩
 · have e1 : (r1 == 0) = false := by simpa using c1
   have HT1 : Hid (R = r1) := by show _ = _; rw [HT.out]; simp [c1]
   go_wp2
   refine wp_loop_rounds 5 ?_
   rw [rounds_succ]
   go_wp2_with (go_at_call 70; refine h1.mono ?_; rintro e w1 ⟨rfl, n1, rfl⟩; obtain ⟨_, k2, _, _⟩ := HC.out n1; have h2 := H2.out n1; clear h1)
   go_ret
   exact ⟨ret_int HT1.out.symm, _, rfl⟩
end Go.Proofs.YtimhpglfolbomaaGreat.Od
namespace Go.Proofs.YtimhpglfolbomaaGreat.Od
open Go.RowKit Go.Maps Go.Lib Go.Sort
theorem clone_any {O : Nat → Prop} {p : Option Addr} {c : Nat} {l : List Int} (w : World) (h : RdI O w p c l) (hl : l.length ≤ 1000000) :
    Calls Tryz.prog 75 #[.slice p l.length c] w fun e w' => ∃ v, e = .returned v ∧ w'.ownsRow w.heap.size 3 1 v l.length (l.map (Value.int .i64)) ∧ Below w.heap.size w w' := by
 cases p with
 | none =>
  obtain rfl := h.len
  refine (Tryz.slices_Clone_int_nil _ _ w).mono ?_
  rintro e w' ⟨rfl, rfl⟩
  exact ⟨_, rfl, World.ownsRow_nil _ _ _ _, Below.refl _ _⟩
 | some a =>
  by_cases hn : l = []
  · subst hn
    refine (Tryz.slices_Clone_int_zero a c w).mono ?_
    rintro e w' ⟨v, rfl, ho, _, hb⟩
    exact ⟨v, rfl, ho, hb⟩
  · obtain ⟨b, o, ha, _, hc⟩ := h.2 hn
    cases ha
    have := Tryz.slices_Clone_int b o l.length c l w (Nat.le_refl _) (by omega) fun j hj => hc j _ (by rw [getD_in hj, List.getElem?_eq_getElem hj])
    rw [List.take_length] at this
    refine this.mono ?_
    rintro e w' ⟨v, rfl, ho, _, hb⟩
    exact ⟨v, rfl, ho, hb⟩
theorem keep_sortK {α : Type} [Inhabited α] (enc : α → Value) (w : World) (g m : Nat) (d : Array α) (os : Array Obj) : Keep (fun k => k = g) w (sortWorld enc w g 0 m d os) := by
 refine ⟨rfl, rfl, rfl, ?_, fun k hk hn => ?_⟩
 · unfold sortWorld grow putRow mapBlock Sort.ahead
   simp
 · unfold sortWorld
   rw [Sort.heap_grow_old _ _ (by unfold putRow mapBlock Sort.ahead; simpa using hk)]
   unfold putRow mapBlock Sort.ahead
   simp only [Array.getElem?_modify]
   rw [if_neg (fun h => hn h.symm)]
def encS (S : List Nat) (m : Nat) (x : Fin (m + 1)) : Value := .int .i64 ((S.getD x.val 0 : Nat) : Int)
def cfS (num : Nat → Int) (p : Pa) (S : List Nat) (m : Nat) (x y : Fin (m + 1)) : Int := cmpT num p (S.getD x.val 0) (S.getD y.val 0)
theorem cfS_lt (num : Nat → Int) (p : Pa) (S : List Nat) (m : Nat) (x y : Fin (m + 1)) : ltOf (cfS num p S m) x y = true ↔ LtT num p (S.getD x.val 0) (S.getD y.val 0) := by
 unfold ltOf cfS
 rw [decide_eq_true_eq, cmpT_neg]
theorem swoS (num : Nat → Int) (p : Pa) (S : List Nat) (m : Nat) : SWO (ltOf (cfS num p S m)) where
 irrefl x := by
  cases h : ltOf (cfS num p S m) x x with
  | false => rfl
  | true => exact absurd ((cfS_lt ..).1 h) (ltT_irrefl _ _ _)
 trans x y z h1 h2 := (cfS_lt ..).2 (ltT_trans ((cfS_lt ..).1 h1) ((cfS_lt ..).1 h2))
 ntrans x y z h1 h2 := by
  cases h : ltOf (cfS num p S m) x z with
  | false => rfl
  | true =>
   have h3 := (cfS_lt ..).1 h
   have n1 : ¬ LtT num p (S.getD x.val 0) (S.getD y.val 0) := fun h' => by rw [(cfS_lt ..).2 h'] at h1; cases h1
   have n2 : ¬ LtT num p (S.getD y.val 0) (S.getD z.val 0) := fun h' => by rw [(cfS_lt ..).2 h'] at h2; cases h2
   by_cases e : S.getD x.val 0 = S.getD y.val 0
   · rw [e] at h3; exact absurd h3 n2
   · rcases ltT_total num p e with h' | h'
     · exact absurd h' n1
     · exact absurd (ltT_trans h' h3) n2
theorem eg104 : ∀ args w, (callFunc 104 args).run Tryz.prog w = .ok (.enter 104 args) w := enters_of Tryz.func104 (by kernel_rfl) rfl
theorem ranked_of {num : Nat → Int} {p : Pa} {S : List Nat} {m : Nat} (hm : S.length = m + 1) (hnd : S.Nodup) {d' : Array (Fin (m + 1))} (hp : PermIn 0 (fins m).size (fins m) d') (hs : SortedIn (ltOf (cfS num p S m)) 0 (fins m).size d') : Rkd num p S (d'.toList.map fun x => S.getD x.val 0) ∧ d'.size = m + 1 := by
 obtain ⟨h1, _, h3⟩ := hp
 have hsz : d'.size = m + 1 := by rw [h1, fins_size]
 have e1 : (d'.extract 0 (fins m).size).toList = d'.toList := by rw [← h1, Array.extract_size]
 have e2 : ((fins m).extract 0 (fins m).size).toList = List.finRange (m + 1) := by rw [Array.extract_size]; unfold fins; simp
 rw [e1, e2] at h3
 have hS : (List.finRange (m + 1)).map (fun x : Fin (m + 1) => S.getD x.val 0) = S := by
  apply List.ext_getElem
  · simp [hm]
  · intro n h1 h2
    simp [List.getElem?_eq_getElem h2]
 have hperm := h3.map (fun x : Fin (m + 1) => S.getD x.val 0)
 rw [hS] at hperm
 refine ⟨⟨hperm, ?_⟩, hsz⟩
 rw [List.pairwise_iff_getElem]
 intro i j hi hj hij
 have hi' : i < d'.size := by simpa using hi
 have hj' : j < d'.size := by simpa using hj
 simp only [List.getElem_map, Array.getElem_toList]
 have hno := hs i j (Nat.zero_le _) hij (by rw [fins_size]; omega)
 rw [getElem!_pos d' i hi', getElem!_pos d' j hj'] at hno
 have hne : S.getD d'[i].val 0 ≠ S.getD d'[j].val 0 := by
  have hnd2 : (d'.toList.map fun x : Fin (m + 1) => S.getD x.val 0).Nodup := hperm.nodup_iff.2 hnd
  have := List.pairwise_iff_getElem.1 hnd2 i j hi hj hij
  simpa using this
 rcases ltT_total num p hne with h | h
 · exact h
 · rw [(cfS_lt num p S m d'[j] d'[i]).2 h] at hno; cases hno
theorem sortS_any {w : World} {O : Nat → Prop} {num : Nat → Int} {S : List Nat} {p : Pa} {q : Pq} {pb mc mb N fb bx g cap : Nat} {f : Int → Option Int} (C : CloP w O num S p q pb mc mb N fb bx f) (hz : SzPa p) (hnl : p.names.length = p.evs.length) (hS : ∀ x ∈ S, x < p.evs.length) (hnd : S.Nodup)
    (hO : ∀ k, O k → k < w.heap.size ∧ k ≠ g) (hpb : pb ≠ g) (hmc : mc ≠ g ∧ mc < w.heap.size) (hmb : mb ≠ g) (hfb : fb ≠ g ∧ fb < w.heap.size) (hbx : bx ≠ g ∧ bx < w.heap.size) (hg : w.ownsRow g 3 1 (.slice (some ⟨g, 0, none⟩) (zs S).length cap) (zs S).length ((zs S).map (Value.int .i64))) :
    Calls Tryz.prog 76 #[.slice (some ⟨g, 0, none⟩) (zs S).length cap, .func (.func 104) #[] #[.pointer (some ⟨bx, 0, none⟩)]] w fun e w' => e = .returned (.tuple #[]) ∧ ∃ L, Rkd num p S L ∧ w'.ownsRow g 3 1 (.slice (some ⟨g, 0, none⟩) (zs S).length cap) (zs L).length ((zs L).map (Value.int .i64)) ∧ w.grownBy w' (some g) := by
 cases hSe : S with
 | nil =>
  subst hSe
  refine (Tryz.slices_SortFunc_none (α := Nat) (some ⟨g, 0, none⟩) cap _ w).mono ?_
  rintro e w' ⟨rfl, rfl⟩
  exact ⟨rfl, [], ⟨List.Perm.refl _, List.Pairwise.nil⟩, hg, ⟨rfl, rfl, rfl, Nat.le_refl _, fun _ _ _ => rfl⟩⟩
 | cons a0 r0 =>
  rw [← hSe]
  obtain ⟨m, hm⟩ : ∃ m, S.length = m + 1 := ⟨r0.length, by rw [hSe]; rfl⟩
  clear hSe
  have hml : m + 1 ≤ 1000000 := by
   have h1 := sub_len (l := S) (T := List.range p.evs.length) hnd (fun x hx => List.mem_range.2 (hS x hx))
   have := hz.evs
   simp at h1
   omega
  have hmap : (zs S).map (Value.int .i64) = (List.finRange (m + 1)).map (encS S m) := by
   apply List.ext_getElem
   · simp [zs, hm]
   · intro n h1 h2
     have h3 : n < S.length := by simpa [zs] using h1
     simp [zs, encS, List.getElem?_eq_getElem h3]
  have hzl : (zs S).length = m + 1 := by rw [zs_len, hm]
  rw [hzl] at hg ⊢
  rw [hmap] at hg
  obtain ⟨g', cap', e0, _, hgl, hnc, hcm, _, hH⟩ := Lib.holds_of_ownsRow hg (by simp)
  simp only [Value.slice.injEq, Option.some.injEq, Addr.mk.injEq, and_true, true_and] at e0
  obtain ⟨rfl, rfl⟩ := e0
  have hcmp : CmpReads Tryz.prog 104 #[.pointer (some ⟨bx, 0, none⟩)] (encS S m) (cfS num p S m) g 0 (fins m).size w := by
   intro n os dk hdk x y
   have hks := keep_sortK (encS S m) w g n dk os
   have hx : x.val < S.length := by omega
   have hy : y.val < S.length := by omega
   refine turn_any (O := O) (S := S) (num := num) (p := p) (q := q) (pb := pb) (mc := mc) (mb := mb) (N := N) (fb := fb) (bx := bx) (f := f) ⟨?_, ?_, ?_, ?_, C.tells, ?_, ?_, ?_, ?_, ?_⟩ hz hnl hS _ _ (getD_inm hx) (getD_inm hy)
   · exact (hks.block pb (obj_lt C.pa) hpb).trans C.pa
   · exact C.is.carry fun k hk => ⟨hk, hks.block k (hO k hk).1 (hO k hk).2⟩
   · exact (World.cell?_of_block (a := ⟨mc, 0, none⟩) (hks.block mc hmc.2 hmc.1)).trans C.mcell
   · exact C.map.same (hks.block mb C.map.lt hmb)
   · exact (World.cell?_of_block (a := ⟨bx, 0, none⟩) (hks.block bx hbx.2 hbx.1)).trans C.box
   · exact (World.cell?_of_block (a := ⟨fb, 0, none⟩) (hks.block fb hfb.2 hfb.1)).trans C.f0
   · exact (World.cell?_of_block (a := ⟨fb, 1, none⟩) (hks.block fb hfb.2 hfb.1)).trans C.f1
   · exact (World.cell?_of_block (a := ⟨fb, 2, none⟩) (hks.block fb hfb.2 hfb.1)).trans C.f2
   · exact (World.cell?_of_block (a := ⟨fb, 3, none⟩) (hks.block fb hfb.2 hfb.1)).trans C.f3
  have hfs : (fins m).size = m + 1 := fins_size m
  have harg : (Value.slice (some ⟨g, 0, none⟩) (m + 1) cap) = Value.slice (some ⟨g, 0, none⟩) (fins m).size cap := by rw [hfs]
  rw [harg]
  refine (Tryz.slices_SortFunc (encS S m) (fun _ => rfl) (cfS num p S m) (swoS num p S m) 104 #[.pointer (some ⟨bx, 0, none⟩)] g 0 cap (fins m) w eg104 hcmp.lays hH hgl (by rw [hfs]; omega)).mono fun e w' ⟨h1, d', n, os, hp, hs, hw⟩ => ?_
  subst hw
  obtain ⟨hR, hsz⟩ := ranked_of hm hnd hp hs
  refine ⟨h1, _, hR, ?_, ?_⟩
  · rw [hfs]
    have h2 := Lib.ownsRow_putRow (q := n) (k := m + 1) (ys := d'.toList) hg (by simpa using hsz) (Nat.le_refl _)
    rw [List.take_of_length_le (by simp [hsz]), Array.toArray_toList] at h2
    have hl2 : (zs (d'.toList.map fun x => S.getD x.val 0)).length = m + 1 := by rw [zs_len, List.length_map, Array.length_toList, hsz]
    rw [hl2, show (zs (d'.toList.map fun x => S.getD x.val 0)).map (Value.int .i64) = d'.toList.map (encS S m) by simp [zs, encS, List.map_map]]
    exact own_below h2 (below_grow _ _)
  · have h1 := grown_put (enc := encS S m) (w := w) (g := g) (n := n) (d := d')
    have h2 := below_grow (Sort.putRow (encS S m) (Sort.ahead w n) g 0 d') os
    exact ⟨rfl, rfl, rfl, Nat.le_trans h1.size h2.size, fun k hk hne => (h2.block k (Nat.lt_of_lt_of_le hk h1.size)).trans (h1.block k hk hne)⟩
end Go.Proofs.YtimhpglfolbomaaGreat.Od
namespace Go.Proofs.YtimhpglfolbomaaGreat.Od
open Go.RowKit Go.Maps
def fT (num : Nat → Int) (l : List Nat) : Int → Option Int := fun x => if x ∈ zs l then some (num x.toNat) else none
theorem fT_nil (num : Nat → Int) : fT num [] = fun _ => none := by funext x; unfold fT; simp [zs]
theorem fT_snoc (num : Nat → Int) (l : List Nat) (x : Nat) : fT num (l ++ [x]) = more (fT num l) x (num x) := by
 funext y
 unfold fT more
 have e : y ∈ zs (l ++ [x]) ↔ y ∈ zs l ∨ y = (x : Int) := by simp [zs]
 by_cases h : y = (x : Int)
 · subst h
   rw [if_pos (e.2 (.inr rfl)), if_pos rfl]
   simp
 · rw [if_neg h]
   show _ = (if y ∈ zs l then some (num y.toNat) else none)
   by_cases h2 : y ∈ zs l
   · rw [if_pos h2, if_pos (e.2 (.inl h2))]
   · rw [if_neg h2, if_neg (fun h3 => (e.1 h3).elim h2 h)]
theorem fT_tells {num : Nat → Int} {l : List Nat} {x : Nat} (h : x ∈ l) : fT num l (x : Int) = some (num x) := by
 unfold fT
 rw [if_pos ((zs_mem l x).2 h)]
 simp
theorem inTurn_any {w : World} {fb : Nat} : Calls Tryz.prog 77 #[.slice (some ⟨fb, 0, none⟩) 4 4] w fun e w' => e = .returned (.func (.func 104) #[] #[.pointer (some ⟨w.heap.size, 0, none⟩)]) ∧ w' = w.alloc (.cells #[.slice (some ⟨fb, 0, none⟩) 4 4] 129) := by
 go_enter Tryz.func77, Tryz.ntmps77
 go_wp2
 go_ret
 exact ⟨rfl, rfl⟩
theorem byp1_any {w : World} {p : Pa} {q : Pq} {pb : Nat} (hp : IsVP w pb p q) (hz : SzPa p) (hs : SzEs p) (hr : backT p.auth p.evs.length = true) (i : Nat) (hi : i < p.evs.length) :
    Calls Tryz.prog 46 #[.int .i64 (i : Int), .pointer (some ⟨pb, 0, none⟩)] w fun e w' => e = .returned (.int .i64 (levelT p i)) ∧ Below w.heap.size w w' := by
 have hl := hp.load
 have hL := level_any hp.pa hz hs hr i hi
 unfold valPa at hL
 generalize levelT p i = r at *
 generalize cellsPa p q = CP at *
 go_enter Tryz.func46, Tryz.ntmps46
 go_wp2_with (first
  | (refine wpList_loadK rfl 27 _ rfl pb 0 rfl CP hl ?_)
  | (go_at_call 39; refine hL.mono ?_; rintro e w1 ⟨rfl, hb1⟩))
 go_ret
 exact ⟨rfl, hb1⟩
theorem own_base {w : World} {B e s g n c m : Nat} {xs : List Value} (h : w.ownsRow B e s (.slice (some ⟨g, 0, none⟩) n c) m xs) : w.ownsRow g e s (.slice (some ⟨g, 0, none⟩) n c) m xs := by
 refine ⟨h.1, ?_⟩
 rcases h.2 with ⟨h', _⟩ | ⟨g', cap, cur, h', _, r⟩
 · cases h'
 · cases h'
   exact .inr ⟨g, _, cur, rfl, Nat.le_refl _, r⟩
theorem own_some {w : World} {B e : Nat} {v : Value} {xs : List Value} (h : w.ownsRow B e 1 v xs.length xs) (hn : xs ≠ []) : ∃ g c, v = .slice (some ⟨g, 0, none⟩) xs.length c ∧ B ≤ g ∧ g < w.heap.size := by
 rcases h.2 with ⟨_, hn'⟩ | ⟨g, cap, cur, rfl, hb, hg, r⟩
 · exact absurd (List.eq_nil_of_length_eq_zero hn') hn
 · exact ⟨g, cap, rfl, hb, obj_lt hg⟩
theorem ranked_any {O : Nat → Prop} {w : World} {p : Pa} {q : Pq} {S : List Nat} {pl : Option Addr} {cl cb : Nat} (h : IsPa (· < w.heap.size) w p q) (hcb : IsVP w cb p q) (hz : SzPa p) (hs : SzEs p) (hnl : p.names.length = p.evs.length) (hr : backT p.auth p.evs.length = true) (hl : RdI O w pl cl (zs S)) (hO : ∀ k, O k → k < w.heap.size) (hnd : S.Nodup) (hb : ∀ x ∈ S, x < p.evs.length) :
    Calls Tryz.prog 45 #[valPa p q, .slice pl (zs S).length cl, .func (.func 46) #[] #[.pointer (some ⟨cb, 0, none⟩)]] w fun e w' => ∃ L, Rkd (levelT p) p S L ∧ RowP (zs L) w e w' := by
 have hmm := run_makeMap_room Tryz.underlying99
 obtain ⟨W0, hW0⟩ : ∃ W0, W0 = w.alloc (.cells (cellsPa p q).toArray 27) := ⟨_, rfl⟩
 have hb0 : Below w.heap.size w W0 := by rw [hW0]; exact (Below.refl _ _).alloc (Nat.le_refl _) _
 have hs0 : W0.heap.size = w.heap.size + 1 := by rw [hW0]; simp
 have V : IsVP W0 w.heap.size p q := by rw [hW0]; exact isVP_new h
 obtain ⟨mb, hmb⟩ : ∃ mb, W0.heap.size = mb := ⟨_, rfl⟩
 obtain ⟨W1, hW1⟩ : ∃ W1, W1 = (W0.alloc (.map #[] 0)).alloc (.cells #[.map (some mb)] 99) := ⟨_, rfl⟩
 have HMB : Hid (w.heap.size + 1 = mb) := by show _ = _; rw [← hmb, hs0]
 have hk1 : Keep (fun k => mb ≤ k) W0 W1 := by rw [hW1]; exact (((Keep.refl _ W0).alloc _).alloc _)
 have hs1 : W1.heap.size = mb + 2 := by rw [hW1]; simp [hmb]
 have HS1 : Hid (W1.heap.size = mb + 2) := hs1
 have HM0 : Hid (MapL W1 mb 0 (fT (levelT p) [])) := by
  show MapL _ _ _ _
  rw [hW1, fT_nil]
  refine MapL.same (w := W0.alloc (.map #[] 0)) (by rw [← hmb]; exact mapL_made W0) ?_
  exact Below.block ((Below.refl (W0.alloc (.map #[] 0)).heap.size (W0.alloc (.map #[] 0))).alloc (Nat.le_refl _) _) mb (by simp [hmb])
 have HMC : Hid (W1.cell? ⟨mb + 1, 0, none⟩ = some (.map (some mb))) := by
  show _ = _
  rw [hW1, show mb + 1 = (W0.alloc (.map #[] 0)).heap.size by simp [hmb]]
  exact cell_row (cur := [_]) (heap_alloc_new _ _) 0 _ rfl
 have HMCX : Hid (∀ X, Keep (fun k => k = mb ∨ mb + 2 ≤ k) W1 X → X.cell? ⟨mb + 1, 0, none⟩ = some (.map (some mb))) := fun X hX => (World.cell?_of_block (a := ⟨mb + 1, 0, none⟩) (hX.block (mb + 1) (by omega) (by omega))).trans HMC.out
 have HBW : Hid (∀ X, Keep (fun k => k = mb ∨ mb + 2 ≤ k) W1 X → Below W0.heap.size W0 X) := fun X hX => (hk1.trans hX (fun i _ e => by omega)).below (by omega) (fun k hk => by omega)
 have HVC : Hid (∀ X, Keep (fun k => k = mb ∨ mb + 2 ≤ k) W1 X → IsVP X cb p q) := fun X hX => hcb.below (belowP hb0 (HBW.out X hX))
 have HVB : Hid (∀ X, Keep (fun k => k = mb ∨ mb + 2 ≤ k) W1 X → IsVP X w.heap.size p q) := fun X hX => V.below (HBW.out X hX)
 have HIS : Hid (∀ X, Keep (fun k => k = mb ∨ mb + 2 ≤ k) W1 X → IsPa (· < w.heap.size) X p q) := fun X hX => h.carry fun k hk => ⟨hk, (belowP hb0 (HBW.out X hX)).block k hk⟩
 have HR : Hid (∀ X, Keep (fun k => k = mb ∨ mb + 2 ≤ k) W1 X → RdI O X pl cl (zs S)) := fun X hX => hl.same (Same.of_below (belowP hb0 (HBW.out X hX)) hO)
 have HBY : Hid (∀ X i, Keep (fun k => k = mb ∨ mb + 2 ≤ k) W1 X → i < p.evs.length → Calls Tryz.prog 46 #[.int .i64 (i : Int), .pointer (some ⟨cb, 0, none⟩)] X fun e w' => e = .returned (.int .i64 (levelT p i)) ∧ Below X.heap.size X w') := fun X i hX hi => byp1_any (HVC.out X hX) hz hs hr i hi
 have hSl : S.length ≤ 30 := by
  have h1 := sub_len (l := S) (T := List.range p.evs.length) hnd (fun x hx => List.mem_range.2 (hb x hx))
  have := hz.evs
  simp at h1
  omega
 have hen := hz.evs
 have HSB : Hid (∀ x ∈ S, x < p.evs.length) := hb
 have HZ : Hid (SzPa p) := hz
 have HND : Hid S.Nodup := hnd
 have HNL : Hid (p.names.length = p.evs.length) := hnl
 have HOL : Hid (∀ k, O k → k < w.heap.size) := hO
 have HB0 : Hid (Below w.heap.size w W0) := hb0
 obtain ⟨s, hsl⟩ : ∃ s, (zs S).length = s := ⟨_, rfl⟩
 have HSL : Hid ((zs S).length = s) := hsl
 have HSN : Hid (S.length = s) := by show _ = _; rw [← zs_len]; exact hsl
 have hs30 : s ≤ 30 := by rw [← HSN.out]; exact hSl
 rw [hsl]
 clear hk1 hz hs hr hl hO hb hb0 hnl hnd hcb h V hsl hSl
 have HNUM : Hid (∀ i, wf64 (levelT p i)) := fun i => level_wf p i
 unfold valPa
 generalize hnum : levelT p = num at *
 clear hnum
 generalize hCP : (cellsPa p q) = CP at hW0 ⊢
 clear hs0 hCP
 go_enter Tryz.func45, Tryz.ntmps45
 go_upto_region 1 with fail
 rw [← hW0]
 clear hW0
 go_upto_region 2 with fail
 rw [← hW1]
 clear hW1 hmm hmb hs1
 go_upto_region 3 with fail
 go_loopw [19] (fun i wr => ∃ k N : Nat, k ≤ s ∧ i = .int .i64 k ∧ N ≤ k ∧ MapL wr mb N (fT num (S.take k)) ∧ Keep (fun k => k = mb ∨ mb + 2 ≤ k) W1 wr) (fun i _ => s - (intOf i).toNat)
 case atStart => exact ⟨0, 0, Nat.zero_le _, rfl, Nat.le_refl _, HM0.out, Keep.refl _ _⟩
 case round =>
  clear HM0
  obtain ⟨k, N, hk, rfl, hN, hM, hkp⟩ := hrel
  by_cases hlt : k < s
  · have hkl : k < (zs S).length := by rw [HSL.out]; exact hlt
    have hkS : k < S.length := by rw [HSN.out]; exact hlt
    obtain ⟨ad, rfl, _, hc⟩ := (HR.out wr hkp).at k 0 hkl
    rw [zs_getD] at hc
    have hx := HSB.out _ (getD_inm (d := 0) hkS)
    have HT : Hid (fT num (S.take (k + 1)) = more (fT num (S.take k)) (S.getD k 0 : Nat) (num (S.getD k 0))) := by show _ = _; rw [take_snoc S k 0 hkS, fT_snoc]
    generalize S.getD k 0 = x at *
    have hwx : wf64 (x : Int) := wf_nat (by omega)
    have hwn := HNUM.out x
    have HTR : Hid (∀ X, Keep (· = mb) wr X → Keep (fun k => k = mb ∨ mb + 2 ≤ k) W1 X) := fun X hX => hkp.trans hX fun _ _ e => .inl e
    have HCC : Hid (∀ X, Keep (· = mb) wr X → X.cell? ⟨mb + 1, 0, none⟩ = some (.map (some mb))) := fun X hX => HMCX.out X (HTR.out X hX)
    have HB2 : Hid (∀ X, Keep (· = mb) wr X → Calls Tryz.prog 46 #[.int .i64 (x : Int), .pointer (some ⟨cb, 0, none⟩)] X fun e w' => e = .returned (.int .i64 (num x)) ∧ Below X.heap.size X w') := fun X hX => HBY.out X x (HTR.out X hX) hx
    have HMM : Hid (MapL wr mb N (fT num (S.take k))) := hM
    have hml := hM.lt
    clear hM
    go_upto_region 5 with fail
    refine wp_region_in (by kernel_rfl) (fun w' => Keep (· = mb) wr w') ?_
    change wpIn _ _ _ _ _ _ _ _ (World.drew _)
    have hD : Keep (· = mb) wr wr.drew := (Keep.refl _ _).drew
    refine wpIn_take (i := 0) (d := (some 23)) (v := .map (some mb)) (a' := ?aq0) rfl rfl (by kernel_rfl) (by kernel_rfl) (by kernel_rfl) (fun _ _ _ h => h) (Or.inl ⟨by rfl, ?yq0⟩) ?fq0 ?_
    case yq0 => (intro wq hq; have hcc := HCC.out wq hq; go_simp; first | done | with_reducible rfl)
    case fq0 => (go_frame; rfl)
    refine wpIn_tk (i := 1) (d := some 24) rfl ?_
    refine wpIn_tk (i := 2) (d := some 25) rfl ?_
    refine wpIn_tk (i := 3) (d := some 26) rfl ?_
    refine wpIn_do (i := 4) hD (by kernel_rfl) rfl (by rfl) ?_
    intro K hK
    go_simp
    go_wp2_with (go_at_call 46; refine (HB2.out _ hD).mono ?_; rintro e w7 ⟨rfl, hb7⟩)
    have hD7 : Keep (· = mb) wr w7 := hD.trans (Keep.of_below (S := (· = mb)) hb7) fun _ _ h => h
    have hM7 : MapL w7 mb N (fT num (S.take k)) := HMM.out.same (hb7.block mb (by show mb < wr.heap.size; exact hml))
    refine wpIn_do (i := 5) hD7 (by kernel_rfl) rfl (by rfl) ?_
    intro K2 hK2
    refine wp_updateL _ _ _ rfl mb N _ rfl hM7 (by omega) (x : Int) (num x) hwx hwn rfl rfl ?_
    intro w8 hM8 hg8
    refine hK2 _ _ ?_
    have hD8 : Keep (· = mb) wr w8 := hD7.trans (Keep.of_grown (S := (· = mb)) hg8 fun k _ e => by cases e; rfl) fun _ _ h => h
    refine wpIn_done hD8 (by kernel_rfl) ?_ _
    rw [← HT.out] at hM8
    go_wp2
    go_roundw
    case rel => exact ⟨k + 1, N + 1, by omega, by go_num, by omega, hM8, HTR.out _ hD8⟩
    case measure => simp [intOf]; try omega
  · obtain rfl : k = s := by omega
    rw [← HSN.out, List.take_length] at hM
    have hML := hM.lt
    have hcl := clone_any wr (HR.out wr hkp) (by rw [HSL.out]; omega)
    rw [HSL.out] at hcl
    have HVBW := HVB.out wr hkp
    have HISW : Hid (IsPa (· < w.heap.size) wr p q) := HIS.out wr hkp
    have hmcw := HMCX.out wr hkp
    have hwr := hkp.size
    clear HVC HVB HIS HR HBY HMCX HMC
    by_cases hS0 : S = []
    · subst hS0
      obtain rfl : k = 0 := by rw [← HSN.out]; rfl
      have HSF : Hid (∀ (X : World) (a : Option Addr) (c : Nat) (fv : Value), Calls Tryz.prog 76 #[.slice a 0 c, fv] X fun e w' => e = .returned (.tuple #[]) ∧ w' = X) := fun X a c fv => Tryz.slices_SortFunc_none (α := Nat) a c fv X
      go_wp2_with (first
       | (go_at_call 75; refine hcl.mono ?_; rintro e w3 ⟨v, rfl, ho3, hb3⟩; obtain ⟨q3, c3, rfl, _⟩ := own_rd (xs := []) (enc := Value.int .i64) ho3)
       | (go_at_call 77; refine inTurn_any.mono ?_; rintro e w4 ⟨rfl, rfl⟩)
       | (go_at_call 76; refine (HSF.out _ _ _ _).mono ?_; rintro e w5 ⟨rfl, rfl⟩))
      go_ret
      refine ⟨[], ⟨List.Perm.refl _, List.Pairwise.nil⟩, _, rfl, ?_, ?_⟩
      · exact own_le ((ho3.alloc _).alloc _) (by have := HB0.out.size; have := (HBW.out _ hkp).size; omega)
      · exact belowP HB0.out (((HBW.out _ hkp).trans (hb3.mono (by have := (HBW.out _ hkp).size; omega))).alloc (by have := hb3.size; have := (HBW.out _ hkp).size; omega) _ |>.alloc (by have := hb3.size; have := (HBW.out _ hkp).size; simp; omega) _)
    · have HCL : Hid (∀ (X : World) (g c fb bx N : Nat), CloP X (· < w.heap.size) num S p q w.heap.size (mb + 1) mb N fb bx (fT num S) → w.heap.size < g → mb + 2 ≤ g → mb + 2 ≤ X.heap.size → fb ≠ g ∧ fb < X.heap.size → bx ≠ g ∧ bx < X.heap.size → X.ownsRow g 3 1 (.slice (some ⟨g, 0, none⟩) k c) k ((zs S).map (Value.int .i64)) → Calls Tryz.prog 76 #[.slice (some ⟨g, 0, none⟩) k c, .func (.func 104) #[] #[.pointer (some ⟨bx, 0, none⟩)]] X fun e w' => e = .returned (.tuple #[]) ∧ ∃ L, Rkd num p S L ∧ w'.ownsRow g 3 1 (.slice (some ⟨g, 0, none⟩) k c) (zs L).length ((zs L).map (Value.int .i64)) ∧ X.grownBy w' (some g)) := by
        intro X g c fb bx N C h1 h2 h3 h4 h5 h6
        have hh := sortS_any (cap := c) C HZ.out HNL.out HSB.out HND.out (fun k hk => ⟨by have := HMB.out; omega, by omega⟩) (by omega) ⟨by omega, by omega⟩ (by omega) h4 h5 (by rw [HSL.out]; exact h6)
        rw [HSL.out] at hh
        exact hh
      have hmb1 := HMB.out
      have hbw := HBW.out _ hkp
      have hbs := hbw.size
      have hb00 := HB0.out.size
      have hS1 := HS1.out
      have HVB2 : Hid (wr.heap[w.heap.size]? = some (.cells (cellsPa p q).toArray 27 (0, 0))) := HVBW.blk
      have HML2 : Hid (MapL wr mb N (fT num S)) := hM
      have HMC2 : Hid (wr.cell? ⟨mb + 1, 0, none⟩ = some (.map (some mb))) := hmcw
      have hzne : zs S ≠ [] := fun e => hS0 (List.eq_nil_of_length_eq_zero (by rw [← zs_len, e]; rfl))
      have HZN : Hid (zs S ≠ []) := hzne
      have HBX : Hid (Below W0.heap.size W0 wr) := hbw
      clear hM hmcw hzne HVBW hbw
      go_upto_region 11 with (go_at_call 75; refine hcl.mono ?_; rintro e w3 ⟨v, rfl, ho3, hb3⟩; clear hcl)
      have ho4 : w3.ownsRow wr.heap.size 3 1 v ((zs S).map (Value.int .i64)).length ((zs S).map (Value.int .i64)) := by rw [List.length_map, HSL.out]; exact ho3
      obtain ⟨g, c, rfl, hgb, hgl⟩ := own_some ho4 (by simpa using HZN.out)
      rw [List.length_map, HSL.out] at ho4 ⊢
      have hs3 := hb3.size
      have HB3 : Hid (Below wr.heap.size wr w3) := hb3
      have HO4 : Hid (w3.ownsRow g 3 1 (.slice (some ⟨g, 0, none⟩) k c) k ((zs S).map (Value.int .i64))) := own_base ho4
      clear ho3 ho4 hb3
      obtain ⟨W5, hW5⟩ : ∃ W5, W5 = (w3.alloc (.cells #[.func (.func 70) #[] #[.pointer (some ⟨mb + 1, 0, none⟩)], .func (.func 72) #[] #[.pointer (some ⟨w.heap.size, 0, none⟩)], .func (.func 73) #[] #[.pointer (some ⟨w.heap.size, 0, none⟩)], .func (.func 78) #[] #[]] 104)).alloc (.cells #[.slice (some ⟨w3.heap.size, 0, none⟩) 4 4] 129) := ⟨_, rfl⟩
      have hb5 : Below w3.heap.size w3 W5 := by rw [hW5]; exact ((Below.refl _ _).alloc (Nat.le_refl _) _).alloc (by simp) _
      have hs5 : W5.heap.size = w3.heap.size + 2 := by rw [hW5]; simp
      have hF : W5.heap[w3.heap.size]? = some (.cells ([.func (.func 70) #[] #[.pointer (some ⟨mb + 1, 0, none⟩)], .func (.func 72) #[] #[.pointer (some ⟨w.heap.size, 0, none⟩)], .func (.func 73) #[] #[.pointer (some ⟨w.heap.size, 0, none⟩)], .func (.func 78) #[] #[]] : List Value).toArray 104 (0, 0)) := by
       rw [hW5]
       exact (Below.block ((Below.refl (w3.alloc (.cells #[.func (.func 70) #[] #[.pointer (some ⟨mb + 1, 0, none⟩)], .func (.func 72) #[] #[.pointer (some ⟨w.heap.size, 0, none⟩)], .func (.func 73) #[] #[.pointer (some ⟨w.heap.size, 0, none⟩)], .func (.func 78) #[] #[]] 104)).heap.size _).alloc (Nat.le_refl _) _) _ (by simp)).trans (heap_alloc_new _ _)
      have hX : W5.heap[w3.heap.size + 1]? = some (.cells ([.slice (some ⟨w3.heap.size, 0, none⟩) 4 4] : List Value).toArray 129 (0, 0)) := by
       rw [hW5, show w3.heap.size + 1 = (w3.alloc (.cells #[.func (.func 70) #[] #[.pointer (some ⟨mb + 1, 0, none⟩)], .func (.func 72) #[] #[.pointer (some ⟨w.heap.size, 0, none⟩)], .func (.func 73) #[] #[.pointer (some ⟨w.heap.size, 0, none⟩)], .func (.func 78) #[] #[]] 104)).heap.size by simp]
       exact heap_alloc_new _ _
      have hbw5 : Below wr.heap.size wr W5 := belowP HB3.out hb5
      have hsort := HCL.out W5 g c w3.heap.size (w3.heap.size + 1) N ⟨(hbw5.block w.heap.size (obj_lt HVB2.out)).trans HVB2.out, HISW.out.carry fun k hk => ⟨hk, hbw5.block k (by omega)⟩, (World.cell?_of_block (a := ⟨mb + 1, 0, none⟩) (hbw5.block (mb + 1) (by omega))).trans HMC2.out, HML2.out.same (hbw5.block mb hML), fun x hx => fT_tells hx, cell_row hX 0 _ rfl, cell_row hF 0 _ rfl, cell_row hF 1 _ rfl, cell_row hF 2 _ rfl, cell_row hF 3 _ rfl⟩ (by omega) (by omega) (by omega) ⟨by omega, by omega⟩ ⟨by omega, by omega⟩ (own_below HO4.out hb5)
      have HW5 : Hid (W5 = (w3.alloc (.cells #[.func (.func 70) #[] #[.pointer (some ⟨mb + 1, 0, none⟩)], .func (.func 72) #[] #[.pointer (some ⟨w.heap.size, 0, none⟩)], .func (.func 73) #[] #[.pointer (some ⟨w.heap.size, 0, none⟩)], .func (.func 78) #[] #[]] 104)).alloc (.cells #[.slice (some ⟨w3.heap.size, 0, none⟩) 4 4] 129)) := hW5
      have HEND : Hid (∀ X, W5.grownBy X (some g) → Below w.heap.size w X) := fun X hX => belowP HB0.out ((HBX.out.trans (hbw5.mono (by omega))).grown hX (by omega) fun k hk => by cases hk; omega)
      clear hF hX hW5 hb5 hbw5 hs5
      go_wp2_with (first
       | (go_at_call 77; refine inTurn_any.mono ?_; rintro e w4 ⟨rfl, rfl⟩; rw [← HW5.out])
       | (go_at_call 76; refine hsort.mono ?_; rintro e w6 ⟨rfl, L, hL, ho6, hg6⟩))
      go_ret
      exact ⟨L, hL, _, rfl, own_le ho6 (by omega), HEND.out _ hg6⟩
end Go.Proofs.YtimhpglfolbomaaGreat.Od
namespace Go.Proofs.YtimhpglfolbomaaGreat.Od
open Go.RowKit
structure Sub (Q q : List (List Nat)) (R r : List Int) (f : Nat → Nat) : Prop where
 back : BackQ Q
 inj : ∀ a b, a < q.length → b < q.length → f a = f b → a = b
 lt : ∀ a, a < q.length → f a < Q.length
 pos : ∀ a, a < q.length → 0 < rk R (f a)
 mark : ∀ i, i < Q.length → 0 < rk R i → ∃ a, a < q.length ∧ f a = i
 par : ∀ a, a < q.length → ∀ b, b < q.length → (b ∈ Od.par q a ↔ Lead Q [f a] (f b))
 parl : ∀ a, ∀ b ∈ Od.par q a, b < q.length
 less : ∀ a b, a < q.length → b < q.length → (Lt r a b ↔ Lt R (f a) (f b))
def Closed (Q : List (List Nat)) (T : List Nat) : Prop := ∀ x ∈ T, ∀ p ∈ par Q x, p ∈ T
theorem closed_ch {Q : List (List Nat)} {T S : List Nat} (hc : Closed Q T) (hS : ∀ x ∈ S, ∀ p ∈ par Q x, p ∈ T) {i : Nat} (h : Lead Q S i) : i ∈ T := by
 induction h with
 | one h1 h2 => exact hS _ h1 _ h2
 | more _ h2 ih => exact hc _ ih _ h2
theorem closed_snoc {Q : List (List Nat)} {T : List Nat} {b : Nat} (hc : Closed Q T) (hr : Rdy Q T b) : Closed Q (T ++ [b]) := by
 intro x hx p hp
 rcases List.mem_append.1 hx with h | h
 · exact List.mem_append_left _ (hc x h p hp)
 · rw [List.mem_singleton.1 h] at hp
   exact List.mem_append_left _ (hr.2 p hp)
theorem ch_self {Q : List (List Nat)} {x i p : Nat} (h : Lead Q [x] i) (hp : p ∈ par Q i) : Lead Q [x] p := .more h hp
theorem least_out {P : Nat → Prop} [DecidablePred P] : ∀ n, (∃ i, i < n ∧ P i) → ∃ i, i < n ∧ P i ∧ ∀ j, j < i → ¬ P j
 | 0, ⟨i, hi, _⟩ => absurd hi (by omega)
 | n + 1, ⟨i, hi, hp⟩ => by
  by_cases h : ∃ j, j < n ∧ P j
  · obtain ⟨j, h1, h2, h3⟩ := least_out n h
    exact ⟨j, by omega, h2, h3⟩
  · exact ⟨i, hi, hp, fun j hj hpj => h ⟨j, by omega, hpj⟩⟩
theorem sub_ready {Q q : List (List Nat)} {R r : List Int} {f : Nat → Nat} (H : Sub Q q R r f) {T t : List Nat} (hc : Closed Q T) (hT : T.filter (fun i => decide (0 < rk R i)) = t.map f) (ht : ∀ x ∈ t, x < q.length)
    (hno : ∀ i, i < Q.length → Rdy Q T i → 0 < rk R i) {b : Nat} (hb : b < q.length) : Rdy Q T (f b) ↔ Rdy q t b := by
 have hmem : ∀ a, a < q.length → (f a ∈ T ↔ a ∈ t) := fun a ha => by
  have h1 : f a ∈ T ↔ f a ∈ T.filter (fun i => decide (0 < rk R i)) := by simp [H.pos a ha]
  rw [h1, hT, List.mem_map]
  exact ⟨fun ⟨x, hx, e⟩ => by rw [← H.inj x a (ht x hx) ha e]; exact hx, fun h => ⟨a, h, rfl⟩⟩
 constructor
 · rintro ⟨h1, h2⟩
   refine ⟨fun h => h1 ((hmem b hb).2 h), fun a ha => ?_⟩
   have hal := H.parl b a ha
   exact (hmem a hal).1 (closed_ch hc (fun x hx p hp => by rw [List.mem_singleton.1 hx] at hp; exact h2 p hp) ((H.par b hb a hal).1 ha))
 · rintro ⟨h1, h2⟩
   refine ⟨fun h => h1 ((hmem b hb).1 h), fun p hp => ?_⟩
   refine Classical.byContradiction fun hn => ?_
   have hex : ∃ i, i < Q.length ∧ (Lead Q [f b] i ∧ i ∉ T) := ⟨p, Nat.lt_trans (H.back _ _ hp) (H.lt b hb), .one (List.mem_singleton.2 rfl) hp, hn⟩
   obtain ⟨i, hi, ⟨hch, hni⟩, hl⟩ := @least_out (fun i => Lead Q [f b] i ∧ i ∉ T) (fun _ => Classical.propDecidable _) _ hex
   have hri : Rdy Q T i := ⟨hni, fun x hx => Classical.byContradiction fun hxn => hl x (H.back i x hx) ⟨ch_self hch hx, hxn⟩⟩
   obtain ⟨a, ha, rfl⟩ := H.mark i hi (hno i hi hri)
   exact hni ((hmem a ha).2 (h2 a ((H.par b hb a ha).2 hch)))
theorem sub_lin {Q q : List (List Nat)} {R r : List Int} {f : Nat → Nat} (H : Sub Q q R r f) (hz : ∀ i, 0 ≤ rk R i) : ∀ (n m : Nat) (T t L l : List Nat), Closed Q T → T.filter (fun i => decide (0 < rk R i)) = t.map f → (∀ x ∈ t, x < q.length) → T.Nodup → (∀ x ∈ T, x < Q.length) → T.length + n = Q.length → t.length + m = q.length → t.Nodup →
    linTo Q R n T = some L → linTo q r m t = some l → L.filter (fun i => decide (0 < rk R i)) = l.map f
 | 0, m, T, t, L, l, hc, hT, ht, hn, hl, hs, hm, hd, hL, hq => by
  unfold linTo at hL
  cases hL
  have hall : ∀ i, i < Q.length → i ∈ T := by
   intro i hi
   refine Classical.byContradiction fun hx => ?_
   have := sub_len (l := i :: T) (T := List.range Q.length) (by rw [List.nodup_cons]; exact ⟨hx, hn⟩) (fun x hx => List.mem_range.2 (by rcases List.mem_cons.1 hx with rfl | h; exact hi; exact hl x h))
   simp at this
   omega
  have hm0 : m = 0 := by
   refine Classical.byContradiction fun hm0 => ?_
   have : ∃ a, a < q.length ∧ a ∉ t := by
    refine Classical.byContradiction fun hx => ?_
    have := sub_len (l := List.range q.length) (T := t) List.nodup_range (fun a ha => Classical.byContradiction fun h => hx ⟨a, List.mem_range.1 ha, h⟩)
    simp at this
    omega
   obtain ⟨a, ha, hna⟩ := this
   have h1 : f a ∈ T.filter (fun i => decide (0 < rk R i)) := by
    rw [List.mem_filter]
    exact ⟨hall _ (H.lt a ha), by simpa using H.pos a ha⟩
   rw [hT, List.mem_map] at h1
   obtain ⟨x, hx, e⟩ := h1
   exact hna (by rw [← H.inj x a (ht x hx) ha e]; exact hx)
  subst hm0
  unfold linTo at hq
  cases hq
  exact hT
 | n + 1, m, T, t, L, l, hc, hT, ht, hn, hl, hs, hm, hd, hL, hq => by
  unfold linTo at hL
  cases hb : bestTo Q R T Q.length with
  | none => rw [hb] at hL; cases hL
  | some b =>
   rw [hb] at hL
   simp only at hL
   obtain ⟨h1, h2, h3⟩ := bestTo_some hb
   have hcl := closed_snoc hc h2
   have hnd := nodup_snoc hn h2.1
   have hlt : ∀ x ∈ T ++ [b], x < Q.length := fun x hx => by
    rcases List.mem_append.1 hx with h' | h'
    · exact hl x h'
    · rw [List.mem_singleton.1 h']; exact h1
   by_cases hp : 0 < rk R b
   · have hno : ∀ i, i < Q.length → Rdy Q T i → 0 < rk R i := fun i hi hri => by
       rcases h3 i hi hri with rfl | h
       · exact hp
       · unfold Lt at h; omega
     obtain ⟨a, ha, rfl⟩ := H.mark b h1 hp
     have hra := (sub_ready H hc hT ht hno ha).1 h2
     have hba : bestTo q r t q.length = some a := bestTo_eq ha hra fun i hi hri => by
      rcases h3 (f i) (H.lt i hi) ((sub_ready H hc hT ht hno hi).2 hri) with e | e
      · exact .inl (H.inj i a hi ha e)
      · exact .inr ((H.less a i ha hi).2 e)
     cases m with
     | zero =>
      exfalso
      have := sub_len (l := a :: t) (T := List.range q.length) (by rw [List.nodup_cons]; exact ⟨hra.1, hd⟩) (fun x hx => List.mem_range.2 (by rcases List.mem_cons.1 hx with rfl | h; exact ha; exact ht x h))
      simp at this
      omega
     | succ m =>
      rw [linTo_step hba] at hq
      refine sub_lin H hz n m (T ++ [f a]) (t ++ [a]) L l hcl ?_ (fun x hx => ?_) hnd hlt (by simp; omega) (by simp; omega) (nodup_snoc hd hra.1) hL hq
      · rw [List.filter_append, hT, List.map_append]
        simp [hp]
      · rcases List.mem_append.1 hx with h' | h'
        · exact ht x h'
        · rw [List.mem_singleton.1 h']; exact ha
   · refine sub_lin H hz n m (T ++ [b]) t L l hcl ?_ ht hnd hlt (by simp; omega) hm hd hL hq
     rw [List.filter_append, hT]
     simp [hp]
theorem sub_told {Q q : List (List Nat)} {R r : List Int} {f : Nat → Nat} (H : Sub Q q R r f) (hz : ∀ i, 0 ≤ rk R i) {L l : List Nat} (hL : lin Q R = some L) (hl : lin q r = some l) : L.filter (fun i => decide (0 < rk R i)) = l.map f :=
 sub_lin H hz Q.length q.length [] [] L l (fun x hx => absurd hx (by simp)) rfl (fun x hx => absurd hx (by simp)) List.nodup_nil (fun x hx => absurd hx (by simp)) (by simp) (by simp) List.nodup_nil hL hl
end Go.Proofs.YtimhpglfolbomaaGreat.Od
namespace Go.Proofs.YtimhpglfolbomaaGreat.Od
open Go.RowKit Go.Maps
open Classical in
noncomputable def thT (Q : List (List Nat)) (S : List Nat) (n : Nat) : List Nat := (List.range n).filter fun i => decide (i ∈ S ∨ Lead Q S i)
theorem thT_mem {Q : List (List Nat)} {S : List Nat} {n x : Nat} (hQ : BackQ Q) (hS : ∀ x ∈ S, x < n) : x ∈ thT Q S n ↔ x ∈ S ∨ Lead Q S x := by
 unfold thT
 simp only [List.mem_filter, List.mem_range, decide_eq_true_eq]
 exact ⟨fun h => h.2, fun h => ⟨h.elim (hS x) (ch_lt hQ hS), h⟩⟩
theorem thT_rises (Q : List (List Nat)) (S : List Nat) (n : Nat) : (thT Q S n).Pairwise (· < ·) := List.Pairwise.filter _ List.pairwise_lt_range
theorem thT_len (Q : List (List Nat)) (S : List Nat) (n : Nat) : (thT Q S n).length ≤ n := by
 unfold thT
 exact Nat.le_trans (List.length_filter_le _ _) (by simp)
theorem thT_chain {Q : List (List Nat)} {S : List Nat} {n x y : Nat} (hQ : BackQ Q) (hS : ∀ x ∈ S, x < n) (hx : x ∈ thT Q S n) (hy : y ∈ par Q x) : y ∈ thT Q S n :=
 (thT_mem hQ hS).2 (.inr (((thT_mem hQ hS).1 hx).elim (fun h => .one h hy) fun h => .more h hy))
theorem fr_two (a b : List Int) (x : Int) : (0 < fr [a, b] x ∧ (1 : Int) ≤ fr [a, b] x ∧ (fr [a, b] x : Int) ≤ ([a, b] : List (List Int)).length) ↔ x ∈ a ∨ x ∈ b := by
 have h1 := fr_pos (P := [a, b]) (x := x)
 have h2 := fr_le [a, b] x
 have e : (∃ r ∈ [a, b], x ∈ r) ↔ x ∈ a ∨ x ∈ b := by simp
 rw [e] at h1
 rw [← h1]
 omega
theorem within_two {Q : List (List Nat)} {S : List Nat} {n : Nat} (hQ : BackQ Q) (hS : ∀ x ∈ S, x < n) {l : List Int} (h : Rs [zs S, zs (chT Q S)] 1 ([zs S, zs (chT Q S)] : List (List Int)).length l) : l = zs (thT Q S n) := by
 refine riseZ_ext h.rise (zs_rises (thT_rises Q S n)) fun x => ?_
 rw [h.mem, fr_two]
 constructor
 · rintro (hx | hx)
   · obtain ⟨y, hy, rfl⟩ := List.mem_map.1 hx
     exact (zs_mem _ _).2 ((thT_mem hQ hS).2 (.inl hy))
   · obtain ⟨y, hy, rfl⟩ := List.mem_map.1 hx
     exact (zs_mem _ _).2 ((thT_mem hQ hS).2 (.inr ((cht_mem hQ).1 hy)))
 · intro hx
   obtain ⟨y, hy, rfl⟩ := List.mem_map.1 hx
   exact ((thT_mem hQ hS).1 hy).imp (fun h => (zs_mem _ _).2 h) fun h => (zs_mem _ _).2 ((cht_mem hQ).2 h)
theorem idx_zs : ∀ (l : List Nat) (j : Nat), (zs l).idxOf (j : Int) = l.idxOf j
 | [], _ => rfl
 | a :: r, j => by
  have ih := idx_zs r j
  unfold zs at ih ⊢
  rw [List.map_cons, List.idxOf_cons, List.idxOf_cons, ih]
  by_cases h : a = j
  · subst h; simp
  · have h2 : ((a : Int) == (j : Int)) = false := by rw [beq_eq_false_iff_ne]; omega
    have h3 : (a == j) = false := by simpa using h
    rw [h2, h3]
theorem idx_lt {l : List Nat} {j : Nat} (h : j ∈ l) : l.idxOf j < l.length := List.idxOf_lt_length_iff.2 h
theorem idx_get {l : List Nat} {j : Nat} (h : j ∈ l) : l.getD (l.idxOf j) 0 = j := by
 rw [getD_in (idx_lt h)]
 exact List.getElem_idxOf (idx_lt h)
theorem rise_get {l : List Nat} (h : l.Pairwise (· < ·)) {i j : Nat} (hi : i < l.length) (hj : j < l.length) (hij : l.getD i 0 < l.getD j 0) : i < j := by
 rw [getD_in hi, getD_in hj] at hij
 rcases Nat.lt_trichotomy i j with h' | h' | h'
 · exact h'
 · subst h'; omega
 · have := List.pairwise_iff_getElem.1 h j i hj hi h'
   omega
theorem par_rws {Q : List (List Nat)} {Th : List Nat} {i : Nat} (hi : i < Th.length) : par (rwsT Q Th) i = rwT Q Th i := by
 unfold par rwsT
 rw [getD_in (by simpa using hi)]
 simp
theorem par_rws_out {Q : List (List Nat)} {Th : List Nat} {i : Nat} (hi : ¬ i < Th.length) : par (rwsT Q Th) i = [] := by
 unfold par rwsT
 rw [List.getD_eq_getElem?_getD, List.getElem?_eq_none (by simpa using hi)]
 rfl
theorem rws_back {Q : List (List Nat)} {Th : List Nat} (hQ : BackQ Q) (hr : Th.Pairwise (· < ·)) (hc : ∀ x ∈ Th, ∀ y ∈ par Q x, y ∈ Th) : BackQ (rwsT Q Th) := by
 intro i p hp
 by_cases hi : i < Th.length
 · rw [par_rws hi] at hp
   obtain ⟨j, hj, rfl⟩ := List.mem_map.1 hp
   have hx := getD_inm (l := Th) (d := 0) hi
   have hjT := hc _ hx j hj
   rw [idx_zs]
   refine rise_get hr (idx_lt hjT) hi ?_
   rw [idx_get hjT]
   exact hQ _ _ hj
 · rw [par_rws_out hi] at hp
   cases hp
theorem zs_nat (l : List Nat) : (zs l).map Int.toNat = l := by
 unfold zs
 rw [List.map_map]
 conv => rhs; rw [← List.map_id l]
 exact List.map_congr_left fun x _ => by simp
theorem toQ_of (P : List (List Nat)) : Od.toQ (P.map zs) = P := by
 unfold toQ
 rw [List.map_map]
 conv => rhs; rw [← List.map_id P]
 exact List.map_congr_left fun x _ => zs_nat x
def rkV (L : List Nat) (i : Nat) : Int := if (posI (zs L) (i : Int)).isSome then (posI (zs L) (i : Int)).getD 0 + 1 else 0
def rkT (L Th : List Nat) : List Int := Th.map (rkV L)
theorem rkV_in {L : List Nat} {i : Nat} (h : i ∈ L) : rkV L i = (L.idxOf i : Int) + 1 := by
 unfold rkV posI
 rw [if_pos ((zs_mem _ _).2 h), idx_zs]
 rfl
theorem rkV_out {L : List Nat} {i : Nat} (h : i ∉ L) : rkV L i = 0 := by
 unfold rkV posI
 rw [if_neg (fun h' => h ((zs_mem _ _).1 h'))]
 rfl
theorem lin_some {Q : List (List Nat)} {Th L : List Nat} (hQ : BackQ Q) (hr : Th.Pairwise (· < ·)) (hc : ∀ x ∈ Th, ∀ y ∈ par Q x, y ∈ Th) : ∃ T, lin (rwsT Q Th) (rkT L Th) = some T ∧ linP ((rwsT Q Th).map zs) (rkT L Th) = some T := by
 have hb := rws_back hQ hr hc
 obtain ⟨T, hT⟩ := lin_back (Q := rwsT Q Th) (R := rkT L Th) hb
 refine ⟨T, hT, ?_⟩
 rw [linP_ok (by simp [rkT, rwsT]) ?_, toQ_of, hT]
 unfold insB
 rw [List.all_eq_true]
 intro r hr'
 obtain ⟨x, hx, rfl⟩ := List.mem_map.1 hr'
 obtain ⟨i, hi, rfl⟩ := List.mem_map.1 hx
 have hi := List.mem_range.1 hi
 unfold rowB
 rw [List.all_eq_true]
 intro y hy
 obtain ⟨k, hk, rfl⟩ := List.mem_map.1 hy
 rw [← par_rws hi] at hk
 have := hb i k hk
 simp [rwsT]
 omega
def toldT (Th : List Nat) (R : List Int) (T : List Nat) : List Nat := (T.filter fun i => decide (0 < rk R i)).map fun i => Th.getD i 0
theorem told_next {Th : List Nat} {R : List Int} {T : List Nat} {k : Nat} (hk : k < T.length) : toldT Th R (T.take (k + 1)) = toldT Th R (T.take k) ++ if 0 < rk R (T.getD k 0) then [Th.getD (T.getD k 0) 0] else [] := by
 unfold toldT
 rw [take_snoc T k 0 hk, List.filter_append, List.map_append]
 congr 1
 generalize T.getD k 0 = x
 by_cases h : 0 < rk R x <;> simp [h]
def Ik2 (w : World) (b : Nat) (L : List Int) : Prop := w.heap[b]? = some (.cells (L.map (Value.int .i64)).toArray 2)
theorem Ik2.cell {w : World} {b : Nat} {L : List Int} (h : Ik2 w b L) (j : Nat) (hj : j < L.length) : w.cell? ⟨b, j, none⟩ = some (.int .i64 (L.getD j 0)) :=
 cell_row (cur := L.map (Value.int .i64)) h j _ (by rw [List.getElem?_map, List.getElem?_eq_getElem hj, getD_in hj]; rfl)
theorem Ik2.fz {w : World} {b : Nat} {L : List Int} (h : Ik2 w b L) (j : Nat) : w.frozen? ⟨b, j, none⟩ = false := frozen_of_row w b j _ _ h
theorem Ik2.set {w : World} {b : Nat} {L : List Int} (h : Ik2 w b L) (j : Nat) (x : Int) : Ik2 (w.setCell ⟨b, j, none⟩ (.int .i64 x)) b (L.set j x) := by
 unfold Ik2
 rw [heap_setCell_same w b j _ _ _ h]
 congr 2
 simp
theorem Ik2.rd {w : World} {b : Nat} {L : List Int} (h : Ik2 w b L) (c : Nat) (hc : L.length ≤ c) : RdI (· = b) w (some ⟨b, 0, none⟩) c L :=
 ⟨hc, fun _ => ⟨b, 0, rfl, rfl, fun j x hj => by
  rw [Nat.zero_add]
  exact cell_row (cur := L.map (Value.int .i64)) h j _ (by rw [List.getElem?_map, hj]; rfl)⟩⟩
theorem make_longs (W : World) (n : Nat) (hn : n ≤ 1000000) : (Instr.makeSlice 71 (.int .i64 (n : Int)) (.int .i64 (n : Int))).run Tryz.prog W = .ok (.slice (some ⟨W.heap.size, 0, none⟩) n n) (W.alloc (.cells ((List.replicate n (0 : Int)).map (Value.int .i64)).toArray 2)) := by
 obtain ⟨i0, hi, hz0, hz1, hz2⟩ := info_parts Tryz.info2
 have := run_makeSlice (P := Tryz.prog) W 71 2 i0 (.int .i64 0) Tryz.underlying71 hi hz0 .i64 .i64 n n (by omega) (Int.le_refl _) (by rw [hz1]; simp; omega) (by rw [hz2]; omega) (by omega)
 rw [hz1] at this
 simp only [Int.toNat_natCast] at this
 rw [made_ints] at this
 exact this
theorem wpList_longs {W : World} {ops : Array Oper} {rest : List Oper} {o : Oper} {a : Act} {Q : Exit → Act → World → Prop} (hgd : o.guard = none) (x y : Operand) (ho : o.op = .makeSlice 71 x y) (n : Nat) (hn : n ≤ 1000000) (hx : a.eval x = .int .i64 (n : Int)) (hy : a.eval y = .int .i64 (n : Int))
    (h : ∀ W', Hid (W' = W.alloc (.cells ((List.replicate n (0 : Int)).map (Value.int .i64)).toArray 2)) → wpList Tryz.prog ops Q rest (a.put o.dst (.slice (some ⟨W.heap.size, 0, none⟩) n n)) W') : wpList Tryz.prog ops Q (o :: rest) a W := by
 refine wpList_plain hgd fun K hK => ?_
 have hrun := make_longs W n hn
 unfold Oper.wp
 simp [execOp, ho, hx, hy, hrun, Result.andThen]
 refine hK _ _ ?_
 have := h _ rfl
 simpa using this
def rkJ (L Th : List Nat) (k : Nat) : List Int := (List.range Th.length).map fun i => if i < k then rkV L (Th.getD i 0) else 0
theorem rkJ_len (L Th : List Nat) (k : Nat) : (rkJ L Th k).length = Th.length := by simp [rkJ]
theorem rkJ_zero (L Th : List Nat) : rkJ L Th 0 = List.replicate Th.length 0 := by
 apply List.ext_getElem
 · simp [rkJ]
 · intro i h1 h2; simp [rkJ]
theorem rkJ_all (L Th : List Nat) : rkJ L Th Th.length = rkT L Th := by
 apply List.ext_getElem
 · simp [rkJ, rkT]
 · intro i h1 h2
   have hi : i < Th.length := by simpa [rkJ] using h1
   simp [rkJ, rkT, hi]
theorem rkJ_set (L Th : List Nat) (k : Nat) (_hk : k < Th.length) : (rkJ L Th k).set k (rkV L (Th.getD k 0)) = rkJ L Th (k + 1) := by
 apply List.ext_getElem
 · simp [rkJ]
 · intro i h1 h2
   rw [List.getElem_set]
   split
   · rename_i e; subst e; simp [rkJ]
   · rename_i e
     simp only [rkJ, List.getElem_map, List.getElem_range]
     by_cases h : i < k
     · rw [if_pos h, if_pos (by omega)]
     · rw [if_neg h, if_neg (by omega)]
theorem rkJ_same (L Th : List Nat) (k : Nat) (h0 : rkV L (Th.getD k 0) = 0) : rkJ L Th k = rkJ L Th (k + 1) := by
 unfold rkJ
 refine List.map_congr_left fun i _ => ?_
 by_cases h : i < k
 · rw [if_pos h, if_pos (by omega)]
 · rw [if_neg h]
   by_cases e : i = k
   · subst e; rw [if_pos (by omega), h0]
   · rw [if_neg (by omega)]
theorem rkJ_get (L Th : List Nat) (k i : Nat) (hi : i < Th.length) : (rkJ L Th k).getD i 0 = if i < k then rkV L (Th.getD i 0) else 0 := by
 unfold rkJ
 rw [getD_in (by simpa using hi)]
 simp
theorem own_made0 {w : World} {n : Nat} (hn : n ≤ 1000000) : (w.alloc (.cells ((List.replicate n (0 : Int)).map (Value.int .i64)).toArray 3)).ownsRow w.heap.size 3 1 (.slice (some ⟨w.heap.size, 0, none⟩) 0 n) 0 [] :=
 ⟨rfl, .inr ⟨w.heap.size, n, _, rfl, Nat.le_refl _, heap_alloc_new _ _, Nat.zero_le _, by unfold maxLen; omega, by simp, by simp⟩⟩
end Go.Proofs.YtimhpglfolbomaaGreat.Od

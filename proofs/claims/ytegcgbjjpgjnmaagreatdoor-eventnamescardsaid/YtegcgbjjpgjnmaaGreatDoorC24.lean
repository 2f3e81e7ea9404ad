/-
  A map of names to values of JSON, as the reader of events has it.
  The reader of events: what it has left, and how it takes a value: by contracts.
  The reader of events: rows of texts, and signatures: by contracts.
  The reader of events: signatures: by a contract.
-/
import Derived.Test.YtegcgbjjpgjnmaaGreatDoorC23
set_option maxRecDepth 100000
set_option maxHeartbeats 16000000
namespace Go.Proofs.YtegcgbjjpgjnmaaGreatDoor
open Go.RowKit Go.Maps
def rawElem (v : Value) : Option (DataW Value × List MemPlace) := some (.held v, [])
def lookE : List (ByteArray × Value) → ByteArray → Option Value
 | [], _ => none
 | p :: r, s => if p.1.data = s.data then some p.2 else lookE r s
def delE : List (ByteArray × Value) → ByteArray → List (ByteArray × Value)
 | [], _ => []
 | p :: r, s => if p.1.data = s.data then delE r s else p :: delE r s
theorem data_inj {a b : ByteArray} (h : a.data = b.data) : a = b := by
 cases a; cases b
 simp only at h
 rw [h]
theorem look_none {es : List (ByteArray × Value)} {s : ByteArray} : lookE es s = none ↔ s ∉ es.map (·.1) := by
 induction es with
 | nil => simp [lookE]
 | cons p r ih =>
  unfold lookE
  by_cases h : p.1.data = s.data
  · rw [if_pos h]
    simp [data_inj h]
  · rw [if_neg h, ih]
    simp
    intro _ e
    exact h (by rw [e])
theorem look_snoc {es : List (ByteArray × Value)} {k s : ByteArray} {v : Value} (hk : k ∉ es.map (·.1)) : lookE (es ++ [(k, v)]) s = if k.data = s.data then some v else lookE es s := by
 induction es with
 | nil => simp [lookE]
 | cons p r ih =>
  have hk1 : k ≠ p.1 := fun e => hk (by simp [e])
  have hk2 : k ∉ r.map (·.1) := fun h => hk (by simp at h ⊢; exact .inr h)
  simp only [List.cons_append, lookE, ih hk2]
  by_cases h : p.1.data = s.data
  · rw [if_pos h, if_neg (fun e => hk1 (data_inj (e.trans h.symm))), if_pos h]
  · rw [if_neg h, if_neg h]
theorem look_del (es : List (ByteArray × Value)) (k s : ByteArray) : lookE (delE es k) s = if k.data = s.data then none else lookE es s := by
 induction es with
 | nil => simp [lookE, delE]
 | cons p r ih =>
  unfold delE
  by_cases h : p.1.data = k.data
  · rw [if_pos h, ih]
    by_cases h2 : k.data = s.data
    · rw [if_pos h2, if_pos h2]
    · rw [if_neg h2, if_neg h2, lookE, if_neg (fun e => h2 (h.symm.trans e))]
  · rw [if_neg h, lookE, ih, lookE]
    by_cases h2 : p.1.data = s.data
    · rw [if_pos h2, if_pos h2, if_neg (fun e => h (h2.trans e.symm))]
    · rw [if_neg h2, if_neg h2]
theorem del_sub (es : List (ByteArray × Value)) (k : ByteArray) : (delE es k).Sublist es := by
 induction es with
 | nil => exact List.Sublist.refl _
 | cons p r ih =>
  unfold delE
  split
  · exact ih.cons p
  · exact ih.cons_cons p
theorem del_len {es : List (ByteArray × Value)} (hd : (es.map (·.1)).Pairwise (· ≠ ·)) (k : ByteArray) : (delE es k).length + (if (lookE es k).isSome = true then 1 else 0) = es.length := by
 induction es with
 | nil => rfl
 | cons p r ih =>
  rw [List.map_cons, List.pairwise_cons] at hd
  have ih := ih hd.2
  unfold delE lookE
  by_cases h : p.1.data = k.data
  · rw [if_pos h, if_pos h]
    have hn : lookE r k = none := look_none.2 (by rw [← data_inj h]; exact fun hm => hd.1 _ hm rfl)
    rw [hn] at ih
    simp at ih ⊢
    exact ih
  · rw [if_neg h, if_neg h, List.length_cons, List.length_cons]
    omega
structure MapIs (w : World) (M : Nat) (es : List (ByteArray × Value)) : Prop where
 own : ∃ D n, w.ownsMap Tryz.prog 9 rawElem M n D ∧ n ≤ 100000 ∧ (∀ s, okS s → Maps.has D (klS s) = (lookE es s).isSome) ∧ (∀ s z, okS s → D.atKey (klS s) (.held z) = .held ((lookE es s).getD z)) ∧ Maps.size D = es.length
 apart : (es.map (·.1)).Pairwise (· ≠ ·)
theorem MapIs.keep {S : Nat → Prop} {w w' : World} {M : Nat} {es : List (ByteArray × Value)} (h : MapIs w M es) (hk : Keep S w w') (hS : ¬ S M) : MapIs w' M es := by
 obtain ⟨⟨D, n, ⟨ms, clock, hb, F, hs, hD⟩, r⟩, ha⟩ := h
 exact ⟨⟨D, n, ⟨ms, clock, (hk.block M (Array.getElem?_eq_some_iff.1 hb).1 hS).trans hb, F, hs, hD⟩, r⟩, ha⟩
theorem MapIs.lt {w : World} {M : Nat} {es : List (ByteArray × Value)} (h : MapIs w M es) : M < w.heap.size := by
 obtain ⟨⟨D, n, ho, _⟩, _⟩ := h
 exact ho.lt
theorem MapIs.made (w : World) : MapIs (w.alloc (.map #[] 0)) w.heap.size [] :=
 ⟨⟨.map [], 0, World.ownsMap_made _ _ _ _, by omega, fun _ _ => rfl, fun _ _ _ => rfl, rfl⟩, List.Pairwise.nil⟩
abbrev zJv : Value := .agg #[.int .i64 0, .int .i64 0, .string ⟨#[]⟩, .slice none 0 0, .slice none 0 0]
theorem zeroJ (w : World) : (zeroValue 25).run Tryz.prog w = .ok zJv w := by kernel_rfl
theorem MapIs.look {w : World} {M : Nat} {es : List (ByteArray × Value)} (h : MapIs w M es) {s : ByteArray} (hs : okS s) : (Instr.lookup 82 (.map (some M)) (.string s) false).run Tryz.prog w = .ok ((lookE es s).getD zJv) w := by
 obtain ⟨⟨D, n, ho, _, _, hat, _⟩, _⟩ := h
 obtain ⟨v, ps, hrun, hv⟩ := ho.lookup law9 Tryz.underlying82 (zeroJ w) (zd := .held zJv) (zp := []) rfl (keyS hs)
 rw [hat s _ hs] at hv
 unfold rawElem at hv
 have : v = (lookE es s).getD zJv := by
  have := Option.some.inj hv
  have := congrArg Prod.fst this
  exact DataW.held.inj this
 rw [hrun, this]
theorem MapIs.look_ok {w : World} {M : Nat} {es : List (ByteArray × Value)} (h : MapIs w M es) {s : ByteArray} (hs : okS s) : (Instr.lookup 82 (.map (some M)) (.string s) true).run Tryz.prog w = .ok (.tuple #[(lookE es s).getD zJv, .bool (lookE es s).isSome]) w := by
 obtain ⟨⟨D, n, ho, _, hh, hat, _⟩, _⟩ := h
 obtain ⟨v, ps, hrun, hv⟩ := ho.look_ok law9 Tryz.underlying82 (zeroJ w) (zd := .held zJv) (zp := []) rfl (keyS hs)
 rw [hat s _ hs] at hv
 unfold rawElem at hv
 have : v = (lookE es s).getD zJv := by
  have := Option.some.inj hv
  have := congrArg Prod.fst this
  exact DataW.held.inj this
 rw [hrun, this, hh s hs]
theorem MapIs.put {w : World} {M : Nat} {es : List (ByteArray × Value)} (h : MapIs w M es) {s : ByteArray} (hs : okS s) (hn : s ∉ es.map (·.1)) (hl : es.length < 90000) (v : Value) :
    ∃ w', (Instr.mapUpdate 82 (.map (some M)) (.string s) v).run Tryz.prog w = .ok () w' ∧ MapIs w' M (es ++ [(s, v)]) ∧ w.grownBy w' (some M) := by
 obtain ⟨⟨D, n, ho, hn1, hh, hat, hsz⟩, ha⟩ := h
 have ho' := ho
 obtain ⟨ms, clock, hb, F, hms, hD⟩ := ho'
 have hml : ms.size = Maps.size D := by
  rw [hD]
  simp [Maps.size, length_sorted]
 have ho2 : w.ownsMap Tryz.prog 9 rawElem M es.length D := ⟨ms, clock, hb, F, by omega, hD⟩
 obtain ⟨w', hrun, ho3, hg⟩ := ho2.update law9 Tryz.underlying82 (by unfold maxLen; omega) (keyS hs) (d := .held v) (ps := []) rfl
 have hm := ho2.isMap
 have hns := look_none.2 hn
 refine ⟨w', hrun, ⟨⟨D.put (klS s) (.held v), es.length + 1, ho3, by omega, fun x hx => ?_, fun x z hx => ?_, ?_⟩, ?_⟩, hg⟩
 · rw [look_snoc hn]
   by_cases e : x = s
   · subst e
     rw [has_put_same hm (show WideAt.IsKeyLit (klS x) from trivial), if_pos rfl]; rfl
   · rw [has_put_other (fun h' => e (klS_inj h')), hh x hx, if_neg (fun h' => e (data_inj h').symm)]
 · rw [look_snoc hn]
   by_cases e : x = s
   · subst e
     rw [atKey_put_same hm (show WideAt.IsKeyLit (klS x) from trivial), if_pos rfl]; rfl
   · rw [atKey_put_other (fun h' => e (klS_inj h')), hat x z hx, if_neg (fun h' => e (data_inj h').symm)]
 · rw [size_put (ho2.tidy law9), hh s hs, hns, hsz]
   simp
 · rw [List.map_append, List.pairwise_append]
   refine ⟨ha, by simp, fun a ha' b hb' e => ?_⟩
   simp at hb'
   subst hb'
   exact hn (e ▸ ha')
theorem MapIs.del {w : World} {M : Nat} {es : List (ByteArray × Value)} (h : MapIs w M es) {s : ByteArray} (hs : okS s) (ty : TypeId) :
    ∃ w', (Builtin.delete_ #[82, 9] ty #[.map (some M), .string s]).run Tryz.prog w = .ok (.tuple #[]) w' ∧ MapIs w' M (delE es s) ∧ Keep (One M) w w' := by
 obtain ⟨⟨D, n, ho, hn1, hh, hat, hsz⟩, ha⟩ := h
 obtain ⟨w', hrun, ho', ⟨e1, c1, e2, c2, hb, hw'⟩⟩ := ho.drop law9 Tryz.underlying82 (keyS hs) ty
 refine ⟨w', hrun, ⟨⟨D.del (klS s), n, ho', hn1, fun x hx => ?_, fun x z hx => ?_, ?_⟩, ?_⟩, ?_⟩
 · rw [look_del]
   by_cases e : x = s
   · subst e
     rw [has_del_same, if_pos rfl]; rfl
   · rw [has_del_other (fun h' => e (klS_inj h')), hh x hx, if_neg (fun h' => e (data_inj h').symm)]
 · rw [look_del]
   by_cases e : x = s
   · subst e
     rw [atKey_del_same, if_pos rfl]; rfl
   · rw [atKey_del_other (fun h' => e (klS_inj h')), hat x z hx, if_neg (fun h' => e (data_inj h').symm)]
 · have h1 := size_del (k := klS s) (ho.tidy law9)
   have h2 := del_len ha s
   rw [hh s hs, hsz] at h1
   omega
 · exact ha.sublist ((del_sub es s).map _)
 · rw [hw']
   exact ⟨rfl, rfl, rfl, by simp [ChangeMaps.setBlock], fun k _ hk => ChangeMaps.heap_setBlock_other hb _ (fun e => hk e)⟩
theorem MapIs.len {w : World} {M : Nat} {es : List (ByteArray × Value)} (h : MapIs w M es) (ty : TypeId) : (Builtin.len_ #[82] ty #[.map (some M)]).run Tryz.prog w = .ok (.int .i64 (es.length : Int)) w := by
 obtain ⟨⟨D, n, ho, _, _, _, hsz⟩, _⟩ := h
 rw [ho.len Tryz.underlying82 ty, hsz]
section
variable {w : World} {ops : Array Oper} {rest : List Oper} {o : Oper} {a : Act} {Q : Exit → Act → World → Prop} {M : Nat} {es : List (ByteArray × Value)} {s : ByteArray}
theorem wpList_lookM (hg : o.guard = none) (m x : Operand) (hop : o.op = Op.lookup 82 m x false) (hm : a.eval m = .map (some M)) (hx : a.eval x = .string s) (h : MapIs w M es) (hs : okS s) (v : Value) (hv : (lookE es s).getD zJv = v)
    (hK : wpList Tryz.prog ops Q rest (a.put o.dst v) w) : wpList Tryz.prog ops Q (o :: rest) a w := by
 refine wpList_plain hg fun K' hK' => ?_
 have hrun := h.look hs
 rw [hv] at hrun
 unfold Oper.wp
 simp [execOp, hop, hm, hx, hrun, Result.andThen]
 exact hK' _ _ hK
theorem wpList_lookOk (hg : o.guard = none) (m x : Operand) (hop : o.op = Op.lookup 82 m x true) (hm : a.eval m = .map (some M)) (hx : a.eval x = .string s) (h : MapIs w M es) (hs : okS s) (v : Value) (hv : (lookE es s).getD zJv = v)
    (hK : wpList Tryz.prog ops Q rest (a.put o.dst (.tuple #[v, .bool (lookE es s).isSome])) w) : wpList Tryz.prog ops Q (o :: rest) a w := by
 refine wpList_plain hg fun K' hK' => ?_
 have hrun := h.look_ok hs
 rw [hv] at hrun
 unfold Oper.wp
 simp [execOp, hop, hm, hx, hrun, Result.andThen]
 exact hK' _ _ hK
theorem wpList_delM (hg : o.guard = none) (m x : Operand) (hop : o.op = Op.call { callee := Callee.builtin Builtin.delete, args := #[m, x], argTypes := #[82, 9] }) (hm : a.eval m = .map (some M)) (hx : a.eval x = .string s) (h : MapIs w M es) (hs : okS s)
    (hK : ∀ w', MapIs w' M (delE es s) → Keep (One M) w w' → wpList Tryz.prog ops Q rest (a.put o.dst (.tuple #[])) w') : wpList Tryz.prog ops Q (o :: rest) a w := by
 refine wpList_plain hg fun K' hK' => ?_
 obtain ⟨w', hrun, r1, r2⟩ := h.del hs o.type
 unfold Oper.wp
 simp [execOp, hop, resolve, invoke, builtin, hm, hx, hrun, Result.andThen]
 exact hK' _ _ (hK w' r1 r2)
theorem wp_putM {K : Act → World → Prop} (m x y : Operand) (hop : o.op = Op.mapUpdate 82 m x y) (v : Value) (hm : a.eval m = .map (some M)) (hx : a.eval x = .string s) (hy : a.eval y = v) (h : MapIs w M es) (hs : okS s) (hn : s ∉ es.map (·.1)) (hl : es.length < 90000)
    (hK : ∀ w', MapIs w' M (es ++ [(s, v)]) → w.grownBy w' (some M) → K (a.put o.dst undef) w') : o.wp Tryz.prog a w K Q := by
 obtain ⟨w', hrun, r1, r2⟩ := h.put hs hn hl v
 unfold Oper.wp
 simp [execOp, hop, hm, hx, hy, hrun, Result.andThen, Oper.upon]
 exact hK w' r1 r2
end
def lookJ : List (ByteArray × J) → ByteArray → Option J
 | [], _ => none
 | p :: r, s => if p.1.data = s.data then some p.2 else lookJ r s
def delJ : List (ByteArray × J) → ByteArray → List (ByteArray × J)
 | [], _ => []
 | p :: r, s => if p.1.data = s.data then delJ r s else p :: delJ r s
def getJ (ps : List (ByteArray × J)) (s : ByteArray) : J := (lookJ ps s).getD J.zero
def vJ (O : Nat → Prop) (w : World) (j : J) (v : Value) : Prop := ∃ k i t pk nk ck pl nl cl, v = .agg #[.int .i64 k, .int .i64 i, .string t, .slice pk nk ck, .slice pl nl cl] ∧ isJ O w j [.int .i64 k, .int .i64 i, .string t, .slice pk nk ck, .slice pl nl cl]
theorem vJ_zero (O : Nat → Prop) (w : World) : vJ O w J.zero zJv := ⟨_, _, _, _, _, _, _, _, _, rfl, isJ_zero O w⟩
theorem vJ.carry {O O' : Nat → Prop} {w w' : World} {j : J} {v : Value} (h : vJ O w j v) (hO : ∀ k, O k → O' k ∧ w'.heap[k]? = w.heap[k]?) : vJ O' w' j v := by
 obtain ⟨k, i, t, pk, nk, ck, pl, nl, cl, e, hj⟩ := h
 exact ⟨k, i, t, pk, nk, ck, pl, nl, cl, e, hj.carry hO⟩
def RelE (O : Nat → Prop) (w : World) : List (ByteArray × J) → List (ByteArray × Value) → Prop
 | [], es => es = []
 | p :: r, es => ∃ v q, es = (p.1, v) :: q ∧ vJ O w p.2 v ∧ RelE O w r q
theorem RelE.carry {O O' : Nat → Prop} {w w' : World} (hO : ∀ k, O k → O' k ∧ w'.heap[k]? = w.heap[k]?) : ∀ {ps : List (ByteArray × J)} {es : List (ByteArray × Value)}, RelE O w ps es → RelE O' w' ps es
 | [], _, h => h
 | _ :: _, _, ⟨v, q, e, hv, hr⟩ => ⟨v, q, e, hv.carry hO, RelE.carry hO hr⟩
theorem RelE.keys {O : Nat → Prop} {w : World} : ∀ {ps : List (ByteArray × J)} {es : List (ByteArray × Value)}, RelE O w ps es → es.map (·.1) = ps.map (·.1)
 | [], _, h => by
  have h : _ = _ := h
  rw [h]; rfl
 | p :: r, _, ⟨v, q, e, hv, hr⟩ => by rw [e, List.map_cons, List.map_cons, hr.keys]
theorem RelE.snoc {O : Nat → Prop} {w : World} {k : ByteArray} {j : J} {v : Value} (hv : vJ O w j v) : ∀ {ps : List (ByteArray × J)} {es : List (ByteArray × Value)}, RelE O w ps es → RelE O w (ps ++ [(k, j)]) (es ++ [(k, v)])
 | [], _, h => by
  have h : _ = _ := h
  subst h
  exact ⟨v, [], rfl, hv, rfl⟩
 | p :: r, _, ⟨u, q, e, hu, hr⟩ => ⟨u, q ++ [(k, v)], by rw [e]; rfl, hu, RelE.snoc hv hr⟩
theorem RelE.look {O : Nat → Prop} {w : World} (s : ByteArray) : ∀ {ps : List (ByteArray × J)} {es : List (ByteArray × Value)}, RelE O w ps es → vJ O w (getJ ps s) ((lookE es s).getD zJv) ∧ (lookE es s).isSome = (lookJ ps s).isSome
 | [], _, h => by
  have h : _ = _ := h
  subst h
  exact ⟨vJ_zero _ _, rfl⟩
 | p :: r, _, ⟨v, q, e, hv, hr⟩ => by
  subst e
  have ih := RelE.look s hr
  unfold getJ at ih ⊢
  unfold lookE lookJ
  by_cases h : p.1.data = s.data
  · rw [if_pos h, if_pos h]; exact ⟨hv, rfl⟩
  · rw [if_neg h, if_neg h]; exact ih
theorem RelE.del {O : Nat → Prop} {w : World} (s : ByteArray) : ∀ {ps : List (ByteArray × J)} {es : List (ByteArray × Value)}, RelE O w ps es → RelE O w (delJ ps s) (delE es s)
 | [], _, h => by
  have h : _ = _ := h
  subst h
  rfl
 | p :: r, _, ⟨v, q, e, hv, hr⟩ => by
  subst e
  have ih := RelE.del s hr
  unfold delE delJ
  by_cases h : p.1.data = s.data
  · rw [if_pos h, if_pos h]; exact ih
  · rw [if_neg h, if_neg h]; exact ⟨v, _, rfl, hv, ih⟩
structure ER (O : Nat → Prop) (w : World) (R M : Nat) (ps : List (ByteArray × J)) (bad : Bool) : Prop where
 obj : w.heap[R]? = some (.cells #[.map (some M), .bool bad] 84 (0, 0))
 map : ∃ es, MapIs w M es ∧ RelE O w ps es
 ne : R ≠ M
 low : ∀ k, O k → k ≠ R ∧ k ≠ M ∧ k < w.heap.size
theorem ER.c0 {O : Nat → Prop} {w : World} {R M : Nat} {ps : List (ByteArray × J)} {bad : Bool} (h : ER O w R M ps bad) : w.cell? ⟨R, 0, none⟩ = some (.map (some M)) := cell_row (cur := [_, _]) h.obj 0 _ rfl
theorem ER.c1 {O : Nat → Prop} {w : World} {R M : Nat} {ps : List (ByteArray × J)} {bad : Bool} (h : ER O w R M ps bad) : w.cell? ⟨R, 1, none⟩ = some (.bool bad) := cell_row (cur := [_, _]) h.obj 1 _ rfl
theorem ER.lt {O : Nat → Prop} {w : World} {R M : Nat} {ps : List (ByteArray × J)} {bad : Bool} (h : ER O w R M ps bad) : R < w.heap.size ∧ M < w.heap.size := by
 obtain ⟨es, h1, _⟩ := h.map
 exact ⟨(Array.getElem?_eq_some_iff.1 h.obj).1, h1.lt⟩
theorem ER.keep {O S : Nat → Prop} {w w' : World} {R M : Nat} {ps : List (ByteArray × J)} {bad : Bool} (h : ER O w R M ps bad) (hk : Keep S w w') (hR : ¬ S R) (hM : ¬ S M) (hO : ∀ k, O k → ¬ S k) : ER O w' R M ps bad := by
 obtain ⟨es, h1, h2⟩ := h.map
 have hl := h.lt
 exact ⟨(hk.block R hl.1 hR).trans h.obj, ⟨es, h1.keep hk hM, h2.carry fun k hk' => ⟨hk', hk.block k (h.low k hk').2.2 (hO k hk')⟩⟩, h.ne, fun k hk' => ⟨(h.low k hk').1, (h.low k hk').2.1, Nat.lt_of_lt_of_le (h.low k hk').2.2 hk.size⟩⟩
theorem ER.below {O : Nat → Prop} {w w' : World} {R M : Nat} {ps : List (ByteArray × J)} {bad : Bool} (h : ER O w R M ps bad) (hb : Below w.heap.size w w') : ER O w' R M ps bad := h.keep (S := fun _ => False) (Keep.of_below hb) (fun h => h) (fun h => h) (fun _ _ h => h)
theorem ER.setBad {O : Nat → Prop} {w : World} {R M : Nat} {ps : List (ByteArray × J)} {bad : Bool} (h : ER O w R M ps bad) : w.frozen? ⟨R, 1, none⟩ = false ∧ ER O (w.setCell ⟨R, 1, none⟩ (.bool true)) R M ps true ∧ Keep (One R) w (w.setCell ⟨R, 1, none⟩ (.bool true)) := by
 have K : Keep (One R) w (w.setCell ⟨R, 1, none⟩ (.bool true)) := Keep.setCell (Keep.refl _ _) (fun _ => (rfl : R = R)) _
 obtain ⟨es, h1, h2⟩ := h.map
 refine ⟨frozen_of_row w R 1 _ _ h.obj, ⟨?_, ⟨es, h1.keep K (fun e => h.ne (by unfold One at e; exact e.symm)), h2.carry fun k hk' => ⟨hk', K.block k (h.low k hk').2.2 (h.low k hk').1⟩⟩, h.ne, fun k hk' => ⟨(h.low k hk').1, (h.low k hk').2.1, Nat.lt_of_lt_of_le (h.low k hk').2.2 K.size⟩⟩, K⟩
 rw [heap_setCell_same _ R 1 _ _ _ h.obj]; rfl
theorem expect_any {O : Nat → Prop} {w : World} {R M : Nat} {ps : List (ByteArray × J)} {bad : Bool} (h : ER O w R M ps bad) (k i : Int) (t : ByteArray) (pk pl : Option Addr) (nk ck nl cl : Nat) (kd : Int) :
    Calls Tryz.prog 105 #[.pointer (some ⟨R, 0, none⟩), .agg #[.int .i64 k, .int .i64 i, .string t, .slice pk nk ck, .slice pl nl cl], .int .i64 kd] w fun x w' => x = .returned (.tuple #[]) ∧ ER O w' R M ps (bad || decide (k ≠ kd)) ∧ Keep (One R) w w' := by
 have hA := h.below ((Below.refl _ _).alloc (Nat.le_refl _) (.cells #[.int .i64 k, .int .i64 i, .string t, .slice pk nk ck, .slice pl nl cl] 25))
 have hkA : Keep (One R) w (w.alloc (.cells #[.int .i64 k, .int .i64 i, .string t, .slice pk nk ck, .slice pl nl cl] 25)) := (Keep.refl _ _).alloc _
 by_cases hk : k = kd
 · subst hk
   have HB : Hid ((bad || decide (k ≠ k)) = bad) := by show _ = _; simp
   go_enter Tryz.func105, Tryz.ntmps105
   go_wp2
   go_end0
   exact ⟨rfl, by rw [HB.out]; exact hA, hkA⟩
 · have HB : Hid ((bad || decide (k ≠ kd)) = true) := by show _ = _; simp [hk]
   have hkd : decide (k = kd) = false := decide_eq_false hk
   obtain ⟨f1, hE, hK⟩ := hA.setBad
   have c1 := hA.c1
   go_enter Tryz.func105, Tryz.ntmps105
   go_wp2
   go_end0
   exact ⟨rfl, by rw [HB.out]; exact hE, hkA.then hK⟩
theorem take_any {O : Nat → Prop} {w : World} {R M : Nat} {ps : List (ByteArray × J)} {bad : Bool} (h : ER O w R M ps bad) (s : ByteArray) (hs : okS s) (kd : Int) :
    Calls Tryz.prog 72 #[.pointer (some ⟨R, 0, none⟩), .string s, .int .i64 kd] w fun x w' => (∃ k i t pk nk ck pl nl cl, x = .returned (.agg #[.int .i64 k, .int .i64 i, .string t, .slice pk nk ck, .slice pl nl cl]) ∧ isJ O w' (getJ ps s) [.int .i64 k, .int .i64 i, .string t, .slice pk nk ck, .slice pl nl cl]) ∧ ER O w' R M (delJ ps s) (bad || decide ((getJ ps s).kind ≠ kd)) ∧ Keep (Two R M) w w' := by
 have hlt := h.lt
 obtain ⟨es, hm, hr⟩ := h.map
 obtain ⟨⟨k, i, t, pk, nk, ck, pl, nl, cl, hv, hj⟩, _⟩ := hr.look s
 have HKK : Hid ((getJ ps s).kind = k) := by
  show _ = _
  cases hg : getJ ps s with
  | mk k' i' t' ks l =>
   rw [hg] at hj
   unfold isJ at hj
   obtain ⟨_, _, _, _, e, _⟩ := hj
   cases e
   rfl
 obtain ⟨WA, hWA⟩ : ∃ WA, WA = w.alloc (.cells #[.int .i64 0, .int .i64 0, .string ⟨#[]⟩, .slice none 0 0, .slice none 0 0] 25) := ⟨_, rfl⟩
 have hbA : Below w.heap.size w WA := by rw [hWA]; exact (Below.refl _ _).alloc (Nat.le_refl _) _
 have hres : WA.heap[w.heap.size]? = some (.cells #[.int .i64 0, .int .i64 0, .string ⟨#[]⟩, .slice none 0 0, .slice none 0 0] 25 (0, 0)) := by rw [hWA]; exact heap_alloc_new _ _
 have hsA : WA.heap.size = w.heap.size + 1 := by rw [hWA]; simp
 have hEA := h.below hbA
 have hmA := hm.keep (S := fun _ => False) (Keep.of_below hbA) (fun h => h)
 have a0 := hEA.c0
 have hbB : Below WA.heap.size WA (WA.alloc (.cells #[.int .i64 k, .int .i64 i, .string t, .slice pk nk ck, .slice pl nl cl] 25)) := (Below.refl _ _).alloc (Nat.le_refl _) _
 have hEB := hEA.below hbB
 have hmB := hmA.keep (S := fun _ => False) (Keep.of_below hbB) (fun h => h)
 have b0 := hEB.c0
 have hjx : (WA.alloc (.cells #[.int .i64 k, .int .i64 i, .string t, .slice pk nk ck, .slice pl nl cl] 25)).heap[WA.heap.size]? = some (.cells #[.int .i64 k, .int .i64 i, .string t, .slice pk nk ck, .slice pl nl cl] 25 (0, 0)) := heap_alloc_new _ _
 have hrB : (WA.alloc (.cells #[.int .i64 k, .int .i64 i, .string t, .slice pk nk ck, .slice pl nl cl] 25)).heap[w.heap.size]? = some (.cells #[.int .i64 0, .int .i64 0, .string ⟨#[]⟩, .slice none 0 0, .slice none 0 0] 25 (0, 0)) := (hbB.block _ (by omega)).trans hres
 have hREL := hr.carry (O' := O) (w' := WA.alloc (.cells #[.int .i64 k, .int .i64 i, .string t, .slice pk nk ck, .slice pl nl cl] 25)) fun q hq => ⟨hq, (below_in hbA hbB).block q (h.low q hq).2.2⟩
 have HJJ : Hid (isJ O (WA.alloc (.cells #[.int .i64 k, .int .i64 i, .string t, .slice pk nk ck, .slice pl nl cl] 25)) (getJ ps s) [.int .i64 k, .int .i64 i, .string t, .slice pk nk ck, .slice pl nl cl]) := hj.carry fun q hq => ⟨hq, (below_in hbA hbB).block q (h.low q hq).2.2⟩
 have HLOW : Hid (∀ k, O k → k ≠ R ∧ k ≠ M ∧ k < w.heap.size) := h.low
 have HNE : Hid (R ≠ M) := h.ne
 have HWW : Hid (Below w.heap.size w (WA.alloc (.cells #[.int .i64 k, .int .i64 i, .string t, .slice pk nk ck, .slice pl nl cl] 25))) := below_in hbA hbB
 have HSB : Hid ((WA.alloc (.cells #[.int .i64 k, .int .i64 i, .string t, .slice pk nk ck, .slice pl nl cl] 25)).heap.size = w.heap.size + 2) := by show _ = _; simp [hsA]
 rw [hsA] at hjx
 have HRB : Hid _ := hrB
 have HJX : Hid _ := hjx
 rw [hWA] at a0 hmA b0 hmB
 clear hm hr hj hbA hres hEA hbB h hrB hjx
 go_enter Tryz.func72, Tryz.ntmps72
 go_wp2_with (first
  | (at_lookup; refine wpList_lookM rfl _ _ rfl rfl rfl hmA hs _ hv ?_)
  | (at_delete; refine wpList_delM rfl _ _ rfl rfl rfl hmB hs ?_; intro W2 hm2 hk2
     rw [← hWA] at hk2
     have hE2 : ER O W2 R M (delJ ps s) bad := ⟨(hk2.block R (by have := HSB.out; omega) (by unfold One; exact HNE.out)).trans hEB.obj, ⟨_, hm2, (hREL.del s).carry fun q hq => ⟨hq, hk2.block q (by have := HSB.out; have := (HLOW.out q hq).2.2; omega) (by unfold One; exact (HLOW.out q hq).2.1)⟩⟩, HNE.out, fun q hq => ⟨(HLOW.out q hq).1, (HLOW.out q hq).2.1, by have := HSB.out; have := hk2.size; have := (HLOW.out q hq).2.2; omega⟩⟩
     have hx2 := (hk2.block (w.heap.size + 1) (by have := HSB.out; omega) (by unfold One; omega)).trans HJX.out
     have x0 := five_c0 hx2; have x1 := five_c1 hx2; have x2 := five_c2 hx2; have x3 := five_c3 hx2; have x4 := five_c4 hx2)
  | (go_at_call 105; refine (expect_any hE2 k i t pk pl nk ck nl cl kd).mono ?_; rintro x W3 ⟨rfl, hE3, hk3⟩
     have hx3 := (hk3.block (w.heap.size + 1) (by have := HSB.out; have := hk2.size; omega) (by unfold One; omega)).trans hx2
     have y0 := five_c0 hx3; have y1 := five_c1 hx3; have y2 := five_c2 hx3; have y3 := five_c3 hx3; have y4 := five_c4 hx3
     have hr3 := (hk3.block w.heap.size (by have := HSB.out; have := hk2.size; omega) (by unfold One; omega)).trans ((hk2.block w.heap.size (by have := HSB.out; omega) (by unfold One; omega)).trans HRB.out)
     have i0 := five_c0 hr3; have i1 := five_c1 hr3; have i2 := five_c2 hr3; have i3 := five_c3 hr3; have i4 := five_c4 hr3
     have z0 := five_fz hr3 0; have z1 := five_fz hr3 1; have z2 := five_fz hr3 2; have z3 := five_fz hr3 3; have z4 := five_fz hr3 4))
 have h5 := set5_heap hr3 (.int .i64 k) (.int .i64 i) (.string t) (.slice pk nk ck) (.slice pl nl cl)
 have HK5 : Keep (One w.heap.size) W3 _ := set5_keep W3 w.heap.size (.int .i64 k) (.int .i64 i) (.string t) (.slice pk nk ck) (.slice pl nl cl)
 unfold set5 at h5 HK5
 have k0 := five_c0 h5; have k1 := five_c1 h5; have k2 := five_c2 h5; have k3 := five_c3 h5; have k4 := five_c4 h5
 refine bodyPost_ret (v := .agg #[.int .i64 k, .int .i64 i, .string t, .slice pk nk ck, .slice pl nl cl]) (by simp [results, Tryz.results72, go_sem, k0, k1, k2, k3, k4]) rfl ?_
 have hall : Keep (fun q => q = R ∨ q = M ∨ q = w.heap.size) (WA.alloc (.cells #[.int .i64 k, .int .i64 i, .string t, .slice pk nk ck, .slice pl nl cl] 25)) _ := ((hk2.mono fun q _ e => .inr (.inl e)).then (hk3.mono fun q _ e => .inl e)).then (HK5.mono fun q _ e => .inr (.inr e))
 refine ⟨⟨k, i, t, pk, nk, ck, pl, nl, cl, rfl, HJJ.out.carry fun q hq => ⟨hq, hall.block q (by have := HSB.out; have := (HLOW.out q hq).2.2; omega) fun e => ?_⟩⟩, ?_, ?_⟩
 · have := HLOW.out q hq
   rcases e with e | e | e
   · exact this.1 e
   · exact this.2.1 e
   · omega
 · rw [HKK.out]
   exact hE3.keep HK5 (by unfold One; omega) (by unfold One; omega) fun q hq => by unfold One; have := (HLOW.out q hq).2.2; omega
 · have hw0 : Keep (Two R M) w (WA.alloc (.cells #[.int .i64 k, .int .i64 i, .string t, .slice pk nk ck, .slice pl nl cl] 25)) := Keep.of_below HWW.out
   refine hw0.trans hall fun q hq e => ?_
   rcases e with e | e | e
   · exact .inl e
   · exact .inr e
   · omega
theorem field_text (k i t pk pl : Value) (w : World) : (Instr.field 25 (.agg #[k, i, t, pk, pl]) 2).run Tryz.prog w = .ok t w := by kernel_rfl
theorem field_int (k i t pk pl : Value) (w : World) : (Instr.field 25 (.agg #[k, i, t, pk, pl]) 1).run Tryz.prog w = .ok i w := by kernel_rfl
theorem field_list (k i t pk pl : Value) (w : World) : (Instr.field 25 (.agg #[k, i, t, pk, pl]) 4).run Tryz.prog w = .ok pl w := by kernel_rfl
theorem ok_of {s : ByteArray} (h : s.size ≤ 1000000000) : okS s := by unfold okS maxLen; omega
theorem rtext_any {O : Nat → Prop} {w : World} {R M : Nat} {ps : List (ByteArray × J)} {bad : Bool} (h : ER O w R M ps bad) (s : ByteArray) (hs : okS s) :
    Calls Tryz.prog 71 #[.pointer (some ⟨R, 0, none⟩), .string s] w fun x w' => x = .returned (.string (getJ ps s).text) ∧ ER O w' R M (delJ ps s) (bad || decide ((getJ ps s).kind ≠ 3)) ∧ Keep (Two R M) w w' := by
 have hT := take_any h s hs 3
 have hf := field_text
 go_enter Tryz.func71, Tryz.ntmps71
 go_wp2_with (go_at_call 72; refine hT.mono ?_; rintro x w1 ⟨⟨k, i, t, pk, nk, ck, pl, nl, cl, rfl, hj⟩, hE, hk⟩)
 go_ret
 refine ⟨?_, hE, hk⟩
 cases hg : getJ ps s with
 | mk k' i' t' ks l =>
  rw [hg] at hj
  unfold isJ at hj
  obtain ⟨_, _, _, _, e, _⟩ := hj
  cases e
  rfl
theorem rnumber_any {O : Nat → Prop} {w : World} {R M : Nat} {ps : List (ByteArray × J)} {bad : Bool} (h : ER O w R M ps bad) (s : ByteArray) (hs : okS s) :
    Calls Tryz.prog 74 #[.pointer (some ⟨R, 0, none⟩), .string s] w fun x w' => x = .returned (.int .i64 (getJ ps s).int) ∧ ER O w' R M (delJ ps s) (bad || decide ((getJ ps s).kind ≠ 2)) ∧ Keep (Two R M) w w' := by
 have hT := take_any h s hs 2
 have hf := field_int
 go_enter Tryz.func74, Tryz.ntmps74
 go_wp2_with (go_at_call 72; refine hT.mono ?_; rintro x w1 ⟨⟨k, i, t, pk, nk, ck, pl, nl, cl, rfl, hj⟩, hE, hk⟩)
 go_ret
 refine ⟨?_, hE, hk⟩
 cases hg : getJ ps s with
 | mk k' i' t' ks l =>
  rw [hg] at hj
  unfold isJ at hj
  obtain ⟨_, _, _, _, e, _⟩ := hj
  cases e
  rfl
theorem isJ_at {O : Nat → Prop} {w : World} {j : J} {k i : Int} {t : ByteArray} {pk pl : Option Addr} {nk ck nl cl : Nat} (h : isJ O w j [.int .i64 k, .int .i64 i, .string t, .slice pk nk ck, .slice pl nl cl]) :
    j.kind = k ∧ j.int = i ∧ j.text = t ∧ nk = j.keys.length ∧ nl = j.list.length ∧ RdK O w pk ck j.keys ∧ j.list.length ≤ cl ∧ isJs O w pl 0 j.list := by
 cases j with
 | mk k' i' t' ks l =>
  unfold isJ at h
  obtain ⟨pk', ck', pl', cl', e, h1, h2, h3⟩ := h
  cases e
  exact ⟨rfl, rfl, rfl, rfl, rfl, h1, h2, h3⟩
def noText (l : List J) : Bool := l.any fun j => decide (j.kind ≠ 3)
theorem noText_snoc (l : List J) (j : J) : noText (l ++ [j]) = (noText l || decide (j.kind ≠ 3)) := by
 unfold noText
 rw [List.any_append]
 simp
theorem rtexts_any {O : Nat → Prop} {w : World} {R M : Nat} {ps : List (ByteArray × J)} {bad : Bool} (h : ER O w R M ps bad) (s : ByteArray) (hs : okS s) (hl : (getJ ps s).list.length ≤ 100000) :
    Calls Tryz.prog 73 #[.pointer (some ⟨R, 0, none⟩), .string s] w fun x w' => (∃ q c, x = .returned (.slice q (getJ ps s).list.length c) ∧ RdK (New w w') w' q c ((getJ ps s).list.map J.text)) ∧ ER O w' R M (delJ ps s) (bad || decide ((getJ ps s).kind ≠ 4) || noText (getJ ps s).list) ∧ Keep (Two R M) w w' := by
 have hT := take_any h s hs 4
 have hf := field_list
 have hlt0 := h.lt
 obtain ⟨j, hj0⟩ : ∃ j, getJ ps s = j := ⟨_, rfl⟩
 rw [hj0] at hT hl ⊢
 clear hj0
 obtain ⟨b1, hb1⟩ : ∃ b, (bad || decide (j.kind ≠ 4)) = b := ⟨_, rfl⟩
 rw [hb1] at hT ⊢
 clear hb1
 go_enter Tryz.func73, Tryz.ntmps73
 go_wp2_with (go_at_call 72; refine hT.mono ?_; rintro x w1 ⟨⟨k, i, t, pk, nk, ck, pl, nl, cl, rfl, hj⟩, hE, hk1⟩)
 have hnl := (isJ_at hj).2.2.2.2.1
 have hcl := (isJ_at hj).2.2.2.2.2.2.1
 have hjs := (isJ_at hj).2.2.2.2.2.2.2
 have HNL : Hid (nl = j.list.length) := hnl
 rw [← hnl] at hl hcl
 have hlt := hE.lt
 clear hT hj hf h hnl
 go_loopw [5, 13] (fun vr v wr => ∃ m : Nat, v = .int .i64 m ∧ m ≤ nl ∧ ER O wr R M (delJ ps s) (b1 || noText (j.list.take m)) ∧ wr.ownsRow w1.heap.size 9 1 vr m (((j.list.take m).map J.text).map Value.string) ∧ Keep (One R) w1 wr) (fun _ v _ => nl - (intOf v).toNat)
 case atStart => exact ⟨0, rfl, Nat.zero_le _, by rw [List.take_zero]; simpa [noText] using hE, World.ownsRow_nil _ _ _ _, Keep.refl _ _⟩
 case round =>
  obtain ⟨m, rfl, hm, hEr, how, hkr⟩ := hrel
  have hsz := hkr.size
  obtain ⟨qv, cv, hvr⟩ := own_sl how
  subst hvr
  by_cases hml : m < nl
  · have hmi : (m : Int) < (nl : Int) := by omega
    have hml1 : m < j.list.length := by rw [← HNL.out]; exact hml
    obtain ⟨lb, lo, cs, hpl, hOl, hcells, hyj⟩ := isJs.at j.list 0 m hjs hml1
    subst hpl
    obtain ⟨x0, x1, x2, p3, n3, c3, p4, n4, c4, rfl⟩ := isJ_shape hyj
    have hlow := hE.low lb hOl
    have hblk : wr.heap[lb]? = w1.heap[lb]? := hkr.block lb hlow.2.2 hlow.1
    have cc : ∀ n v, [Value.int .i64 x0, .int .i64 x1, .string x2, .slice p3 n3 c3, .slice p4 n4 c4][n]? = some v → wr.cell? ⟨lb, lo + m * 5 + n, none⟩ = some v := fun n v h => by
     have := hcells n v h
     rw [Nat.zero_add] at this
     exact (World.cell?_of_block (a := ⟨lb, lo + m * 5 + n, none⟩) hblk).trans this
    have y0 : wr.cell? ⟨lb, lo + m * 5, none⟩ = some (.int .i64 x0) := cc 0 _ rfl
    have y1 := cc 1 _ rfl
    have y2 := cc 2 _ rfl
    have y3 := cc 3 _ rfl
    have y4 := cc 4 _ rfl
    have e0 := (isJ_at hyj).1
    have e2 := (isJ_at hyj).2.2.1
    have hTK : j.list.take (m + 1) = j.list.take m ++ [j.list.getD m J.zero] := by
     rw [List.take_add_one, List.getElem?_eq_getElem hml1, List.getD_eq_getElem?_getD, List.getElem?_eq_getElem hml1]; rfl
    have HB : Hid ((b1 || noText (j.list.take (m + 1))) = (b1 || noText (j.list.take m) || decide (x0 ≠ 3))) := by show _ = _; rw [hTK, noText_snoc, e0, Bool.or_assoc]
    have HR : Hid (((j.list.take (m + 1)).map J.text).map Value.string = ((j.list.take m).map J.text).map Value.string ++ [.string x2]) := by show _ = _; rw [hTK, List.map_append, List.map_append, List.map_cons, List.map_nil, List.map_cons, List.map_nil, e2]
    obtain ⟨rw0, hrw0⟩ : ∃ r, ((j.list.take m).map J.text).map Value.string = r := ⟨_, rfl⟩
    obtain ⟨bd, hbd⟩ : ∃ b, (b1 || noText (j.list.take m)) = b := ⟨_, rfl⟩
    rw [hrw0] at how HR
    rw [hbd] at hEr HB
    clear cc hcells hyj hTK hrw0 hbd e0 e2 hml1
    have hbA : Below wr.heap.size wr (wr.alloc (.cells #[.int .i64 x0, .int .i64 x1, .string x2, .slice p3 n3 c3, .slice p4 n4 c4] 25)) := (Below.refl _ _).alloc (Nat.le_refl _) _
    have hEA := hEr.below hbA
    have hX := expect_any hEA x0 x1 x2 p3 p4 n3 c3 n4 c4 3
    have hge := own_ge how
    have hbx := heap_alloc_new wr (.cells #[.int .i64 x0, .int .i64 x1, .string x2, .slice p3 n3 c3, .slice p4 n4 c4] 25)
    go_wp2_with (first
     | (go_at_call 105; refine hX.mono ?_; rintro x W2 ⟨rfl, hE2, hk2⟩
        have hx2 := (hk2.block wr.heap.size (by simp) (by unfold One; omega)).trans hbx
        have z2 := five_c2 hx2
        have how2 := (own_keep (how.alloc (.cells #[.int .i64 x0, .int .i64 x1, .string x2, .slice p3 n3 c3, .slice p4 n4 c4] 25)) hk2 fun q e => by have := (hge q e).1; unfold One; omega).alloc (.cells #[.string x2] 9))
     | (at_builtin; refine wpList_app2 rfl _ _ 22 rfl w1.heap.size 9 (.string ⟨#[]⟩) 1 16 Tryz.underlying22 Tryz.info9 rfl (by decide) (by decide) _ m rw0 rfl how2 _ [.string x2] rfl rfl (one_at2 (by simp)) (str_one2 x2) (by omega) (by have := hk2.size; simp at this ⊢; omega) ?_
        intro vr2 W4 how4 hg4 hat4))
    have hge4 := own_ge how4
    have hkk : Keep (One R) w1 W4 := by
     have k1 : Keep (One R) w1 (W2.alloc (.cells #[.string x2] 9)) := ((hkr.alloc _).then hk2).alloc _
     exact k1.trans (S' := fun q => (Value.slice qv m cv).ownBlock = some q) (Keep.of_grown hg4 fun _ _ e => e) fun q hq e => by have := (hge q e).1; omega
    have hE4 : ER O W4 R M (delJ ps s) (bd || decide (x0 ≠ 3)) := (hE2.below ((Below.refl _ _).alloc (Nat.le_refl _) (.cells #[.string x2] 9))).keep (S := fun q => (Value.slice qv m cv).ownBlock = some q) (Keep.of_grown hg4 fun _ _ e => e) (fun e => by have := (hge _ e).1; omega) (fun e => by have := (hge _ e).1; omega) fun q hq e => by have := (hge q e).1; have := (hE.low q hq).2.2; omega
    go_roundw
    case rel => exact ⟨m + 1, by go_num, hml, by rw [HB.out]; exact hE4, by rw [HR.out]; exact how4, hkk⟩
    case measure => simp [intOf]; omega
  · obtain rfl : m = nl := by omega
    have hTA : j.list.take m = j.list := List.take_of_length_le (by rw [HNL.out]; omega)
    rw [hTA] at hEr how
    have HOW : Hid (wr.ownsRow w1.heap.size 9 1 (.slice qv m cv) m ((j.list.map J.text).map Value.string)) := how
    clear how
    go_wp2
    go_ret
    have hlen : (j.list.map J.text).length = m := by rw [List.length_map, ← HNL.out]
    obtain ⟨q', c', e', hrk⟩ := own_rdK (S := j.list.map J.text) (by rw [hlen]; exact HOW.out)
    rw [hlen] at e'
    cases e'
    have hw1 := hk1.size
    refine ⟨⟨_, _, by rw [← HNL.out]; rfl, hrk.carry fun q hq => ⟨⟨by have := hq.1; omega, hq.2⟩, rfl⟩⟩, hEr, hk1.trans hkr fun q hq e => .inl e⟩
theorem Tryz.infoSig : (Tryz.prog.info? 56).map (fun i => (i.zero, i.size, i.bytes)) = some (some (.agg #[.string ⟨#[]⟩, .string ⟨#[]⟩]), 2, 32) := by kernel_rfl
theorem two_at2 {w : World} {b t : Nat} {y0 y1 : Value} (h : w.heap.size = b) : ∀ j u, [y0, y1][j]? = some u → (w.alloc (.cells #[y0, y1] t)).cell? ((⟨b, 0, none⟩ : Addr).add j) = some u := by
 subst h
 intro j u hj
 have e : (⟨w.heap.size, 0, none⟩ : Addr).add j = ⟨w.heap.size, j, none⟩ := by unfold Addr.add; split <;> simp_all
 rw [e]
 exact cell_row (cur := [_, _]) (heap_alloc_new _ _) j u hj
theorem two_one (a b : ByteArray) : ∀ u ∈ [Value.string a, .string b], u.oneCell' = true := by
 intro u hu
 simp at hu
 rcases hu with rfl | rfl <;> rfl
def sigCells (l : List (ByteArray × ByteArray)) : List Value := l.flatMap fun s => [.string s.1, .string s.2]
theorem sigCells_at : ∀ (l : List (ByteArray × ByteArray)) (j : Nat), j < l.length → (sigCells l)[j * 2]? = some (.string (l.getD j (nix, nix)).1) ∧ (sigCells l)[j * 2 + 1]? = some (.string (l.getD j (nix, nix)).2)
 | [], j, h => absurd h (by simp)
 | a :: r, 0, _ => by simp [sigCells]
 | a :: r, j + 1, h => by
  have ih := sigCells_at r j (by simpa using h)
  unfold sigCells at ih ⊢
  rw [List.flatMap_cons]
  constructor
  · rw [List.getElem?_append_right (by simp; omega)]
    simp only [List.length_cons, List.length_nil]
    rw [show (j + 1) * 2 - (0 + 1 + 1) = j * 2 by omega]
    simpa using ih.1
  · rw [List.getElem?_append_right (by simp; omega)]
    simp only [List.length_cons, List.length_nil]
    rw [show (j + 1) * 2 + 1 - (0 + 1 + 1) = j * 2 + 1 by omega]
    simpa using ih.2
theorem own_rdS {w : World} {B : Nat} {v : Value} {l : List (ByteArray × ByteArray)} (h : w.ownsRow B 56 2 v l.length (sigCells l)) : ∃ q cq, v = .slice q l.length cq ∧ RdS (fun k => B ≤ k ∧ k < w.heap.size) w q cq l := by
 rcases h.2 with ⟨rfl, hn⟩ | ⟨g, cap, cur, rfl, hg, hgg, h1, h2, h3, h4⟩
 · obtain rfl : l = [] := List.eq_nil_of_length_eq_zero hn
   exact ⟨none, 0, rfl, RdS.nil _ _ _ _⟩
 · refine ⟨_, cap, rfl, h1, fun j hj => ⟨g, 0, rfl, ⟨hg, (Array.getElem?_eq_some_iff.1 hgg).1⟩, ?_⟩⟩
   have e := sigCells_at l j hj
   rw [Nat.zero_add]
   exact ⟨(h.cellAt (j * 2) (by omega)).trans e.1, (h.cellAt (j * 2 + 1) (by omega)).trans e.2⟩
def sigsOf (j : J) : List (ByteArray × ByteArray) := j.keys.zip (j.list.map J.text)
theorem sigs_len {j : J} (h : j.keys.length ≤ j.list.length) : (sigsOf j).length = j.keys.length := by
 unfold sigsOf
 rw [List.length_zip, List.length_map]
 omega
theorem sigs_at {j : J} {m : Nat} (h : j.keys.length ≤ j.list.length) (hm : m < j.keys.length) : (sigsOf j).take (m + 1) = (sigsOf j).take m ++ [(j.keys.getD m nix, (j.list.getD m J.zero).text)] := by
 have : (sigsOf j)[m]? = some (j.keys.getD m nix, (j.list.getD m J.zero).text) := by
  unfold sigsOf
  rw [List.zip_eq_zipWith, List.getElem?_zipWith, List.getElem?_map, List.getElem?_eq_getElem hm, List.getElem?_eq_getElem (by omega : m < j.list.length), List.getD_eq_getElem?_getD, List.getElem?_eq_getElem hm, List.getD_eq_getElem?_getD, List.getElem?_eq_getElem (by omega : m < j.list.length)]
  rfl
 rw [List.take_add_one, this]
 rfl
theorem sigCells_snoc (l : List (ByteArray × ByteArray)) (a b : ByteArray) : sigCells (l ++ [(a, b)]) = sigCells l ++ [.string a, .string b] := by
 unfold sigCells
 rw [List.flatMap_append]
 rfl
theorem rsigs_any {O : Nat → Prop} {w : World} {R M : Nat} {ps : List (ByteArray × J)} {bad : Bool} (h : ER O w R M ps bad) (s : ByteArray) (hs : okS s) (hl : (getJ ps s).list.length ≤ 100000) (hkl : (getJ ps s).keys.length ≤ (getJ ps s).list.length) :
    Calls Tryz.prog 75 #[.pointer (some ⟨R, 0, none⟩), .string s] w fun x w' => (∃ q c, x = .returned (.slice q (sigsOf (getJ ps s)).length c) ∧ RdS (New w w') w' q c (sigsOf (getJ ps s))) ∧ ER O w' R M (delJ ps s) (bad || decide ((getJ ps s).kind ≠ 5) || noText ((getJ ps s).list.take (getJ ps s).keys.length)) ∧ Keep (Two R M) w w' := by
 have hT := take_any h s hs 5
 obtain ⟨j, hj0⟩ : ∃ j, getJ ps s = j := ⟨_, rfl⟩
 rw [hj0] at hT hl hkl ⊢
 clear hj0
 obtain ⟨b1, hb1⟩ : ∃ b, (bad || decide (j.kind ≠ 5)) = b := ⟨_, rfl⟩
 rw [hb1] at hT ⊢
 clear hb1 h
 have HKL : Hid (j.keys.length ≤ j.list.length) := hkl
 have HSL : Hid ((sigsOf j).length = j.keys.length) := sigs_len hkl
 obtain ⟨nk, hnk0⟩ : ∃ n, j.keys.length = n := ⟨_, rfl⟩
 have HNK : Hid (j.keys.length = nk) := hnk0
 clear hnk0
 go_enter Tryz.func75, Tryz.ntmps75
 go_wp2_with (go_at_call 72; refine hT.mono ?_; rintro x w1 ⟨⟨k, i, t, pk, nk', ck, pl, nl, cl, rfl, hj⟩, hE, hk1⟩
              have hnk1 := (isJ_at hj).2.2.2.1
              have hnl := (isJ_at hj).2.2.2.2.1
              have hrk := (isJ_at hj).2.2.2.2.2.1
              have hcl := (isJ_at hj).2.2.2.2.2.2.1
              have hjs := (isJ_at hj).2.2.2.2.2.2.2
              rw [HNK.out] at hnk1
              have hnk2 := hnk1.symm
              clear hnk1
              subst hnk2
              have HNL : Hid (nl = j.list.length) := hnl
              have hlb : nl ≤ 100000 := by omega
              have hkn : nk ≤ nl := by have := HKL.out; have := HNK.out; omega
              have hcl2 : nl ≤ cl := by omega
              have hck2 : nk ≤ ck := by have := hrk.1; have := HNK.out; omega
              clear hnl hcl hj)
 have hlt := hE.lt
 obtain ⟨WA, hWA⟩ : ∃ WA, WA = w1.alloc (.cells #[.int .i64 k, .int .i64 i, .string t, .slice pk nk ck, .slice pl nl cl] 25) := ⟨_, rfl⟩
 have hbA : Below w1.heap.size w1 WA := by rw [hWA]; exact (Below.refl _ _).alloc (Nat.le_refl _) _
 have hbox : WA.heap[w1.heap.size]? = some (.cells #[.int .i64 k, .int .i64 i, .string t, .slice pk nk ck, .slice pl nl cl] 25 (0, 0)) := by rw [hWA]; exact heap_alloc_new _ _
 have hsA : WA.heap.size = w1.heap.size + 1 := by rw [hWA]; simp
 rw [← hWA]
 have hEA := hE.below hbA
 clear hT hWA hl hkl
 go_loopw [5, 16] (fun vr v wr => ∃ m : Nat, v = .int .i64 m ∧ m ≤ nk ∧ ER O wr R M (delJ ps s) (b1 || noText (j.list.take m)) ∧ wr.ownsRow (w1.heap.size + 1) 56 2 vr m (sigCells ((sigsOf j).take m)) ∧ Keep (One R) WA wr) (fun _ v _ => nk - (intOf v).toNat)
 case atStart => exact ⟨0, rfl, Nat.zero_le _, by rw [List.take_zero]; simpa [noText] using hEA, World.ownsRow_nil _ _ _ _, Keep.refl _ _⟩
 case round =>
  obtain ⟨m, rfl, hm, hEr, how, hkr⟩ := hrel
  have hsz := hkr.size
  obtain ⟨qv, cv, hvr⟩ := own_sl how
  subst hvr
  have hbr := (hkr.block w1.heap.size (by omega) (by unfold One; omega)).trans hbox
  by_cases hml : m < nk
  · have hmi : (m : Int) < (nk : Int) := by omega
    have hmi2 : (m : Int) < (nl : Int) := by omega
    have hml1 : m < j.list.length := by rw [← HNL.out]; omega
    obtain ⟨ka, hpk, hOk, hck⟩ := hrk.2 m (by rw [HNK.out]; exact hml)
    subst hpk
    have hblk0 : ∀ q, O q → wr.heap[q]? = w1.heap[q]? := fun q hq => (hkr.block q (by have := (hE.low q hq).2.2; omega) (hE.low q hq).1).trans (hbA.block q (hE.low q hq).2.2)
    have hkc : wr.cell? (ka.add m) = some (.string (j.keys.getD m nix)) := (World.cell?_of_block (by rw [add_block]; exact hblk0 _ hOk)).trans hck
    obtain ⟨lb, lo, cs, hpl, hOl, hcells, hyj⟩ := isJs.at j.list 0 m hjs hml1
    subst hpl
    obtain ⟨x0, x1, x2, p3, n3, c3, p4, n4, c4, rfl⟩ := isJ_shape hyj
    have hlow := hE.low lb hOl
    have hblk := hblk0 lb hOl
    have cc : ∀ n v, [Value.int .i64 x0, .int .i64 x1, .string x2, .slice p3 n3 c3, .slice p4 n4 c4][n]? = some v → wr.cell? ⟨lb, lo + m * 5 + n, none⟩ = some v := fun n v h => by
     have := hcells n v h
     rw [Nat.zero_add] at this
     exact (World.cell?_of_block (a := ⟨lb, lo + m * 5 + n, none⟩) hblk).trans this
    have y0 : wr.cell? ⟨lb, lo + m * 5, none⟩ = some (.int .i64 x0) := cc 0 _ rfl
    have y1 := cc 1 _ rfl
    have y2 := cc 2 _ rfl
    have y3 := cc 3 _ rfl
    have y4 := cc 4 _ rfl
    have e0 := (isJ_at hyj).1
    have e2 := (isJ_at hyj).2.2.1
    have hTK : j.list.take (m + 1) = j.list.take m ++ [j.list.getD m J.zero] := by
     rw [List.take_add_one, List.getElem?_eq_getElem hml1, List.getD_eq_getElem?_getD, List.getElem?_eq_getElem hml1]; rfl
    have HB : Hid ((b1 || noText (j.list.take (m + 1))) = (b1 || noText (j.list.take m) || decide (x0 ≠ 3))) := by show _ = _; rw [hTK, noText_snoc, e0, Bool.or_assoc]
    obtain ⟨u, hu⟩ : ∃ u, j.keys.getD m nix = u := ⟨_, rfl⟩
    have HR : Hid (sigCells ((sigsOf j).take (m + 1)) = sigCells ((sigsOf j).take m) ++ [.string u, .string x2]) := by show _ = _; rw [sigs_at HKL.out (by rw [HNK.out]; exact hml), sigCells_snoc, e2, hu]
    rw [hu] at hkc
    obtain ⟨rw0, hrw0⟩ : ∃ r, sigCells ((sigsOf j).take m) = r := ⟨_, rfl⟩
    obtain ⟨bd, hbd⟩ : ∃ b, (b1 || noText (j.list.take m)) = b := ⟨_, rfl⟩
    rw [hrw0] at how HR
    rw [hbd] at hEr HB
    clear cc hcells hyj hTK hrw0 hbd e0 e2 hml1 hu hck hblk0
    have b3 := five_c3 hbr
    have b4 := five_c4 hbr
    have hbB : Below wr.heap.size wr (wr.alloc (.cells #[.int .i64 x0, .int .i64 x1, .string x2, .slice p3 n3 c3, .slice p4 n4 c4] 25)) := (Below.refl _ _).alloc (Nat.le_refl _) _
    have hEB := hEr.below hbB
    have hX := expect_any hEB x0 x1 x2 p3 p4 n3 c3 n4 c4 3
    have hge := own_ge how
    have hbx := heap_alloc_new wr (.cells #[.int .i64 x0, .int .i64 x1, .string x2, .slice p3 n3 c3, .slice p4 n4 c4] 25)
    go_wp2_with (first
     | (go_at_call 105; refine hX.mono ?_; rintro x W2 ⟨rfl, hE2, hk2⟩
        have hx2 := (hk2.block wr.heap.size (by simp) (by unfold One; omega)).trans hbx
        have z2 := five_c2 hx2
        have how2 := (own_keep (how.alloc (.cells #[.int .i64 x0, .int .i64 x1, .string x2, .slice p3 n3 c3, .slice p4 n4 c4] 25)) hk2 fun q e => by have := (hge q e).1; unfold One; omega).alloc (.cells #[.string u, .string x2] 56))
     | (at_builtin; refine wpList_app2 rfl _ _ 26 rfl (w1.heap.size + 1) 56 (.agg #[.string ⟨#[]⟩, .string ⟨#[]⟩]) 2 32 Tryz.underlying26 Tryz.infoSig rfl (by decide) (by decide) _ m rw0 rfl how2 _ [.string u, .string x2] rfl rfl (two_at2 (by simp)) (two_one u x2) (by omega) (by have := hk2.size; simp at this ⊢; omega) ?_
        intro vr2 W4 how4 hg4 hat4))
    have hkk : Keep (One R) WA W4 := by
     have k1 : Keep (One R) WA (W2.alloc (.cells #[.string u, .string x2] 56)) := ((hkr.alloc _).then hk2).alloc _
     exact k1.trans (S' := fun q => (Value.slice qv m cv).ownBlock = some q) (Keep.of_grown hg4 fun _ _ e => e) fun q hq e => by have := (hge q e).1; omega
    have hE4 : ER O W4 R M (delJ ps s) (bd || decide (x0 ≠ 3)) := (hE2.below ((Below.refl _ _).alloc (Nat.le_refl _) (.cells #[.string u, .string x2] 56))).keep (S := fun q => (Value.slice qv m cv).ownBlock = some q) (Keep.of_grown hg4 fun _ _ e => e) (fun e => by have := (hge _ e).1; omega) (fun e => by have := (hge _ e).1; omega) fun q hq e => by have := (hge q e).1; have := (hE.low q hq).2.2; omega
    go_roundw
    case rel => exact ⟨m + 1, by go_num, hml, by rw [HB.out]; exact hE4, by rw [HR.out]; exact how4, hkk⟩
    case measure => simp [intOf]; omega
  · obtain rfl : m = nk := by omega
    have hTA : (sigsOf j).take m = sigsOf j := List.take_of_length_le (by rw [HSL.out, HNK.out]; omega)
    rw [hTA] at how
    have HOW : Hid (wr.ownsRow (w1.heap.size + 1) 56 2 (.slice qv m cv) m (sigCells (sigsOf j))) := how
    have HBB : Hid (ER O wr R M (delJ ps s) (b1 || noText (j.list.take j.keys.length))) := by rw [HNK.out]; exact hEr
    clear how hTA
    go_wp2
    go_ret
    have hlen : (sigsOf j).length = m := by rw [HSL.out, HNK.out]
    obtain ⟨q', c', e', hrs⟩ := own_rdS (l := sigsOf j) (by rw [hlen]; exact HOW.out)
    rw [hlen] at e'
    cases e'
    have hw1 := hk1.size
    refine ⟨⟨_, _, by rw [hlen]; rfl, hrs.carry fun q hq => ⟨⟨by have := hq.1; omega, hq.2⟩, rfl⟩⟩, HBB.out, hk1.trans ((Keep.of_below hbA).then hkr) fun q hq e => .inl e⟩
end Go.Proofs.YtegcgbjjpgjnmaaGreatDoor

/-
  The line of a place, gone along by a function: by a contract.
  Maps of numbers, and where each place of a row stands: by contracts.
  How far back in a line a place stands: by a contract.
-/
import Derived.Test.YtimhpglfolbomabGreatRL11
import Derived.Maps.OwnIn
set_option maxRecDepth 100000
set_option maxHeartbeats 16000000
namespace Go.Proofs.YtimhpglfolbomabGreat.Od
open Go.RowKit Go.Maps Go.Shelf
section
attribute [local go_sem] Oper.semAt_some
def lineF (p : Pa) : Nat → Nat → List Nat
 | 0, i => [i]
 | f + 1, i => i :: match leansT p i tPower with | some j => lineF p f j | none => []
def lineT (p : Pa) (i : Nat) : List Nat := lineF p i i
theorem leans_lt {p : Pa} {i j : Nat} {kind : ByteArray} (hr : backT p.auth p.evs.length = true) (h : leansT p i kind = some j) : j < i := (back_of hr).2.1 i j (leans_mem h)
theorem lineF_more {p : Pa} (hr : backT p.auth p.evs.length = true) : ∀ (f i : Nat), i ≤ f → lineF p f i = lineF p i i
 | 0, i, h => by rw [show i = 0 by omega]
 | f + 1, i, h => by
  cases i with
  | zero =>
   unfold lineF
   cases hj : leansT p 0 tPower with
   | none => rfl
   | some j => exact absurd (leans_lt hr hj) (by omega)
  | succ i =>
   unfold lineF
   cases hj : leansT p (i + 1) tPower with
   | none => rfl
   | some j =>
    have := leans_lt hr hj
    show (i + 1) :: lineF p f j = (i + 1) :: lineF p i j
    rw [lineF_more hr f j (by omega), lineF_more hr i j (by omega)]
theorem lineT_eq {p : Pa} (hr : backT p.auth p.evs.length = true) (i : Nat) : lineT p i = i :: match leansT p i tPower with | some j => lineT p j | none => [] := by
 unfold lineT
 cases i with
 | zero =>
  unfold lineF
  cases hj : leansT p 0 tPower with
  | none => rfl
  | some j => exact absurd (leans_lt hr hj) (by omega)
 | succ i =>
  conv => lhs; unfold lineF
  cases hj : leansT p (i + 1) tPower with
  | none => rfl
  | some j =>
   have := leans_lt hr hj
   show (i + 1) :: lineF p i j = (i + 1) :: lineF p j j
   rw [lineF_more hr i j (by omega)]
theorem lineT_len {p : Pa} (hr : backT p.auth p.evs.length = true) : ∀ i, (lineT p i).length ≤ i + 1
 | i => by
  rw [lineT_eq hr]
  cases hj : leansT p i tPower with
  | none => simp
  | some j =>
   have h1 := leans_lt hr hj
   have := lineT_len hr j
   simp
   omega
def leftV (a b : Value) : Nat := match b with | .bool true => (intOf a).toNat + 1 | _ => 0
def wayT (p : Pa) (i : Int) : List Nat := if 0 ≤ i ∧ i < (p.evs.length : Int) then lineT p i.toNat else []
structure LayP (P : Nat → Prop) (W W' : World) : Prop where
 size : W.heap.size ≤ W'.heap.size
 same : ∀ k, P k → W'.heap[k]? = W.heap[k]?
theorem LayP.refl (P : Nat → Prop) (W : World) : LayP P W W := ⟨Nat.le_refl _, fun _ _ => rfl⟩
theorem LayP.trans {P : Nat → Prop} {A B C : World} (h : LayP P A B) (k : LayP P B C) : LayP P A C := ⟨Nat.le_trans h.size k.size, fun i hi => (k.same i hi).trans (h.same i hi)⟩
theorem LayP.putObj {P : Nat → Prop} {n : Nat} (hP : ∀ k, P k → k < n) (W : World) (l : Nat) (o' : Obj) (hl : n ≤ l) : LayP P W (W.putObj l o') := by
 refine ⟨by unfold World.putObj; simp, fun k hk => ?_⟩
 have := hP k hk
 unfold World.putObj
 simp only [Array.getElem?_setIfInBounds]
 rw [if_neg (by omega)]
theorem LayP.of_below {P : Nat → Prop} {W W' : World} (hP : ∀ k, P k → k < W.heap.size) (h : Below W.heap.size W W') : LayP P W W' := ⟨h.size, fun k hk => h.block k (hP k hk)⟩
theorem LayP.pa {P : Nat → Prop} {W W' : World} {p : Pa} {q : Pq} (h : LayP P W W') (hp : IsPa P W p q) : IsPa P W' p q := hp.carry fun k hk => ⟨hk, h.same k hk⟩
theorem way_fn {w : World} {CP : List Value} (i : Int) :
    Calls Tryz.prog 38 #[.agg CP.toArray, .int .i64 i] w fun e w' => e = .returned (.func (.func 68) #[] #[.pointer (some ⟨w.heap.size + 1, 0, none⟩), .pointer (some ⟨w.heap.size, 0, none⟩)]) ∧ w' = (w.alloc (.cells CP.toArray 27)).alloc (.cells #[.int .i64 i] 3) := by
 go_enter Tryz.func38, Tryz.ntmps38
 go_wp2
 go_ret
 exact ⟨rfl, rfl⟩
theorem way_in (n l B1 B2 : Nat) (hn : 1 ≤ n) {P : Nat → Prop} {p : Pa} {q : Pq} (i : Int) (J Jx : List Nat → World → Prop) (W : World) (hJ : AbidesFrom W.heap.size J)
    (hp : IsPa P W p q) (hP : ∀ k, P k → k < W.heap.size) (hz : SzPa p) (hr : backT p.auth p.evs.length = true) (h1 : W.cell? ⟨B1, 0, none⟩ = some (.int .i64 i)) (h2 : W.heap[B2]? = some (.cells (cellsPa p q).toArray 27 (0, 0))) (hB1 : P B1) (hB2 : P B2)
    (hY : ∀ pre (x : Nat) W1, J pre W1 → pre.length < 40 → YieldAt Fence.wide (n - 1) Tryz.prog l #[.int .i64 ((x % 64 : Nat) : Int)] W1 fun e W' => (e = .returned (.bool true) ∧ J (pre ++ [x]) W' ∧ LayP P W1 W') ∨ (e = .returned (.bool false) ∧ Jx (pre ++ [x]) W'))
    (h0 : J [] W) :
    CallsIn Fence.wide n Tryz.prog 68 #[.func (.yield l) #[] #[], .pointer (some ⟨B1, 0, none⟩), .pointer (some ⟨B2, 0, none⟩)] W fun e W' => (∃ v, e = .returned v) ∧ ((∃ xs, xs = wayT p i ∧ J xs W') ∨ (∃ pre, pre <+: wayT p i ∧ Jx pre W')) := by
 refine callsIn_wide.2 ?_
 have HPX : Hid (∀ X, LayP P W X → IsPa (· < X.heap.size) X p q) := fun X hX => (hX.pa hp).carry fun k hk => ⟨Nat.lt_of_lt_of_le (hP k hk) hX.size, rfl⟩
 have HLD : Hid (∀ X, LayP P W X → (Instr.loadAt 27 (.pointer (some ⟨B2, 0, none⟩))).run Tryz.prog X = .ok (.agg (cellsPa p q).toArray) X) := fun X hX => run_loadAt_mid X B2 0 27 (cellsPa p q) _ (rangeK_of ((hX.same B2 hB2).trans h2)) Tryz.underlying27 rfl infoPa
 have HC1 : Hid (∀ X, LayP P W X → X.cell? ⟨B1, 0, none⟩ = some (.int .i64 i)) := fun X hX => (World.cell?_of_block (a := ⟨B1, 0, none⟩) (hX.same B1 hB1)).trans h1
 have HHA : Hid (∀ X, LayP P W X → Calls Tryz.prog 48 #[.agg (cellsPa p q).toArray, .int .i64 i] X fun e w' => e = .returned (.bool (decide (0 ≤ i ∧ i < (p.evs.length : Int)))) ∧ Below X.heap.size X w') := fun X hX => has_any (HPX.out X hX) i
 have HLN : Hid (∀ X (x : Nat), LayP P W X → x < p.evs.length → Calls Tryz.prog 56 #[.agg (cellsPa p q).toArray, .int .i64 (x : Int), .string tPower] X fun e w' => e = leanV (leansT p x tPower) ∧ Below X.heap.size X w') := fun X x hX hx => leansOn_any (HPX.out X hX) hz hr x hx tPower
 have HBL : Hid (∀ X Y, LayP P W X → Below X.heap.size X Y → LayP P W Y) := fun X Y hX hY => hX.trans (LayP.of_below (fun k hk => Nat.lt_of_lt_of_le (hP k hk) hX.size) hY)
 have HLT : Hid (∀ x, lineT p x = x :: match leansT p x tPower with | some j => lineT p j | none => []) := lineT_eq hr
 have HLE : Hid (∀ x, (lineT p x).length ≤ x + 1) := lineT_len hr
 have HLS : Hid (∀ x j, leansT p x tPower = some j → j < x) := fun x j h => leans_lt hr h
 have HJ0 : Hid (J [] W) := h0
 have HJ : Hid (AbidesFrom W.heap.size J) := hJ
 have HY : Hid (∀ pre (x : Nat) W1, J pre W1 → pre.length < 40 → YieldAt Fence.wide (n - 1) Tryz.prog l #[.int .i64 ((x % 64 : Nat) : Int)] W1 fun e W' => (e = .returned (.bool true) ∧ J (pre ++ [x]) W' ∧ LayP P W1 W') ∨ (e = .returned (.bool false) ∧ Jx (pre ++ [x]) W')) := hY
 have hen := hz.evs
 clear hJ hp hz hr h1 h2 hY h0
 have HWT : Hid (wayT p i = if 0 ≤ i ∧ i < (p.evs.length : Int) then lineT p i.toNat else []) := rfl
 generalize p.evs.length = n1 at *
 generalize cellsPa p q = CP at *
 go_enter Tryz.func68, Tryz.ntmps68
 go_upto_region 0 with fail
 refine wp_region_in (by kernel_rfl) (fun w' => Below W.heap.size W w') ?_
 change wpIn _ _ _ _ _ _ _ _ (World.drew _)
 have hD : Below W.heap.size W W.drew := (Below.refl _ _).drew
 have HBD : Hid (∀ X, Below W.heap.size W X → LayP P W X) := fun X hX => HBL.out W X (LayP.refl _ _) hX
 refine wpIn_take (i := 0) (d := (some 6)) (v := .int .i64 i) (a' := ?aw0) rfl rfl (by kernel_rfl) (by kernel_rfl) (by kernel_rfl) (fun _ _ _ h => h) (Or.inl ⟨by rfl, ?yw0⟩) ?fw0 ?_
 case yw0 => (intro wq hq; have z1 := HC1.out wq (HBD.out wq hq); go_simp; first | done | with_reducible rfl)
 case fw0 => (go_frame; rfl)
 refine wpIn_take (i := 1) (d := (some 7)) (v := .agg CP.toArray) (a' := ?aw1) rfl rfl (by kernel_rfl) (by kernel_rfl) (by kernel_rfl) (fun _ _ _ h => h) (Or.inl ⟨by rfl, ?yw1⟩) ?fw1 ?_
 case yw1 => exact fun wq hq => exec_loadR rfl rfl (HLD.out wq (HBD.out wq hq))
 case fw1 => (go_frame; rfl)
 refine wpIn_take (i := 2) (d := (some 8)) (v := .int .i64 i) (a' := ?aw2) rfl rfl (by kernel_rfl) (by kernel_rfl) (by kernel_rfl) (fun _ _ _ h => h) (Or.inl ⟨by rfl, ?yw2⟩) ?fw2 ?_
 case yw2 => (intro wq hq; have z1 := HC1.out wq (HBD.out wq hq); go_simp; first | done | with_reducible rfl)
 case fw2 => (go_frame; rfl)
 refine wpIn_do (i := 3) hD (by kernel_rfl) rfl (by rfl) ?_
 intro K hK
 go_simp
 go_wp2_with (go_at_call 48; refine (HHA.out _ (HBD.out _ hD)).mono ?_; rintro e w1 ⟨rfl, hb1⟩)
 have hD1 : Below W.heap.size W w1 := belowP hD hb1
 refine wpIn_tk (i := 4) (d := some 4) rfl ?_
 refine wpIn_tk (i := 5) (d := some 5) rfl ?_
 refine wpIn_done hD1 (by kernel_rfl) ?_ _
 have HD1 : Hid (LayP P W w1) := HBD.out w1 hD1
 have hJ1 : J [] w1 := HJ.out [] W w1 none HJ0.out (below_grown hD1) (fun r e => by cases e)
 have HJ1 : Hid (J [] w1) := hJ1
 clear hJ1 hb1 hD hD1
 by_cases hin : 0 ≤ i ∧ i < (n1 : Int)
 · obtain ⟨x0, rfl⟩ := Int.eq_ofNat_of_zero_le hin.1
   have hx0 : x0 < n1 := by omega
   have HW2 : Hid (wayT p (x0 : Int) = lineT p x0) := by show _ = _; rw [HWT.out, if_pos hin]; simp
   have d1 : decide ((0 : Int) ≤ (x0 : Int)) = true := decide_eq_true hin.1
   have d2 : decide ((x0 : Int) < (n1 : Int)) = true := decide_eq_true hin.2
   have d3 : (decide ((0 : Int) ≤ (x0 : Int)) && decide ((x0 : Int) < (n1 : Int))) = true := by rw [d1, d2]; rfl
   have d4 : decide (x0 < n1) = true := decide_eq_true hx0
   rw [d3]
   clear d1 d2 d3 d4
   go_wp2
   go_loopw [4, 5] (fun a b wr => (∃ (pre : List Nat) (x : Nat), a = .int .i64 (x : Int) ∧ b = .bool true ∧ x < n1 ∧ pre.length + x ≤ x0 ∧ Hid (lineT p x0 = pre ++ lineT p x) ∧ Hid (J pre wr) ∧ Hid (LayP P W wr)) ∨ (b = .bool false ∧ Hid (J (lineT p x0) wr) ∧ Hid (LayP P W wr))) (fun a b _ => leftV a b)
   case atStart => exact .inl ⟨[], x0, rfl, rfl, hx0, by simp, rfl, HJ1, HD1⟩
   case round =>
    rcases hrel with ⟨pre, x, rfl, rfl, hx, hpl, HLP, HJJ, HLY⟩ | ⟨rfl, HJJ, HLY⟩
    · have hYY : YieldAt Fence.wide (n - 1) Tryz.prog l #[.int .i64 (x : Int)] wr fun e W' => (e = .returned (.bool true) ∧ J (pre ++ [x]) W' ∧ LayP P wr W') ∨ (e = .returned (.bool false) ∧ Jx (pre ++ [x]) W') := by
        have h := HY.out pre x wr HJJ.out (by omega)
        rw [Nat.mod_eq_of_lt (show x < 64 by omega)] at h
        exact h
      obtain ⟨fn, tm, asg, bod, hy, hR⟩ := hYY
      refine (wpIn_wide (n := n)).1 ?_
      gi_wp2
      refine hR.mono ?_
      rintro e W6 (⟨rfl, hJ6, hk6⟩ | ⟨rfl, hJx6⟩)
      · have hL6 : LayP P W W6 := HLY.out.trans hk6
        have HL6 : Hid (LayP P W W6) := hL6
        have HJ6 : Hid (J (pre ++ [x]) W6) := hJ6
        have hln := HLN.out W6 x hL6 hx
        clear hL6 hk6 hJ6
        cases hlx : leansT p x tPower with
        | some j =>
         rw [hlx] at hln
         have hjx := HLS.out x j hlx
         have HP2 : Hid (lineT p x0 = (pre ++ [x]) ++ lineT p j) := by show _ = _; rw [HLP.out, HLT.out x, hlx]; simp
         simp only [leanV] at hln
         clear hlx
         gi_upto_region 2 with fail
         refine wpIn_wide.2 ?_
         go_wp2_with (first
          | (refine wpList_loadK rfl 27 _ rfl B2 0 rfl CP (HLD.out _ HL6.out) ?_)
          | (go_at_call 56; refine hln.mono ?_; rintro e W7 ⟨rfl, hb7⟩))
         have hJ7 := HJ.out (pre ++ [x]) W6 W7 none HJ6.out (below_grown hb7) (fun r e => by cases e)
         go_roundw
         case rel => exact .inl ⟨pre ++ [x], j, rfl, rfl, by omega, by simp; omega, HP2, hJ7, HBL.out _ _ HL6.out hb7⟩
         case measure => simp [leftV, intOf]; try omega
        | none =>
         rw [hlx] at hln
         have HP2 : Hid (lineT p x0 = pre ++ [x]) := by show _ = _; rw [HLP.out, HLT.out x, hlx]
         simp only [leanV] at hln
         clear hlx
         gi_upto_region 2 with fail
         refine wpIn_wide.2 ?_
         go_wp2_with (first
          | (refine wpList_loadK rfl 27 _ rfl B2 0 rfl CP (HLD.out _ HL6.out) ?_)
          | (go_at_call 56; refine hln.mono ?_; rintro e W7 ⟨rfl, hb7⟩))
         have hJ7 := HJ.out (pre ++ [x]) W6 W7 none HJ6.out (below_grown hb7) (fun r e => by cases e)
         go_roundw
         case rel => exact .inr ⟨rfl, by rw [HP2.out]; exact hJ7, HBL.out _ _ HL6.out hb7⟩
         case measure => simp [leftV, intOf]; try omega
      · have HPR : Hid (pre ++ [x] <+: lineT p x0) := by
          show _ <+: _
          rw [HLP.out, HLT.out x]
          exact ⟨_, by rw [List.append_assoc]; rfl⟩
        have HJX : Hid (Jx (pre ++ [x]) W6) := hJx6
        clear hJx6
        gi_wp2
        go_end0
        exact ⟨⟨_, rfl⟩, .inr ⟨_, by rw [HW2.out]; exact HPR.out, HJX.out⟩⟩
    · clear HLN
      go_wp2
      go_end0
      exact ⟨⟨_, rfl⟩, .inl ⟨_, rfl, by rw [HW2.out]; exact HJJ.out⟩⟩
 · have HW2 : Hid (wayT p i = []) := by show _ = _; rw [HWT.out, if_neg hin]
   have d3 : (decide (0 ≤ i) && decide (i < (n1 : Int))) = false := by
    rw [← Bool.decide_and]
    exact decide_eq_false hin
   rw [d3]
   clear d3
   go_wp2
   refine wp_loop_rounds 1 ?_
   rw [rounds_succ]
   go_wp2
   go_end0
   exact ⟨⟨_, rfl⟩, .inl ⟨_, rfl, by rw [HW2.out]; exact HJ1.out⟩⟩
theorem way_seq (n B1 B2 : Nat) (hn : 1 ≤ n) {P : Nat → Prop} {p : Pa} {q : Pq} (i : Int) {w : World} (hp : IsPa P w p q) (hP : ∀ k, P k → k < w.heap.size) (hz : SzPa p) (hr : backT p.auth p.evs.length = true) (h1 : w.cell? ⟨B1, 0, none⟩ = some (.int .i64 i)) (h2 : w.heap[B2]? = some (.cells (cellsPa p q).toArray 27 (0, 0))) (hB1 : P B1) (hB2 : P B2) :
    SeqStopsK Fence.wide n Tryz.prog 68 #[.pointer (some ⟨B1, 0, none⟩), .pointer (some ⟨B2, 0, none⟩)] (fun x : Nat => #[.int .i64 ((x % 64 : Nat) : Int)]) (LayP P) (fun ys => ys = wayT p i) (fun pre => pre <+: wayT p i) 40 w := fun l J Jx W hW hJ _ hY h0 =>
 way_in n l B1 B2 hn i J Jx W hJ (hp.carry fun k hk => ⟨hk, hW.block k (hP k hk)⟩) (fun k hk => Nat.lt_of_lt_of_le (hP k hk) hW.size) hz hr ((World.cell?_of_block (a := ⟨B1, 0, none⟩) (hW.block B1 (hP B1 hB1))).trans h1) ((hW.block B2 (hP B2 hB2)).trans h2) hB1 hB2 hY h0
end
end Go.Proofs.YtimhpglfolbomabGreat.Od
namespace Go.Proofs.YtimhpglfolbomabGreat.Od
open Go.RowKit Go.Maps
theorem run_makeMap_room {t k e : TypeId} (ht : Tryz.prog.underlying t = some (.map k e)) (n : Int) (w : World) : (Instr.makeMap t (some (.int .i64 n))).run Tryz.prog w = .ok (.map (some w.heap.size)) (w.alloc (.map #[] 0)) := by
 simp [Instr.makeMap, run_underlying ht, asInt, asIntOf, Result.andThen]
def unM (_e : TypeId) (q : IntKind) (f : Int → Option Int) (D : DataW Unit) : Prop :=
 Tidy D ∧ (∀ x, wf64 x → Maps.has D (klI x) = (f x).isSome) ∧ ∀ x c, wf64 x → f x = some c → ∀ z, D.atKey (klI x) z = .lit (.int q c)
theorem unM_empty (e : TypeId) (q : IntKind) : unM e q (fun _ => none) (.map []) := ⟨tidy_empty, fun x _ => by simp [has_eq], fun x c _ h => by cases h⟩
theorem wf_nat {n : Nat} (h : n ≤ 1000000) : wf64 (n : Int) := by unfold wf64; omega
def more (f : Int → Option Int) (x c : Int) : Int → Option Int := fun y => if y = x then some c else f y
theorem unM_put {e : TypeId} {q : IntKind} {f : Int → Option Int} {D : DataW Unit} (h : unM e q f D) (x c : Int) : unM e q (more f x c) (D.put (klI x) (.lit (.int q c))) := by
 obtain ⟨h1, h2, h3⟩ := h
 refine ⟨h1.put (klI_key _) _, fun y hy => ?_, fun y d hy hd z => ?_⟩
 · unfold more
   by_cases e : y = x
   · rw [e, has_put_same h1.isMap (klI_key _), if_pos rfl]; rfl
   · rw [has_put_other (fun h' => e (klI_inj h')), h2 y hy, if_neg e]
 · unfold more at hd
   by_cases e : y = x
   · rw [if_pos e] at hd
     cases hd
     rw [e, atKey_put_same h1.isMap (klI_key _)]
   · rw [if_neg e] at hd
     rw [atKey_put_other (fun h' => e (klI_inj h')), h3 y d hy hd]
theorem unM_look {e : TypeId} {q : IntKind} {f : Int → Option Int} {D : DataW Unit} (h : unM e q f D) {x c : Int} (hx : wf64 x) (hc : D.atKey (klI x) (.lit (.int q 0)) = .lit (.int q c)) : c = (f x).getD 0 ∧ Maps.has D (klI x) = (f x).isSome := by
 refine ⟨?_, h.2.1 x hx⟩
 cases hf : f x with
 | none =>
  have hh := h.2.1 x hx
  rw [hf] at hh
  rw [atKey_of_not_has hh] at hc
  simp only [DataW.lit.injEq, Lit.int.injEq, true_and] at hc
  exact hc.symm
 | some d =>
  rw [h.2.2 x d hx hf] at hc
  simp only [DataW.lit.injEq, Lit.int.injEq, true_and] at hc
  exact hc.symm
def MapI (w : World) (b N : Nat) (f : Int → Option Int) : Prop := ∃ D : DataW Unit, w.ownsMap Tryz.prog 3 (plainElem Tryz.prog 3) b N D ∧ unM 3 .i64 f D
theorem mapI_made (w : World) : MapI (w.alloc (.map #[] 0)) w.heap.size 0 (fun _ => none) := ⟨.map [], World.ownsMap_made _ _ _ _, unM_empty 3 .i64⟩
theorem MapI.same {w w' : World} {b N : Nat} {f : Int → Option Int} (h : MapI w b N f) (hs : w'.heap[b]? = w.heap[b]?) : MapI w' b N f := by
 obtain ⟨D, ⟨es, clock, hb, r⟩, hn⟩ := h
 exact ⟨D, ⟨es, clock, by rw [hs]; exact hb, r⟩, hn⟩
theorem MapI.lt {w : World} {b N : Nat} {f : Int → Option Int} (h : MapI w b N f) : b < w.heap.size := by
 obtain ⟨D, h1, _⟩ := h
 exact h1.lt
theorem zero3 (w : World) : (zeroValue 3).run Tryz.prog w = .ok (.int .i64 0) w := by kernel_rfl
section
variable {w : World} {ops : Array Oper} {rest : List Oper} {o : Oper} {a : Act} {Q : Exit → Act → World → Prop}
theorem wpList_lookupI (hg : o.guard = none) (m x : Operand) (hop : o.op = Op.lookup 43 m x true) (b N : Nat) (f : Int → Option Int) (hm : a.eval m = .map (some b)) (h : MapI w b N f) (z : Int) (hz : wf64 z) (hx : a.eval x = .int .i64 z)
    (hK : wpList Tryz.prog ops Q rest (a.put o.dst (.tuple #[.int .i64 ((f z).getD 0), .bool (f z).isSome])) w) : wpList Tryz.prog ops Q (o :: rest) a w := by
 obtain ⟨D, h1, h2⟩ := h
 refine wpList_lookup_own_ok_int w hg m x 43 hop 3 3 .i64 lawI Tryz.underlying43 Tryz.underlying3 (zero3 _) b N D hm h1 _ _ hx (keyI hz) ?_
 intro c hat _
 obtain ⟨e1, e2⟩ := unM_look h2 hz hat
 rw [e1, e2]
 exact hK
theorem wpList_updateI (hg : o.guard = none) (m x v : Operand) (hop : o.op = Op.mapUpdate 43 m x v) (b N : Nat) (f : Int → Option Int) (hm : a.eval m = .map (some b)) (h : MapI w b N f) (hN : N < 1000000) (z c : Int) (hz : wf64 z) (hc : wf64 c) (hx : a.eval x = .int .i64 z) (hv : a.eval v = .int .i64 c)
    (hK : ∀ w', MapI w' b (N + 1) (more f z c) → w.grownBy w' (some b) → wpList Tryz.prog ops Q rest (a.put o.dst undef) w') : wpList Tryz.prog ops Q (o :: rest) a w := by
 obtain ⟨D, h1, h2⟩ := h
 refine wpList_mapUpdate_own w hg m x v 43 hop 3 3 lawI Tryz.underlying43 (plainElem Tryz.prog 3) b N D hm h1 (by unfold maxLen; omega) _ _ (klI z) hx hv (keyI hz) _ [] (plainElem_int Tryz.underlying3 (wf_lit hc)) ?_
 intro w' ho hg'
 exact hK w' ⟨_, ho, unM_put h2 z c⟩ hg'
end
def posI (l : List Int) (x : Int) : Option Int := if x ∈ l then some (l.idxOf x : Int) else none
theorem posI_nil : posI [] = fun _ => none := by funext x; unfold posI; simp
theorem posI_snoc (l : List Int) (x : Int) : posI (l ++ [x]) = if x ∈ l then posI l else more (posI l) x l.length := by
 funext y
 by_cases hx : x ∈ l
 · rw [if_pos hx]
   unfold posI
   by_cases hy : y ∈ l
   · rw [if_pos (List.mem_append_left _ hy), if_pos hy, List.idxOf_append, if_pos hy]
   · rw [if_neg hy, if_neg]
     intro h
     rcases List.mem_append.1 h with h | h
     · exact hy h
     · rw [List.mem_singleton.1 h] at hy; exact hy hx
 · rw [if_neg hx]
   unfold more
   by_cases e : y = x
   · subst e
     rw [if_pos rfl]
     unfold posI
     rw [if_pos (by simp), List.idxOf_append, if_neg hx]
     simp
   · rw [if_neg e]
     unfold posI
     by_cases hy : y ∈ l
     · rw [if_pos (List.mem_append_left _ hy), if_pos hy, List.idxOf_append, if_pos hy]
     · rw [if_neg hy, if_neg]
       intro h
       rcases List.mem_append.1 h with h | h
       · exact hy h
       · exact e (List.mem_singleton.1 h)
theorem posI_some {l : List Int} {x : Int} : (posI l x).isSome = decide (x ∈ l) := by
 unfold posI
 by_cases h : x ∈ l <;> simp [h]
def StandsP (l : List Int) (w : World) (e : Ending) (w' : World) : Prop := ∃ b N, e = .returned (.map (some b)) ∧ w.heap.size ≤ b ∧ N ≤ 1000 ∧ MapI w' b N (posI l) ∧ Below w.heap.size w w'
theorem stands_any {O : Nat → Prop} {w : World} {l : List Int} {p : Option Addr} {c : Nat} (hr : RdI O w p c l) (hO : ∀ k, O k → k < w.heap.size) (hl : l.length ≤ 1000) (hw : ∀ x ∈ l, wf64 x) :
    Calls Tryz.prog 29 #[.slice p l.length c] w (StandsP l w) := by
 have hmm := run_makeMap_room Tryz.underlying43
 have HW : Hid (∀ x ∈ l, wf64 x) := hw
 have HR : Hid (∀ X, Below w.heap.size w X → RdI O X p c l) := fun X hX => hr.same (Same.of_below hX hO)
 obtain ⟨n, hn⟩ : ∃ n, l.length = n := ⟨_, rfl⟩
 have HN : Hid (l.length = n) := hn
 have HM0 := mapI_made w
 have hb0 : Below w.heap.size w (w.alloc (.map #[] 0)) := (Below.refl _ _).alloc (Nat.le_refl _) _
 rw [hn] at hl ⊢
 clear hn hr hw
 obtain ⟨B, hB⟩ : ∃ B, w.heap.size = B := ⟨_, rfl⟩
 have HB : Hid (w.heap.size = B) := hB
 rw [hB] at HR HM0 hb0
 have HM : Hid (MapI (w.alloc (.map #[] 0)) B 0 (posI [])) := by rw [posI_nil]; exact HM0
 have HB0 : Hid (Below B w (w.alloc (.map #[] 0))) := hb0
 clear HM0 hb0
 go_enter Tryz.func29, Tryz.ntmps29
 go_wp2
 clear hmm hB
 go_loopw [13] (fun i wr => ∃ (k N : Nat), k ≤ n ∧ i = .int .i64 k ∧ N ≤ k ∧ MapI wr B N (posI (l.take k)) ∧ Below B w wr) (fun i _ => n - (intOf i).toNat)
 case atStart => exact ⟨0, 0, Nat.zero_le _, rfl, Nat.le_refl _, HM.out, HB0.out⟩
 case round =>
  clear HM HB0
  obtain ⟨k, N, hk, rfl, hN, hM, hb⟩ := hrel
  by_cases hlt : k < n
  · have hkl : k < l.length := by rw [HN.out]; exact hlt
    obtain ⟨ad, rfl, _, hc⟩ := (HR.out wr hb).at k 0 hkl
    have hwx := HW.out _ (getD_inm (d := 0) hkl)
    have HT : Hid (posI (l.take (k + 1)) = if l.getD k 0 ∈ l.take k then posI (l.take k) else more (posI (l.take k)) (l.getD k 0) k) := by
     have h1 := posI_snoc (l.take k) (l.getD k 0)
     rw [← take_snoc l k 0 hkl, List.length_take, Nat.min_eq_left (by omega)] at h1
     exact h1
    generalize l.getD k 0 = x at *
    have hps := posI_some (l := l.take k) (x := x)
    by_cases hm : x ∈ l.take k
    · have HT2 : Hid (posI (l.take (k + 1)) = posI (l.take k)) := by show _ = _; rw [HT.out, if_pos hm]
      rw [decide_eq_true hm] at hps
      clear HT hm
      go_wp2_with (first
       | (at_lookup; refine wpList_lookupI rfl _ _ rfl B N _ rfl hM x hwx rfl ?_; rw [hps]))
      go_roundw
      case rel => exact ⟨k + 1, N, by omega, by go_num, by omega, by rw [HT2.out]; exact hM, hb⟩
      case measure => simp [intOf]; omega
    · have HT2 : Hid (posI (l.take (k + 1)) = more (posI (l.take k)) x k) := by show _ = _; rw [HT.out, if_neg hm]
      rw [decide_eq_false hm] at hps
      clear HT hm
      have hwk : wf64 (k : Int) := by unfold wf64; omega
      have hbB := hb.size
      go_wp2_with (first
       | (at_lookup; refine wpList_lookupI rfl _ _ rfl B N _ rfl hM x hwx rfl ?_; rw [hps])
       | (at_mapUpdate; refine wpList_updateI rfl _ _ _ rfl B N _ rfl hM (by omega) x k hwx hwk rfl rfl ?_; intro w5 hM5 hg5))
      have hb5 : Below B w w5 := hb.grown hg5 (by have := hM.lt; omega) fun k hk => by cases hk; exact Nat.le_refl _
      go_roundw
      case rel => exact ⟨k + 1, N + 1, by omega, by go_num, by omega, by rw [HT2.out]; exact hM5, hb5⟩
      case measure => simp [intOf]; omega
  · obtain rfl : k = n := by omega
    rw [← HN.out, List.take_length] at hM
    go_wp2
    go_ret
    exact ⟨B, N, rfl, by rw [HB.out]; exact Nat.le_refl _, by omega, hM, by rw [HB.out]; exact hb⟩
end Go.Proofs.YtimhpglfolbomabGreat.Od
namespace Go.Proofs.YtimhpglfolbomabGreat.Od
open Go.RowKit Go.Maps Go.Shelf
section
attribute [local go_sem] Oper.semAt_some
def nearT (F : Int → Option Int) (k0 : Int) : List Nat → Int
 | [] => k0
 | x :: r => match F (x : Int) with | some c => c | none => nearT F k0 r
def goneT (F : Int → Option Int) : List Nat → List Nat
 | [] => []
 | x :: r => match F (x : Int) with | some _ => [] | none => x :: goneT F r
theorem near_all {F : Int → Option Int} {k0 : Int} : ∀ {l : List Nat}, (∀ x ∈ l, F (x : Int) = none) → nearT F k0 l = k0 ∧ goneT F l = l
 | [], _ => ⟨rfl, rfl⟩
 | x :: r, h => by
  obtain ⟨h1, h2⟩ := near_all (k0 := k0) (l := r) fun y hy => h y (List.mem_cons_of_mem _ hy)
  unfold nearT goneT
  rw [h x (List.mem_cons_self ..)]
  exact ⟨h1, by simp only [h2]⟩
theorem near_hit {F : Int → Option Int} {k0 c : Int} {x : Nat} {t : List Nat} (hx : F (x : Int) = some c) : ∀ {l : List Nat}, (∀ y ∈ l, F (y : Int) = none) → nearT F k0 (l ++ x :: t) = c ∧ goneT F (l ++ x :: t) = l
 | [], _ => by
  simp only [List.nil_append]
  unfold nearT goneT
  rw [hx]
  exact ⟨rfl, rfl⟩
 | y :: r, h => by
  obtain ⟨h1, h2⟩ := near_hit (k0 := k0) (t := t) hx (l := r) fun z hz => h z (List.mem_cons_of_mem _ hz)
  simp only [List.cons_append]
  unfold nearT goneT
  rw [h y (List.mem_cons_self ..)]
  exact ⟨h1, by simp only [h2]⟩
theorem at_alloc {w : World} {o o' : Obj} {k : Nat} (h : w.heap[k]? = some o') : (w.alloc o).heap[k]? = some o' := (Below.heap_alloc _ _ _ (objP_lt h)).trans h
theorem new_at (w : World) (o : Obj) {k : Nat} (h : w.heap.size = k) : (w.alloc o).heap[k]? = some o := by rw [← h]; exact newP o
theorem six_at {w : World} {s : Nat} (hs : w.heap.size = s) (o0 o1 o2 o3 o4 o5 : Obj) {W : World} (hW : W = (((((w.alloc o0).alloc o1).alloc o2).alloc o3).alloc o4).alloc o5) :
    Below s w W ∧ W.heap.size = s + 6 ∧ W.heap[s]? = some o0 ∧ W.heap[s + 1]? = some o1 ∧ W.heap[s + 2]? = some o2 ∧ W.heap[s + 3]? = some o3 ∧ W.heap[s + 4]? = some o4 ∧ W.heap[s + 5]? = some o5 := by
 have s1 : (w.alloc o0).heap.size = s + 1 := by rw [World.size_alloc, hs]
 have s2 : ((w.alloc o0).alloc o1).heap.size = s + 2 := by rw [World.size_alloc, s1]
 have s3 : (((w.alloc o0).alloc o1).alloc o2).heap.size = s + 3 := by rw [World.size_alloc, s2]
 have s4 : ((((w.alloc o0).alloc o1).alloc o2).alloc o3).heap.size = s + 4 := by rw [World.size_alloc, s3]
 have s5 : (((((w.alloc o0).alloc o1).alloc o2).alloc o3).alloc o4).heap.size = s + 5 := by rw [World.size_alloc, s4]
 subst hW
 refine ⟨?_, by rw [World.size_alloc, s5], at_alloc (at_alloc (at_alloc (at_alloc (at_alloc (new_at _ _ hs))))), at_alloc (at_alloc (at_alloc (at_alloc (new_at _ _ s1)))), at_alloc (at_alloc (at_alloc (new_at _ _ s2))), at_alloc (at_alloc (new_at _ _ s3)), at_alloc (new_at _ _ s4), new_at _ _ s5⟩
 rw [← hs]
 exact ((((((Below.refl _ w).alloc (Nat.le_refl _) _).alloc (by omega) _).alloc (by omega) _).alloc (by omega) _).alloc (by omega) _).alloc (by omega) _
theorem way_small {p : Pa} (hr : backT p.auth p.evs.length = true) (i : Int) : ∀ x ∈ wayT p i, x < p.evs.length := by
 have key : ∀ m x, x < p.evs.length → x ≤ m → ∀ y ∈ lineT p x, y < p.evs.length := by
  intro m
  induction m with
  | zero =>
   intro x hx hm y hy
   rw [lineT_eq hr] at hy
   rcases List.mem_cons.1 hy with rfl | hy
   · exact hx
   · cases hj : leansT p x tPower with
     | none => rw [hj] at hy; cases hy
     | some j => exact absurd (leans_lt hr hj) (by omega)
  | succ m ih =>
   intro x hx hm y hy
   rw [lineT_eq hr] at hy
   rcases List.mem_cons.1 hy with rfl | hy
   · exact hx
   · cases hj : leansT p x tPower with
     | none => rw [hj] at hy; cases hy
     | some j =>
      rw [hj] at hy
      have := leans_lt hr hj
      exact ih j (by omega) (by omega) y hy
 intro x hx
 unfold wayT at hx
 split at hx
 · rename_i h
   exact key i.toNat i.toNat (by omega) (Nat.le_refl _) x hx
 · cases hx
def putAll (F : Int → Option Int) (c : Int) (l : List Int) : Int → Option Int := fun x => if x ∈ l then some c else F x
theorem putAll_nil (F : Int → Option Int) (c : Int) : putAll F c [] = F := by funext x; unfold putAll; simp
theorem putAll_snoc (F : Int → Option Int) (c : Int) (l : List Int) (x : Int) : putAll F c (l ++ [x]) = more (putAll F c l) x c := by
 funext y
 unfold putAll more
 by_cases e : y = x
 · rw [if_pos (by simp [e]), if_pos e]
 · rw [if_neg e]
   by_cases hl : y ∈ l
   · show _ = if y ∈ l then some c else F y
     rw [if_pos (by simp [hl]), if_pos hl]
   · show _ = if y ∈ l then some c else F y
     rw [if_neg (by simp [hl, e]), if_neg hl]
structure NearI (WR : World) (s : Nat) (F : Int → Option Int) (pre : List Nat) (W : World) : Prop where
 keep : Keep (fun k => k = s + 3 ∨ s + 6 ≤ k) WR W
 gone : ∃ v, W.heap[s + 3]? = some (.cells #[v] 28 (0, 0)) ∧ W.ownsRow (s + 6) 3 1 v (zs (pre.map (· % 64))).length ((zs (pre.map (· % 64))).map (Value.int .i64))
 none : ∀ x ∈ pre, F ((x % 64 : Nat) : Int) = none
structure NearX (WR : World) (s : Nat) (F : Int → Option Int) (pre : List Nat) (W : World) : Prop where
 keep : Keep (fun k => k = s + 2 ∨ k = s + 3 ∨ s + 6 ≤ k) WR W
 hit : ∃ pre' x c, pre = pre' ++ [x] ∧ (∀ y ∈ pre', F ((y % 64 : Nat) : Int) = Option.none) ∧ F ((x % 64 : Nat) : Int) = some c ∧ W.heap[s + 2]? = some (.cells #[.int .i64 c] 3 (0, 0)) ∧ ∃ v, W.heap[s + 3]? = some (.cells #[v] 28 (0, 0)) ∧ W.ownsRow (s + 6) 3 1 v (zs (pre'.map (· % 64))).length ((zs (pre'.map (· % 64))).map (Value.int .i64))
structure NearD (WR : World) (s : Nat) (kk : Int) (gg : List Nat) (W : World) : Prop where
 keep : Keep (fun k => k = s + 2 ∨ k = s + 3 ∨ s + 6 ≤ k) WR W
 near : W.heap[s + 2]? = some (.cells #[.int .i64 kk] 3 (0, 0))
 gone : ∃ v, W.heap[s + 3]? = some (.cells #[v] 28 (0, 0)) ∧ W.ownsRow (s + 6) 3 1 v (zs gg).length ((zs gg).map (Value.int .i64))
theorem mod_small {l : List Nat} (h : ∀ x ∈ l, x < 64) : l.map (· % 64) = l := by
 induction l with
 | nil => rfl
 | cons a r ih => rw [List.map_cons, ih fun x hx => h x (List.mem_cons_of_mem _ hx), Nat.mod_eq_of_lt (h a (List.mem_cons_self ..))]
theorem NearI.done {WR W : World} {s : Nat} {k0 : Int} {F : Int → Option Int} {l : List Nat} (h : NearI WR s F l W) (hl : ∀ x ∈ l, x < 64) (hs : WR.heap.size = s + 6) (h2 : WR.heap[s + 2]? = some (.cells #[.int .i64 k0] 3 (0, 0))) : NearD WR s (nearT F k0 l) (goneT F l) W := by
 obtain ⟨e1, e2⟩ := near_all (F := F) (k0 := k0) (l := l) fun x hx => by have := h.none x hx; rwa [Nat.mod_eq_of_lt (hl x hx)] at this
 have hg := h.gone
 rw [mod_small hl] at hg
 rw [e1, e2]
 exact ⟨h.keep.mono fun k _ hk => .inr hk, (h.keep.block (s + 2) (by omega) (by omega)).trans h2, hg⟩
theorem NearX.stop {WR W : World} {s : Nat} {k0 : Int} {F : Int → Option Int} {pre l : List Nat} (h : NearX WR s F pre W) (hp : pre <+: l) (hl : ∀ x ∈ l, x < 64) : NearD WR s (nearT F k0 l) (goneT F l) W := by
 obtain ⟨hk, pre', x, c, rfl, h1, h2, h3, h4⟩ := h
 obtain ⟨t, rfl⟩ := hp
 have hlp : ∀ y ∈ pre', y < 64 := fun y hy => hl y (by simp [hy])
 rw [Nat.mod_eq_of_lt (hl x (by simp))] at h2
 obtain ⟨e1, e2⟩ := near_hit (F := F) (k0 := k0) (t := t) h2 (l := pre') fun y hy => by have := h1 y hy; rwa [Nat.mod_eq_of_lt (hlp y hy)] at this
 rw [mod_small hlp] at h4
 rw [show pre' ++ [x] ++ t = pre' ++ x :: t by simp, e1, e2]
 exact ⟨hk, h3, h4⟩
theorem keep_own {β : Type} {S : Nat → Prop} {B : Nat} {w₀ : World} (hS : ∀ k, B ≤ k → S k) : OwnFrom B (fun (_ : β) W => Keep S w₀ W) :=
 fun _ _ _ _ hs hg hr => ⟨hg.os.trans hs.os, hg.tape.trans hs.tape, hg.output.trans hs.output, Nat.le_trans hs.size hg.size, fun k hk hk2 => (hg.block k (Nat.lt_of_lt_of_le hk hs.size) (fun e => hk2 (hS k (hr k e.symm).1))).trans (hs.block k hk hk2)⟩
theorem row_own {A B' : World} {B n : Nat} {v : Value} {xs : List Value} {row : Option Nat} (h : A.ownsRow B 3 1 v n xs) (hg : A.grownBy B' row) (hr : ∀ r, row = some r → B ≤ r ∧ ∃ o : Obj, A.heap[r]? = some o ∧ o.isCells = false) : B'.ownsRow B 3 1 v n xs := by
 refine h.kept hg ?_
 rcases h.2 with ⟨rfl, _⟩ | ⟨g, cap, cur, rfl, _, hgg, _⟩
 · exact .inl rfl
 · refine .inr fun e => ?_
   obtain ⟨_, o, ho, hc⟩ := hr g e.symm
   rw [hgg] at ho
   cases ho
   cases hc
theorem obj_own {A B' : World} {B k : Nat} {o : Obj} {row : Option Nat} (h : A.heap[k]? = some o) (hk : k < B) (hg : A.grownBy B' row) (hr : ∀ r, row = some r → B ≤ r ∧ ∃ o : Obj, A.heap[r]? = some o ∧ o.isCells = false) : B'.heap[k]? = some o :=
 (hg.block k (objP_lt h) fun e => by have := (hr k e.symm).1; omega).trans h
theorem nearI_own (WR : World) (s : Nat) (F : Int → Option Int) : OwnFrom (s + 6) (NearI WR s F) := fun pre A B row hs hg hr => by
 obtain ⟨v, hv, ho⟩ := hs.gone
 exact ⟨keep_own (β := Unit) (fun k hk => .inr hk) () A B row hs.keep hg hr, ⟨v, obj_own hv (by omega) hg hr, row_own ho hg hr⟩, hs.none⟩
theorem nearX_own (WR : World) (s : Nat) (F : Int → Option Int) : OwnFrom (s + 6) (NearX WR s F) := fun pre A B row hs hg hr => by
 obtain ⟨hk, pre', x, c, e, h1, h2, h3, v, hv, ho⟩ := hs
 exact ⟨keep_own (β := Unit) (fun k hk => .inr (.inr hk)) () A B row hk hg hr, pre', x, c, e, h1, h2, obj_own h3 (by omega) hg hr, v, obj_own hv (by omega) hg hr, row_own ho hg hr⟩
theorem box_set {W : World} {B : Nat} {v : Value} {t : TypeId} (v' : Value) (h : W.heap[B]? = some (.cells #[v] t (0, 0))) : (W.setCell ⟨B, 0, none⟩ v').heap[B]? = some (.cells #[v'] t (0, 0)) := by
 obtain ⟨hlt, hk⟩ := Array.getElem?_eq_some_iff.1 h
 show (W.heap.modify B _)[B]? = _
 rw [Array.getElem?_eq_getElem (by rw [Array.size_modify]; exact hlt), Array.getElem_modify_self, hk]
 rfl
theorem row_cells {w : World} {B n : Nat} {v : Value} {xs : List Value} (h : w.ownsRow B 3 1 v n xs) {j : Nat} {o : Obj} (hj : v.ownBlock = some j) (ho : w.heap[j]? = some o) : o.isCells = true := by
 rcases h.2 with ⟨rfl, _⟩ | ⟨g, cap, cur, rfl, _, hgg, _⟩
 · cases hj
 · cases hj
   rw [hgg] at ho
   cases ho
   rfl
theorem near_wf {F : Int → Option Int} {k0 : Int} (hF : ∀ x c, F x = some c → wf64 c) (h0 : wf64 k0) : ∀ l : List Nat, wf64 (nearT F k0 l)
 | [] => h0
 | x :: r => by
  unfold nearT
  cases hx : F (x : Int) with
  | some c => exact hF _ _ hx
  | none => exact near_wf hF h0 r
theorem gone_len (F : Int → Option Int) : ∀ l : List Nat, (goneT F l).length ≤ l.length ∧ ∀ x ∈ goneT F l, x ∈ l
 | [] => ⟨Nat.le_refl _, fun x hx => hx⟩
 | x :: r => by
  obtain ⟨h1, h2⟩ := gone_len F r
  unfold goneT
  cases hx : F (x : Int) with
  | some c => exact ⟨by simp, fun y hy => by cases hy⟩
  | none =>
   refine ⟨by simp only [List.length_cons]; omega, fun y hy => ?_⟩
   rcases List.mem_cons.1 hy with rfl | hy
   · exact List.mem_cons_self ..
   · exact List.mem_cons_of_mem _ (h2 y hy)
theorem way_len {p : Pa} (hz : SzPa p) (hr : backT p.auth p.evs.length = true) (i : Int) : (wayT p i).length ≤ 30 := by
 unfold wayT
 split
 · rename_i h
   have := lineT_len hr i.toNat
   have := hz.evs
   omega
 · simp
theorem leaves_mark1 {fn : Func} {tmps : Array Value} {r : Tmp} {R : Ending → World → Prop} (hf : fn.results = #[.tmp r]) {D : Nat} {W : World} {v : Value} (ht : tmps.getD r undef = v) (hK : W.heap[D]? = some (.deferred (some []))) (hR : R (.returned v) (W.putObj D (.deferred none))) :
    LeavesInM Fence.wide 3 Tryz.prog fn tmps R [{ target := .collected D, args := #[] }] .returning W := by
 refine ⟨by simp, .inl ⟨D, W.putObj D (.deferred none), rfl, run_takeDeferred hK, v, ?_, hR⟩⟩
 rw [Array.getD_eq_getD_getElem?] at ht
 simp [results, hf, ht]
section
variable {nF : Nat} {F0 : Fence} {w : World} {ops : Array Oper} {rest : List Oper} {o : Oper} {a : Act} {Q : Exit → Act → World → Prop}
theorem wpListIn_lookupI (hg : o.guard = none) (m x : Operand) (hop : o.op = Op.lookup 43 m x true) (b N : Nat) (f : Int → Option Int) (hm : a.eval m = .map (some b)) (h : MapI w b N f) (z : Int) (hz : wf64 z) (hx : a.eval x = .int .i64 z)
    (hK : wpListIn F0 nF Tryz.prog ops Q rest (a.put o.dst (.tuple #[.int .i64 ((f z).getD 0), .bool (f z).isSome])) w) : wpListIn F0 nF Tryz.prog ops Q (o :: rest) a w := by
 obtain ⟨D, h1, h2⟩ := h
 refine wpListIn_lookup_own_ok_int w hg m x 43 hop 3 3 .i64 lawI Tryz.underlying43 Tryz.underlying3 (zero3 _) b N D hm h1 _ _ hx (keyI hz) ?_
 intro c hat _
 obtain ⟨e1, e2⟩ := unM_look h2 hz hat
 rw [e1, e2]
 exact hK
theorem wpListIn_pushI (hgd : o.guard = none) (s x : Operand) (ho : o.op = .call { callee := .builtin .append, args := #[s, x], argTypes := #[28, 28] }) (base : Nat) (v : Value) (L : List Int) (hs : a.eval s = v) (hown : w.ownsRow base 3 1 v L.length (L.map (Value.int .i64)))
    (ad : Addr) (y : Int) (hx : a.eval x = .slice (some ad) 1 1) (hc : w.cell? ad = some (.int .i64 y)) (hlen : L.length ≤ 1000000000) (hbase : base ≤ w.heap.size)
    (h : ∀ v' w', w'.ownsRow base 3 1 v' (L ++ [y]).length ((L ++ [y]).map (Value.int .i64)) → w.grownBy w' v.ownBlock → wpListIn F0 nF Tryz.prog ops Q rest (a.put o.dst v') w') : wpListIn F0 nF Tryz.prog ops Q (o :: rest) a w := by
 obtain ⟨i0, hi, hz0, hz1, hz2⟩ := info_parts Tryz.info3
 refine wpListIn_append_own w hgd s x 28 ho base 3 i0 (.int .i64 0) 1 8 Tryz.underlying28 hi hz0 hz1 hz2 rfl (by decide) v L.length (L.map (Value.int .i64)) hs hown ad 1 1 [.int .i64 y] hx rfl (fun j u hj => ?_) (fun u hu => ?_) (by unfold maxLen; omega) (by omega) hbase ?_
 · match j, hj with
   | 0, hj => simp at hj; subst hj; simpa [Addr.add] using hc
 · simp at hu; subst hu; rfl
 · intro v' w' hown' hgrow _
   exact h v' w' (by rw [List.length_append, List.map_append]; exact hown') hgrow
end
theorem near_any {w : World} {p : Pa} {q : Pq} {mb N : Nat} {k0 : Int} {F : Int → Option Int} (h : IsPa (· < w.heap.size) w p q) (hz : SzPa p) (hr : backT p.auth p.evs.length = true) (hm : MapI w mb N F) (hN : N ≤ 10000) (hF : ∀ x c, F x = some c → wf64 c) (hk0 : wf64 k0) (i : Int) :
    Calls Tryz.prog 19 #[.agg #[.map (some mb), .int .i64 k0], valPa p q, .int .i64 i] w fun e w' => e = .returned (.int .i64 (nearT F k0 (wayT p i))) ∧ (∃ N' F', N' ≤ N + 31 ∧ MapI w' mb N' F' ∧ ∀ x, F' x = if x ∈ zs (goneT F (wayT p i)) then some (nearT F k0 (wayT p i)) else F x) ∧ Keep (· = mb) w w' := by
 obtain ⟨s, hs⟩ : ∃ s, w.heap.size = s := ⟨_, rfl⟩
 obtain ⟨WR, hWR⟩ : ∃ WR, WR = (((((w.alloc (.cells #[.map (some mb), .int .i64 k0] 45)).alloc (.cells (cellsPa p q).toArray 27)).alloc (.cells #[.int .i64 k0] 3)).alloc (.cells #[.slice none 0 0] 28)).alloc (.cells (cellsPa p q).toArray 27)).alloc (.cells #[.int .i64 i] 3) := ⟨_, rfl⟩
 obtain ⟨hbR, hsR, hB0, hB1, hB2, hB3, hB4, hB5⟩ := six_at hs _ _ _ _ _ _ hWR
 have HWF1 : Hid (∀ x ∈ wayT p i, x < 64) := fun x hx => by have := way_small hr i x hx; have := hz.evs; omega
 obtain ⟨KK, hKK⟩ : ∃ KK, nearT F k0 (wayT p i) = KK := ⟨_, rfl⟩
 obtain ⟨GG, hGG⟩ : ∃ GG, goneT F (wayT p i) = GG := ⟨_, rfl⟩
 have HKK : Hid (nearT F k0 (wayT p i) = KK ∧ goneT F (wayT p i) = GG) := ⟨hKK, hGG⟩
 have HKW : Hid (wf64 KK) := by show wf64 KK; rw [← hKK]; exact near_wf hF hk0 _
 have hGn : (zs GG).length ≤ 30 := by rw [zs_len, ← hGG]; exact Nat.le_trans (gone_len F _).1 (way_len hz hr i)
 have HGX : Hid (∀ x ∈ zs GG, wf64 x) := fun x hx => by
  simp only [zs, List.mem_map] at hx
  obtain ⟨y, hy, rfl⟩ := hx
  rw [← hGG] at hy
  have := HWF1.out y ((gone_len F _).2 y hy)
  unfold wf64
  omega
 rw [hKK, hGG]
 clear hKK hGG
 have HIS : Hid (IsPa (· < w.heap.size) w p q) := h
 have HB : Hid (WR.heap[s]? = some (.cells #[.map (some mb), .int .i64 k0] 45 (0, 0)) ∧ WR.heap[s + 1]? = some (.cells (cellsPa p q).toArray 27 (0, 0)) ∧ WR.heap[s + 2]? = some (.cells #[.int .i64 k0] 3 (0, 0)) ∧ WR.heap[s + 3]? = some (.cells #[.slice none 0 0] 28 (0, 0)) ∧ WR.heap[s + 4]? = some (.cells (cellsPa p q).toArray 27 (0, 0)) ∧ WR.heap[s + 5]? = some (.cells #[.int .i64 i] 3 (0, 0))) := ⟨hB0, hB1, hB2, hB3, hB4, hB5⟩
 clear h hB0 hB1 hB2 hB3 hB4 hB5
 refine callsIn_wide.1 (callsIn_of_wp_marks (n := 3) Tryz.func19 rfl trivial (wpIn_wide.2 ?_) rfl)
 have HWF : Hid (∀ X : World, Calls Tryz.prog 38 #[.agg (cellsPa p q).toArray, .int .i64 i] X fun e w' => e = .returned (.func (.func 68) #[] #[.pointer (some ⟨X.heap.size + 1, 0, none⟩), .pointer (some ⟨X.heap.size, 0, none⟩)]) ∧ w' = (X.alloc (.cells (cellsPa p q).toArray 27)).alloc (.cells #[.int .i64 i] 3)) := fun X => way_fn i
 have HLD : Hid (∀ X : World, X.heap[s + 1]? = some (.cells (cellsPa p q).toArray 27 (0, 0)) → (Instr.loadAt 27 (.pointer (some ⟨s + 1, 0, none⟩))).run Tryz.prog X = .ok (.agg (cellsPa p q).toArray) X) := fun X hX => run_loadAt_mid X (s + 1) 0 27 (cellsPa p q) _ (rangeK_of hX) Tryz.underlying27 rfl infoPa
 simp only [Tryz.ntmps19, List.size_toArray, List.length_cons, List.length_nil, Nat.reduceAdd, Nat.reduceSub, Array.replicate_succ, Array.replicate_zero, List.push_toArray, List.append_toArray, List.nil_append, List.cons_append]
 unfold valPa
 have HWR : Hid (WR = (((((w.alloc (.cells #[.map (some mb), .int .i64 k0] 45)).alloc (.cells (cellsPa p q).toArray 27)).alloc (.cells #[.int .i64 k0] 3)).alloc (.cells #[.slice none 0 0] 28)).alloc (.cells (cellsPa p q).toArray 27)).alloc (.cells #[.int .i64 i] 3)) := hWR
 clear hWR
 obtain ⟨CP, hCP⟩ : ∃ CP, cellsPa p q = CP := ⟨_, rfl⟩
 have HCP : Hid (cellsPa p q = CP) := hCP
 rw [hCP] at HB HWF HLD HWR ⊢
 clear hCP
 go_upto_region 3 with fail
 simp only [Nat.add_assoc, Nat.reduceAdd]
 obtain ⟨W3, hW3⟩ : ∃ W3, W3 = (((w.alloc (.cells #[.map (some mb), .int .i64 k0] 45)).alloc (.cells CP.toArray 27)).alloc (.cells #[.int .i64 k0] 3)).alloc (.cells #[.slice none 0 0] 28) := ⟨_, rfl⟩
 rw [← hW3]
 have HWR3 : Hid (WR = (W3.alloc (.cells CP.toArray 27)).alloc (.cells #[.int .i64 i] 3)) := by show _ = _; rw [HWR.out, hW3]
 have hs3 : W3.heap.size = s + 4 := by rw [hW3]; simp only [World.size_alloc, hs]
 have h31 : W3.heap[s + 1]? = some (.cells CP.toArray 27 (0, 0)) := by rw [hW3]; exact at_alloc (at_alloc (new_at _ _ (by rw [World.size_alloc, hs])))
 clear hW3 HWR
 go_wp2_with (first
  | (refine wpList_loadK rfl 27 _ rfl (s + 1) 0 rfl CP (HLD.out _ h31) ?_)
  | (go_at_call 38; refine (HWF.out _).mono ?_; rintro e w1 ⟨rfl, hw1⟩; have HW1 := (show Hid _ from hw1); clear hw1))
 have e1 : w1 = WR := HW1.out.trans HWR3.out.symm
 rw [e1]
 clear e1 hs3 h31 HW1 HWR3
 simp only [Nat.add_assoc, Nat.reduceAdd]
 refine (wpIn_wide (n := 3)).1 ?_
 have HP : Hid (∀ k, (k < s ∨ k = s + 4 ∨ k = s + 5) → k < WR.heap.size) := fun k hk => by omega
 have hRP : IsPa (fun k => k < s ∨ k = s + 4 ∨ k = s + 5) WR p q := HIS.out.carry fun k hk => ⟨.inl (hs ▸ hk), hbR.block k (hs ▸ hk)⟩
 have hmb := hm.lt
 have HSM : Hid (∀ x ∈ wayT p i, x < 64) := HWF1
 have HM : Hid (MapI WR mb N F) := hm.same (hbR.block mb (by omega))
 refine wpIn_rangeFunc_ownH rfl (by omega) (gf := 68) (lb := #[.pointer (some ⟨s + 5, 0, none⟩), .pointer (some ⟨s + 4, 0, none⟩)]) rfl trivial (enters_of Tryz.func68 (by kernel_rfl) rfl)
  (way_seq (3 - 1) (s + 5) (s + 4) (by omega) i hRP HP.out hz hr (cellP HB.out.2.2.2.2.2 0 _ rfl) (by have := HB.out.2.2.2.2.1; rw [HCP.out]; exact this) (.inr (.inr rfl)) (.inr (.inl rfl)))
  LayP.trans (fun W l o o' hl _ _ _ => LayP.putObj HP.out W l o' hl) (Below.refl _ _) (fun _ => rfl)
  (NearI WR s F) (fun c pre W => c = .exit 0 ∧ NearX WR s F pre W) (hsR ▸ nearI_own WR s F) (fun c => OwnFrom.and (ownFrom_pure _ (fun _ => c = .exit 0)) (hsR ▸ nearX_own WR s F))
  ⟨Keep.refl _ _, ⟨_, HB.out.2.2.2.1, World.ownsRow_nil _ _ _ _⟩, fun x hx => by cases hx⟩
  (fun x a' _ => ∃ u, u = ((x % 64 : Nat) : Int) ∧ a' = { tmps := #[.agg #[.map (some mb), .int .i64 k0], .agg CP.toArray, .int .i64 i, .pointer (some ⟨s, 0, none⟩), .pointer (some ⟨s + 1, 0, none⟩), undef, .int .i64 0, .pointer (some ⟨s + 2, 0, none⟩), .pointer (some ⟨s + 3, 0, none⟩), .int .i64 u, undef, undef, undef, undef, .pointer (some ⟨s, 1, none⟩), .int .i64 k0, .agg CP.toArray, .int .i64 i, .func (.func 68) #[] #[.pointer (some ⟨s + 5, 0, none⟩), .pointer (some ⟨s + 4, 0, none⟩)], .int .i64 u, undef, undef, undef, undef, undef, undef, undef, undef, undef, undef, undef, undef, undef, undef, undef, undef, undef, undef, undef, undef, undef, undef, undef, undef, undef], defers := [] })
  (fun x a' => ownFrom_pure _ (fun _ => ∃ u, u = ((x % 64 : Nat) : Int) ∧ a' = { tmps := #[.agg #[.map (some mb), .int .i64 k0], .agg CP.toArray, .int .i64 i, .pointer (some ⟨s, 0, none⟩), .pointer (some ⟨s + 1, 0, none⟩), undef, .int .i64 0, .pointer (some ⟨s + 2, 0, none⟩), .pointer (some ⟨s + 3, 0, none⟩), .int .i64 u, undef, undef, undef, undef, .pointer (some ⟨s, 1, none⟩), .int .i64 k0, .agg CP.toArray, .int .i64 i, .func (.func 68) #[] #[.pointer (some ⟨s + 5, 0, none⟩), .pointer (some ⟨s + 4, 0, none⟩)], .int .i64 u, undef, undef, undef, undef, undef, undef, undef, undef, undef, undef, undef, undef, undef, undef, undef, undef, undef, undef, undef, undef, undef, undef, undef, undef, undef], defers := [] }))
  ?assign ?body ?done ?stop
 case assign =>
  intro l pre x W K hI hK
  have HK : Hid (∀ a' W', KeepsFrom WR.heap.size W W' → LayP (fun k => k < s ∨ k = s + 4 ∨ k = s + 5) W W' → NearI WR s F pre W' → _ → K a' W') := hK
  clear hK
  gi_wp2
  exact HK.out _ W (KeepsFrom.refl _ _) (LayP.refl _ _) hI ⟨_, rfl, rfl⟩
 case body =>
  rintro l pre x a' W _ _ hI ⟨u, hu, rfl⟩ hlen
  have HI : Hid (NearI WR s F pre W) := hI
  have hk := hI.keep
  have hsW := hk.size
  have hb0 : W.heap[s]? = some (.cells #[.map (some mb), .int .i64 k0] 45 (0, 0)) := (hk.block s (by omega) (by omega)).trans HB.out.1
  have hb2 : W.heap[s + 2]? = some (.cells #[.int .i64 k0] 3 (0, 0)) := (hk.block (s + 2) (by omega) (by omega)).trans HB.out.2.2.1
  obtain ⟨v, hv, ho⟩ := hI.gone
  have hMW : MapI W mb N F := HM.out.same (hk.block mb (by omega) (by omega))
  have hz64 : wf64 u := by rw [hu]; unfold wf64; omega
  have HU : Hid (u = ((x % 64 : Nat) : Int)) := hu
  obtain ⟨L, hL⟩ : ∃ L, zs (pre.map (· % 64)) = L := ⟨_, rfl⟩
  have HL : Hid (zs (pre.map (· % 64)) = L) := hL
  have hLn : L.length ≤ 1000 := by rw [← hL, zs_len, List.length_map]; omega
  rw [hL] at ho
  have HV : Hid (W.heap[s + 3]? = some (.cells #[v] 28 (0, 0))) := hv
  have HB2 : Hid (W.heap[s + 2]? = some (.cells #[.int .i64 k0] 3 (0, 0))) := hb2
  have m0 := cellP hb0 0 _ rfl
  have g0 := cellP hv 0 _ rfl
  have n0 := cellP hb2 0 _ rfl
  have nz := fzP hb2 0
  have HKW : Hid (Keep (fun k => k = s + 3 ∨ s + 6 ≤ k) WR W) := hk
  have HMM : Hid (MapI W mb N F) := hMW
  clear hI hk hb0 hb2 hv hu hL hMW
  cases hf : F u with
  | none =>
   have HF : Hid (F u = none) := hf
   clear hf
   gi_wp2_with (first
    | (gi_at_lookup; refine wpListIn_lookupI rfl _ _ rfl mb N F rfl HMM.out u hz64 rfl ?_; rw [HF.out])
    | (gi_at_builtin; refine wpListIn_pushI rfl _ _ rfl (s + 6) v L rfl ?a0 _ u rfl ?a1 ?a2 ?a3 ?_))
   case a0 => exact ho.alloc _
   case a1 => exact cellP (newP _) 0 _ rfl
   case a2 => omega
   case a3 => simp only [World.size_alloc]; omega
   intro v' w5 ho5a hg5
   have ho5 := own_snoc ho5a
   clear ho5a
   obtain ⟨q5, c5, rfl, _⟩ := own_rd ho5
   have hlt := objP_lt HV.out
   have h5 : ∀ k, k < W.heap.size → k < s + 6 → w5.heap[k]? = W.heap[k]? := fun k hk hk6 => (hg5.block k (by simp only [World.size_alloc]; omega) (fun e => by have := (ho.lt k e.symm).1; omega)).trans (Below.heap_alloc _ _ _ hk)
   have h53 := (h5 (s + 3) hlt (by omega)).trans HV.out
   have r0 := cellP h53 0 _ rfl
   have rz := fzP h53 0
   have H5 : Hid (∀ k, k < W.heap.size → k < s + 6 → w5.heap[k]? = W.heap[k]?) := h5
   have HG5 : Hid ((W.alloc (.cells #[.int .i64 u] 3)).grownBy w5 v.ownBlock) := hg5
   have HO5 : Hid (w5.ownsRow (s + 6) 3 1 (.slice q5 (L ++ [u]).length c5) (L ++ [u]).length ((L ++ [u]).map (Value.int .i64))) := ho5
   have H53 : Hid (w5.heap[s + 3]? = some (.cells #[v] 28 (0, 0))) := h53
   clear h5 h53 hg5 ho5
   gi_wp2
   have hgs := HG5.out.size
   simp only [World.size_alloc] at hgs
   have hkp : Keep (fun k => k = s + 3 ∨ s + 6 ≤ k) W w5 := ⟨HG5.out.os, HG5.out.tape, HG5.out.output, by omega, fun k hk hn => H5.out k hk (by omega)⟩
   have hkf : KeepsFrom WR.heap.size W w5 := ((KeepsOthers.alloc W _).trans (KeepsOthers.of_grownBy HG5.out fun j o hj ho' => by
    exact row_cells (ho.alloc (.cells #[.int .i64 u] 3)) hj ho')).from _
   refine ⟨hkf.trans ((KeepsOthers.setCell _ _ _).from _), ⟨by simp only [World.size_setCell]; omega, fun k hk => ?_⟩, ⟨(HKW.out.trans hkp fun _ _ h => h).setCell (fun _ => .inl rfl) _, ⟨_, box_set _ H53.out, ?_⟩, ?_⟩⟩
   · rw [Below.heap_setCell _ _ _ _ (by show k ≠ s + 3; omega)]
     exact H5.out k (by omega) (by omega)
   · have e : zs ((pre ++ [x]).map (· % 64)) = L ++ [u] := by rw [List.map_append, List.map_singleton, ← HL.out, HU.out]; simp [zs]
     rw [e]
     have e2 : (L ++ [u]).length = L.length + 1 := by simp
     have h6 := HO5.out
     rw [e2] at h6 ⊢
     exact ownsRow_setCell_below (a := ⟨s + 3, 0, none⟩) h6 (by show s + 3 < s + 6; omega) _
   · intro y hy
     rcases List.mem_append.1 hy with hy | hy
     · exact HI.out.none y hy
     · rw [List.mem_singleton.1 hy, ← HU.out]
       exact HF.out
  | some c =>
   have HF : Hid (F u = some c) := hf
   clear hf
   gi_wp2_with (first
    | (gi_at_lookup; refine wpListIn_lookupI rfl _ _ rfl mb N F rfl HMM.out u hz64 rfl ?_; rw [HF.out]))
   refine ⟨(KeepsOthers.setCell _ _ _).from _, rfl, (HKW.out.mono fun k _ hk => .inr hk).setCell (fun _ => .inl rfl) _, pre, x, c, rfl, HI.out.none, by rw [← HU.out]; exact HF.out, box_set _ HB2.out, v, ?_, ?_⟩
   · rw [Below.heap_setCell _ _ _ _ (by show s + 3 ≠ s + 2; omega)]
     exact HV.out
   · rw [HL.out]
     exact ownsRow_setCell_below (a := ⟨s + 2, 0, none⟩) ho (by show s + 2 < s + 6; omega) _
 case done =>
  intro D xs W hD hxs hI hD2
  have hND := hI.done (hxs ▸ HSM.out) hsR HB.out.2.2.1
  rw [hxs] at hND
  clear hI hxs
  rw [HKK.out.1, HKK.out.2] at hND
  obtain ⟨hk, hn2, v, hv, ho⟩ := hND
  have hsW := hk.size
  have hb0 : W.heap[s]? = some (.cells #[.map (some mb), .int .i64 k0] 45 (0, 0)) := (hk.block s (by omega) (by omega)).trans HB.out.1
  obtain ⟨n, hn⟩ : ∃ n, (zs GG).length = n := ⟨_, rfl⟩
  have HN : Hid ((zs GG).length = n) := hn
  obtain ⟨q0, cq, rfl, hrd⟩ := own_rd ho
  have hMW : MapI W mb N F := HM.out.same (hk.block mb (by omega) (by omega))
  have hsD := objP_lt hD2
  have hD6 : s + 6 ≤ D := by omega
  have hmbW : mb < W.heap.size := hMW.lt
  have HX : Hid (∀ X, Keep (· = mb) W X → X.heap[s]? = some (.cells #[.map (some mb), .int .i64 k0] 45 (0, 0)) ∧ X.heap[s + 2]? = some (.cells #[.int .i64 KK] 3 (0, 0)) ∧ X.heap[D]? = some (.deferred (some [])) ∧ RdI (fun _ => True) X q0 cq (zs GG)) := fun X hX => ⟨(hX.block s (by omega) (by omega)).trans hb0, (hX.block (s + 2) (by omega) (by omega)).trans hn2, (hX.block D hsD (by omega)).trans hD2, hrd.carry (fun k hk => hX.block k (ho.lt k hk).2 (by have := (ho.lt k hk).1; omega)) fun _ _ => trivial⟩
  have g0 := cellP hv 0 _ rfl
  rw [hn] at g0 hGn
  have HKE : Hid (Keep (· = mb) w W) := ⟨hk.os.trans hbR.os, hk.tape.trans hbR.tape, hk.output.trans hbR.output, by omega, fun k h1 h2 => (hk.block k (by omega) (by omega)).trans (hbR.block k (by omega))⟩
  have HMW : Hid (MapI W mb N (putAll F KK ((zs GG).take 0))) := by rw [List.take_zero, putAll_nil]; exact hMW
  clear hk hn2 hv ho hb0 hn hrd hMW hD2 hbR hF hz hr hm
  go_wp2
  clear g0
  go_loopw [35] (fun ix wr => ∃ k N', k ≤ n ∧ ix = .int .i64 (k : Int) ∧ N' ≤ N + k ∧ MapI wr mb N' (putAll F KK ((zs GG).take k)) ∧ Keep (· = mb) W wr) (fun ix _ => n - (intOf ix).toNat)
  case atStart => exact ⟨0, N, Nat.zero_le _, rfl, Nat.le_refl _, HMW.out, Keep.refl _ _⟩
  case round =>
   clear HMW
   obtain ⟨k, N', hk, rfl, hN', hM, hK'⟩ := hrel
   obtain ⟨x0, x2, xD, xr⟩ := HX.out wr hK'
   by_cases hlt : k < n
   · have hkl : k < (zs GG).length := by rw [HN.out]; exact hlt
     obtain ⟨ad, rfl, _, hc⟩ := xr.at k 0 hkl
     have hwx := HGX.out _ (getD_inm (d := 0) hkl)
     have HT : Hid (putAll F KK ((zs GG).take (k + 1)) = more (putAll F KK ((zs GG).take k)) ((zs GG).getD k 0) KK) := by show _ = _; rw [take_snoc (zs GG) k 0 hkl, putAll_snoc]
     generalize (zs GG).getD k 0 = x at *
     have hwk := HKW.out
     have m0 := cellP x0 0 _ rfl
     have n0 := cellP x2 0 _ rfl
     clear x0 x2 xD xr
     go_wp2_with (first
      | (at_mapUpdate; refine wpList_updateI rfl _ _ _ rfl mb N' _ rfl hM (by omega) x KK hwx hwk rfl rfl ?_; intro w5 hM5 hg5))
     go_roundw
     case rel => exact ⟨k + 1, N' + 1, by omega, by go_num, by omega, by rw [HT.out]; exact hM5, hK'.trans (Keep.of_grown (S := (· = mb)) hg5 fun k _ e => by cases e; rfl) fun _ _ h => h⟩
     case measure => simp [intOf]; omega
   · obtain rfl : k = n := by omega
     rw [← HN.out, List.take_length] at hM
     have n0 := cellP x2 0 _ rfl
     have HXD : Hid (wr.heap[D]? = some (.deferred (some []))) := xD
     have HMR : Hid (MapI wr mb N' (putAll F KK (zs GG))) := hM
     clear x0 x2 xD xr hM
     go_wp2
     refine leaves_mark1 rfl rfl HXD.out ⟨rfl, ⟨N', _, by omega, HMR.out.same ?_, fun x => rfl⟩, ?_⟩
     · unfold World.putObj
       simp only [Array.getElem?_setIfInBounds]
       rw [if_neg (by omega)]
     · have hke := HKE.out.trans hK' fun _ _ h => h
       have hsz := hK'.size
       refine ⟨hke.os, hke.tape, hke.output, by unfold World.putObj; simp; exact hke.size, fun k h1 h2 => ?_⟩
       rw [← hke.block k h1 h2]
       unfold World.putObj
       simp only [Array.getElem?_setIfInBounds]
       rw [if_neg (by omega)]
 case stop =>
  rintro D c pre W hD hpre ⟨rfl, hX⟩ hD2
  have hND := hX.stop (k0 := k0) hpre HSM.out
  clear hX
  refine wpIn_wide.2 ?_
  refine wp_exit ?_
  rw [HKK.out.1, HKK.out.2] at hND
  obtain ⟨hk, hn2, v, hv, ho⟩ := hND
  have hsW := hk.size
  have hb0 : W.heap[s]? = some (.cells #[.map (some mb), .int .i64 k0] 45 (0, 0)) := (hk.block s (by omega) (by omega)).trans HB.out.1
  obtain ⟨n, hn⟩ : ∃ n, (zs GG).length = n := ⟨_, rfl⟩
  have HN : Hid ((zs GG).length = n) := hn
  obtain ⟨q0, cq, rfl, hrd⟩ := own_rd ho
  have hMW : MapI W mb N F := HM.out.same (hk.block mb (by omega) (by omega))
  have hsD := objP_lt hD2
  have hD6 : s + 6 ≤ D := by omega
  have hmbW : mb < W.heap.size := hMW.lt
  have HX : Hid (∀ X, Keep (· = mb) W X → X.heap[s]? = some (.cells #[.map (some mb), .int .i64 k0] 45 (0, 0)) ∧ X.heap[s + 2]? = some (.cells #[.int .i64 KK] 3 (0, 0)) ∧ X.heap[D]? = some (.deferred (some [])) ∧ RdI (fun _ => True) X q0 cq (zs GG)) := fun X hX => ⟨(hX.block s (by omega) (by omega)).trans hb0, (hX.block (s + 2) (by omega) (by omega)).trans hn2, (hX.block D hsD (by omega)).trans hD2, hrd.carry (fun k hk => hX.block k (ho.lt k hk).2 (by have := (ho.lt k hk).1; omega)) fun _ _ => trivial⟩
  have g0 := cellP hv 0 _ rfl
  rw [hn] at g0 hGn
  have HKE : Hid (Keep (· = mb) w W) := ⟨hk.os.trans hbR.os, hk.tape.trans hbR.tape, hk.output.trans hbR.output, by omega, fun k h1 h2 => (hk.block k (by omega) (by omega)).trans (hbR.block k (by omega))⟩
  have HMW : Hid (MapI W mb N (putAll F KK ((zs GG).take 0))) := by rw [List.take_zero, putAll_nil]; exact hMW
  clear hk hn2 hv ho hb0 hn hrd hMW hD2 hbR hF hz hr hm
  go_wp2
  clear g0
  go_loopw [35] (fun ix wr => ∃ k N', k ≤ n ∧ ix = .int .i64 (k : Int) ∧ N' ≤ N + k ∧ MapI wr mb N' (putAll F KK ((zs GG).take k)) ∧ Keep (· = mb) W wr) (fun ix _ => n - (intOf ix).toNat)
  case atStart => exact ⟨0, N, Nat.zero_le _, rfl, Nat.le_refl _, HMW.out, Keep.refl _ _⟩
  case round =>
   clear HMW
   obtain ⟨k, N', hk, rfl, hN', hM, hK'⟩ := hrel
   obtain ⟨x0, x2, xD, xr⟩ := HX.out wr hK'
   by_cases hlt : k < n
   · have hkl : k < (zs GG).length := by rw [HN.out]; exact hlt
     obtain ⟨ad, rfl, _, hc⟩ := xr.at k 0 hkl
     have hwx := HGX.out _ (getD_inm (d := 0) hkl)
     have HT : Hid (putAll F KK ((zs GG).take (k + 1)) = more (putAll F KK ((zs GG).take k)) ((zs GG).getD k 0) KK) := by show _ = _; rw [take_snoc (zs GG) k 0 hkl, putAll_snoc]
     generalize (zs GG).getD k 0 = x at *
     have hwk := HKW.out
     have m0 := cellP x0 0 _ rfl
     have n0 := cellP x2 0 _ rfl
     clear x0 x2 xD xr
     go_wp2_with (first
      | (at_mapUpdate; refine wpList_updateI rfl _ _ _ rfl mb N' _ rfl hM (by omega) x KK hwx hwk rfl rfl ?_; intro w5 hM5 hg5))
     go_roundw
     case rel => exact ⟨k + 1, N' + 1, by omega, by go_num, by omega, by rw [HT.out]; exact hM5, hK'.trans (Keep.of_grown (S := (· = mb)) hg5 fun k _ e => by cases e; rfl) fun _ _ h => h⟩
     case measure => simp [intOf]; omega
   · obtain rfl : k = n := by omega
     rw [← HN.out, List.take_length] at hM
     have n0 := cellP x2 0 _ rfl
     have HXD : Hid (wr.heap[D]? = some (.deferred (some []))) := xD
     have HMR : Hid (MapI wr mb N' (putAll F KK (zs GG))) := hM
     clear x0 x2 xD xr hM
     go_wp2
     refine leaves_mark1 rfl rfl HXD.out ⟨rfl, ⟨N', _, by omega, HMR.out.same ?_, fun x => rfl⟩, ?_⟩
     · unfold World.putObj
       simp only [Array.getElem?_setIfInBounds]
       rw [if_neg (by omega)]
     · have hke := HKE.out.trans hK' fun _ _ h => h
       have hsz := hK'.size
       refine ⟨hke.os, hke.tape, hke.output, by unfold World.putObj; simp; exact hke.size, fun k h1 h2 => ?_⟩
       rw [← hke.block k h1 h2]
       unfold World.putObj
       simp only [Array.getElem?_setIfInBounds]
       rw [if_neg (by omega)]
end
end Go.Proofs.YtimhpglfolbomabGreat.Od

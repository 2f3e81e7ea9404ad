/-
  A region that draws its order: what only reads, in every world of a class that the region does not leave, may be taken first.
-/
import Derived.Orders
import Derived.Tactics2
import Derived.WalkKit
namespace Go.Proofs.Ytbjeaogblpjpeaa
open Go

section
variable {P : Program} {ops : Array Oper} {Q : Exit → Act → World → Prop} {md : Region.Mode} {C : World → Prop}

/-- Another operation's deed, with x's slot laid ahead or behind; R: what is known of the frame that is left. -/
theorem upon_late {x y : Oper} {v : Value} {a : Act} {K : Act → World → Prop} {r : Result Next} (hxy : ∀ d, x.dst = some d → y.dst ≠ some d)
    (hQ : ∀ c a w, Q (.panic c) (a.put x.dst v) w → Q (.panic c) a w) (R : Act → Prop) (hR : ∀ u, R (a.put y.dst u)) (hD : ∀ d u, R ({ a with defers := d :: a.defers }.put y.dst u))
    (h : y.upon P (a.put x.dst v) K Q r) : y.upon P a (fun a' w' => R a' ∧ K (a'.put x.dst v) w') Q r := by
  match r with
  | .ok (.value u) w' => exact ⟨hR u, (Act.put_comm a v u hxy) ▸ h⟩
  | .ok .skip w' => exact ⟨hR _, (Act.put_comm a v undef hxy) ▸ h⟩
  | .ok (.defer d) w' =>
    refine ⟨hD d _, ?_⟩
    rw [← Act.put_comm _ v undef hxy, ← Act.put_defers]
    exact h
  | .ok (.enter f args) w' =>
    refine Calls.mono h fun e w'' he => ?_
    match e with
    | .returned u => exact ⟨hR u, (Act.put_comm a v u hxy) ▸ he⟩
    | .panicked c => exact hQ _ _ _ he
    | .outgrown => exact he
  | .ok (.row row args) w' => exact Rows.mono h fun u w'' he => ⟨hR u, (Act.put_comm a v u hxy) ▸ he⟩
  | .halt (.panic u) w' => exact hQ _ _ _ h
  | .halt .blocked _ => exact h
  | .halt .waiting _ => exact h
  | .halt (.stuck _) _ => exact h
  | .halt (.unsupported _) _ => exact h

theorem wpOp_late {j : Nat} {x y : Oper} {v : Value} (hj : ops[j]? = some y) (hap : x.apart ops y = true) (hx : ∀ cs b, x.op ≠ .select cs b) (hy : ∀ cs b, y.op ≠ .select cs b)
    (hQ : ∀ c a w, Q (.panic c) (a.put x.dst v) w → Q (.panic c) a w) {K : Act → World → Prop} {a : Act} {w : World} (h : wpOp P ops Q j K (a.put x.dst v) w) :
    wpOp P ops Q j (fun a' w' => (execOp a'.eval x = execOp a.eval x ∧ Region.wanted x (yielded ops a'.tmps) = Region.wanted x (yielded ops a.tmps)) ∧ K (a'.put x.dst v) w') a w := by
  obtain ⟨h1, h2, h3⟩ := Oper.apart_spec hap
  have hR : ∀ u, execOp (a.put y.dst u).eval x = execOp a.eval x ∧ Region.wanted x (yielded ops (a.put y.dst u).tmps) = Region.wanted x (yielded ops a.tmps) :=
    fun u => ⟨execOp_put x hx a y.dst u h3, wanted_put x a y.dst u h3⟩
  have hD : ∀ (d : Deferred) u, execOp ({ a with defers := d :: a.defers }.put y.dst u : Act).eval x = execOp a.eval x ∧ Region.wanted x (yielded ops ({ a with defers := d :: a.defers }.put y.dst u : Act).tmps) = Region.wanted x (yielded ops a.tmps) :=
    fun d u => ⟨execOp_put x hx { a with defers := d :: a.defers } y.dst u h3, wanted_put x { a with defers := d :: a.defers } y.dst u h3⟩
  have e1 := wanted_put y a x.dst v h1
  have e2 := execOp_put y hy a x.dst v h1
  unfold wpOp at h ⊢
  simp only [hj] at h ⊢
  rw [e1] at h
  by_cases hw : Region.wanted y (yielded ops a.tmps) = true
  · rw [if_pos hw] at h ⊢
    rcases h with h | ⟨ha, hl⟩
    · left
      unfold Oper.wp at h ⊢
      rw [e2] at h
      exact upon_late h2 hQ (fun a' => execOp a'.eval x = execOp a.eval x ∧ Region.wanted x (yielded ops a'.tmps) = Region.wanted x (yielded ops a.tmps)) hR hD h
    · right
      unfold Oper.asks at ha ⊢
      rw [e2] at ha
      exact ⟨ha, hl⟩
  · rw [if_neg hw] at h ⊢
    exact ⟨hR _, (Act.put_comm a v undef h2) ▸ h⟩

/-- What is asked in whatever order, where each operation keeps to the class C. -/
def wpIn (P : Program) (md : Region.Mode) (ops : Array Oper) (Q : Exit → Act → World → Prop) (C : World → Prop) : Nat → Array Bool → Act → World → Prop
  | 0, listed, a, w => C w ∧ Region.ready md ops listed = [] ∧ Q .normal a w
  | n + 1, listed, a, w => C w ∧ (Region.ready md ops listed = [] → Q .normal a w) ∧ ∀ i ∈ Region.ready md ops listed, wpOp P ops Q i (wpIn P md ops Q C n (listed.setIfInBounds i true)) a w

theorem wpIn.any : ∀ {n : Nat} {listed : Array Bool} {a : Act} {w : World}, wpIn P md ops Q C n listed a w → wpAny P md ops Q n listed a w
  | 0, _, _, _, h => h.2
  | _ + 1, _, _, _, h => ⟨h.2.1, fun i hi => wpOp_mono (fun _ _ h' => wpIn.any h') (h.2.2 i hi)⟩
theorem wpIn.cls : ∀ {n : Nat} {listed : Array Bool} {a : Act} {w : World}, wpIn P md ops Q C n listed a w → C w
  | 0, _, _, _, h => h.1
  | _ + 1, _, _, _, h => h.1

/-- It yields v in every world of the class, and turns nothing; or its guard passes over it. -/
def Quiet (P : Program) (ops : Array Oper) (C : World → Prop) (o : Oper) (v : Value) (a : Act) : Prop :=
  (Region.wanted o (yielded ops a.tmps) = true ∧ ∀ w, C w → (execOp a.eval o).run P w = .ok (.value v) w) ∨ (Region.wanted o (yielded ops a.tmps) = false ∧ v = undef)

theorem Quiet.op {i : Nat} {o : Oper} {v : Value} {a : Act} (hi : ops[i]? = some o) (hy : Quiet P ops C o v a) {K : Act → World → Prop} {w : World} (hC : C w) (h : K (a.put o.dst v) w) : wpOp P ops Q i K a w := by
  unfold wpOp
  rw [hi]
  simp only
  rcases hy with ⟨hw, hv⟩ | ⟨hw, rfl⟩
  · rw [if_pos hw]
    left
    unfold Oper.wp
    rw [hv w hC]
    exact h
  · rw [if_neg (by rw [hw]; exact Bool.false_ne_true)]
    exact h

theorem wpIn_first {i : Nat} {o : Oper} {v : Value} (hi : ops[i]? = some o) (hs : Region.noSelect ops = true) (hQ : ∀ c a w, Q (.panic c) (a.put o.dst v) w → Q (.panic c) a w) :
    ∀ (n : Nat) (listed : Array Bool) (a : Act) (w : World),
      (∀ j y, ops[j]? = some y → j ≠ i → listed.getD j true = false → (∀ e ∈ y.after, Region.binds md e = true → e.on ≠ i) → o.apart ops y = true) →
      i ∈ Region.ready md ops listed → Quiet P ops C o v a → wpIn P md ops Q C n (listed.setIfInBounds i true) (a.put o.dst v) w → wpIn P md ops Q C (n + 1) listed a w := by
  intro n
  induction n with
  | zero =>
    intro listed a w _ hr hy H
    refine ⟨H.1, fun h => (by rw [h] at hr; cases hr), fun j hj => ?_⟩
    by_cases hji : j = i
    · subst hji; exact hy.op hi H.1 H
    · have h' := ready_mono hj hji
      rw [H.2.1] at h'
      cases h'
  | succ n ih =>
    intro listed a w hfree hr hy H
    refine ⟨H.1, fun h => (by rw [h] at hr; cases hr), fun j hj => ?_⟩
    by_cases hji : j = i
    · subst hji; exact hy.op hi H.1 H
    · obtain ⟨hjun, y, hoy, hall⟩ := mem_ready.1 hj
      have hnot : ∀ e ∈ y.after, Region.binds md e = true → e.on ≠ i := by
        intro e he hb heq
        have g1 := hall e he hb
        have g0 := (mem_ready.1 hr).1
        rw [heq] at g1
        by_cases hin : i < listed.size
        · simp [hin] at g0 g1
          rw [g0] at g1
          cases g1
        · simp [hin] at g1
      have h2 := wpOp_late hoy (hfree j y hoy hji hjun hnot) (fun cs b => Region.noSelect_spec hs i o cs b hi) (fun cs b => Region.noSelect_spec hs j y cs b hoy) hQ (H.2.2 j (ready_mono hj hji))
      refine wpOp_mono (fun a' w' h3 => ih (listed.setIfInBounds j true) a' w' ?_ (ready_mono hr (Ne.symm hji)) ?_ ?_) h2
      · intro k z hk hki hun hno
        refine hfree k z hk hki ?_ hno
        by_cases hjk : j = k
        · subst hjk; exact hjun
        · rw [getD_set_ne true hjk] at hun; exact hun
      · unfold Quiet at hy ⊢
        rw [h3.1.1, h3.1.2]
        exact hy
      · rw [Array.setIfInBounds_comm _ _ hji]
        exact h3.2

/-- One that only reads is taken first. -/
theorem wpIn_take {i : Nat} {o : Oper} {v : Value} {d : Option Tmp} {n : Nat} {listed : Array Bool} {a a' : Act} {w : World} (hi : ops[i]? = some o) (hd : o.dst = d)
    (hs : Region.noSelect ops = true) (hf : Region.free md ops listed i = true) (hr : (Region.ready md ops listed).contains i = true)
    (hQ : ∀ c a w, Q (.panic c) (a.put d v) w → Q (.panic c) a w) (hy : Quiet P ops C o v a) (ha : a.put d v = a')
    (h : wpIn P md ops Q C n (listed.setIfInBounds i true) a' w) : wpIn P md ops Q C (n + 1) listed a w := by
  subst hd ha
  exact wpIn_first hi hs hQ n listed a w (Region.free_spec hi hf) (by simpa using hr) hy h

/-- The only one that may come up is carried out. -/
theorem wpIn_only {i : Nat} {n : Nat} {listed : Array Bool} {a : Act} {w : World} (hC : C w) (hr : Region.ready md ops listed = [i])
    (h : wpOp P ops Q i (wpIn P md ops Q C n (listed.setIfInBounds i true)) a w) : wpIn P md ops Q C (n + 1) listed a w :=
  ⟨hC, fun h0 => (by rw [hr] at h0; cases h0), fun j hj => by rw [hr] at hj; rw [List.mem_singleton.1 hj]; exact h⟩
theorem wpIn_do {i : Nat} {o : Oper} {n : Nat} {listed : Array Bool} {a : Act} {w : World} (hC : C w) (hr : Region.ready md ops listed = [i]) (hi : ops[i]? = some o) (hw : Region.wanted o (yielded ops a.tmps) = true)
    (h : ∀ K' : Act → World → Prop, (∀ a w, wpIn P md ops Q C n (listed.setIfInBounds i true) a w → K' a w) → Oper.wp P o a w K' Q) : wpIn P md ops Q C (n + 1) listed a w := by
  refine wpIn_only hC hr ?_
  unfold wpOp
  rw [hi]
  simp only
  rw [if_pos hw]
  exact .inl (h _ fun _ _ h' => h')
theorem wpIn_done {listed : Array Bool} {a : Act} {w : World} (hC : C w) (hr : Region.ready md ops listed = []) (h : Q .normal a w) : ∀ n, wpIn P md ops Q C n listed a w
  | 0 => ⟨hC, hr, h⟩
  | _ + 1 => ⟨hC, fun _ => h, fun i hi => by rw [hr] at hi; cases hi⟩

theorem wp_region_in {id : Nat} {a : Act} {w : World} (hm : P.follows .mixedOrders = true) (C : World → Prop)
    (h : wpIn P .any ops Q C ops.size (Array.replicate ops.size false) a { w with drawn := w.drawn + 1 }) : (Code.region id ops true).wp P Q a w :=
  wp_region_any hm h.any
end
end Go.Proofs.Ytbjeaogblpjpeaa

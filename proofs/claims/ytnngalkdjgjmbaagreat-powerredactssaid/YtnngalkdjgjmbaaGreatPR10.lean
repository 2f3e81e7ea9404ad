/-
  The document's Put: the region that draws its order, state by state.
  Whether a content may be, and names: by contracts.
-/
import Derived.Test.YtnngalkdjgjmbaaGreatPR09
set_option maxRecDepth 100000
set_option maxHeartbeats 16000000
namespace Go.Proofs.YtnngalkdjgjmbaaGreat
open Go Go.RowKit Go.Maps
set_option maxRecDepth 100000
def putOps : Array Oper := #[{ dst := some 7, op := Op.buildSlice 22 0 #[], type := 22, pos := "ref.go:257", after := #[], guard := none }, { dst := some 8, op := Op.fieldAddr 25 (Operand.tmp 3) 3, type := 0, pos := "ref.go:257", after := #[], guard := none }, { dst := some 9, op := Op.load 22 (Operand.tmp 8), type := 22, pos := "ref.go:257", after := #[{ on := 1, ground := Ground.data }], guard := none }, { dst := some 10, op := Op.call { callee := Callee.builtin Builtin.append, args := #[Operand.tmp 7, Operand.tmp 9], argTypes := #[22, 22] }, type := 22, pos := "ref.go:257", after := #[{ on := 0, ground := Ground.data }, { on := 2, ground := Ground.data }], guard := none }, { dst := some 11, op := Op.move (Operand.tmp 1), type := 9, pos := "ref.go:257", after := #[], guard := none }, { dst := some 12, op := Op.buildSlice 22 1 #[(0, Operand.tmp 11)], type := 22, pos := "ref.go:257", after := #[{ on := 4, ground := Ground.data }], guard := none }, { dst := some 13, op := Op.call { callee := Callee.builtin Builtin.append, args := #[Operand.tmp 10, Operand.tmp 12], argTypes := #[22, 22] }, type := 22, pos := "ref.go:257", after := #[{ on := 3, ground := Ground.data }, { on := 5, ground := Ground.data }, { on := 3, ground := Ground.chain }], guard := none }, { dst := some 14, op := Op.buildSlice 23 0 #[], type := 23, pos := "ref.go:257", after := #[], guard := none }, { dst := some 15, op := Op.fieldAddr 25 (Operand.tmp 3) 4, type := 0, pos := "ref.go:257", after := #[], guard := none }, { dst := some 16, op := Op.load 23 (Operand.tmp 15), type := 23, pos := "ref.go:257", after := #[{ on := 8, ground := Ground.data }], guard := none }, { dst := some 17, op := Op.call { callee := Callee.builtin Builtin.append, args := #[Operand.tmp 14, Operand.tmp 16], argTypes := #[23, 23] }, type := 23, pos := "ref.go:257", after := #[{ on := 7, ground := Ground.data }, { on := 9, ground := Ground.data }, { on := 6, ground := Ground.chain }], guard := none }, { dst := some 18, op := Op.load 25 (Operand.tmp 5), type := 25, pos := "ref.go:257", after := #[], guard := none }, { dst := some 19, op := Op.buildSlice 23 1 #[(0, Operand.tmp 18)], type := 23, pos := "ref.go:257", after := #[{ on := 11, ground := Ground.data }], guard := none }, { dst := some 20, op := Op.call { callee := Callee.builtin Builtin.append, args := #[Operand.tmp 17, Operand.tmp 19], argTypes := #[23, 23] }, type := 23, pos := "ref.go:257", after := #[{ on := 10, ground := Ground.data }, { on := 12, ground := Ground.data }, { on := 10, ground := Ground.chain }], guard := none }, { dst := some 21, op := Op.build 25 #[(0, Operand.const (Value.int IntKind.i64 5)), (3, Operand.tmp 13), (4, Operand.tmp 20)], type := 25, pos := "ref.go:257", after := #[{ on := 6, ground := Ground.data }, { on := 13, ground := Ground.data }], guard := none }, { dst := none, op := Op.store 25 (Operand.tmp 6) (Operand.tmp 21), type := 0, pos := "ref.go:257", after := #[{ on := 14, ground := Ground.data }, { on := 13, ground := Ground.chain }, { on := 0, ground := Ground.phase }, { on := 1, ground := Ground.phase }, { on := 2, ground := Ground.phase }, { on := 3, ground := Ground.phase }, { on := 4, ground := Ground.phase }, { on := 5, ground := Ground.phase }, { on := 6, ground := Ground.phase }, { on := 7, ground := Ground.phase }, { on := 8, ground := Ground.phase }, { on := 9, ground := Ground.phase }, { on := 10, ground := Ground.phase }, { on := 11, ground := Ground.phase }, { on := 12, ground := Ground.phase }, { on := 13, ground := Ground.phase }, { on := 14, ground := Ground.phase }], guard := none }]
def Has (B : Nat) (w : World) (b : Nat) (cs : Array Value) (t : TypeId) : Prop := B ≤ b ∧ w.heap[b]? = some (.cells cs t (0, 0))
theorem Has.new {B : Nat} {w : World} {cs : Array Value} {t : TypeId} (h : B ≤ w.heap.size) : Has B (w.alloc (.cells cs t)) w.heap.size cs t := ⟨h, heap_alloc_new _ _⟩
theorem Has.lt {B : Nat} {w : World} {b : Nat} {cs : Array Value} {t : TypeId} (h : Has B w b cs t) : b < w.heap.size := (Array.getElem?_eq_some_iff.1 h.2).1
theorem Has.alloc {B : Nat} {w : World} {b : Nat} {cs : Array Value} {t : TypeId} (h : Has B w b cs t) (o : Obj) : Has B (w.alloc o) b cs t := ⟨h.1, (Below.heap_alloc _ _ _ h.lt).trans h.2⟩
theorem Has.cell {B : Nat} {w : World} {b : Nat} {cs : List Value} {t : TypeId} (h : Has B w b cs.toArray t) (j : Nat) (u : Value) (hj : cs[j]? = some u) : w.cell? ((⟨b, 0, none⟩ : Addr).add j) = some u := by
 have e : (⟨b, 0, none⟩ : Addr).add j = ⟨b, 0 + j, none⟩ := by unfold Addr.add; split <;> simp_all
 rw [e, Nat.zero_add]
 exact cell_row h.2 j u hj
theorem Has.own {B : Nat} {w : World} {b e size : Nat} (h : Has B w b #[] e) : w.ownsRow B e size (.slice (some ⟨b, 0, none⟩) 0 0) 0 [] := ⟨by simp, .inr ⟨b, 0, #[], rfl, h.1, h.2, Nat.le_refl _, by unfold maxLen; omega, by simp, by simp⟩⟩
theorem Has.ge {B : Nat} {w : World} {b : Nat} {cs : Array Value} {t : TypeId} (h : Has B w b cs t) : ∀ k, (Value.slice (some ⟨b, 0, none⟩) 0 0).ownBlock = some k → B ≤ k := fun k e => by
 have e' : b = k := Option.some.inj e
 rw [← e']
 exact h.1
theorem Has.kept {B : Nat} {w w' : World} {b : Nat} {cs : Array Value} {t : TypeId} {row : Option Nat} (h : Has B w b cs t) (hg : w.grownBy w' row) (hn : row ≠ some b) : Has B w' b cs t := ⟨h.1, (hg.block b h.lt fun e => hn e.symm).trans h.2⟩
theorem Has.apart {B : Nat} {w : World} {b b' : Nat} {cs cs' : Array Value} {t t' : TypeId} (h : Has B w b cs t) (h' : Has B w b' cs' t') (hne : ¬ (cs = cs' ∧ t = t')) : (Value.slice (some ⟨b, 0, none⟩) 0 0).ownBlock ≠ some b' := fun e => by
 have e' : b = b' := Option.some.inj e
 subst e'
 have := h.2.symm.trans h'.2
 simp only [Option.some.injEq, Obj.cells.injEq, and_true] at this
 exact hne this
theorem own_lt {w : World} {B e size n : Nat} {v : Value} {xs : List Value} (h : w.ownsRow B e size v n xs) : v.ownBlock ≠ some w.heap.size := fun e => Nat.lt_irrefl _ (own_ge h _ e).2
theorem own_has {w : World} {B e size n b : Nat} {v : Value} {xs : List Value} {cs : Array Value} {t : TypeId} (h : w.ownsRow B e size v n xs) (h' : Has B w b cs t) (hne : e ≠ t) : v.ownBlock ≠ some b := fun hk => by
 rcases h.2 with ⟨rfl, _⟩ | ⟨g, cap, cur, rfl, _, hg, _⟩
 · cases hk
 · have e' : g = b := Option.some.inj hk
   subst e'
   have := hg.symm.trans h'.2
   simp only [Option.some.injEq, Obj.cells.injEq, and_true] at this
   exact hne this.2
theorem own_vs_has {w : World} {B e size n b : Nat} {v : Value} {xs : List Value} {cs : Array Value} {t : TypeId} (h : w.ownsRow B e size v n xs) (h' : Has B w b cs t) (hne : e ≠ t) : ∀ k, v.ownBlock = some k → (Value.slice (some ⟨b, 0, none⟩) 0 0).ownBlock ≠ some k := fun k hk e => by
 have e' : b = k := Option.some.inj e
 exact own_has h h' hne (by rw [e']; exact hk)
theorem own_vs_own {w : World} {B e size n e2 size2 n2 : Nat} {v v2 : Value} {xs xs2 : List Value} (h : w.ownsRow B e size v n xs) (h' : w.ownsRow B e2 size2 v2 n2 xs2) (hne : e ≠ e2) : ∀ k, v.ownBlock = some k → v2.ownBlock ≠ some k := fun k hk hk2 => by
 rcases h'.2 with ⟨rfl, _⟩ | ⟨g, cap, cur, rfl, hB, hg, _⟩
 · cases hk2
 · have e' : g = k := Option.some.inj hk2
   exact own_has h (⟨hB, hg⟩ : Has B w g cur e2) hne (by rw [e']; exact hk)
theorem own_kept {w w' : World} {B e size n : Nat} {v : Value} {xs : List Value} {row : Option Nat} (h : w.ownsRow B e size v n xs) (hg : w.grownBy w' row) (hn : ∀ k, v.ownBlock = some k → row ≠ some k) : w'.ownsRow B e size v n xs :=
 own_keep h (Keep.of_grown (S := fun k => row = some k) hg fun _ _ e => e) hn
theorem own_new {w : World} {v v' : Value} {b : Nat} (hat : v'.ownBlock = v.ownBlock ∨ v'.ownBlock = some w.heap.size) (h : v.ownBlock ≠ some b) (hlt : b < w.heap.size) : v'.ownBlock ≠ some b := fun e => by
 rcases hat with h1 | h1
 · exact h (h1.symm.trans e)
 · have := Option.some.inj (h1.symm.trans e)
   omega
theorem below_grown {W0 w w' : World} {row : Option Nat} (hb : Below W0.heap.size W0 w) (hg : w.grownBy w' row) (h : ∀ k, row = some k → W0.heap.size ≤ k) : Below W0.heap.size W0 w' :=
 hb.trans ((Keep.of_grown (S := fun k => row = some k) hg fun _ _ e => e).below hb.size fun k hk e => by have := h k e; omega)
inductive EachOf (P : Program) (md : Region.Mode) (ops : Array Oper) (Q : Exit → Act → World → Prop) (C : World → Prop) (n : Nat) (listed : Array Bool) (a : Act) (w : World) : List Nat → Prop
 | nil : EachOf P md ops Q C n listed a w []
 | cons {i : Nat} {r : List Nat} (o : Oper) (hi : ops[i]? = some o) (hw : Region.wanted o (yielded ops a.tmps) = true) (h : ∀ K' : Act → World → Prop, (∀ a w, wpIn P md ops Q C n (listed.setIfInBounds i true) a w → K' a w) → Oper.wp P o a w K' Q) (hr : EachOf P md ops Q C n listed a w r) : EachOf P md ops Q C n listed a w (i :: r)
theorem wpIn_each {P : Program} {md : Region.Mode} {ops : Array Oper} {Q : Exit → Act → World → Prop} {C : World → Prop} {n : Nat} {listed : Array Bool} {a : Act} {w : World} (l : List Nat) (hC : C w) (hr : Region.ready md ops listed = l) (hl : l ≠ []) (h : EachOf P md ops Q C n listed a w l) : wpIn P md ops Q C (n + 1) listed a w := by
 refine ⟨hC, fun h0 => absurd (hr.symm.trans h0) hl, fun m hm => ?_⟩
 rw [hr] at hm
 clear hr hl
 induction h with
 | nil => cases hm
 | cons o hi hw h _ ih =>
  rcases List.mem_cons.1 hm with rfl | hm
  · unfold wpOp
    rw [hi]
    simp only
    rw [if_pos hw]
    exact .inl (h _ fun _ _ h' => h')
  · exact ih hm
theorem wp_append_src {w : World} {o : Oper} {a : Act} {K : Act → World → Prop} {Q : Exit → Act → World → Prop} (s x : Operand) (t : TypeId)
    (ho : o.op = .call { callee := .builtin .append, args := #[s, x], argTypes := #[t, t] })
    (base : Nat) (e : TypeId) (z : Value) (size bytes : Nat) (ht : Tryz.prog.underlying t = some (.slice e)) (hinfo : (Tryz.prog.info? e).map (fun i => (i.zero, i.size, i.bytes)) = some (some z, size, bytes))
    (hzs : z.cells.size = size) (hsz : 0 < size) (hby : bytes ≤ 100)
    (v : Value) (n : Nat) (xs : List Value) (hs : a.eval s = v) (hown : w.ownsRow base e size v n xs)
    (p : Option Addr) (m c : Nat) (news : List Value) (hx : a.eval x = .slice p m c) (hl : news.length = m * size) (hp : p = none → m = 0 ∧ c = 0) (hnews : ∀ ad, p = some ad → ∀ j u, news[j]? = some u → w.cell? (ad.add j) = some u) (h1 : ∀ u ∈ news, u.oneCell' = true)
    (hn : n + m ≤ 1000000) (hbase : base ≤ w.heap.size)
    (h : ∀ v' w', w'.ownsRow base e size v' (n + m) (xs ++ news) → w.grownBy w' v.ownBlock → (v'.ownBlock = v.ownBlock ∨ v'.ownBlock = some w.heap.size) → K (a.put o.dst v') w') : o.wp Tryz.prog a w K Q := by
 obtain ⟨i0, hi, hz0, hz1, hz2⟩ := info_parts hinfo
 cases p with
 | none =>
  obtain ⟨rfl, rfl⟩ := hp rfl
  have hr := run_append_owned_none (P := Tryz.prog) (w := w) base t o.type e i0 size ht hi v n xs hown
  obtain rfl : news = [] := List.eq_nil_of_length_eq_zero (by rw [hl]; simp)
  have h2 := h v w (by rw [List.append_nil]; exact hown) (World.grownBy.refl w _) (.inl rfl)
  unfold Oper.wp execOp
  simp only [ho, resolve, invoke, builtin, Sem.run_bind, Sem.run_pure, Result.andThen_ok, List.map_toArray, List.map_cons, List.map_nil, hs, hx, hr]
  exact h2
 | some ad =>
  have hbb : (n + m) * bytes ≤ 140737488355328 := by
   have : (n + m) * bytes ≤ (n + m) * 100 := Nat.mul_le_mul_left _ hby
   omega
  obtain ⟨v', w', hr, h2, h3, h4, h5⟩ := run_append_own_at (P := Tryz.prog) w base t o.type e i0 z size bytes ht hi hz0 hz1 hz2 hzs hsz v n xs hown ad m c news hl (hnews ad rfl) h1 (by unfold maxLen; omega) hbb hbase
  unfold Oper.wp execOp
  simp only [ho, resolve, invoke, builtin, Sem.run_bind, Sem.run_pure, Result.andThen_ok, List.map_toArray, List.map_cons, List.map_nil, hs, hx, hr]
  exact h v' w' h2 h3 h5
theorem wp_b0 {w : World} {o : Oper} {a : Act} {K : Act → World → Prop} {Q : Exit → Act → World → Prop} (ho : o.op = .buildSlice 22 0 #[]) (h : K (a.put o.dst (.slice (some ⟨w.heap.size, 0, none⟩) 0 0)) (w.alloc (.cells #[] 9))) : o.wp Tryz.prog a w K Q := by
 obtain ⟨d, op, ty, ps, af, gd⟩ := o
 simp only at ho
 subst ho
 go_simp
 exact h
theorem wp_b5 {w : World} {o : Oper} {a : Act} {K : Act → World → Prop} {Q : Exit → Act → World → Prop} {key : ByteArray} (ho : o.op = .buildSlice 22 1 #[(0, .tmp 11)]) (hx : a.eval (.tmp 11) = .string key) (h : K (a.put o.dst (.slice (some ⟨w.heap.size, 0, none⟩) 1 1)) (w.alloc (.cells #[.string key] 9))) : o.wp Tryz.prog a w K Q := by
 obtain ⟨d, op, ty, ps, af, gd⟩ := o
 simp only at ho
 subst ho
 have hx' : a.tmps[11]?.getD undef = .string key := by rw [← hx]; simp [Act.eval]
 unfold Oper.wp execOp
 simp [go_sem, hx']
 exact h
theorem wp_b7 {w : World} {o : Oper} {a : Act} {K : Act → World → Prop} {Q : Exit → Act → World → Prop} (ho : o.op = .buildSlice 23 0 #[]) (h : K (a.put o.dst (.slice (some ⟨w.heap.size, 0, none⟩) 0 0)) (w.alloc (.cells #[] 25))) : o.wp Tryz.prog a w K Q := by
 obtain ⟨d, op, ty, ps, af, gd⟩ := o
 simp only at ho
 subst ho
 go_simp
 exact h
theorem wp_b12 {w : World} {o : Oper} {a : Act} {K : Act → World → Prop} {Q : Exit → Act → World → Prop} {v0 v1 v2 v3 v4 : Value} (ho : o.op = .buildSlice 23 1 #[(0, .tmp 18)]) (hx : a.eval (.tmp 18) = .agg #[v0, v1, v2, v3, v4]) (h : K (a.put o.dst (.slice (some ⟨w.heap.size, 0, none⟩) 1 1)) (w.alloc (.cells #[v0, v1, v2, v3, v4] 25))) : o.wp Tryz.prog a w K Q := by
 obtain ⟨d, op, ty, ps, af, gd⟩ := o
 simp only at ho
 subst ho
 have hx' : a.tmps[18]?.getD undef = .agg #[v0, v1, v2, v3, v4] := by rw [← hx]; simp [Act.eval]
 unfold Oper.wp execOp
 simp [go_sem, hx']
 exact h
theorem strs_one (ks : List ByteArray) : ∀ u ∈ ks.map Value.string, u.oneCell' = true := by
 intro u hu
 obtain ⟨x, _, rfl⟩ := List.mem_map.1 hu
 rfl
abbrev zVJ : Value := .agg #[.int .i64 0, .int .i64 0, .string ⟨#[]⟩, .slice none 0 0, .slice none 0 0]
structure PutC (W0 : World) (r : Nat) (key : ByteArray) (ks : List ByteArray) (pk pl : Option Addr) (nk ck nl cl : Nat) (xs : List Value) (v0 v1 v2 v3 v4 : Value) : Prop where
 rle : r ≤ W0.heap.size
 len : ks.length = nk
 lenx : xs.length = nl * 5
 nk5 : nk ≤ 100000
 nl5 : nl ≤ 100000
 kp : pk = none → nk = 0 ∧ ck = 0
 lp : pl = none → nl = 0 ∧ cl = 0
 kc : ∀ ad, pk = some ad → ∀ (j : Nat) u, (ks.map Value.string)[j]? = some u → (ad.add j).block < W0.heap.size ∧ W0.cell? (ad.add j) = some u
 lc : ∀ ad, pl = some ad → ∀ (j : Nat) u, xs[j]? = some u → (ad.add j).block < W0.heap.size ∧ W0.cell? (ad.add j) = some u
 onex : ∀ u ∈ xs, u.oneCell' = true
 onev : ∀ u ∈ [v0, v1, v2, v3, v4], u.oneCell' = true
def PutF (Q : Exit → Act → World → Prop) (W0 : World) (t0 t1 t2 t3 t5 t8 t15 : Value) (r : Nat) (key : ByteArray) (ks : List ByteArray) (pk pl : Option Addr) (nk ck nl cl : Nat) (xs : List Value) (v0 v1 v2 v3 v4 : Value) : Prop :=
 ∀ (w : World), Below W0.heap.size W0 w → ∀ (x7 : Value) (x10 : Value) (x12 : Value) (q13 : Option Addr) (c13 : Nat) (_o13 : w.ownsRow W0.heap.size 9 1 (.slice q13 (nk + 1) c13) (nk + 1) (ks.map Value.string ++ [.string key])) (x14 : Value) (x17 : Value) (x19 : Value) (q20 : Option Addr) (c20 : Nat) (_o20 : w.ownsRow W0.heap.size 25 5 (.slice q20 (nl + 1) c20) (nl + 1) (xs ++ [v0, v1, v2, v3, v4])), wpIn Tryz.prog .any putOps Q (fun w' => Below r W0 w') 2 #[true, true, true, true, true, true, true, true, true, true, true, true, true, true, false, false] ⟨#[t0, t1, t2, t3, undef, t5, .pointer (some ⟨r, 0, none⟩), x7, t8, .slice pk nk ck, x10, .string key, x12, .slice q13 (nk + 1) c13, x14, t15, .slice pl nl cl, x17, .agg #[v0, v1, v2, v3, v4], x19, .slice q20 (nl + 1) c20, undef], []⟩ w
section
variable {Q : Exit → Act → World → Prop} {W0 : World} {t0 t1 t2 t3 t5 t8 t15 : Value} {r : Nat} {key : ByteArray} {ks : List ByteArray} {pk pl : Option Addr} {nk ck nl cl : Nat} {xs : List Value} {v0 v1 v2 v3 v4 : Value}
theorem pst_4_057c (hF : PutF Q W0 t0 t1 t2 t3 t5 t8 t15 r key ks pk pl nk ck nl cl xs v0 v1 v2 v3 v4) (_hP : PutC W0 r key ks pk pl nk ck nl cl xs v0 v1 v2 v3 v4) (w : World) (hb : Below W0.heap.size W0 w) (x7 : Value) (x10 : Value) (x12 : Value) (q13 : Option Addr) (c13 : Nat) (o13 : w.ownsRow W0.heap.size 9 1 (.slice q13 (nk + 1) c13) (nk + 1) (ks.map Value.string ++ [.string key])) (x14 : Value) (x17 : Value) (x19 : Value) (q20 : Option Addr) (c20 : Nat) (o20 : w.ownsRow W0.heap.size 25 5 (.slice q20 (nl + 1) c20) (nl + 1) (xs ++ [v0, v1, v2, v3, v4])) : wpIn Tryz.prog .any putOps Q (fun w' => Below r W0 w') 2 #[true, true, true, true, true, true, true, true, true, true, true, true, true, true, false, false] ⟨#[t0, t1, t2, t3, undef, t5, .pointer (some ⟨r, 0, none⟩), x7, t8, .slice pk nk ck, x10, .string key, x12, .slice q13 (nk + 1) c13, x14, t15, .slice pl nl cl, x17, .agg #[v0, v1, v2, v3, v4], x19, .slice q20 (nl + 1) c20, undef], []⟩ w := hF w hb x7 x10 x12 q13 c13 o13 x14 x17 x19 q20 c20 o20
theorem pst_3_057c (hF : PutF Q W0 t0 t1 t2 t3 t5 t8 t15 r key ks pk pl nk ck nl cl xs v0 v1 v2 v3 v4) (hP : PutC W0 r key ks pk pl nk ck nl cl xs v0 v1 v2 v3 v4) (w : World) (hb : Below W0.heap.size W0 w) (x7 : Value) (x10 : Value) (x12 : Value) (q13 : Option Addr) (c13 : Nat) (o13 : w.ownsRow W0.heap.size 9 1 (.slice q13 (nk + 1) c13) (nk + 1) (ks.map Value.string ++ [.string key])) (x14 : Value) (q17 : Option Addr) (c17 : Nat) (o17 : w.ownsRow W0.heap.size 25 5 (.slice q17 nl c17) nl xs) (b19 : Nat) (h19 : Has W0.heap.size w b19 #[v0, v1, v2, v3, v4] 25) (_n19 : (Value.slice q17 nl c17).ownBlock ≠ some b19) : wpIn Tryz.prog .any putOps Q (fun w' => Below r W0 w') 3 #[true, true, true, true, true, true, true, true, true, true, true, true, true, false, false, false] ⟨#[t0, t1, t2, t3, undef, t5, .pointer (some ⟨r, 0, none⟩), x7, t8, .slice pk nk ck, x10, .string key, x12, .slice q13 (nk + 1) c13, x14, t15, .slice pl nl cl, .slice q17 nl c17, .agg #[v0, v1, v2, v3, v4], .slice (some ⟨b19, 0, none⟩) 1 1, undef, undef], []⟩ w := by
 refine wpIn_each [13] (hb.mono hP.rle) (by kernel_rfl) (by decide) ?_
 refine .cons _ rfl (by rfl) (fun K hK => ?_) (.nil)
 · refine wp_append_src (.tmp 17) (.tmp 19) 23 rfl W0.heap.size 25 zVJ 5 80 Tryz.underlying23 Tryz.info25 rfl (by decide) (by decide) _ nl xs rfl o17 (some ⟨b19, 0, none⟩) 1 1 [v0, v1, v2, v3, v4] rfl rfl (fun h => by cases h) (fun ad e j u h => by cases e; exact h19.cell j u h) hP.onev (by have := hP.nl5; omega) hb.size ?_
   intro v' w' hown hg hat
   refine hK _ _ ?_
   obtain ⟨q, c, rfl⟩ := own_sl hown
   exact pst_4_057c hF hP _ (below_grown hb hg (own_base o17)) _ _ _ _ _ (own_kept o13 hg (own_vs_own o13 o17 (by decide))) _ _ _ _ _ hown
theorem pst_2_057c (hF : PutF Q W0 t0 t1 t2 t3 t5 t8 t15 r key ks pk pl nk ck nl cl xs v0 v1 v2 v3 v4) (hP : PutC W0 r key ks pk pl nk ck nl cl xs v0 v1 v2 v3 v4) (w : World) (hb : Below W0.heap.size W0 w) (x7 : Value) (x10 : Value) (x12 : Value) (q13 : Option Addr) (c13 : Nat) (o13 : w.ownsRow W0.heap.size 9 1 (.slice q13 (nk + 1) c13) (nk + 1) (ks.map Value.string ++ [.string key])) (b14 : Nat) (h14 : Has W0.heap.size w b14 #[] 25) (b19 : Nat) (h19 : Has W0.heap.size w b19 #[v0, v1, v2, v3, v4] 25) : wpIn Tryz.prog .any putOps Q (fun w' => Below r W0 w') 4 #[true, true, true, true, true, true, true, true, true, true, false, true, true, false, false, false] ⟨#[t0, t1, t2, t3, undef, t5, .pointer (some ⟨r, 0, none⟩), x7, t8, .slice pk nk ck, x10, .string key, x12, .slice q13 (nk + 1) c13, .slice (some ⟨b14, 0, none⟩) 0 0, t15, .slice pl nl cl, undef, .agg #[v0, v1, v2, v3, v4], .slice (some ⟨b19, 0, none⟩) 1 1, undef, undef], []⟩ w := by
 refine wpIn_each [10] (hb.mono hP.rle) (by kernel_rfl) (by decide) ?_
 refine .cons _ rfl (by rfl) (fun K hK => ?_) (.nil)
 · refine wp_append_src (.tmp 14) (.tmp 16) 23 rfl W0.heap.size 25 zVJ 5 80 Tryz.underlying23 Tryz.info25 rfl (by decide) (by decide) _ 0 [] rfl h14.own pl nl cl xs rfl hP.lenx hP.lp (fun ad e j u h => (hb.cell (hP.lc ad e j u h).1).trans (hP.lc ad e j u h).2) hP.onex (by have := hP.nl5; omega) hb.size ?_
   intro v' w' hown hg hat
   refine hK _ _ ?_
   rw [Nat.zero_add, List.nil_append] at hown
   obtain ⟨q, c, rfl⟩ := own_sl hown
   exact pst_3_057c hF hP _ (below_grown hb hg h14.ge) _ _ _ _ _ (own_kept o13 hg (own_vs_has o13 h14 (by decide))) _ _ _ hown _ (h19.kept hg (Has.apart h14 h19 (by simp))) (own_new hat (Has.apart h14 h19 (by simp)) h19.lt)
theorem pst_3_057 (hF : PutF Q W0 t0 t1 t2 t3 t5 t8 t15 r key ks pk pl nk ck nl cl xs v0 v1 v2 v3 v4) (hP : PutC W0 r key ks pk pl nk ck nl cl xs v0 v1 v2 v3 v4) (w : World) (hb : Below W0.heap.size W0 w) (x7 : Value) (x10 : Value) (x12 : Value) (q13 : Option Addr) (c13 : Nat) (o13 : w.ownsRow W0.heap.size 9 1 (.slice q13 (nk + 1) c13) (nk + 1) (ks.map Value.string ++ [.string key])) (x14 : Value) (q17 : Option Addr) (c17 : Nat) (o17 : w.ownsRow W0.heap.size 25 5 (.slice q17 nl c17) nl xs) : wpIn Tryz.prog .any putOps Q (fun w' => Below r W0 w') 4 #[true, true, true, true, true, true, true, true, true, true, true, true, false, false, false, false] ⟨#[t0, t1, t2, t3, undef, t5, .pointer (some ⟨r, 0, none⟩), x7, t8, .slice pk nk ck, x10, .string key, x12, .slice q13 (nk + 1) c13, x14, t15, .slice pl nl cl, .slice q17 nl c17, .agg #[v0, v1, v2, v3, v4], undef, undef, undef], []⟩ w := by
 refine wpIn_each [12] (hb.mono hP.rle) (by kernel_rfl) (by decide) ?_
 refine .cons _ rfl (by rfl) (fun K hK => ?_) (.nil)
 · refine wp_b12 rfl rfl (hK _ _ ?_)
   exact pst_3_057c hF hP _ (hb.alloc hb.size _) _ _ _ _ _ (o13.alloc _) _ _ _ (o17.alloc _) _ (Has.new (hb.size)) (own_lt o17)
theorem pst_1_057c (hF : PutF Q W0 t0 t1 t2 t3 t5 t8 t15 r key ks pk pl nk ck nl cl xs v0 v1 v2 v3 v4) (hP : PutC W0 r key ks pk pl nk ck nl cl xs v0 v1 v2 v3 v4) (w : World) (hb : Below W0.heap.size W0 w) (x7 : Value) (q10 : Option Addr) (c10 : Nat) (o10 : w.ownsRow W0.heap.size 9 1 (.slice q10 nk c10) nk (ks.map Value.string)) (b12 : Nat) (h12 : Has W0.heap.size w b12 #[.string key] 9) (_n12 : (Value.slice q10 nk c10).ownBlock ≠ some b12) (b14 : Nat) (h14 : Has W0.heap.size w b14 #[] 25) (b19 : Nat) (h19 : Has W0.heap.size w b19 #[v0, v1, v2, v3, v4] 25) : wpIn Tryz.prog .any putOps Q (fun w' => Below r W0 w') 5 #[true, true, true, true, true, true, false, true, true, true, false, true, true, false, false, false] ⟨#[t0, t1, t2, t3, undef, t5, .pointer (some ⟨r, 0, none⟩), x7, t8, .slice pk nk ck, .slice q10 nk c10, .string key, .slice (some ⟨b12, 0, none⟩) 1 1, undef, .slice (some ⟨b14, 0, none⟩) 0 0, t15, .slice pl nl cl, undef, .agg #[v0, v1, v2, v3, v4], .slice (some ⟨b19, 0, none⟩) 1 1, undef, undef], []⟩ w := by
 refine wpIn_each [6] (hb.mono hP.rle) (by kernel_rfl) (by decide) ?_
 refine .cons _ rfl (by rfl) (fun K hK => ?_) (.nil)
 · refine wp_append_src (.tmp 10) (.tmp 12) 22 rfl W0.heap.size 9 (.string ⟨#[]⟩) 1 16 Tryz.underlying22 Tryz.info9 rfl (by decide) (by decide) _ nk (ks.map Value.string) rfl o10 (some ⟨b12, 0, none⟩) 1 1 [.string key] rfl rfl (fun h => by cases h) (fun ad e j u h => by cases e; exact h12.cell j u h) (str_one key) (by have := hP.nk5; omega) hb.size ?_
   intro v' w' hown hg hat
   refine hK _ _ ?_
   obtain ⟨q, c, rfl⟩ := own_sl hown
   exact pst_2_057c hF hP _ (below_grown hb hg (own_base o10)) _ _ _ _ _ hown _ (h14.kept hg (own_has o10 h14 (by decide))) _ (h19.kept hg (own_has o10 h19 (by decide)))
theorem pst_2_05c (hF : PutF Q W0 t0 t1 t2 t3 t5 t8 t15 r key ks pk pl nk ck nl cl xs v0 v1 v2 v3 v4) (hP : PutC W0 r key ks pk pl nk ck nl cl xs v0 v1 v2 v3 v4) (w : World) (hb : Below W0.heap.size W0 w) (x7 : Value) (x10 : Value) (x12 : Value) (q13 : Option Addr) (c13 : Nat) (o13 : w.ownsRow W0.heap.size 9 1 (.slice q13 (nk + 1) c13) (nk + 1) (ks.map Value.string ++ [.string key])) (b19 : Nat) (h19 : Has W0.heap.size w b19 #[v0, v1, v2, v3, v4] 25) : wpIn Tryz.prog .any putOps Q (fun w' => Below r W0 w') 5 #[true, true, true, true, true, true, true, false, true, true, false, true, true, false, false, false] ⟨#[t0, t1, t2, t3, undef, t5, .pointer (some ⟨r, 0, none⟩), x7, t8, .slice pk nk ck, x10, .string key, x12, .slice q13 (nk + 1) c13, undef, t15, .slice pl nl cl, undef, .agg #[v0, v1, v2, v3, v4], .slice (some ⟨b19, 0, none⟩) 1 1, undef, undef], []⟩ w := by
 refine wpIn_each [7] (hb.mono hP.rle) (by kernel_rfl) (by decide) ?_
 refine .cons _ rfl (by rfl) (fun K hK => ?_) (.nil)
 · refine wp_b7 rfl (hK _ _ ?_)
   exact pst_2_057c hF hP _ (hb.alloc hb.size _) _ _ _ _ _ (o13.alloc _) _ (Has.new (hb.size)) _ (h19.alloc _)
theorem pst_2_057 (hF : PutF Q W0 t0 t1 t2 t3 t5 t8 t15 r key ks pk pl nk ck nl cl xs v0 v1 v2 v3 v4) (hP : PutC W0 r key ks pk pl nk ck nl cl xs v0 v1 v2 v3 v4) (w : World) (hb : Below W0.heap.size W0 w) (x7 : Value) (x10 : Value) (x12 : Value) (q13 : Option Addr) (c13 : Nat) (o13 : w.ownsRow W0.heap.size 9 1 (.slice q13 (nk + 1) c13) (nk + 1) (ks.map Value.string ++ [.string key])) (b14 : Nat) (h14 : Has W0.heap.size w b14 #[] 25) : wpIn Tryz.prog .any putOps Q (fun w' => Below r W0 w') 5 #[true, true, true, true, true, true, true, true, true, true, false, true, false, false, false, false] ⟨#[t0, t1, t2, t3, undef, t5, .pointer (some ⟨r, 0, none⟩), x7, t8, .slice pk nk ck, x10, .string key, x12, .slice q13 (nk + 1) c13, .slice (some ⟨b14, 0, none⟩) 0 0, t15, .slice pl nl cl, undef, .agg #[v0, v1, v2, v3, v4], undef, undef, undef], []⟩ w := by
 refine wpIn_each [10, 12] (hb.mono hP.rle) (by kernel_rfl) (by decide) ?_
 refine .cons _ rfl (by rfl) (fun K hK => ?_) (.cons _ rfl (by rfl) (fun K hK => ?_) (.nil))
 · refine wp_append_src (.tmp 14) (.tmp 16) 23 rfl W0.heap.size 25 zVJ 5 80 Tryz.underlying23 Tryz.info25 rfl (by decide) (by decide) _ 0 [] rfl h14.own pl nl cl xs rfl hP.lenx hP.lp (fun ad e j u h => (hb.cell (hP.lc ad e j u h).1).trans (hP.lc ad e j u h).2) hP.onex (by have := hP.nl5; omega) hb.size ?_
   intro v' w' hown hg hat
   refine hK _ _ ?_
   rw [Nat.zero_add, List.nil_append] at hown
   obtain ⟨q, c, rfl⟩ := own_sl hown
   exact pst_3_057 hF hP _ (below_grown hb hg h14.ge) _ _ _ _ _ (own_kept o13 hg (own_vs_has o13 h14 (by decide))) _ _ _ hown
 · refine wp_b12 rfl rfl (hK _ _ ?_)
   exact pst_2_057c hF hP _ (hb.alloc hb.size _) _ _ _ _ _ (o13.alloc _) _ (h14.alloc _) _ (Has.new (hb.size))
theorem pst_0_057c (hF : PutF Q W0 t0 t1 t2 t3 t5 t8 t15 r key ks pk pl nk ck nl cl xs v0 v1 v2 v3 v4) (hP : PutC W0 r key ks pk pl nk ck nl cl xs v0 v1 v2 v3 v4) (w : World) (hb : Below W0.heap.size W0 w) (b7 : Nat) (h7 : Has W0.heap.size w b7 #[] 9) (b12 : Nat) (h12 : Has W0.heap.size w b12 #[.string key] 9) (b14 : Nat) (h14 : Has W0.heap.size w b14 #[] 25) (b19 : Nat) (h19 : Has W0.heap.size w b19 #[v0, v1, v2, v3, v4] 25) : wpIn Tryz.prog .any putOps Q (fun w' => Below r W0 w') 6 #[true, true, true, false, true, true, false, true, true, true, false, true, true, false, false, false] ⟨#[t0, t1, t2, t3, undef, t5, .pointer (some ⟨r, 0, none⟩), .slice (some ⟨b7, 0, none⟩) 0 0, t8, .slice pk nk ck, undef, .string key, .slice (some ⟨b12, 0, none⟩) 1 1, undef, .slice (some ⟨b14, 0, none⟩) 0 0, t15, .slice pl nl cl, undef, .agg #[v0, v1, v2, v3, v4], .slice (some ⟨b19, 0, none⟩) 1 1, undef, undef], []⟩ w := by
 refine wpIn_each [3] (hb.mono hP.rle) (by kernel_rfl) (by decide) ?_
 refine .cons _ rfl (by rfl) (fun K hK => ?_) (.nil)
 · refine wp_append_src (.tmp 7) (.tmp 9) 22 rfl W0.heap.size 9 (.string ⟨#[]⟩) 1 16 Tryz.underlying22 Tryz.info9 rfl (by decide) (by decide) _ 0 [] rfl h7.own pk nk ck (ks.map Value.string) rfl (by simp [hP.len]) hP.kp (fun ad e j u h => (hb.cell (hP.kc ad e j u h).1).trans (hP.kc ad e j u h).2) (strs_one ks) (by have := hP.nk5; omega) hb.size ?_
   intro v' w' hown hg hat
   refine hK _ _ ?_
   rw [Nat.zero_add, List.nil_append] at hown
   obtain ⟨q, c, rfl⟩ := own_sl hown
   exact pst_1_057c hF hP _ (below_grown hb hg h7.ge) _ _ _ hown _ (h12.kept hg (Has.apart h7 h12 (by simp))) (own_new hat (Has.apart h7 h12 (by simp)) h12.lt) _ (h14.kept hg (Has.apart h7 h14 (by simp))) _ (h19.kept hg (Has.apart h7 h19 (by simp)))
theorem pst_1_07c (hF : PutF Q W0 t0 t1 t2 t3 t5 t8 t15 r key ks pk pl nk ck nl cl xs v0 v1 v2 v3 v4) (hP : PutC W0 r key ks pk pl nk ck nl cl xs v0 v1 v2 v3 v4) (w : World) (hb : Below W0.heap.size W0 w) (x7 : Value) (q10 : Option Addr) (c10 : Nat) (o10 : w.ownsRow W0.heap.size 9 1 (.slice q10 nk c10) nk (ks.map Value.string)) (b14 : Nat) (h14 : Has W0.heap.size w b14 #[] 25) (b19 : Nat) (h19 : Has W0.heap.size w b19 #[v0, v1, v2, v3, v4] 25) : wpIn Tryz.prog .any putOps Q (fun w' => Below r W0 w') 6 #[true, true, true, true, true, false, false, true, true, true, false, true, true, false, false, false] ⟨#[t0, t1, t2, t3, undef, t5, .pointer (some ⟨r, 0, none⟩), x7, t8, .slice pk nk ck, .slice q10 nk c10, .string key, undef, undef, .slice (some ⟨b14, 0, none⟩) 0 0, t15, .slice pl nl cl, undef, .agg #[v0, v1, v2, v3, v4], .slice (some ⟨b19, 0, none⟩) 1 1, undef, undef], []⟩ w := by
 refine wpIn_each [5] (hb.mono hP.rle) (by kernel_rfl) (by decide) ?_
 refine .cons _ rfl (by rfl) (fun K hK => ?_) (.nil)
 · refine wp_b5 rfl rfl (hK _ _ ?_)
   exact pst_1_057c hF hP _ (hb.alloc hb.size _) _ _ _ (o10.alloc _) _ (Has.new (hb.size)) (own_lt o10) _ (h14.alloc _) _ (h19.alloc _)
theorem pst_1_05c (hF : PutF Q W0 t0 t1 t2 t3 t5 t8 t15 r key ks pk pl nk ck nl cl xs v0 v1 v2 v3 v4) (hP : PutC W0 r key ks pk pl nk ck nl cl xs v0 v1 v2 v3 v4) (w : World) (hb : Below W0.heap.size W0 w) (x7 : Value) (q10 : Option Addr) (c10 : Nat) (o10 : w.ownsRow W0.heap.size 9 1 (.slice q10 nk c10) nk (ks.map Value.string)) (b12 : Nat) (h12 : Has W0.heap.size w b12 #[.string key] 9) (n12 : (Value.slice q10 nk c10).ownBlock ≠ some b12) (b19 : Nat) (h19 : Has W0.heap.size w b19 #[v0, v1, v2, v3, v4] 25) : wpIn Tryz.prog .any putOps Q (fun w' => Below r W0 w') 6 #[true, true, true, true, true, true, false, false, true, true, false, true, true, false, false, false] ⟨#[t0, t1, t2, t3, undef, t5, .pointer (some ⟨r, 0, none⟩), x7, t8, .slice pk nk ck, .slice q10 nk c10, .string key, .slice (some ⟨b12, 0, none⟩) 1 1, undef, undef, t15, .slice pl nl cl, undef, .agg #[v0, v1, v2, v3, v4], .slice (some ⟨b19, 0, none⟩) 1 1, undef, undef], []⟩ w := by
 refine wpIn_each [6, 7] (hb.mono hP.rle) (by kernel_rfl) (by decide) ?_
 refine .cons _ rfl (by rfl) (fun K hK => ?_) (.cons _ rfl (by rfl) (fun K hK => ?_) (.nil))
 · refine wp_append_src (.tmp 10) (.tmp 12) 22 rfl W0.heap.size 9 (.string ⟨#[]⟩) 1 16 Tryz.underlying22 Tryz.info9 rfl (by decide) (by decide) _ nk (ks.map Value.string) rfl o10 (some ⟨b12, 0, none⟩) 1 1 [.string key] rfl rfl (fun h => by cases h) (fun ad e j u h => by cases e; exact h12.cell j u h) (str_one key) (by have := hP.nk5; omega) hb.size ?_
   intro v' w' hown hg hat
   refine hK _ _ ?_
   obtain ⟨q, c, rfl⟩ := own_sl hown
   exact pst_2_05c hF hP _ (below_grown hb hg (own_base o10)) _ _ _ _ _ hown _ (h19.kept hg (own_has o10 h19 (by decide)))
 · refine wp_b7 rfl (hK _ _ ?_)
   exact pst_1_057c hF hP _ (hb.alloc hb.size _) _ _ _ (o10.alloc _) _ (h12.alloc _) n12 _ (Has.new (hb.size)) _ (h19.alloc _)
theorem pst_1_057 (hF : PutF Q W0 t0 t1 t2 t3 t5 t8 t15 r key ks pk pl nk ck nl cl xs v0 v1 v2 v3 v4) (hP : PutC W0 r key ks pk pl nk ck nl cl xs v0 v1 v2 v3 v4) (w : World) (hb : Below W0.heap.size W0 w) (x7 : Value) (q10 : Option Addr) (c10 : Nat) (o10 : w.ownsRow W0.heap.size 9 1 (.slice q10 nk c10) nk (ks.map Value.string)) (b12 : Nat) (h12 : Has W0.heap.size w b12 #[.string key] 9) (n12 : (Value.slice q10 nk c10).ownBlock ≠ some b12) (b14 : Nat) (h14 : Has W0.heap.size w b14 #[] 25) : wpIn Tryz.prog .any putOps Q (fun w' => Below r W0 w') 6 #[true, true, true, true, true, true, false, true, true, true, false, true, false, false, false, false] ⟨#[t0, t1, t2, t3, undef, t5, .pointer (some ⟨r, 0, none⟩), x7, t8, .slice pk nk ck, .slice q10 nk c10, .string key, .slice (some ⟨b12, 0, none⟩) 1 1, undef, .slice (some ⟨b14, 0, none⟩) 0 0, t15, .slice pl nl cl, undef, .agg #[v0, v1, v2, v3, v4], undef, undef, undef], []⟩ w := by
 refine wpIn_each [6, 12] (hb.mono hP.rle) (by kernel_rfl) (by decide) ?_
 refine .cons _ rfl (by rfl) (fun K hK => ?_) (.cons _ rfl (by rfl) (fun K hK => ?_) (.nil))
 · refine wp_append_src (.tmp 10) (.tmp 12) 22 rfl W0.heap.size 9 (.string ⟨#[]⟩) 1 16 Tryz.underlying22 Tryz.info9 rfl (by decide) (by decide) _ nk (ks.map Value.string) rfl o10 (some ⟨b12, 0, none⟩) 1 1 [.string key] rfl rfl (fun h => by cases h) (fun ad e j u h => by cases e; exact h12.cell j u h) (str_one key) (by have := hP.nk5; omega) hb.size ?_
   intro v' w' hown hg hat
   refine hK _ _ ?_
   obtain ⟨q, c, rfl⟩ := own_sl hown
   exact pst_2_057 hF hP _ (below_grown hb hg (own_base o10)) _ _ _ _ _ hown _ (h14.kept hg (own_has o10 h14 (by decide)))
 · refine wp_b12 rfl rfl (hK _ _ ?_)
   exact pst_1_057c hF hP _ (hb.alloc hb.size _) _ _ _ (o10.alloc _) _ (h12.alloc _) n12 _ (h14.alloc _) _ (Has.new (hb.size))
theorem pst_2_05 (hF : PutF Q W0 t0 t1 t2 t3 t5 t8 t15 r key ks pk pl nk ck nl cl xs v0 v1 v2 v3 v4) (hP : PutC W0 r key ks pk pl nk ck nl cl xs v0 v1 v2 v3 v4) (w : World) (hb : Below W0.heap.size W0 w) (x7 : Value) (x10 : Value) (x12 : Value) (q13 : Option Addr) (c13 : Nat) (o13 : w.ownsRow W0.heap.size 9 1 (.slice q13 (nk + 1) c13) (nk + 1) (ks.map Value.string ++ [.string key])) : wpIn Tryz.prog .any putOps Q (fun w' => Below r W0 w') 6 #[true, true, true, true, true, true, true, false, true, true, false, true, false, false, false, false] ⟨#[t0, t1, t2, t3, undef, t5, .pointer (some ⟨r, 0, none⟩), x7, t8, .slice pk nk ck, x10, .string key, x12, .slice q13 (nk + 1) c13, undef, t15, .slice pl nl cl, undef, .agg #[v0, v1, v2, v3, v4], undef, undef, undef], []⟩ w := by
 refine wpIn_each [7, 12] (hb.mono hP.rle) (by kernel_rfl) (by decide) ?_
 refine .cons _ rfl (by rfl) (fun K hK => ?_) (.cons _ rfl (by rfl) (fun K hK => ?_) (.nil))
 · refine wp_b7 rfl (hK _ _ ?_)
   exact pst_2_057 hF hP _ (hb.alloc hb.size _) _ _ _ _ _ (o13.alloc _) _ (Has.new (hb.size))
 · refine wp_b12 rfl rfl (hK _ _ ?_)
   exact pst_2_05c hF hP _ (hb.alloc hb.size _) _ _ _ _ _ (o13.alloc _) _ (Has.new (hb.size))
theorem pst_0_57c (hF : PutF Q W0 t0 t1 t2 t3 t5 t8 t15 r key ks pk pl nk ck nl cl xs v0 v1 v2 v3 v4) (hP : PutC W0 r key ks pk pl nk ck nl cl xs v0 v1 v2 v3 v4) (w : World) (hb : Below W0.heap.size W0 w) (b12 : Nat) (h12 : Has W0.heap.size w b12 #[.string key] 9) (b14 : Nat) (h14 : Has W0.heap.size w b14 #[] 25) (b19 : Nat) (h19 : Has W0.heap.size w b19 #[v0, v1, v2, v3, v4] 25) : wpIn Tryz.prog .any putOps Q (fun w' => Below r W0 w') 7 #[false, true, true, false, true, true, false, true, true, true, false, true, true, false, false, false] ⟨#[t0, t1, t2, t3, undef, t5, .pointer (some ⟨r, 0, none⟩), undef, t8, .slice pk nk ck, undef, .string key, .slice (some ⟨b12, 0, none⟩) 1 1, undef, .slice (some ⟨b14, 0, none⟩) 0 0, t15, .slice pl nl cl, undef, .agg #[v0, v1, v2, v3, v4], .slice (some ⟨b19, 0, none⟩) 1 1, undef, undef], []⟩ w := by
 refine wpIn_each [0] (hb.mono hP.rle) (by kernel_rfl) (by decide) ?_
 refine .cons _ rfl (by rfl) (fun K hK => ?_) (.nil)
 · refine wp_b0 rfl (hK _ _ ?_)
   exact pst_0_057c hF hP _ (hb.alloc hb.size _) _ (Has.new (hb.size)) _ (h12.alloc _) _ (h14.alloc _) _ (h19.alloc _)
theorem pst_0_07c (hF : PutF Q W0 t0 t1 t2 t3 t5 t8 t15 r key ks pk pl nk ck nl cl xs v0 v1 v2 v3 v4) (hP : PutC W0 r key ks pk pl nk ck nl cl xs v0 v1 v2 v3 v4) (w : World) (hb : Below W0.heap.size W0 w) (b7 : Nat) (h7 : Has W0.heap.size w b7 #[] 9) (b14 : Nat) (h14 : Has W0.heap.size w b14 #[] 25) (b19 : Nat) (h19 : Has W0.heap.size w b19 #[v0, v1, v2, v3, v4] 25) : wpIn Tryz.prog .any putOps Q (fun w' => Below r W0 w') 7 #[true, true, true, false, true, false, false, true, true, true, false, true, true, false, false, false] ⟨#[t0, t1, t2, t3, undef, t5, .pointer (some ⟨r, 0, none⟩), .slice (some ⟨b7, 0, none⟩) 0 0, t8, .slice pk nk ck, undef, .string key, undef, undef, .slice (some ⟨b14, 0, none⟩) 0 0, t15, .slice pl nl cl, undef, .agg #[v0, v1, v2, v3, v4], .slice (some ⟨b19, 0, none⟩) 1 1, undef, undef], []⟩ w := by
 refine wpIn_each [3, 5] (hb.mono hP.rle) (by kernel_rfl) (by decide) ?_
 refine .cons _ rfl (by rfl) (fun K hK => ?_) (.cons _ rfl (by rfl) (fun K hK => ?_) (.nil))
 · refine wp_append_src (.tmp 7) (.tmp 9) 22 rfl W0.heap.size 9 (.string ⟨#[]⟩) 1 16 Tryz.underlying22 Tryz.info9 rfl (by decide) (by decide) _ 0 [] rfl h7.own pk nk ck (ks.map Value.string) rfl (by simp [hP.len]) hP.kp (fun ad e j u h => (hb.cell (hP.kc ad e j u h).1).trans (hP.kc ad e j u h).2) (strs_one ks) (by have := hP.nk5; omega) hb.size ?_
   intro v' w' hown hg hat
   refine hK _ _ ?_
   rw [Nat.zero_add, List.nil_append] at hown
   obtain ⟨q, c, rfl⟩ := own_sl hown
   exact pst_1_07c hF hP _ (below_grown hb hg h7.ge) _ _ _ hown _ (h14.kept hg (Has.apart h7 h14 (by simp))) _ (h19.kept hg (Has.apart h7 h19 (by simp)))
 · refine wp_b5 rfl rfl (hK _ _ ?_)
   exact pst_0_057c hF hP _ (hb.alloc hb.size _) _ (h7.alloc _) _ (Has.new (hb.size)) _ (h14.alloc _) _ (h19.alloc _)
theorem pst_0_05c (hF : PutF Q W0 t0 t1 t2 t3 t5 t8 t15 r key ks pk pl nk ck nl cl xs v0 v1 v2 v3 v4) (hP : PutC W0 r key ks pk pl nk ck nl cl xs v0 v1 v2 v3 v4) (w : World) (hb : Below W0.heap.size W0 w) (b7 : Nat) (h7 : Has W0.heap.size w b7 #[] 9) (b12 : Nat) (h12 : Has W0.heap.size w b12 #[.string key] 9) (b19 : Nat) (h19 : Has W0.heap.size w b19 #[v0, v1, v2, v3, v4] 25) : wpIn Tryz.prog .any putOps Q (fun w' => Below r W0 w') 7 #[true, true, true, false, true, true, false, false, true, true, false, true, true, false, false, false] ⟨#[t0, t1, t2, t3, undef, t5, .pointer (some ⟨r, 0, none⟩), .slice (some ⟨b7, 0, none⟩) 0 0, t8, .slice pk nk ck, undef, .string key, .slice (some ⟨b12, 0, none⟩) 1 1, undef, undef, t15, .slice pl nl cl, undef, .agg #[v0, v1, v2, v3, v4], .slice (some ⟨b19, 0, none⟩) 1 1, undef, undef], []⟩ w := by
 refine wpIn_each [3, 7] (hb.mono hP.rle) (by kernel_rfl) (by decide) ?_
 refine .cons _ rfl (by rfl) (fun K hK => ?_) (.cons _ rfl (by rfl) (fun K hK => ?_) (.nil))
 · refine wp_append_src (.tmp 7) (.tmp 9) 22 rfl W0.heap.size 9 (.string ⟨#[]⟩) 1 16 Tryz.underlying22 Tryz.info9 rfl (by decide) (by decide) _ 0 [] rfl h7.own pk nk ck (ks.map Value.string) rfl (by simp [hP.len]) hP.kp (fun ad e j u h => (hb.cell (hP.kc ad e j u h).1).trans (hP.kc ad e j u h).2) (strs_one ks) (by have := hP.nk5; omega) hb.size ?_
   intro v' w' hown hg hat
   refine hK _ _ ?_
   rw [Nat.zero_add, List.nil_append] at hown
   obtain ⟨q, c, rfl⟩ := own_sl hown
   exact pst_1_05c hF hP _ (below_grown hb hg h7.ge) _ _ _ hown _ (h12.kept hg (Has.apart h7 h12 (by simp))) (own_new hat (Has.apart h7 h12 (by simp)) h12.lt) _ (h19.kept hg (Has.apart h7 h19 (by simp)))
 · refine wp_b7 rfl (hK _ _ ?_)
   exact pst_0_057c hF hP _ (hb.alloc hb.size _) _ (h7.alloc _) _ (h12.alloc _) _ (Has.new (hb.size)) _ (h19.alloc _)
theorem pst_0_057 (hF : PutF Q W0 t0 t1 t2 t3 t5 t8 t15 r key ks pk pl nk ck nl cl xs v0 v1 v2 v3 v4) (hP : PutC W0 r key ks pk pl nk ck nl cl xs v0 v1 v2 v3 v4) (w : World) (hb : Below W0.heap.size W0 w) (b7 : Nat) (h7 : Has W0.heap.size w b7 #[] 9) (b12 : Nat) (h12 : Has W0.heap.size w b12 #[.string key] 9) (b14 : Nat) (h14 : Has W0.heap.size w b14 #[] 25) : wpIn Tryz.prog .any putOps Q (fun w' => Below r W0 w') 7 #[true, true, true, false, true, true, false, true, true, true, false, true, false, false, false, false] ⟨#[t0, t1, t2, t3, undef, t5, .pointer (some ⟨r, 0, none⟩), .slice (some ⟨b7, 0, none⟩) 0 0, t8, .slice pk nk ck, undef, .string key, .slice (some ⟨b12, 0, none⟩) 1 1, undef, .slice (some ⟨b14, 0, none⟩) 0 0, t15, .slice pl nl cl, undef, .agg #[v0, v1, v2, v3, v4], undef, undef, undef], []⟩ w := by
 refine wpIn_each [3, 12] (hb.mono hP.rle) (by kernel_rfl) (by decide) ?_
 refine .cons _ rfl (by rfl) (fun K hK => ?_) (.cons _ rfl (by rfl) (fun K hK => ?_) (.nil))
 · refine wp_append_src (.tmp 7) (.tmp 9) 22 rfl W0.heap.size 9 (.string ⟨#[]⟩) 1 16 Tryz.underlying22 Tryz.info9 rfl (by decide) (by decide) _ 0 [] rfl h7.own pk nk ck (ks.map Value.string) rfl (by simp [hP.len]) hP.kp (fun ad e j u h => (hb.cell (hP.kc ad e j u h).1).trans (hP.kc ad e j u h).2) (strs_one ks) (by have := hP.nk5; omega) hb.size ?_
   intro v' w' hown hg hat
   refine hK _ _ ?_
   rw [Nat.zero_add, List.nil_append] at hown
   obtain ⟨q, c, rfl⟩ := own_sl hown
   exact pst_1_057 hF hP _ (below_grown hb hg h7.ge) _ _ _ hown _ (h12.kept hg (Has.apart h7 h12 (by simp))) (own_new hat (Has.apart h7 h12 (by simp)) h12.lt) _ (h14.kept hg (Has.apart h7 h14 (by simp)))
 · refine wp_b12 rfl rfl (hK _ _ ?_)
   exact pst_0_057c hF hP _ (hb.alloc hb.size _) _ (h7.alloc _) _ (h12.alloc _) _ (h14.alloc _) _ (Has.new (hb.size))
theorem pst_1_0c (hF : PutF Q W0 t0 t1 t2 t3 t5 t8 t15 r key ks pk pl nk ck nl cl xs v0 v1 v2 v3 v4) (hP : PutC W0 r key ks pk pl nk ck nl cl xs v0 v1 v2 v3 v4) (w : World) (hb : Below W0.heap.size W0 w) (x7 : Value) (q10 : Option Addr) (c10 : Nat) (o10 : w.ownsRow W0.heap.size 9 1 (.slice q10 nk c10) nk (ks.map Value.string)) (b19 : Nat) (h19 : Has W0.heap.size w b19 #[v0, v1, v2, v3, v4] 25) : wpIn Tryz.prog .any putOps Q (fun w' => Below r W0 w') 7 #[true, true, true, true, true, false, false, false, true, true, false, true, true, false, false, false] ⟨#[t0, t1, t2, t3, undef, t5, .pointer (some ⟨r, 0, none⟩), x7, t8, .slice pk nk ck, .slice q10 nk c10, .string key, undef, undef, undef, t15, .slice pl nl cl, undef, .agg #[v0, v1, v2, v3, v4], .slice (some ⟨b19, 0, none⟩) 1 1, undef, undef], []⟩ w := by
 refine wpIn_each [5, 7] (hb.mono hP.rle) (by kernel_rfl) (by decide) ?_
 refine .cons _ rfl (by rfl) (fun K hK => ?_) (.cons _ rfl (by rfl) (fun K hK => ?_) (.nil))
 · refine wp_b5 rfl rfl (hK _ _ ?_)
   exact pst_1_05c hF hP _ (hb.alloc hb.size _) _ _ _ (o10.alloc _) _ (Has.new (hb.size)) (own_lt o10) _ (h19.alloc _)
 · refine wp_b7 rfl (hK _ _ ?_)
   exact pst_1_07c hF hP _ (hb.alloc hb.size _) _ _ _ (o10.alloc _) _ (Has.new (hb.size)) _ (h19.alloc _)
theorem pst_1_07 (hF : PutF Q W0 t0 t1 t2 t3 t5 t8 t15 r key ks pk pl nk ck nl cl xs v0 v1 v2 v3 v4) (hP : PutC W0 r key ks pk pl nk ck nl cl xs v0 v1 v2 v3 v4) (w : World) (hb : Below W0.heap.size W0 w) (x7 : Value) (q10 : Option Addr) (c10 : Nat) (o10 : w.ownsRow W0.heap.size 9 1 (.slice q10 nk c10) nk (ks.map Value.string)) (b14 : Nat) (h14 : Has W0.heap.size w b14 #[] 25) : wpIn Tryz.prog .any putOps Q (fun w' => Below r W0 w') 7 #[true, true, true, true, true, false, false, true, true, true, false, true, false, false, false, false] ⟨#[t0, t1, t2, t3, undef, t5, .pointer (some ⟨r, 0, none⟩), x7, t8, .slice pk nk ck, .slice q10 nk c10, .string key, undef, undef, .slice (some ⟨b14, 0, none⟩) 0 0, t15, .slice pl nl cl, undef, .agg #[v0, v1, v2, v3, v4], undef, undef, undef], []⟩ w := by
 refine wpIn_each [5, 12] (hb.mono hP.rle) (by kernel_rfl) (by decide) ?_
 refine .cons _ rfl (by rfl) (fun K hK => ?_) (.cons _ rfl (by rfl) (fun K hK => ?_) (.nil))
 · refine wp_b5 rfl rfl (hK _ _ ?_)
   exact pst_1_057 hF hP _ (hb.alloc hb.size _) _ _ _ (o10.alloc _) _ (Has.new (hb.size)) (own_lt o10) _ (h14.alloc _)
 · refine wp_b12 rfl rfl (hK _ _ ?_)
   exact pst_1_07c hF hP _ (hb.alloc hb.size _) _ _ _ (o10.alloc _) _ (h14.alloc _) _ (Has.new (hb.size))
theorem pst_1_05 (hF : PutF Q W0 t0 t1 t2 t3 t5 t8 t15 r key ks pk pl nk ck nl cl xs v0 v1 v2 v3 v4) (hP : PutC W0 r key ks pk pl nk ck nl cl xs v0 v1 v2 v3 v4) (w : World) (hb : Below W0.heap.size W0 w) (x7 : Value) (q10 : Option Addr) (c10 : Nat) (o10 : w.ownsRow W0.heap.size 9 1 (.slice q10 nk c10) nk (ks.map Value.string)) (b12 : Nat) (h12 : Has W0.heap.size w b12 #[.string key] 9) (n12 : (Value.slice q10 nk c10).ownBlock ≠ some b12) : wpIn Tryz.prog .any putOps Q (fun w' => Below r W0 w') 7 #[true, true, true, true, true, true, false, false, true, true, false, true, false, false, false, false] ⟨#[t0, t1, t2, t3, undef, t5, .pointer (some ⟨r, 0, none⟩), x7, t8, .slice pk nk ck, .slice q10 nk c10, .string key, .slice (some ⟨b12, 0, none⟩) 1 1, undef, undef, t15, .slice pl nl cl, undef, .agg #[v0, v1, v2, v3, v4], undef, undef, undef], []⟩ w := by
 refine wpIn_each [6, 7, 12] (hb.mono hP.rle) (by kernel_rfl) (by decide) ?_
 refine .cons _ rfl (by rfl) (fun K hK => ?_) (.cons _ rfl (by rfl) (fun K hK => ?_) (.cons _ rfl (by rfl) (fun K hK => ?_) (.nil)))
 · refine wp_append_src (.tmp 10) (.tmp 12) 22 rfl W0.heap.size 9 (.string ⟨#[]⟩) 1 16 Tryz.underlying22 Tryz.info9 rfl (by decide) (by decide) _ nk (ks.map Value.string) rfl o10 (some ⟨b12, 0, none⟩) 1 1 [.string key] rfl rfl (fun h => by cases h) (fun ad e j u h => by cases e; exact h12.cell j u h) (str_one key) (by have := hP.nk5; omega) hb.size ?_
   intro v' w' hown hg hat
   refine hK _ _ ?_
   obtain ⟨q, c, rfl⟩ := own_sl hown
   exact pst_2_05 hF hP _ (below_grown hb hg (own_base o10)) _ _ _ _ _ hown
 · refine wp_b7 rfl (hK _ _ ?_)
   exact pst_1_057 hF hP _ (hb.alloc hb.size _) _ _ _ (o10.alloc _) _ (h12.alloc _) n12 _ (Has.new (hb.size))
 · refine wp_b12 rfl rfl (hK _ _ ?_)
   exact pst_1_05c hF hP _ (hb.alloc hb.size _) _ _ _ (o10.alloc _) _ (h12.alloc _) n12 _ (Has.new (hb.size))
theorem pst_0_7c (hF : PutF Q W0 t0 t1 t2 t3 t5 t8 t15 r key ks pk pl nk ck nl cl xs v0 v1 v2 v3 v4) (hP : PutC W0 r key ks pk pl nk ck nl cl xs v0 v1 v2 v3 v4) (w : World) (hb : Below W0.heap.size W0 w) (b14 : Nat) (h14 : Has W0.heap.size w b14 #[] 25) (b19 : Nat) (h19 : Has W0.heap.size w b19 #[v0, v1, v2, v3, v4] 25) : wpIn Tryz.prog .any putOps Q (fun w' => Below r W0 w') 8 #[false, true, true, false, true, false, false, true, true, true, false, true, true, false, false, false] ⟨#[t0, t1, t2, t3, undef, t5, .pointer (some ⟨r, 0, none⟩), undef, t8, .slice pk nk ck, undef, .string key, undef, undef, .slice (some ⟨b14, 0, none⟩) 0 0, t15, .slice pl nl cl, undef, .agg #[v0, v1, v2, v3, v4], .slice (some ⟨b19, 0, none⟩) 1 1, undef, undef], []⟩ w := by
 refine wpIn_each [0, 5] (hb.mono hP.rle) (by kernel_rfl) (by decide) ?_
 refine .cons _ rfl (by rfl) (fun K hK => ?_) (.cons _ rfl (by rfl) (fun K hK => ?_) (.nil))
 · refine wp_b0 rfl (hK _ _ ?_)
   exact pst_0_07c hF hP _ (hb.alloc hb.size _) _ (Has.new (hb.size)) _ (h14.alloc _) _ (h19.alloc _)
 · refine wp_b5 rfl rfl (hK _ _ ?_)
   exact pst_0_57c hF hP _ (hb.alloc hb.size _) _ (Has.new (hb.size)) _ (h14.alloc _) _ (h19.alloc _)
theorem pst_0_5c (hF : PutF Q W0 t0 t1 t2 t3 t5 t8 t15 r key ks pk pl nk ck nl cl xs v0 v1 v2 v3 v4) (hP : PutC W0 r key ks pk pl nk ck nl cl xs v0 v1 v2 v3 v4) (w : World) (hb : Below W0.heap.size W0 w) (b12 : Nat) (h12 : Has W0.heap.size w b12 #[.string key] 9) (b19 : Nat) (h19 : Has W0.heap.size w b19 #[v0, v1, v2, v3, v4] 25) : wpIn Tryz.prog .any putOps Q (fun w' => Below r W0 w') 8 #[false, true, true, false, true, true, false, false, true, true, false, true, true, false, false, false] ⟨#[t0, t1, t2, t3, undef, t5, .pointer (some ⟨r, 0, none⟩), undef, t8, .slice pk nk ck, undef, .string key, .slice (some ⟨b12, 0, none⟩) 1 1, undef, undef, t15, .slice pl nl cl, undef, .agg #[v0, v1, v2, v3, v4], .slice (some ⟨b19, 0, none⟩) 1 1, undef, undef], []⟩ w := by
 refine wpIn_each [0, 7] (hb.mono hP.rle) (by kernel_rfl) (by decide) ?_
 refine .cons _ rfl (by rfl) (fun K hK => ?_) (.cons _ rfl (by rfl) (fun K hK => ?_) (.nil))
 · refine wp_b0 rfl (hK _ _ ?_)
   exact pst_0_05c hF hP _ (hb.alloc hb.size _) _ (Has.new (hb.size)) _ (h12.alloc _) _ (h19.alloc _)
 · refine wp_b7 rfl (hK _ _ ?_)
   exact pst_0_57c hF hP _ (hb.alloc hb.size _) _ (h12.alloc _) _ (Has.new (hb.size)) _ (h19.alloc _)
theorem pst_0_57 (hF : PutF Q W0 t0 t1 t2 t3 t5 t8 t15 r key ks pk pl nk ck nl cl xs v0 v1 v2 v3 v4) (hP : PutC W0 r key ks pk pl nk ck nl cl xs v0 v1 v2 v3 v4) (w : World) (hb : Below W0.heap.size W0 w) (b12 : Nat) (h12 : Has W0.heap.size w b12 #[.string key] 9) (b14 : Nat) (h14 : Has W0.heap.size w b14 #[] 25) : wpIn Tryz.prog .any putOps Q (fun w' => Below r W0 w') 8 #[false, true, true, false, true, true, false, true, true, true, false, true, false, false, false, false] ⟨#[t0, t1, t2, t3, undef, t5, .pointer (some ⟨r, 0, none⟩), undef, t8, .slice pk nk ck, undef, .string key, .slice (some ⟨b12, 0, none⟩) 1 1, undef, .slice (some ⟨b14, 0, none⟩) 0 0, t15, .slice pl nl cl, undef, .agg #[v0, v1, v2, v3, v4], undef, undef, undef], []⟩ w := by
 refine wpIn_each [0, 12] (hb.mono hP.rle) (by kernel_rfl) (by decide) ?_
 refine .cons _ rfl (by rfl) (fun K hK => ?_) (.cons _ rfl (by rfl) (fun K hK => ?_) (.nil))
 · refine wp_b0 rfl (hK _ _ ?_)
   exact pst_0_057 hF hP _ (hb.alloc hb.size _) _ (Has.new (hb.size)) _ (h12.alloc _) _ (h14.alloc _)
 · refine wp_b12 rfl rfl (hK _ _ ?_)
   exact pst_0_57c hF hP _ (hb.alloc hb.size _) _ (h12.alloc _) _ (h14.alloc _) _ (Has.new (hb.size))
theorem pst_0_0c (hF : PutF Q W0 t0 t1 t2 t3 t5 t8 t15 r key ks pk pl nk ck nl cl xs v0 v1 v2 v3 v4) (hP : PutC W0 r key ks pk pl nk ck nl cl xs v0 v1 v2 v3 v4) (w : World) (hb : Below W0.heap.size W0 w) (b7 : Nat) (h7 : Has W0.heap.size w b7 #[] 9) (b19 : Nat) (h19 : Has W0.heap.size w b19 #[v0, v1, v2, v3, v4] 25) : wpIn Tryz.prog .any putOps Q (fun w' => Below r W0 w') 8 #[true, true, true, false, true, false, false, false, true, true, false, true, true, false, false, false] ⟨#[t0, t1, t2, t3, undef, t5, .pointer (some ⟨r, 0, none⟩), .slice (some ⟨b7, 0, none⟩) 0 0, t8, .slice pk nk ck, undef, .string key, undef, undef, undef, t15, .slice pl nl cl, undef, .agg #[v0, v1, v2, v3, v4], .slice (some ⟨b19, 0, none⟩) 1 1, undef, undef], []⟩ w := by
 refine wpIn_each [3, 5, 7] (hb.mono hP.rle) (by kernel_rfl) (by decide) ?_
 refine .cons _ rfl (by rfl) (fun K hK => ?_) (.cons _ rfl (by rfl) (fun K hK => ?_) (.cons _ rfl (by rfl) (fun K hK => ?_) (.nil)))
 · refine wp_append_src (.tmp 7) (.tmp 9) 22 rfl W0.heap.size 9 (.string ⟨#[]⟩) 1 16 Tryz.underlying22 Tryz.info9 rfl (by decide) (by decide) _ 0 [] rfl h7.own pk nk ck (ks.map Value.string) rfl (by simp [hP.len]) hP.kp (fun ad e j u h => (hb.cell (hP.kc ad e j u h).1).trans (hP.kc ad e j u h).2) (strs_one ks) (by have := hP.nk5; omega) hb.size ?_
   intro v' w' hown hg hat
   refine hK _ _ ?_
   rw [Nat.zero_add, List.nil_append] at hown
   obtain ⟨q, c, rfl⟩ := own_sl hown
   exact pst_1_0c hF hP _ (below_grown hb hg h7.ge) _ _ _ hown _ (h19.kept hg (Has.apart h7 h19 (by simp)))
 · refine wp_b5 rfl rfl (hK _ _ ?_)
   exact pst_0_05c hF hP _ (hb.alloc hb.size _) _ (h7.alloc _) _ (Has.new (hb.size)) _ (h19.alloc _)
 · refine wp_b7 rfl (hK _ _ ?_)
   exact pst_0_07c hF hP _ (hb.alloc hb.size _) _ (h7.alloc _) _ (Has.new (hb.size)) _ (h19.alloc _)
theorem pst_0_07 (hF : PutF Q W0 t0 t1 t2 t3 t5 t8 t15 r key ks pk pl nk ck nl cl xs v0 v1 v2 v3 v4) (hP : PutC W0 r key ks pk pl nk ck nl cl xs v0 v1 v2 v3 v4) (w : World) (hb : Below W0.heap.size W0 w) (b7 : Nat) (h7 : Has W0.heap.size w b7 #[] 9) (b14 : Nat) (h14 : Has W0.heap.size w b14 #[] 25) : wpIn Tryz.prog .any putOps Q (fun w' => Below r W0 w') 8 #[true, true, true, false, true, false, false, true, true, true, false, true, false, false, false, false] ⟨#[t0, t1, t2, t3, undef, t5, .pointer (some ⟨r, 0, none⟩), .slice (some ⟨b7, 0, none⟩) 0 0, t8, .slice pk nk ck, undef, .string key, undef, undef, .slice (some ⟨b14, 0, none⟩) 0 0, t15, .slice pl nl cl, undef, .agg #[v0, v1, v2, v3, v4], undef, undef, undef], []⟩ w := by
 refine wpIn_each [3, 5, 12] (hb.mono hP.rle) (by kernel_rfl) (by decide) ?_
 refine .cons _ rfl (by rfl) (fun K hK => ?_) (.cons _ rfl (by rfl) (fun K hK => ?_) (.cons _ rfl (by rfl) (fun K hK => ?_) (.nil)))
 · refine wp_append_src (.tmp 7) (.tmp 9) 22 rfl W0.heap.size 9 (.string ⟨#[]⟩) 1 16 Tryz.underlying22 Tryz.info9 rfl (by decide) (by decide) _ 0 [] rfl h7.own pk nk ck (ks.map Value.string) rfl (by simp [hP.len]) hP.kp (fun ad e j u h => (hb.cell (hP.kc ad e j u h).1).trans (hP.kc ad e j u h).2) (strs_one ks) (by have := hP.nk5; omega) hb.size ?_
   intro v' w' hown hg hat
   refine hK _ _ ?_
   rw [Nat.zero_add, List.nil_append] at hown
   obtain ⟨q, c, rfl⟩ := own_sl hown
   exact pst_1_07 hF hP _ (below_grown hb hg h7.ge) _ _ _ hown _ (h14.kept hg (Has.apart h7 h14 (by simp)))
 · refine wp_b5 rfl rfl (hK _ _ ?_)
   exact pst_0_057 hF hP _ (hb.alloc hb.size _) _ (h7.alloc _) _ (Has.new (hb.size)) _ (h14.alloc _)
 · refine wp_b12 rfl rfl (hK _ _ ?_)
   exact pst_0_07c hF hP _ (hb.alloc hb.size _) _ (h7.alloc _) _ (h14.alloc _) _ (Has.new (hb.size))
theorem pst_0_05 (hF : PutF Q W0 t0 t1 t2 t3 t5 t8 t15 r key ks pk pl nk ck nl cl xs v0 v1 v2 v3 v4) (hP : PutC W0 r key ks pk pl nk ck nl cl xs v0 v1 v2 v3 v4) (w : World) (hb : Below W0.heap.size W0 w) (b7 : Nat) (h7 : Has W0.heap.size w b7 #[] 9) (b12 : Nat) (h12 : Has W0.heap.size w b12 #[.string key] 9) : wpIn Tryz.prog .any putOps Q (fun w' => Below r W0 w') 8 #[true, true, true, false, true, true, false, false, true, true, false, true, false, false, false, false] ⟨#[t0, t1, t2, t3, undef, t5, .pointer (some ⟨r, 0, none⟩), .slice (some ⟨b7, 0, none⟩) 0 0, t8, .slice pk nk ck, undef, .string key, .slice (some ⟨b12, 0, none⟩) 1 1, undef, undef, t15, .slice pl nl cl, undef, .agg #[v0, v1, v2, v3, v4], undef, undef, undef], []⟩ w := by
 refine wpIn_each [3, 7, 12] (hb.mono hP.rle) (by kernel_rfl) (by decide) ?_
 refine .cons _ rfl (by rfl) (fun K hK => ?_) (.cons _ rfl (by rfl) (fun K hK => ?_) (.cons _ rfl (by rfl) (fun K hK => ?_) (.nil)))
 · refine wp_append_src (.tmp 7) (.tmp 9) 22 rfl W0.heap.size 9 (.string ⟨#[]⟩) 1 16 Tryz.underlying22 Tryz.info9 rfl (by decide) (by decide) _ 0 [] rfl h7.own pk nk ck (ks.map Value.string) rfl (by simp [hP.len]) hP.kp (fun ad e j u h => (hb.cell (hP.kc ad e j u h).1).trans (hP.kc ad e j u h).2) (strs_one ks) (by have := hP.nk5; omega) hb.size ?_
   intro v' w' hown hg hat
   refine hK _ _ ?_
   rw [Nat.zero_add, List.nil_append] at hown
   obtain ⟨q, c, rfl⟩ := own_sl hown
   exact pst_1_05 hF hP _ (below_grown hb hg h7.ge) _ _ _ hown _ (h12.kept hg (Has.apart h7 h12 (by simp))) (own_new hat (Has.apart h7 h12 (by simp)) h12.lt)
 · refine wp_b7 rfl (hK _ _ ?_)
   exact pst_0_057 hF hP _ (hb.alloc hb.size _) _ (h7.alloc _) _ (h12.alloc _) _ (Has.new (hb.size))
 · refine wp_b12 rfl rfl (hK _ _ ?_)
   exact pst_0_05c hF hP _ (hb.alloc hb.size _) _ (h7.alloc _) _ (h12.alloc _) _ (Has.new (hb.size))
theorem pst_1_0 (hF : PutF Q W0 t0 t1 t2 t3 t5 t8 t15 r key ks pk pl nk ck nl cl xs v0 v1 v2 v3 v4) (hP : PutC W0 r key ks pk pl nk ck nl cl xs v0 v1 v2 v3 v4) (w : World) (hb : Below W0.heap.size W0 w) (x7 : Value) (q10 : Option Addr) (c10 : Nat) (o10 : w.ownsRow W0.heap.size 9 1 (.slice q10 nk c10) nk (ks.map Value.string)) : wpIn Tryz.prog .any putOps Q (fun w' => Below r W0 w') 8 #[true, true, true, true, true, false, false, false, true, true, false, true, false, false, false, false] ⟨#[t0, t1, t2, t3, undef, t5, .pointer (some ⟨r, 0, none⟩), x7, t8, .slice pk nk ck, .slice q10 nk c10, .string key, undef, undef, undef, t15, .slice pl nl cl, undef, .agg #[v0, v1, v2, v3, v4], undef, undef, undef], []⟩ w := by
 refine wpIn_each [5, 7, 12] (hb.mono hP.rle) (by kernel_rfl) (by decide) ?_
 refine .cons _ rfl (by rfl) (fun K hK => ?_) (.cons _ rfl (by rfl) (fun K hK => ?_) (.cons _ rfl (by rfl) (fun K hK => ?_) (.nil)))
 · refine wp_b5 rfl rfl (hK _ _ ?_)
   exact pst_1_05 hF hP _ (hb.alloc hb.size _) _ _ _ (o10.alloc _) _ (Has.new (hb.size)) (own_lt o10)
 · refine wp_b7 rfl (hK _ _ ?_)
   exact pst_1_07 hF hP _ (hb.alloc hb.size _) _ _ _ (o10.alloc _) _ (Has.new (hb.size))
 · refine wp_b12 rfl rfl (hK _ _ ?_)
   exact pst_1_0c hF hP _ (hb.alloc hb.size _) _ _ _ (o10.alloc _) _ (Has.new (hb.size))
theorem pst_0_c (hF : PutF Q W0 t0 t1 t2 t3 t5 t8 t15 r key ks pk pl nk ck nl cl xs v0 v1 v2 v3 v4) (hP : PutC W0 r key ks pk pl nk ck nl cl xs v0 v1 v2 v3 v4) (w : World) (hb : Below W0.heap.size W0 w) (b19 : Nat) (h19 : Has W0.heap.size w b19 #[v0, v1, v2, v3, v4] 25) : wpIn Tryz.prog .any putOps Q (fun w' => Below r W0 w') 9 #[false, true, true, false, true, false, false, false, true, true, false, true, true, false, false, false] ⟨#[t0, t1, t2, t3, undef, t5, .pointer (some ⟨r, 0, none⟩), undef, t8, .slice pk nk ck, undef, .string key, undef, undef, undef, t15, .slice pl nl cl, undef, .agg #[v0, v1, v2, v3, v4], .slice (some ⟨b19, 0, none⟩) 1 1, undef, undef], []⟩ w := by
 refine wpIn_each [0, 5, 7] (hb.mono hP.rle) (by kernel_rfl) (by decide) ?_
 refine .cons _ rfl (by rfl) (fun K hK => ?_) (.cons _ rfl (by rfl) (fun K hK => ?_) (.cons _ rfl (by rfl) (fun K hK => ?_) (.nil)))
 · refine wp_b0 rfl (hK _ _ ?_)
   exact pst_0_0c hF hP _ (hb.alloc hb.size _) _ (Has.new (hb.size)) _ (h19.alloc _)
 · refine wp_b5 rfl rfl (hK _ _ ?_)
   exact pst_0_5c hF hP _ (hb.alloc hb.size _) _ (Has.new (hb.size)) _ (h19.alloc _)
 · refine wp_b7 rfl (hK _ _ ?_)
   exact pst_0_7c hF hP _ (hb.alloc hb.size _) _ (Has.new (hb.size)) _ (h19.alloc _)
theorem pst_0_7 (hF : PutF Q W0 t0 t1 t2 t3 t5 t8 t15 r key ks pk pl nk ck nl cl xs v0 v1 v2 v3 v4) (hP : PutC W0 r key ks pk pl nk ck nl cl xs v0 v1 v2 v3 v4) (w : World) (hb : Below W0.heap.size W0 w) (b14 : Nat) (h14 : Has W0.heap.size w b14 #[] 25) : wpIn Tryz.prog .any putOps Q (fun w' => Below r W0 w') 9 #[false, true, true, false, true, false, false, true, true, true, false, true, false, false, false, false] ⟨#[t0, t1, t2, t3, undef, t5, .pointer (some ⟨r, 0, none⟩), undef, t8, .slice pk nk ck, undef, .string key, undef, undef, .slice (some ⟨b14, 0, none⟩) 0 0, t15, .slice pl nl cl, undef, .agg #[v0, v1, v2, v3, v4], undef, undef, undef], []⟩ w := by
 refine wpIn_each [0, 5, 12] (hb.mono hP.rle) (by kernel_rfl) (by decide) ?_
 refine .cons _ rfl (by rfl) (fun K hK => ?_) (.cons _ rfl (by rfl) (fun K hK => ?_) (.cons _ rfl (by rfl) (fun K hK => ?_) (.nil)))
 · refine wp_b0 rfl (hK _ _ ?_)
   exact pst_0_07 hF hP _ (hb.alloc hb.size _) _ (Has.new (hb.size)) _ (h14.alloc _)
 · refine wp_b5 rfl rfl (hK _ _ ?_)
   exact pst_0_57 hF hP _ (hb.alloc hb.size _) _ (Has.new (hb.size)) _ (h14.alloc _)
 · refine wp_b12 rfl rfl (hK _ _ ?_)
   exact pst_0_7c hF hP _ (hb.alloc hb.size _) _ (h14.alloc _) _ (Has.new (hb.size))
theorem pst_0_5 (hF : PutF Q W0 t0 t1 t2 t3 t5 t8 t15 r key ks pk pl nk ck nl cl xs v0 v1 v2 v3 v4) (hP : PutC W0 r key ks pk pl nk ck nl cl xs v0 v1 v2 v3 v4) (w : World) (hb : Below W0.heap.size W0 w) (b12 : Nat) (h12 : Has W0.heap.size w b12 #[.string key] 9) : wpIn Tryz.prog .any putOps Q (fun w' => Below r W0 w') 9 #[false, true, true, false, true, true, false, false, true, true, false, true, false, false, false, false] ⟨#[t0, t1, t2, t3, undef, t5, .pointer (some ⟨r, 0, none⟩), undef, t8, .slice pk nk ck, undef, .string key, .slice (some ⟨b12, 0, none⟩) 1 1, undef, undef, t15, .slice pl nl cl, undef, .agg #[v0, v1, v2, v3, v4], undef, undef, undef], []⟩ w := by
 refine wpIn_each [0, 7, 12] (hb.mono hP.rle) (by kernel_rfl) (by decide) ?_
 refine .cons _ rfl (by rfl) (fun K hK => ?_) (.cons _ rfl (by rfl) (fun K hK => ?_) (.cons _ rfl (by rfl) (fun K hK => ?_) (.nil)))
 · refine wp_b0 rfl (hK _ _ ?_)
   exact pst_0_05 hF hP _ (hb.alloc hb.size _) _ (Has.new (hb.size)) _ (h12.alloc _)
 · refine wp_b7 rfl (hK _ _ ?_)
   exact pst_0_57 hF hP _ (hb.alloc hb.size _) _ (h12.alloc _) _ (Has.new (hb.size))
 · refine wp_b12 rfl rfl (hK _ _ ?_)
   exact pst_0_5c hF hP _ (hb.alloc hb.size _) _ (h12.alloc _) _ (Has.new (hb.size))
theorem pst_0_0 (hF : PutF Q W0 t0 t1 t2 t3 t5 t8 t15 r key ks pk pl nk ck nl cl xs v0 v1 v2 v3 v4) (hP : PutC W0 r key ks pk pl nk ck nl cl xs v0 v1 v2 v3 v4) (w : World) (hb : Below W0.heap.size W0 w) (b7 : Nat) (h7 : Has W0.heap.size w b7 #[] 9) : wpIn Tryz.prog .any putOps Q (fun w' => Below r W0 w') 9 #[true, true, true, false, true, false, false, false, true, true, false, true, false, false, false, false] ⟨#[t0, t1, t2, t3, undef, t5, .pointer (some ⟨r, 0, none⟩), .slice (some ⟨b7, 0, none⟩) 0 0, t8, .slice pk nk ck, undef, .string key, undef, undef, undef, t15, .slice pl nl cl, undef, .agg #[v0, v1, v2, v3, v4], undef, undef, undef], []⟩ w := by
 refine wpIn_each [3, 5, 7, 12] (hb.mono hP.rle) (by kernel_rfl) (by decide) ?_
 refine .cons _ rfl (by rfl) (fun K hK => ?_) (.cons _ rfl (by rfl) (fun K hK => ?_) (.cons _ rfl (by rfl) (fun K hK => ?_) (.cons _ rfl (by rfl) (fun K hK => ?_) (.nil))))
 · refine wp_append_src (.tmp 7) (.tmp 9) 22 rfl W0.heap.size 9 (.string ⟨#[]⟩) 1 16 Tryz.underlying22 Tryz.info9 rfl (by decide) (by decide) _ 0 [] rfl h7.own pk nk ck (ks.map Value.string) rfl (by simp [hP.len]) hP.kp (fun ad e j u h => (hb.cell (hP.kc ad e j u h).1).trans (hP.kc ad e j u h).2) (strs_one ks) (by have := hP.nk5; omega) hb.size ?_
   intro v' w' hown hg hat
   refine hK _ _ ?_
   rw [Nat.zero_add, List.nil_append] at hown
   obtain ⟨q, c, rfl⟩ := own_sl hown
   exact pst_1_0 hF hP _ (below_grown hb hg h7.ge) _ _ _ hown
 · refine wp_b5 rfl rfl (hK _ _ ?_)
   exact pst_0_05 hF hP _ (hb.alloc hb.size _) _ (h7.alloc _) _ (Has.new (hb.size))
 · refine wp_b7 rfl (hK _ _ ?_)
   exact pst_0_07 hF hP _ (hb.alloc hb.size _) _ (h7.alloc _) _ (Has.new (hb.size))
 · refine wp_b12 rfl rfl (hK _ _ ?_)
   exact pst_0_0c hF hP _ (hb.alloc hb.size _) _ (h7.alloc _) _ (Has.new (hb.size))
theorem pst_0_n (hF : PutF Q W0 t0 t1 t2 t3 t5 t8 t15 r key ks pk pl nk ck nl cl xs v0 v1 v2 v3 v4) (hP : PutC W0 r key ks pk pl nk ck nl cl xs v0 v1 v2 v3 v4) (w : World) (hb : Below W0.heap.size W0 w)  : wpIn Tryz.prog .any putOps Q (fun w' => Below r W0 w') 10 #[false, true, true, false, true, false, false, false, true, true, false, true, false, false, false, false] ⟨#[t0, t1, t2, t3, undef, t5, .pointer (some ⟨r, 0, none⟩), undef, t8, .slice pk nk ck, undef, .string key, undef, undef, undef, t15, .slice pl nl cl, undef, .agg #[v0, v1, v2, v3, v4], undef, undef, undef], []⟩ w := by
 refine wpIn_each [0, 5, 7, 12] (hb.mono hP.rle) (by kernel_rfl) (by decide) ?_
 refine .cons _ rfl (by rfl) (fun K hK => ?_) (.cons _ rfl (by rfl) (fun K hK => ?_) (.cons _ rfl (by rfl) (fun K hK => ?_) (.cons _ rfl (by rfl) (fun K hK => ?_) (.nil))))
 · refine wp_b0 rfl (hK _ _ ?_)
   exact pst_0_0 hF hP _ (hb.alloc hb.size _) _ (Has.new (hb.size))
 · refine wp_b5 rfl rfl (hK _ _ ?_)
   exact pst_0_5 hF hP _ (hb.alloc hb.size _) _ (Has.new (hb.size))
 · refine wp_b7 rfl (hK _ _ ?_)
   exact pst_0_7 hF hP _ (hb.alloc hb.size _) _ (Has.new (hb.size))
 · refine wp_b12 rfl rfl (hK _ _ ?_)
   exact pst_0_c hF hP _ (hb.alloc hb.size _) _ (Has.new (hb.size))
end
end Go.Proofs.YtnngalkdjgjmbaaGreat

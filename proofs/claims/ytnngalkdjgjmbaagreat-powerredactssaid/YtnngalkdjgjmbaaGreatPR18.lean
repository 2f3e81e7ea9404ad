/-
  A value with one key more: by a contract.
-/
import Derived.Test.YtnngalkdjgjmbaaGreatPR17
set_option maxRecDepth 100000
set_option maxHeartbeats 16000000
namespace Go.Proofs.YtnngalkdjgjmbaaGreat.Pt
open Go.RowKit Go.Maps
set_option maxRecDepth 100000
set_option maxHeartbeats 4000000
theorem own_sl {w : World} {B e size n : Nat} {v : Value} {xs : List Value} (h : w.ownsRow B e size v n xs) : ∃ q c, v = .slice q n c := by
 rcases h.2 with ⟨h', h0⟩ | ⟨g', cap', cur, h', _⟩
 · exact ⟨none, 0, by rw [h', h0]⟩
 · exact ⟨_, _, h'⟩
theorem own_some {w : World} {B e size n : Nat} {v : Value} {xs : List Value} (h : w.ownsRow B e size v (n + 1) xs) : ∃ b c, v = .slice (some ⟨b, 0, none⟩) (n + 1) c := by
 rcases h.2 with ⟨h', h0⟩ | ⟨g', cap', cur, h', _⟩
 · omega
 · exact ⟨_, _, h'⟩
theorem two_at {w : World} (o1 o2 : Obj) : ((w.alloc o1).alloc o2).heap[w.heap.size + 1]? = some o2 := by
 have := heap_alloc_new (w.alloc o1) o2
 simpa using this
theorem one_of {w : World} (o1 o2 : Obj) : ((w.alloc o1).alloc o2).heap[w.heap.size]? = some o1 := by
 rw [Below.heap_alloc _ _ _ (by simp)]
 exact heap_alloc_new _ _
theorem isJ_at {O : Nat → Prop} {w : World} {j : J} {k i : Int} {t : ByteArray} {pk pl : Option Addr} {nk ck nl cl : Nat} (h : isJ O w j [.int .i64 k, .int .i64 i, .string t, .slice pk nk ck, .slice pl nl cl]) :
    j.kind = k ∧ j.int = i ∧ j.text = t ∧ nk = j.keys.length ∧ nl = j.list.length ∧ RdK O w pk ck j.keys ∧ j.list.length ≤ cl ∧ isJs O w pl 0 j.list := by
 cases j with
 | mk k' i' t' ks l =>
  unfold isJ at h
  obtain ⟨pk', ck', pl', cl', e, h1, h2, h3⟩ := h
  cases e
  exact ⟨rfl, rfl, rfl, rfl, rfl, h1, h2, h3⟩
theorem results_cell {fn : Func} {a : Tmp} {t : TypeId} (h : fn.results = #[.cell a t]) (tmps : Array Value) (P : Program) (w : World) {ad : Addr} {v : Value} (hp : tmps.getD a undef = .pointer (some ad)) (hl : (loadVar t ad).run P w = .ok v w) :
    (results fn tmps).run P w = .ok v w := by
 rw [Array.getD_eq_getD_getElem?] at hp
 simp [results, h, hp, hl, asAddr]
theorem loadJ5 {w : World} {b : Nat} {t : TypeId} {a0 a1 a2 a3 a4 : Value} (h : w.heap[b]? = some (.cells #[a0, a1, a2, a3, a4] t (0, 0))) : (loadVar 25 ⟨b, 0, none⟩).run Tryz.prog w = .ok (.agg #[a0, a1, a2, a3, a4]) w := by
 have k0 := five_c0 h; have k1 := five_c1 h; have k2 := five_c2 h; have k3 := five_c3 h; have k4 := five_c4 h
 simp [loadVar, go_sem, k0, k1, k2, k3, k4]
def putOps : Array Oper := #[{ dst := some 7, op := Op.buildSlice 22 0 #[], type := 22, pos := "ref.go:257", after := #[], guard := none }, { dst := some 8, op := Op.fieldAddr 25 (Operand.tmp 3) 3, type := 0, pos := "ref.go:257", after := #[], guard := none }, { dst := some 9, op := Op.load 22 (Operand.tmp 8), type := 22, pos := "ref.go:257", after := #[{ on := 1, ground := Ground.data }], guard := none }, { dst := some 10, op := Op.call { callee := Callee.builtin Builtin.append, args := #[Operand.tmp 7, Operand.tmp 9], argTypes := #[22, 22] }, type := 22, pos := "ref.go:257", after := #[{ on := 0, ground := Ground.data }, { on := 2, ground := Ground.data }], guard := none }, { dst := some 11, op := Op.move (Operand.tmp 1), type := 9, pos := "ref.go:257", after := #[], guard := none }, { dst := some 12, op := Op.buildSlice 22 1 #[(0, Operand.tmp 11)], type := 22, pos := "ref.go:257", after := #[{ on := 4, ground := Ground.data }], guard := none }, { dst := some 13, op := Op.call { callee := Callee.builtin Builtin.append, args := #[Operand.tmp 10, Operand.tmp 12], argTypes := #[22, 22] }, type := 22, pos := "ref.go:257", after := #[{ on := 3, ground := Ground.data }, { on := 5, ground := Ground.data }, { on := 3, ground := Ground.chain }], guard := none }, { dst := some 14, op := Op.buildSlice 23 0 #[], type := 23, pos := "ref.go:257", after := #[], guard := none }, { dst := some 15, op := Op.fieldAddr 25 (Operand.tmp 3) 4, type := 0, pos := "ref.go:257", after := #[], guard := none }, { dst := some 16, op := Op.load 23 (Operand.tmp 15), type := 23, pos := "ref.go:257", after := #[{ on := 8, ground := Ground.data }], guard := none }, { dst := some 17, op := Op.call { callee := Callee.builtin Builtin.append, args := #[Operand.tmp 14, Operand.tmp 16], argTypes := #[23, 23] }, type := 23, pos := "ref.go:257", after := #[{ on := 7, ground := Ground.data }, { on := 9, ground := Ground.data }, { on := 6, ground := Ground.chain }], guard := none }, { dst := some 18, op := Op.load 25 (Operand.tmp 5), type := 25, pos := "ref.go:257", after := #[], guard := none }, { dst := some 19, op := Op.buildSlice 23 1 #[(0, Operand.tmp 18)], type := 23, pos := "ref.go:257", after := #[{ on := 11, ground := Ground.data }], guard := none }, { dst := some 20, op := Op.call { callee := Callee.builtin Builtin.append, args := #[Operand.tmp 17, Operand.tmp 19], argTypes := #[23, 23] }, type := 23, pos := "ref.go:257", after := #[{ on := 10, ground := Ground.data }, { on := 12, ground := Ground.data }, { on := 10, ground := Ground.chain }], guard := none }, { dst := some 21, op := Op.build 25 #[(0, Operand.const (Value.int IntKind.i64 5)), (3, Operand.tmp 13), (4, Operand.tmp 20)], type := 25, pos := "ref.go:257", after := #[{ on := 6, ground := Ground.data }, { on := 13, ground := Ground.data }], guard := none }, { dst := none, op := Op.store 25 (Operand.tmp 6) (Operand.tmp 21), type := 0, pos := "ref.go:257", after := #[{ on := 14, ground := Ground.data }, { on := 13, ground := Ground.chain }, { on := 0, ground := Ground.phase }, { on := 1, ground := Ground.phase }, { on := 2, ground := Ground.phase }, { on := 3, ground := Ground.phase }, { on := 4, ground := Ground.phase }, { on := 5, ground := Ground.phase }, { on := 6, ground := Ground.phase }, { on := 7, ground := Ground.phase }, { on := 8, ground := Ground.phase }, { on := 9, ground := Ground.phase }, { on := 10, ground := Ground.phase }, { on := 11, ground := Ground.phase }, { on := 12, ground := Ground.phase }, { on := 13, ground := Ground.phase }, { on := 14, ground := Ground.phase }], guard := none }]
def Has (B : Nat) (w : World) (b : Nat) (cs : Array Value) (t : TypeId) : Prop := B ≤ b ∧ w.heap[b]? = some (.cells cs t (0, 0))
theorem Has.new {B : Nat} {w : World} {cs : Array Value} {t : TypeId} (h : B ≤ w.heap.size) : Has B (w.alloc (.cells cs t)) w.heap.size cs t := ⟨h, heap_alloc_new _ _⟩
theorem Has.lt {B : Nat} {w : World} {b : Nat} {cs : Array Value} {t : TypeId} (h : Has B w b cs t) : b < w.heap.size := (Array.getElem?_eq_some_iff.1 h.2).1
theorem Has.alloc {B : Nat} {w : World} {b : Nat} {cs : Array Value} {t : TypeId} (h : Has B w b cs t) (o : Obj) : Has B (w.alloc o) b cs t := ⟨h.1, (Below.heap_alloc _ _ _ h.lt).trans h.2⟩
theorem Has.cell {B : Nat} {w : World} {b : Nat} {cs : List Value} {t : TypeId} (h : Has B w b cs.toArray t) (j : Nat) (u : Value) (hj : cs[j]? = some u) : w.cell? ((⟨b, 0, none⟩ : Addr).add j) = some u := by
 have e : (⟨b, 0, none⟩ : Addr).add j = ⟨b, 0 + j, none⟩ := by unfold Addr.add; split <;> simp_all
 rw [e, Nat.zero_add]
 exact cell_row h.2 j u hj
theorem Has.own {B : Nat} {w : World} {b e size : Nat} (h : Has B w b #[] e) : w.ownsRow B e size (.slice (some ⟨b, 0, none⟩) 0 0) 0 [] := ⟨by simp, .inr ⟨b, 0, #[], rfl, h.1, h.2, Nat.le_refl _, by unfold maxLen; omega, by simp, by simp⟩⟩
theorem Has.ge {B : Nat} {w : World} {b : Nat} {cs : Array Value} {t : TypeId} (h : Has B w b cs t) : ∀ k, (Value.slice (some ⟨b, 0, none⟩) 0 0).ownBlock = some k → B ≤ k := fun k e => by
 have e' : b = k := Option.some.inj e
 rw [← e']
 exact h.1
theorem Has.kept {B : Nat} {w w' : World} {b : Nat} {cs : Array Value} {t : TypeId} {row : Option Nat} (h : Has B w b cs t) (hg : w.grownBy w' row) (hn : row ≠ some b) : Has B w' b cs t := ⟨h.1, (hg.block b h.lt fun e => hn e.symm).trans h.2⟩
theorem Has.apart {B : Nat} {w : World} {b b' : Nat} {cs cs' : Array Value} {t t' : TypeId} (h : Has B w b cs t) (h' : Has B w b' cs' t') (hne : ¬ (cs = cs' ∧ t = t')) : (Value.slice (some ⟨b, 0, none⟩) 0 0).ownBlock ≠ some b' := fun e => by
 have e' : b = b' := Option.some.inj e
 subst e'
 have := h.2.symm.trans h'.2
 simp only [Option.some.injEq, Obj.cells.injEq, and_true] at this
 exact hne this
theorem own_lt {w : World} {B e size n : Nat} {v : Value} {xs : List Value} (h : w.ownsRow B e size v n xs) : v.ownBlock ≠ some w.heap.size := fun e => Nat.lt_irrefl _ (own_ge h _ e).2
theorem own_has {w : World} {B e size n b : Nat} {v : Value} {xs : List Value} {cs : Array Value} {t : TypeId} (h : w.ownsRow B e size v n xs) (h' : Has B w b cs t) (hne : e ≠ t) : v.ownBlock ≠ some b := fun hk => by
 rcases h.2 with ⟨rfl, _⟩ | ⟨g, cap, cur, rfl, _, hg, _⟩
 · cases hk
 · have e' : g = b := Option.some.inj hk
   subst e'
   have := hg.symm.trans h'.2
   simp only [Option.some.injEq, Obj.cells.injEq, and_true] at this
   exact hne this.2
theorem own_vs_has {w : World} {B e size n b : Nat} {v : Value} {xs : List Value} {cs : Array Value} {t : TypeId} (h : w.ownsRow B e size v n xs) (h' : Has B w b cs t) (hne : e ≠ t) : ∀ k, v.ownBlock = some k → (Value.slice (some ⟨b, 0, none⟩) 0 0).ownBlock ≠ some k := fun k hk e => by
 have e' : b = k := Option.some.inj e
 exact own_has h h' hne (by rw [e']; exact hk)
theorem own_vs_own {w : World} {B e size n e2 size2 n2 : Nat} {v v2 : Value} {xs xs2 : List Value} (h : w.ownsRow B e size v n xs) (h' : w.ownsRow B e2 size2 v2 n2 xs2) (hne : e ≠ e2) : ∀ k, v.ownBlock = some k → v2.ownBlock ≠ some k := fun k hk hk2 => by
 rcases h'.2 with ⟨rfl, _⟩ | ⟨g, cap, cur, rfl, hB, hg, _⟩
 · cases hk2
 · have e' : g = k := Option.some.inj hk2
   exact own_has h (⟨hB, hg⟩ : Has B w g cur e2) hne (by rw [e']; exact hk)
theorem own_kept {w w' : World} {B e size n : Nat} {v : Value} {xs : List Value} {row : Option Nat} (h : w.ownsRow B e size v n xs) (hg : w.grownBy w' row) (hn : ∀ k, v.ownBlock = some k → row ≠ some k) : w'.ownsRow B e size v n xs :=
 own_keep h (Keep.of_grown (S := fun k => row = some k) hg fun _ _ e => e) hn
theorem own_new {w : World} {v v' : Value} {b : Nat} (hat : v'.ownBlock = v.ownBlock ∨ v'.ownBlock = some w.heap.size) (h : v.ownBlock ≠ some b) (hlt : b < w.heap.size) : v'.ownBlock ≠ some b := fun e => by
 rcases hat with h1 | h1
 · exact h (h1.symm.trans e)
 · have := Option.some.inj (h1.symm.trans e)
   omega
theorem below_grown {W0 w w' : World} {row : Option Nat} (hb : Below W0.heap.size W0 w) (hg : w.grownBy w' row) (h : ∀ k, row = some k → W0.heap.size ≤ k) : Below W0.heap.size W0 w' :=
 hb.trans ((Keep.of_grown (S := fun k => row = some k) hg fun _ _ e => e).below hb.size fun k hk e => by have := h k e; omega)
inductive EachOf (P : Program) (md : Region.Mode) (ops : Array Oper) (Q : Exit → Act → World → Prop) (C : World → Prop) (n : Nat) (listed : Array Bool) (a : Act) (w : World) : List Nat → Prop
 | nil : EachOf P md ops Q C n listed a w []
 | cons {i : Nat} {r : List Nat} (o : Oper) (hi : ops[i]? = some o) (hw : Region.wanted o (yielded ops a.tmps) = true) (h : ∀ K' : Act → World → Prop, (∀ a w, wpIn P md ops Q C n (listed.setIfInBounds i true) a w → K' a w) → Oper.wp P o a w K' Q) (hr : EachOf P md ops Q C n listed a w r) : EachOf P md ops Q C n listed a w (i :: r)
theorem wpIn_each {P : Program} {md : Region.Mode} {ops : Array Oper} {Q : Exit → Act → World → Prop} {C : World → Prop} {n : Nat} {listed : Array Bool} {a : Act} {w : World} (l : List Nat) (hC : C w) (hr : Region.ready md ops listed = l) (hl : l ≠ []) (h : EachOf P md ops Q C n listed a w l) : wpIn P md ops Q C (n + 1) listed a w := by
 refine ⟨hC, fun h0 => absurd (hr.symm.trans h0) hl, fun m hm => ?_⟩
 rw [hr] at hm
 clear hr hl
 induction h with
 | nil => cases hm
 | cons o hi hw h _ ih =>
  rcases List.mem_cons.1 hm with rfl | hm
  · unfold wpOp
    rw [hi]
    simp only
    rw [if_pos hw]
    exact .inl (h _ fun _ _ h' => h')
  · exact ih hm
theorem wp_append_src {w : World} {o : Oper} {a : Act} {K : Act → World → Prop} {Q : Exit → Act → World → Prop} (s x : Operand) (t : TypeId)
    (ho : o.op = .call { callee := .builtin .append, args := #[s, x], argTypes := #[t, t] })
    (base : Nat) (e : TypeId) (z : Value) (size bytes : Nat) (ht : Tryz.prog.underlying t = some (.slice e)) (hinfo : (Tryz.prog.info? e).map (fun i => (i.zero, i.size, i.bytes)) = some (some z, size, bytes))
    (hzs : z.cells.size = size) (hsz : 0 < size) (hby : bytes ≤ 100)
    (v : Value) (n : Nat) (xs : List Value) (hs : a.eval s = v) (hown : w.ownsRow base e size v n xs)
    (p : Option Addr) (m c : Nat) (news : List Value) (hx : a.eval x = .slice p m c) (hl : news.length = m * size) (hp : p = none → m = 0 ∧ c = 0) (hnews : ∀ ad, p = some ad → ∀ j u, news[j]? = some u → w.cell? (ad.add j) = some u) (h1 : ∀ u ∈ news, u.oneCell' = true)
    (hn : n + m ≤ 1000000) (hbase : base ≤ w.heap.size)
    (h : ∀ v' w', w'.ownsRow base e size v' (n + m) (xs ++ news) → w.grownBy w' v.ownBlock → (v'.ownBlock = v.ownBlock ∨ v'.ownBlock = some w.heap.size) → K (a.put o.dst v') w') : o.wp Tryz.prog a w K Q := by
 obtain ⟨i0, hi, hz0, hz1, hz2⟩ := info_parts hinfo
 cases p with
 | none =>
  obtain ⟨rfl, rfl⟩ := hp rfl
  have hr := run_append_owned_none (P := Tryz.prog) (w := w) base t o.type e i0 size ht hi v n xs hown
  obtain rfl : news = [] := List.eq_nil_of_length_eq_zero (by rw [hl]; simp)
  have h2 := h v w (by rw [List.append_nil]; exact hown) (World.grownBy.refl w _) (.inl rfl)
  unfold Oper.wp execOp
  simp only [ho, resolve, invoke, builtin, Sem.run_bind, Sem.run_pure, Result.andThen_ok, List.map_toArray, List.map_cons, List.map_nil, hs, hx, hr]
  exact h2
 | some ad =>
  have hbb : (n + m) * bytes ≤ 140737488355328 := by
   have : (n + m) * bytes ≤ (n + m) * 100 := Nat.mul_le_mul_left _ hby
   omega
  obtain ⟨v', w', hr, h2, h3, h4, h5⟩ := run_append_own_at (P := Tryz.prog) w base t o.type e i0 z size bytes ht hi hz0 hz1 hz2 hzs hsz v n xs hown ad m c news hl (hnews ad rfl) h1 (by unfold maxLen; omega) hbb hbase
  unfold Oper.wp execOp
  simp only [ho, resolve, invoke, builtin, Sem.run_bind, Sem.run_pure, Result.andThen_ok, List.map_toArray, List.map_cons, List.map_nil, hs, hx, hr]
  exact h v' w' h2 h3 h5
theorem wp_b0 {w : World} {o : Oper} {a : Act} {K : Act → World → Prop} {Q : Exit → Act → World → Prop} (ho : o.op = .buildSlice 22 0 #[]) (h : K (a.put o.dst (.slice (some ⟨w.heap.size, 0, none⟩) 0 0)) (w.alloc (.cells #[] 9))) : o.wp Tryz.prog a w K Q := by
 obtain ⟨d, op, ty, ps, af, gd⟩ := o
 simp only at ho
 subst ho
 go_simp
 exact h
theorem wp_b5 {w : World} {o : Oper} {a : Act} {K : Act → World → Prop} {Q : Exit → Act → World → Prop} {key : ByteArray} (ho : o.op = .buildSlice 22 1 #[(0, .tmp 11)]) (hx : a.eval (.tmp 11) = .string key) (h : K (a.put o.dst (.slice (some ⟨w.heap.size, 0, none⟩) 1 1)) (w.alloc (.cells #[.string key] 9))) : o.wp Tryz.prog a w K Q := by
 obtain ⟨d, op, ty, ps, af, gd⟩ := o
 simp only at ho
 subst ho
 have hx' : a.tmps[11]?.getD undef = .string key := by rw [← hx]; simp [Act.eval]
 unfold Oper.wp execOp
 simp [go_sem, hx']
 exact h
theorem wp_b7 {w : World} {o : Oper} {a : Act} {K : Act → World → Prop} {Q : Exit → Act → World → Prop} (ho : o.op = .buildSlice 23 0 #[]) (h : K (a.put o.dst (.slice (some ⟨w.heap.size, 0, none⟩) 0 0)) (w.alloc (.cells #[] 25))) : o.wp Tryz.prog a w K Q := by
 obtain ⟨d, op, ty, ps, af, gd⟩ := o
 simp only at ho
 subst ho
 go_simp
 exact h
theorem wp_b12 {w : World} {o : Oper} {a : Act} {K : Act → World → Prop} {Q : Exit → Act → World → Prop} {v0 v1 v2 v3 v4 : Value} (ho : o.op = .buildSlice 23 1 #[(0, .tmp 18)]) (hx : a.eval (.tmp 18) = .agg #[v0, v1, v2, v3, v4]) (h : K (a.put o.dst (.slice (some ⟨w.heap.size, 0, none⟩) 1 1)) (w.alloc (.cells #[v0, v1, v2, v3, v4] 25))) : o.wp Tryz.prog a w K Q := by
 obtain ⟨d, op, ty, ps, af, gd⟩ := o
 simp only at ho
 subst ho
 have hx' : a.tmps[18]?.getD undef = .agg #[v0, v1, v2, v3, v4] := by rw [← hx]; simp [Act.eval]
 unfold Oper.wp execOp
 simp [go_sem, hx']
 exact h
theorem strs_one (ks : List ByteArray) : ∀ u ∈ ks.map Value.string, u.oneCell' = true := by
 intro u hu
 obtain ⟨x, _, rfl⟩ := List.mem_map.1 hu
 rfl
abbrev zVJ : Value := .agg #[.int .i64 0, .int .i64 0, .string ⟨#[]⟩, .slice none 0 0, .slice none 0 0]
structure PutC (W0 : World) (r : Nat) (key : ByteArray) (ks : List ByteArray) (pk pl : Option Addr) (nk ck nl cl : Nat) (xs : List Value) (v0 v1 v2 v3 v4 : Value) : Prop where
 rle : r ≤ W0.heap.size
 len : ks.length = nk
 lenx : xs.length = nl * 5
 nk5 : nk ≤ 100000
 nl5 : nl ≤ 100000
 kp : pk = none → nk = 0 ∧ ck = 0
 lp : pl = none → nl = 0 ∧ cl = 0
 kc : ∀ ad, pk = some ad → ∀ (j : Nat) u, (ks.map Value.string)[j]? = some u → (ad.add j).block < W0.heap.size ∧ W0.cell? (ad.add j) = some u
 lc : ∀ ad, pl = some ad → ∀ (j : Nat) u, xs[j]? = some u → (ad.add j).block < W0.heap.size ∧ W0.cell? (ad.add j) = some u
 onex : ∀ u ∈ xs, u.oneCell' = true
 onev : ∀ u ∈ [v0, v1, v2, v3, v4], u.oneCell' = true
def PutF (Q : Exit → Act → World → Prop) (W0 : World) (t0 t1 t2 t3 t5 t8 t15 : Value) (r : Nat) (key : ByteArray) (ks : List ByteArray) (pk pl : Option Addr) (nk ck nl cl : Nat) (xs : List Value) (v0 v1 v2 v3 v4 : Value) : Prop :=
 ∀ (w : World), Below W0.heap.size W0 w → ∀ (x7 : Value) (x10 : Value) (x12 : Value) (q13 : Option Addr) (c13 : Nat) (_o13 : w.ownsRow W0.heap.size 9 1 (.slice q13 (nk + 1) c13) (nk + 1) (ks.map Value.string ++ [.string key])) (x14 : Value) (x17 : Value) (x19 : Value) (q20 : Option Addr) (c20 : Nat) (_o20 : w.ownsRow W0.heap.size 25 5 (.slice q20 (nl + 1) c20) (nl + 1) (xs ++ [v0, v1, v2, v3, v4])), wpIn Tryz.prog .any putOps Q (fun w' => Below r W0 w') 2 #[true, true, true, true, true, true, true, true, true, true, true, true, true, true, false, false] ⟨#[t0, t1, t2, t3, undef, t5, .pointer (some ⟨r, 0, none⟩), x7, t8, .slice pk nk ck, x10, .string key, x12, .slice q13 (nk + 1) c13, x14, t15, .slice pl nl cl, x17, .agg #[v0, v1, v2, v3, v4], x19, .slice q20 (nl + 1) c20, undef], []⟩ w
section
variable {Q : Exit → Act → World → Prop} {W0 : World} {t0 t1 t2 t3 t5 t8 t15 : Value} {r : Nat} {key : ByteArray} {ks : List ByteArray} {pk pl : Option Addr} {nk ck nl cl : Nat} {xs : List Value} {v0 v1 v2 v3 v4 : Value}
theorem pst_4_057c (hF : PutF Q W0 t0 t1 t2 t3 t5 t8 t15 r key ks pk pl nk ck nl cl xs v0 v1 v2 v3 v4) (_hP : PutC W0 r key ks pk pl nk ck nl cl xs v0 v1 v2 v3 v4) (w : World) (hb : Below W0.heap.size W0 w) (x7 : Value) (x10 : Value) (x12 : Value) (q13 : Option Addr) (c13 : Nat) (o13 : w.ownsRow W0.heap.size 9 1 (.slice q13 (nk + 1) c13) (nk + 1) (ks.map Value.string ++ [.string key])) (x14 : Value) (x17 : Value) (x19 : Value) (q20 : Option Addr) (c20 : Nat) (o20 : w.ownsRow W0.heap.size 25 5 (.slice q20 (nl + 1) c20) (nl + 1) (xs ++ [v0, v1, v2, v3, v4])) : wpIn Tryz.prog .any putOps Q (fun w' => Below r W0 w') 2 #[true, true, true, true, true, true, true, true, true, true, true, true, true, true, false, false] ⟨#[t0, t1, t2, t3, undef, t5, .pointer (some ⟨r, 0, none⟩), x7, t8, .slice pk nk ck, x10, .string key, x12, .slice q13 (nk + 1) c13, x14, t15, .slice pl nl cl, x17, .agg #[v0, v1, v2, v3, v4], x19, .slice q20 (nl + 1) c20, undef], []⟩ w := hF w hb x7 x10 x12 q13 c13 o13 x14 x17 x19 q20 c20 o20
theorem pst_3_057c (hF : PutF Q W0 t0 t1 t2 t3 t5 t8 t15 r key ks pk pl nk ck nl cl xs v0 v1 v2 v3 v4) (hP : PutC W0 r key ks pk pl nk ck nl cl xs v0 v1 v2 v3 v4) (w : World) (hb : Below W0.heap.size W0 w) (x7 : Value) (x10 : Value) (x12 : Value) (q13 : Option Addr) (c13 : Nat) (o13 : w.ownsRow W0.heap.size 9 1 (.slice q13 (nk + 1) c13) (nk + 1) (ks.map Value.string ++ [.string key])) (x14 : Value) (q17 : Option Addr) (c17 : Nat) (o17 : w.ownsRow W0.heap.size 25 5 (.slice q17 nl c17) nl xs) (b19 : Nat) (h19 : Has W0.heap.size w b19 #[v0, v1, v2, v3, v4] 25) (_n19 : (Value.slice q17 nl c17).ownBlock ≠ some b19) : wpIn Tryz.prog .any putOps Q (fun w' => Below r W0 w') 3 #[true, true, true, true, true, true, true, true, true, true, true, true, true, false, false, false] ⟨#[t0, t1, t2, t3, undef, t5, .pointer (some ⟨r, 0, none⟩), x7, t8, .slice pk nk ck, x10, .string key, x12, .slice q13 (nk + 1) c13, x14, t15, .slice pl nl cl, .slice q17 nl c17, .agg #[v0, v1, v2, v3, v4], .slice (some ⟨b19, 0, none⟩) 1 1, undef, undef], []⟩ w := by
 refine wpIn_each [13] (hb.mono hP.rle) (by kernel_rfl) (by decide) ?_
 refine .cons _ rfl (by rfl) (fun K hK => ?_) (.nil)
 · refine wp_append_src (.tmp 17) (.tmp 19) 23 rfl W0.heap.size 25 zVJ 5 80 Tryz.underlying23 Tryz.info25 rfl (by decide) (by decide) _ nl xs rfl o17 (some ⟨b19, 0, none⟩) 1 1 [v0, v1, v2, v3, v4] rfl rfl (fun h => by cases h) (fun ad e j u h => by cases e; exact h19.cell j u h) hP.onev (by have := hP.nl5; omega) hb.size ?_
   intro v' w' hown hg hat
   refine hK _ _ ?_
   obtain ⟨q, c, rfl⟩ := own_sl hown
   exact pst_4_057c hF hP _ (below_grown hb hg (own_base o17)) _ _ _ _ _ (own_kept o13 hg (own_vs_own o13 o17 (by decide))) _ _ _ _ _ hown
theorem pst_2_057c (hF : PutF Q W0 t0 t1 t2 t3 t5 t8 t15 r key ks pk pl nk ck nl cl xs v0 v1 v2 v3 v4) (hP : PutC W0 r key ks pk pl nk ck nl cl xs v0 v1 v2 v3 v4) (w : World) (hb : Below W0.heap.size W0 w) (x7 : Value) (x10 : Value) (x12 : Value) (q13 : Option Addr) (c13 : Nat) (o13 : w.ownsRow W0.heap.size 9 1 (.slice q13 (nk + 1) c13) (nk + 1) (ks.map Value.string ++ [.string key])) (b14 : Nat) (h14 : Has W0.heap.size w b14 #[] 25) (b19 : Nat) (h19 : Has W0.heap.size w b19 #[v0, v1, v2, v3, v4] 25) : wpIn Tryz.prog .any putOps Q (fun w' => Below r W0 w') 4 #[true, true, true, true, true, true, true, true, true, true, false, true, true, false, false, false] ⟨#[t0, t1, t2, t3, undef, t5, .pointer (some ⟨r, 0, none⟩), x7, t8, .slice pk nk ck, x10, .string key, x12, .slice q13 (nk + 1) c13, .slice (some ⟨b14, 0, none⟩) 0 0, t15, .slice pl nl cl, undef, .agg #[v0, v1, v2, v3, v4], .slice (some ⟨b19, 0, none⟩) 1 1, undef, undef], []⟩ w := by
 refine wpIn_each [10] (hb.mono hP.rle) (by kernel_rfl) (by decide) ?_
 refine .cons _ rfl (by rfl) (fun K hK => ?_) (.nil)
 · refine wp_append_src (.tmp 14) (.tmp 16) 23 rfl W0.heap.size 25 zVJ 5 80 Tryz.underlying23 Tryz.info25 rfl (by decide) (by decide) _ 0 [] rfl h14.own pl nl cl xs rfl hP.lenx hP.lp (fun ad e j u h => (hb.cell (hP.lc ad e j u h).1).trans (hP.lc ad e j u h).2) hP.onex (by have := hP.nl5; omega) hb.size ?_
   intro v' w' hown hg hat
   refine hK _ _ ?_
   rw [Nat.zero_add, List.nil_append] at hown
   obtain ⟨q, c, rfl⟩ := own_sl hown
   exact pst_3_057c hF hP _ (below_grown hb hg h14.ge) _ _ _ _ _ (own_kept o13 hg (own_vs_has o13 h14 (by decide))) _ _ _ hown _ (h19.kept hg (Has.apart h14 h19 (by simp))) (own_new hat (Has.apart h14 h19 (by simp)) h19.lt)
theorem pst_3_057 (hF : PutF Q W0 t0 t1 t2 t3 t5 t8 t15 r key ks pk pl nk ck nl cl xs v0 v1 v2 v3 v4) (hP : PutC W0 r key ks pk pl nk ck nl cl xs v0 v1 v2 v3 v4) (w : World) (hb : Below W0.heap.size W0 w) (x7 : Value) (x10 : Value) (x12 : Value) (q13 : Option Addr) (c13 : Nat) (o13 : w.ownsRow W0.heap.size 9 1 (.slice q13 (nk + 1) c13) (nk + 1) (ks.map Value.string ++ [.string key])) (x14 : Value) (q17 : Option Addr) (c17 : Nat) (o17 : w.ownsRow W0.heap.size 25 5 (.slice q17 nl c17) nl xs) : wpIn Tryz.prog .any putOps Q (fun w' => Below r W0 w') 4 #[true, true, true, true, true, true, true, true, true, true, true, true, false, false, false, false] ⟨#[t0, t1, t2, t3, undef, t5, .pointer (some ⟨r, 0, none⟩), x7, t8, .slice pk nk ck, x10, .string key, x12, .slice q13 (nk + 1) c13, x14, t15, .slice pl nl cl, .slice q17 nl c17, .agg #[v0, v1, v2, v3, v4], undef, undef, undef], []⟩ w := by
 refine wpIn_each [12] (hb.mono hP.rle) (by kernel_rfl) (by decide) ?_
 refine .cons _ rfl (by rfl) (fun K hK => ?_) (.nil)
 · refine wp_b12 rfl rfl (hK _ _ ?_)
   exact pst_3_057c hF hP _ (hb.alloc hb.size _) _ _ _ _ _ (o13.alloc _) _ _ _ (o17.alloc _) _ (Has.new (hb.size)) (own_lt o17)
theorem pst_1_057c (hF : PutF Q W0 t0 t1 t2 t3 t5 t8 t15 r key ks pk pl nk ck nl cl xs v0 v1 v2 v3 v4) (hP : PutC W0 r key ks pk pl nk ck nl cl xs v0 v1 v2 v3 v4) (w : World) (hb : Below W0.heap.size W0 w) (x7 : Value) (q10 : Option Addr) (c10 : Nat) (o10 : w.ownsRow W0.heap.size 9 1 (.slice q10 nk c10) nk (ks.map Value.string)) (b12 : Nat) (h12 : Has W0.heap.size w b12 #[.string key] 9) (_n12 : (Value.slice q10 nk c10).ownBlock ≠ some b12) (b14 : Nat) (h14 : Has W0.heap.size w b14 #[] 25) (b19 : Nat) (h19 : Has W0.heap.size w b19 #[v0, v1, v2, v3, v4] 25) : wpIn Tryz.prog .any putOps Q (fun w' => Below r W0 w') 5 #[true, true, true, true, true, true, false, true, true, true, false, true, true, false, false, false] ⟨#[t0, t1, t2, t3, undef, t5, .pointer (some ⟨r, 0, none⟩), x7, t8, .slice pk nk ck, .slice q10 nk c10, .string key, .slice (some ⟨b12, 0, none⟩) 1 1, undef, .slice (some ⟨b14, 0, none⟩) 0 0, t15, .slice pl nl cl, undef, .agg #[v0, v1, v2, v3, v4], .slice (some ⟨b19, 0, none⟩) 1 1, undef, undef], []⟩ w := by
 refine wpIn_each [6] (hb.mono hP.rle) (by kernel_rfl) (by decide) ?_
 refine .cons _ rfl (by rfl) (fun K hK => ?_) (.nil)
 · refine wp_append_src (.tmp 10) (.tmp 12) 22 rfl W0.heap.size 9 (.string ⟨#[]⟩) 1 16 Tryz.underlying22 Tryz.info9 rfl (by decide) (by decide) _ nk (ks.map Value.string) rfl o10 (some ⟨b12, 0, none⟩) 1 1 [.string key] rfl rfl (fun h => by cases h) (fun ad e j u h => by cases e; exact h12.cell j u h) (str_one key) (by have := hP.nk5; omega) hb.size ?_
   intro v' w' hown hg hat
   refine hK _ _ ?_
   obtain ⟨q, c, rfl⟩ := own_sl hown
   exact pst_2_057c hF hP _ (below_grown hb hg (own_base o10)) _ _ _ _ _ hown _ (h14.kept hg (own_has o10 h14 (by decide))) _ (h19.kept hg (own_has o10 h19 (by decide)))
theorem pst_2_05c (hF : PutF Q W0 t0 t1 t2 t3 t5 t8 t15 r key ks pk pl nk ck nl cl xs v0 v1 v2 v3 v4) (hP : PutC W0 r key ks pk pl nk ck nl cl xs v0 v1 v2 v3 v4) (w : World) (hb : Below W0.heap.size W0 w) (x7 : Value) (x10 : Value) (x12 : Value) (q13 : Option Addr) (c13 : Nat) (o13 : w.ownsRow W0.heap.size 9 1 (.slice q13 (nk + 1) c13) (nk + 1) (ks.map Value.string ++ [.string key])) (b19 : Nat) (h19 : Has W0.heap.size w b19 #[v0, v1, v2, v3, v4] 25) : wpIn Tryz.prog .any putOps Q (fun w' => Below r W0 w') 5 #[true, true, true, true, true, true, true, false, true, true, false, true, true, false, false, false] ⟨#[t0, t1, t2, t3, undef, t5, .pointer (some ⟨r, 0, none⟩), x7, t8, .slice pk nk ck, x10, .string key, x12, .slice q13 (nk + 1) c13, undef, t15, .slice pl nl cl, undef, .agg #[v0, v1, v2, v3, v4], .slice (some ⟨b19, 0, none⟩) 1 1, undef, undef], []⟩ w := by
 refine wpIn_each [7] (hb.mono hP.rle) (by kernel_rfl) (by decide) ?_
 refine .cons _ rfl (by rfl) (fun K hK => ?_) (.nil)
 · refine wp_b7 rfl (hK _ _ ?_)
   exact pst_2_057c hF hP _ (hb.alloc hb.size _) _ _ _ _ _ (o13.alloc _) _ (Has.new (hb.size)) _ (h19.alloc _)
theorem pst_2_057 (hF : PutF Q W0 t0 t1 t2 t3 t5 t8 t15 r key ks pk pl nk ck nl cl xs v0 v1 v2 v3 v4) (hP : PutC W0 r key ks pk pl nk ck nl cl xs v0 v1 v2 v3 v4) (w : World) (hb : Below W0.heap.size W0 w) (x7 : Value) (x10 : Value) (x12 : Value) (q13 : Option Addr) (c13 : Nat) (o13 : w.ownsRow W0.heap.size 9 1 (.slice q13 (nk + 1) c13) (nk + 1) (ks.map Value.string ++ [.string key])) (b14 : Nat) (h14 : Has W0.heap.size w b14 #[] 25) : wpIn Tryz.prog .any putOps Q (fun w' => Below r W0 w') 5 #[true, true, true, true, true, true, true, true, true, true, false, true, false, false, false, false] ⟨#[t0, t1, t2, t3, undef, t5, .pointer (some ⟨r, 0, none⟩), x7, t8, .slice pk nk ck, x10, .string key, x12, .slice q13 (nk + 1) c13, .slice (some ⟨b14, 0, none⟩) 0 0, t15, .slice pl nl cl, undef, .agg #[v0, v1, v2, v3, v4], undef, undef, undef], []⟩ w := by
 refine wpIn_each [10, 12] (hb.mono hP.rle) (by kernel_rfl) (by decide) ?_
 refine .cons _ rfl (by rfl) (fun K hK => ?_) (.cons _ rfl (by rfl) (fun K hK => ?_) (.nil))
 · refine wp_append_src (.tmp 14) (.tmp 16) 23 rfl W0.heap.size 25 zVJ 5 80 Tryz.underlying23 Tryz.info25 rfl (by decide) (by decide) _ 0 [] rfl h14.own pl nl cl xs rfl hP.lenx hP.lp (fun ad e j u h => (hb.cell (hP.lc ad e j u h).1).trans (hP.lc ad e j u h).2) hP.onex (by have := hP.nl5; omega) hb.size ?_
   intro v' w' hown hg hat
   refine hK _ _ ?_
   rw [Nat.zero_add, List.nil_append] at hown
   obtain ⟨q, c, rfl⟩ := own_sl hown
   exact pst_3_057 hF hP _ (below_grown hb hg h14.ge) _ _ _ _ _ (own_kept o13 hg (own_vs_has o13 h14 (by decide))) _ _ _ hown
 · refine wp_b12 rfl rfl (hK _ _ ?_)
   exact pst_2_057c hF hP _ (hb.alloc hb.size _) _ _ _ _ _ (o13.alloc _) _ (h14.alloc _) _ (Has.new (hb.size))
theorem pst_0_057c (hF : PutF Q W0 t0 t1 t2 t3 t5 t8 t15 r key ks pk pl nk ck nl cl xs v0 v1 v2 v3 v4) (hP : PutC W0 r key ks pk pl nk ck nl cl xs v0 v1 v2 v3 v4) (w : World) (hb : Below W0.heap.size W0 w) (b7 : Nat) (h7 : Has W0.heap.size w b7 #[] 9) (b12 : Nat) (h12 : Has W0.heap.size w b12 #[.string key] 9) (b14 : Nat) (h14 : Has W0.heap.size w b14 #[] 25) (b19 : Nat) (h19 : Has W0.heap.size w b19 #[v0, v1, v2, v3, v4] 25) : wpIn Tryz.prog .any putOps Q (fun w' => Below r W0 w') 6 #[true, true, true, false, true, true, false, true, true, true, false, true, true, false, false, false] ⟨#[t0, t1, t2, t3, undef, t5, .pointer (some ⟨r, 0, none⟩), .slice (some ⟨b7, 0, none⟩) 0 0, t8, .slice pk nk ck, undef, .string key, .slice (some ⟨b12, 0, none⟩) 1 1, undef, .slice (some ⟨b14, 0, none⟩) 0 0, t15, .slice pl nl cl, undef, .agg #[v0, v1, v2, v3, v4], .slice (some ⟨b19, 0, none⟩) 1 1, undef, undef], []⟩ w := by
 refine wpIn_each [3] (hb.mono hP.rle) (by kernel_rfl) (by decide) ?_
 refine .cons _ rfl (by rfl) (fun K hK => ?_) (.nil)
 · refine wp_append_src (.tmp 7) (.tmp 9) 22 rfl W0.heap.size 9 (.string ⟨#[]⟩) 1 16 Tryz.underlying22 Tryz.info9 rfl (by decide) (by decide) _ 0 [] rfl h7.own pk nk ck (ks.map Value.string) rfl (by simp [hP.len]) hP.kp (fun ad e j u h => (hb.cell (hP.kc ad e j u h).1).trans (hP.kc ad e j u h).2) (strs_one ks) (by have := hP.nk5; omega) hb.size ?_
   intro v' w' hown hg hat
   refine hK _ _ ?_
   rw [Nat.zero_add, List.nil_append] at hown
   obtain ⟨q, c, rfl⟩ := own_sl hown
   exact pst_1_057c hF hP _ (below_grown hb hg h7.ge) _ _ _ hown _ (h12.kept hg (Has.apart h7 h12 (by simp))) (own_new hat (Has.apart h7 h12 (by simp)) h12.lt) _ (h14.kept hg (Has.apart h7 h14 (by simp))) _ (h19.kept hg (Has.apart h7 h19 (by simp)))
theorem pst_1_07c (hF : PutF Q W0 t0 t1 t2 t3 t5 t8 t15 r key ks pk pl nk ck nl cl xs v0 v1 v2 v3 v4) (hP : PutC W0 r key ks pk pl nk ck nl cl xs v0 v1 v2 v3 v4) (w : World) (hb : Below W0.heap.size W0 w) (x7 : Value) (q10 : Option Addr) (c10 : Nat) (o10 : w.ownsRow W0.heap.size 9 1 (.slice q10 nk c10) nk (ks.map Value.string)) (b14 : Nat) (h14 : Has W0.heap.size w b14 #[] 25) (b19 : Nat) (h19 : Has W0.heap.size w b19 #[v0, v1, v2, v3, v4] 25) : wpIn Tryz.prog .any putOps Q (fun w' => Below r W0 w') 6 #[true, true, true, true, true, false, false, true, true, true, false, true, true, false, false, false] ⟨#[t0, t1, t2, t3, undef, t5, .pointer (some ⟨r, 0, none⟩), x7, t8, .slice pk nk ck, .slice q10 nk c10, .string key, undef, undef, .slice (some ⟨b14, 0, none⟩) 0 0, t15, .slice pl nl cl, undef, .agg #[v0, v1, v2, v3, v4], .slice (some ⟨b19, 0, none⟩) 1 1, undef, undef], []⟩ w := by
 refine wpIn_each [5] (hb.mono hP.rle) (by kernel_rfl) (by decide) ?_
 refine .cons _ rfl (by rfl) (fun K hK => ?_) (.nil)
 · refine wp_b5 rfl rfl (hK _ _ ?_)
   exact pst_1_057c hF hP _ (hb.alloc hb.size _) _ _ _ (o10.alloc _) _ (Has.new (hb.size)) (own_lt o10) _ (h14.alloc _) _ (h19.alloc _)
theorem pst_1_05c (hF : PutF Q W0 t0 t1 t2 t3 t5 t8 t15 r key ks pk pl nk ck nl cl xs v0 v1 v2 v3 v4) (hP : PutC W0 r key ks pk pl nk ck nl cl xs v0 v1 v2 v3 v4) (w : World) (hb : Below W0.heap.size W0 w) (x7 : Value) (q10 : Option Addr) (c10 : Nat) (o10 : w.ownsRow W0.heap.size 9 1 (.slice q10 nk c10) nk (ks.map Value.string)) (b12 : Nat) (h12 : Has W0.heap.size w b12 #[.string key] 9) (n12 : (Value.slice q10 nk c10).ownBlock ≠ some b12) (b19 : Nat) (h19 : Has W0.heap.size w b19 #[v0, v1, v2, v3, v4] 25) : wpIn Tryz.prog .any putOps Q (fun w' => Below r W0 w') 6 #[true, true, true, true, true, true, false, false, true, true, false, true, true, false, false, false] ⟨#[t0, t1, t2, t3, undef, t5, .pointer (some ⟨r, 0, none⟩), x7, t8, .slice pk nk ck, .slice q10 nk c10, .string key, .slice (some ⟨b12, 0, none⟩) 1 1, undef, undef, t15, .slice pl nl cl, undef, .agg #[v0, v1, v2, v3, v4], .slice (some ⟨b19, 0, none⟩) 1 1, undef, undef], []⟩ w := by
 refine wpIn_each [6, 7] (hb.mono hP.rle) (by kernel_rfl) (by decide) ?_
 refine .cons _ rfl (by rfl) (fun K hK => ?_) (.cons _ rfl (by rfl) (fun K hK => ?_) (.nil))
 · refine wp_append_src (.tmp 10) (.tmp 12) 22 rfl W0.heap.size 9 (.string ⟨#[]⟩) 1 16 Tryz.underlying22 Tryz.info9 rfl (by decide) (by decide) _ nk (ks.map Value.string) rfl o10 (some ⟨b12, 0, none⟩) 1 1 [.string key] rfl rfl (fun h => by cases h) (fun ad e j u h => by cases e; exact h12.cell j u h) (str_one key) (by have := hP.nk5; omega) hb.size ?_
   intro v' w' hown hg hat
   refine hK _ _ ?_
   obtain ⟨q, c, rfl⟩ := own_sl hown
   exact pst_2_05c hF hP _ (below_grown hb hg (own_base o10)) _ _ _ _ _ hown _ (h19.kept hg (own_has o10 h19 (by decide)))
 · refine wp_b7 rfl (hK _ _ ?_)
   exact pst_1_057c hF hP _ (hb.alloc hb.size _) _ _ _ (o10.alloc _) _ (h12.alloc _) n12 _ (Has.new (hb.size)) _ (h19.alloc _)
theorem pst_1_057 (hF : PutF Q W0 t0 t1 t2 t3 t5 t8 t15 r key ks pk pl nk ck nl cl xs v0 v1 v2 v3 v4) (hP : PutC W0 r key ks pk pl nk ck nl cl xs v0 v1 v2 v3 v4) (w : World) (hb : Below W0.heap.size W0 w) (x7 : Value) (q10 : Option Addr) (c10 : Nat) (o10 : w.ownsRow W0.heap.size 9 1 (.slice q10 nk c10) nk (ks.map Value.string)) (b12 : Nat) (h12 : Has W0.heap.size w b12 #[.string key] 9) (n12 : (Value.slice q10 nk c10).ownBlock ≠ some b12) (b14 : Nat) (h14 : Has W0.heap.size w b14 #[] 25) : wpIn Tryz.prog .any putOps Q (fun w' => Below r W0 w') 6 #[true, true, true, true, true, true, false, true, true, true, false, true, false, false, false, false] ⟨#[t0, t1, t2, t3, undef, t5, .pointer (some ⟨r, 0, none⟩), x7, t8, .slice pk nk ck, .slice q10 nk c10, .string key, .slice (some ⟨b12, 0, none⟩) 1 1, undef, .slice (some ⟨b14, 0, none⟩) 0 0, t15, .slice pl nl cl, undef, .agg #[v0, v1, v2, v3, v4], undef, undef, undef], []⟩ w := by
 refine wpIn_each [6, 12] (hb.mono hP.rle) (by kernel_rfl) (by decide) ?_
 refine .cons _ rfl (by rfl) (fun K hK => ?_) (.cons _ rfl (by rfl) (fun K hK => ?_) (.nil))
 · refine wp_append_src (.tmp 10) (.tmp 12) 22 rfl W0.heap.size 9 (.string ⟨#[]⟩) 1 16 Tryz.underlying22 Tryz.info9 rfl (by decide) (by decide) _ nk (ks.map Value.string) rfl o10 (some ⟨b12, 0, none⟩) 1 1 [.string key] rfl rfl (fun h => by cases h) (fun ad e j u h => by cases e; exact h12.cell j u h) (str_one key) (by have := hP.nk5; omega) hb.size ?_
   intro v' w' hown hg hat
   refine hK _ _ ?_
   obtain ⟨q, c, rfl⟩ := own_sl hown
   exact pst_2_057 hF hP _ (below_grown hb hg (own_base o10)) _ _ _ _ _ hown _ (h14.kept hg (own_has o10 h14 (by decide)))
 · refine wp_b12 rfl rfl (hK _ _ ?_)
   exact pst_1_057c hF hP _ (hb.alloc hb.size _) _ _ _ (o10.alloc _) _ (h12.alloc _) n12 _ (h14.alloc _) _ (Has.new (hb.size))
theorem pst_2_05 (hF : PutF Q W0 t0 t1 t2 t3 t5 t8 t15 r key ks pk pl nk ck nl cl xs v0 v1 v2 v3 v4) (hP : PutC W0 r key ks pk pl nk ck nl cl xs v0 v1 v2 v3 v4) (w : World) (hb : Below W0.heap.size W0 w) (x7 : Value) (x10 : Value) (x12 : Value) (q13 : Option Addr) (c13 : Nat) (o13 : w.ownsRow W0.heap.size 9 1 (.slice q13 (nk + 1) c13) (nk + 1) (ks.map Value.string ++ [.string key])) : wpIn Tryz.prog .any putOps Q (fun w' => Below r W0 w') 6 #[true, true, true, true, true, true, true, false, true, true, false, true, false, false, false, false] ⟨#[t0, t1, t2, t3, undef, t5, .pointer (some ⟨r, 0, none⟩), x7, t8, .slice pk nk ck, x10, .string key, x12, .slice q13 (nk + 1) c13, undef, t15, .slice pl nl cl, undef, .agg #[v0, v1, v2, v3, v4], undef, undef, undef], []⟩ w := by
 refine wpIn_each [7, 12] (hb.mono hP.rle) (by kernel_rfl) (by decide) ?_
 refine .cons _ rfl (by rfl) (fun K hK => ?_) (.cons _ rfl (by rfl) (fun K hK => ?_) (.nil))
 · refine wp_b7 rfl (hK _ _ ?_)
   exact pst_2_057 hF hP _ (hb.alloc hb.size _) _ _ _ _ _ (o13.alloc _) _ (Has.new (hb.size))
 · refine wp_b12 rfl rfl (hK _ _ ?_)
   exact pst_2_05c hF hP _ (hb.alloc hb.size _) _ _ _ _ _ (o13.alloc _) _ (Has.new (hb.size))
theorem pst_0_57c (hF : PutF Q W0 t0 t1 t2 t3 t5 t8 t15 r key ks pk pl nk ck nl cl xs v0 v1 v2 v3 v4) (hP : PutC W0 r key ks pk pl nk ck nl cl xs v0 v1 v2 v3 v4) (w : World) (hb : Below W0.heap.size W0 w) (b12 : Nat) (h12 : Has W0.heap.size w b12 #[.string key] 9) (b14 : Nat) (h14 : Has W0.heap.size w b14 #[] 25) (b19 : Nat) (h19 : Has W0.heap.size w b19 #[v0, v1, v2, v3, v4] 25) : wpIn Tryz.prog .any putOps Q (fun w' => Below r W0 w') 7 #[false, true, true, false, true, true, false, true, true, true, false, true, true, false, false, false] ⟨#[t0, t1, t2, t3, undef, t5, .pointer (some ⟨r, 0, none⟩), undef, t8, .slice pk nk ck, undef, .string key, .slice (some ⟨b12, 0, none⟩) 1 1, undef, .slice (some ⟨b14, 0, none⟩) 0 0, t15, .slice pl nl cl, undef, .agg #[v0, v1, v2, v3, v4], .slice (some ⟨b19, 0, none⟩) 1 1, undef, undef], []⟩ w := by
 refine wpIn_each [0] (hb.mono hP.rle) (by kernel_rfl) (by decide) ?_
 refine .cons _ rfl (by rfl) (fun K hK => ?_) (.nil)
 · refine wp_b0 rfl (hK _ _ ?_)
   exact pst_0_057c hF hP _ (hb.alloc hb.size _) _ (Has.new (hb.size)) _ (h12.alloc _) _ (h14.alloc _) _ (h19.alloc _)
theorem pst_0_07c (hF : PutF Q W0 t0 t1 t2 t3 t5 t8 t15 r key ks pk pl nk ck nl cl xs v0 v1 v2 v3 v4) (hP : PutC W0 r key ks pk pl nk ck nl cl xs v0 v1 v2 v3 v4) (w : World) (hb : Below W0.heap.size W0 w) (b7 : Nat) (h7 : Has W0.heap.size w b7 #[] 9) (b14 : Nat) (h14 : Has W0.heap.size w b14 #[] 25) (b19 : Nat) (h19 : Has W0.heap.size w b19 #[v0, v1, v2, v3, v4] 25) : wpIn Tryz.prog .any putOps Q (fun w' => Below r W0 w') 7 #[true, true, true, false, true, false, false, true, true, true, false, true, true, false, false, false] ⟨#[t0, t1, t2, t3, undef, t5, .pointer (some ⟨r, 0, none⟩), .slice (some ⟨b7, 0, none⟩) 0 0, t8, .slice pk nk ck, undef, .string key, undef, undef, .slice (some ⟨b14, 0, none⟩) 0 0, t15, .slice pl nl cl, undef, .agg #[v0, v1, v2, v3, v4], .slice (some ⟨b19, 0, none⟩) 1 1, undef, undef], []⟩ w := by
 refine wpIn_each [3, 5] (hb.mono hP.rle) (by kernel_rfl) (by decide) ?_
 refine .cons _ rfl (by rfl) (fun K hK => ?_) (.cons _ rfl (by rfl) (fun K hK => ?_) (.nil))
 · refine wp_append_src (.tmp 7) (.tmp 9) 22 rfl W0.heap.size 9 (.string ⟨#[]⟩) 1 16 Tryz.underlying22 Tryz.info9 rfl (by decide) (by decide) _ 0 [] rfl h7.own pk nk ck (ks.map Value.string) rfl (by simp [hP.len]) hP.kp (fun ad e j u h => (hb.cell (hP.kc ad e j u h).1).trans (hP.kc ad e j u h).2) (strs_one ks) (by have := hP.nk5; omega) hb.size ?_
   intro v' w' hown hg hat
   refine hK _ _ ?_
   rw [Nat.zero_add, List.nil_append] at hown
   obtain ⟨q, c, rfl⟩ := own_sl hown
   exact pst_1_07c hF hP _ (below_grown hb hg h7.ge) _ _ _ hown _ (h14.kept hg (Has.apart h7 h14 (by simp))) _ (h19.kept hg (Has.apart h7 h19 (by simp)))
 · refine wp_b5 rfl rfl (hK _ _ ?_)
   exact pst_0_057c hF hP _ (hb.alloc hb.size _) _ (h7.alloc _) _ (Has.new (hb.size)) _ (h14.alloc _) _ (h19.alloc _)
theorem pst_0_05c (hF : PutF Q W0 t0 t1 t2 t3 t5 t8 t15 r key ks pk pl nk ck nl cl xs v0 v1 v2 v3 v4) (hP : PutC W0 r key ks pk pl nk ck nl cl xs v0 v1 v2 v3 v4) (w : World) (hb : Below W0.heap.size W0 w) (b7 : Nat) (h7 : Has W0.heap.size w b7 #[] 9) (b12 : Nat) (h12 : Has W0.heap.size w b12 #[.string key] 9) (b19 : Nat) (h19 : Has W0.heap.size w b19 #[v0, v1, v2, v3, v4] 25) : wpIn Tryz.prog .any putOps Q (fun w' => Below r W0 w') 7 #[true, true, true, false, true, true, false, false, true, true, false, true, true, false, false, false] ⟨#[t0, t1, t2, t3, undef, t5, .pointer (some ⟨r, 0, none⟩), .slice (some ⟨b7, 0, none⟩) 0 0, t8, .slice pk nk ck, undef, .string key, .slice (some ⟨b12, 0, none⟩) 1 1, undef, undef, t15, .slice pl nl cl, undef, .agg #[v0, v1, v2, v3, v4], .slice (some ⟨b19, 0, none⟩) 1 1, undef, undef], []⟩ w := by
 refine wpIn_each [3, 7] (hb.mono hP.rle) (by kernel_rfl) (by decide) ?_
 refine .cons _ rfl (by rfl) (fun K hK => ?_) (.cons _ rfl (by rfl) (fun K hK => ?_) (.nil))
 · refine wp_append_src (.tmp 7) (.tmp 9) 22 rfl W0.heap.size 9 (.string ⟨#[]⟩) 1 16 Tryz.underlying22 Tryz.info9 rfl (by decide) (by decide) _ 0 [] rfl h7.own pk nk ck (ks.map Value.string) rfl (by simp [hP.len]) hP.kp (fun ad e j u h => (hb.cell (hP.kc ad e j u h).1).trans (hP.kc ad e j u h).2) (strs_one ks) (by have := hP.nk5; omega) hb.size ?_
   intro v' w' hown hg hat
   refine hK _ _ ?_
   rw [Nat.zero_add, List.nil_append] at hown
   obtain ⟨q, c, rfl⟩ := own_sl hown
   exact pst_1_05c hF hP _ (below_grown hb hg h7.ge) _ _ _ hown _ (h12.kept hg (Has.apart h7 h12 (by simp))) (own_new hat (Has.apart h7 h12 (by simp)) h12.lt) _ (h19.kept hg (Has.apart h7 h19 (by simp)))
 · refine wp_b7 rfl (hK _ _ ?_)
   exact pst_0_057c hF hP _ (hb.alloc hb.size _) _ (h7.alloc _) _ (h12.alloc _) _ (Has.new (hb.size)) _ (h19.alloc _)
theorem pst_0_057 (hF : PutF Q W0 t0 t1 t2 t3 t5 t8 t15 r key ks pk pl nk ck nl cl xs v0 v1 v2 v3 v4) (hP : PutC W0 r key ks pk pl nk ck nl cl xs v0 v1 v2 v3 v4) (w : World) (hb : Below W0.heap.size W0 w) (b7 : Nat) (h7 : Has W0.heap.size w b7 #[] 9) (b12 : Nat) (h12 : Has W0.heap.size w b12 #[.string key] 9) (b14 : Nat) (h14 : Has W0.heap.size w b14 #[] 25) : wpIn Tryz.prog .any putOps Q (fun w' => Below r W0 w') 7 #[true, true, true, false, true, true, false, true, true, true, false, true, false, false, false, false] ⟨#[t0, t1, t2, t3, undef, t5, .pointer (some ⟨r, 0, none⟩), .slice (some ⟨b7, 0, none⟩) 0 0, t8, .slice pk nk ck, undef, .string key, .slice (some ⟨b12, 0, none⟩) 1 1, undef, .slice (some ⟨b14, 0, none⟩) 0 0, t15, .slice pl nl cl, undef, .agg #[v0, v1, v2, v3, v4], undef, undef, undef], []⟩ w := by
 refine wpIn_each [3, 12] (hb.mono hP.rle) (by kernel_rfl) (by decide) ?_
 refine .cons _ rfl (by rfl) (fun K hK => ?_) (.cons _ rfl (by rfl) (fun K hK => ?_) (.nil))
 · refine wp_append_src (.tmp 7) (.tmp 9) 22 rfl W0.heap.size 9 (.string ⟨#[]⟩) 1 16 Tryz.underlying22 Tryz.info9 rfl (by decide) (by decide) _ 0 [] rfl h7.own pk nk ck (ks.map Value.string) rfl (by simp [hP.len]) hP.kp (fun ad e j u h => (hb.cell (hP.kc ad e j u h).1).trans (hP.kc ad e j u h).2) (strs_one ks) (by have := hP.nk5; omega) hb.size ?_
   intro v' w' hown hg hat
   refine hK _ _ ?_
   rw [Nat.zero_add, List.nil_append] at hown
   obtain ⟨q, c, rfl⟩ := own_sl hown
   exact pst_1_057 hF hP _ (below_grown hb hg h7.ge) _ _ _ hown _ (h12.kept hg (Has.apart h7 h12 (by simp))) (own_new hat (Has.apart h7 h12 (by simp)) h12.lt) _ (h14.kept hg (Has.apart h7 h14 (by simp)))
 · refine wp_b12 rfl rfl (hK _ _ ?_)
   exact pst_0_057c hF hP _ (hb.alloc hb.size _) _ (h7.alloc _) _ (h12.alloc _) _ (h14.alloc _) _ (Has.new (hb.size))
theorem pst_1_0c (hF : PutF Q W0 t0 t1 t2 t3 t5 t8 t15 r key ks pk pl nk ck nl cl xs v0 v1 v2 v3 v4) (hP : PutC W0 r key ks pk pl nk ck nl cl xs v0 v1 v2 v3 v4) (w : World) (hb : Below W0.heap.size W0 w) (x7 : Value) (q10 : Option Addr) (c10 : Nat) (o10 : w.ownsRow W0.heap.size 9 1 (.slice q10 nk c10) nk (ks.map Value.string)) (b19 : Nat) (h19 : Has W0.heap.size w b19 #[v0, v1, v2, v3, v4] 25) : wpIn Tryz.prog .any putOps Q (fun w' => Below r W0 w') 7 #[true, true, true, true, true, false, false, false, true, true, false, true, true, false, false, false] ⟨#[t0, t1, t2, t3, undef, t5, .pointer (some ⟨r, 0, none⟩), x7, t8, .slice pk nk ck, .slice q10 nk c10, .string key, undef, undef, undef, t15, .slice pl nl cl, undef, .agg #[v0, v1, v2, v3, v4], .slice (some ⟨b19, 0, none⟩) 1 1, undef, undef], []⟩ w := by
 refine wpIn_each [5, 7] (hb.mono hP.rle) (by kernel_rfl) (by decide) ?_
 refine .cons _ rfl (by rfl) (fun K hK => ?_) (.cons _ rfl (by rfl) (fun K hK => ?_) (.nil))
 · refine wp_b5 rfl rfl (hK _ _ ?_)
   exact pst_1_05c hF hP _ (hb.alloc hb.size _) _ _ _ (o10.alloc _) _ (Has.new (hb.size)) (own_lt o10) _ (h19.alloc _)
 · refine wp_b7 rfl (hK _ _ ?_)
   exact pst_1_07c hF hP _ (hb.alloc hb.size _) _ _ _ (o10.alloc _) _ (Has.new (hb.size)) _ (h19.alloc _)
theorem pst_1_07 (hF : PutF Q W0 t0 t1 t2 t3 t5 t8 t15 r key ks pk pl nk ck nl cl xs v0 v1 v2 v3 v4) (hP : PutC W0 r key ks pk pl nk ck nl cl xs v0 v1 v2 v3 v4) (w : World) (hb : Below W0.heap.size W0 w) (x7 : Value) (q10 : Option Addr) (c10 : Nat) (o10 : w.ownsRow W0.heap.size 9 1 (.slice q10 nk c10) nk (ks.map Value.string)) (b14 : Nat) (h14 : Has W0.heap.size w b14 #[] 25) : wpIn Tryz.prog .any putOps Q (fun w' => Below r W0 w') 7 #[true, true, true, true, true, false, false, true, true, true, false, true, false, false, false, false] ⟨#[t0, t1, t2, t3, undef, t5, .pointer (some ⟨r, 0, none⟩), x7, t8, .slice pk nk ck, .slice q10 nk c10, .string key, undef, undef, .slice (some ⟨b14, 0, none⟩) 0 0, t15, .slice pl nl cl, undef, .agg #[v0, v1, v2, v3, v4], undef, undef, undef], []⟩ w := by
 refine wpIn_each [5, 12] (hb.mono hP.rle) (by kernel_rfl) (by decide) ?_
 refine .cons _ rfl (by rfl) (fun K hK => ?_) (.cons _ rfl (by rfl) (fun K hK => ?_) (.nil))
 · refine wp_b5 rfl rfl (hK _ _ ?_)
   exact pst_1_057 hF hP _ (hb.alloc hb.size _) _ _ _ (o10.alloc _) _ (Has.new (hb.size)) (own_lt o10) _ (h14.alloc _)
 · refine wp_b12 rfl rfl (hK _ _ ?_)
   exact pst_1_07c hF hP _ (hb.alloc hb.size _) _ _ _ (o10.alloc _) _ (h14.alloc _) _ (Has.new (hb.size))
theorem pst_1_05 (hF : PutF Q W0 t0 t1 t2 t3 t5 t8 t15 r key ks pk pl nk ck nl cl xs v0 v1 v2 v3 v4) (hP : PutC W0 r key ks pk pl nk ck nl cl xs v0 v1 v2 v3 v4) (w : World) (hb : Below W0.heap.size W0 w) (x7 : Value) (q10 : Option Addr) (c10 : Nat) (o10 : w.ownsRow W0.heap.size 9 1 (.slice q10 nk c10) nk (ks.map Value.string)) (b12 : Nat) (h12 : Has W0.heap.size w b12 #[.string key] 9) (n12 : (Value.slice q10 nk c10).ownBlock ≠ some b12) : wpIn Tryz.prog .any putOps Q (fun w' => Below r W0 w') 7 #[true, true, true, true, true, true, false, false, true, true, false, true, false, false, false, false] ⟨#[t0, t1, t2, t3, undef, t5, .pointer (some ⟨r, 0, none⟩), x7, t8, .slice pk nk ck, .slice q10 nk c10, .string key, .slice (some ⟨b12, 0, none⟩) 1 1, undef, undef, t15, .slice pl nl cl, undef, .agg #[v0, v1, v2, v3, v4], undef, undef, undef], []⟩ w := by
 refine wpIn_each [6, 7, 12] (hb.mono hP.rle) (by kernel_rfl) (by decide) ?_
 refine .cons _ rfl (by rfl) (fun K hK => ?_) (.cons _ rfl (by rfl) (fun K hK => ?_) (.cons _ rfl (by rfl) (fun K hK => ?_) (.nil)))
 · refine wp_append_src (.tmp 10) (.tmp 12) 22 rfl W0.heap.size 9 (.string ⟨#[]⟩) 1 16 Tryz.underlying22 Tryz.info9 rfl (by decide) (by decide) _ nk (ks.map Value.string) rfl o10 (some ⟨b12, 0, none⟩) 1 1 [.string key] rfl rfl (fun h => by cases h) (fun ad e j u h => by cases e; exact h12.cell j u h) (str_one key) (by have := hP.nk5; omega) hb.size ?_
   intro v' w' hown hg hat
   refine hK _ _ ?_
   obtain ⟨q, c, rfl⟩ := own_sl hown
   exact pst_2_05 hF hP _ (below_grown hb hg (own_base o10)) _ _ _ _ _ hown
 · refine wp_b7 rfl (hK _ _ ?_)
   exact pst_1_057 hF hP _ (hb.alloc hb.size _) _ _ _ (o10.alloc _) _ (h12.alloc _) n12 _ (Has.new (hb.size))
 · refine wp_b12 rfl rfl (hK _ _ ?_)
   exact pst_1_05c hF hP _ (hb.alloc hb.size _) _ _ _ (o10.alloc _) _ (h12.alloc _) n12 _ (Has.new (hb.size))
theorem pst_0_7c (hF : PutF Q W0 t0 t1 t2 t3 t5 t8 t15 r key ks pk pl nk ck nl cl xs v0 v1 v2 v3 v4) (hP : PutC W0 r key ks pk pl nk ck nl cl xs v0 v1 v2 v3 v4) (w : World) (hb : Below W0.heap.size W0 w) (b14 : Nat) (h14 : Has W0.heap.size w b14 #[] 25) (b19 : Nat) (h19 : Has W0.heap.size w b19 #[v0, v1, v2, v3, v4] 25) : wpIn Tryz.prog .any putOps Q (fun w' => Below r W0 w') 8 #[false, true, true, false, true, false, false, true, true, true, false, true, true, false, false, false] ⟨#[t0, t1, t2, t3, undef, t5, .pointer (some ⟨r, 0, none⟩), undef, t8, .slice pk nk ck, undef, .string key, undef, undef, .slice (some ⟨b14, 0, none⟩) 0 0, t15, .slice pl nl cl, undef, .agg #[v0, v1, v2, v3, v4], .slice (some ⟨b19, 0, none⟩) 1 1, undef, undef], []⟩ w := by
 refine wpIn_each [0, 5] (hb.mono hP.rle) (by kernel_rfl) (by decide) ?_
 refine .cons _ rfl (by rfl) (fun K hK => ?_) (.cons _ rfl (by rfl) (fun K hK => ?_) (.nil))
 · refine wp_b0 rfl (hK _ _ ?_)
   exact pst_0_07c hF hP _ (hb.alloc hb.size _) _ (Has.new (hb.size)) _ (h14.alloc _) _ (h19.alloc _)
 · refine wp_b5 rfl rfl (hK _ _ ?_)
   exact pst_0_57c hF hP _ (hb.alloc hb.size _) _ (Has.new (hb.size)) _ (h14.alloc _) _ (h19.alloc _)
theorem pst_0_5c (hF : PutF Q W0 t0 t1 t2 t3 t5 t8 t15 r key ks pk pl nk ck nl cl xs v0 v1 v2 v3 v4) (hP : PutC W0 r key ks pk pl nk ck nl cl xs v0 v1 v2 v3 v4) (w : World) (hb : Below W0.heap.size W0 w) (b12 : Nat) (h12 : Has W0.heap.size w b12 #[.string key] 9) (b19 : Nat) (h19 : Has W0.heap.size w b19 #[v0, v1, v2, v3, v4] 25) : wpIn Tryz.prog .any putOps Q (fun w' => Below r W0 w') 8 #[false, true, true, false, true, true, false, false, true, true, false, true, true, false, false, false] ⟨#[t0, t1, t2, t3, undef, t5, .pointer (some ⟨r, 0, none⟩), undef, t8, .slice pk nk ck, undef, .string key, .slice (some ⟨b12, 0, none⟩) 1 1, undef, undef, t15, .slice pl nl cl, undef, .agg #[v0, v1, v2, v3, v4], .slice (some ⟨b19, 0, none⟩) 1 1, undef, undef], []⟩ w := by
 refine wpIn_each [0, 7] (hb.mono hP.rle) (by kernel_rfl) (by decide) ?_
 refine .cons _ rfl (by rfl) (fun K hK => ?_) (.cons _ rfl (by rfl) (fun K hK => ?_) (.nil))
 · refine wp_b0 rfl (hK _ _ ?_)
   exact pst_0_05c hF hP _ (hb.alloc hb.size _) _ (Has.new (hb.size)) _ (h12.alloc _) _ (h19.alloc _)
 · refine wp_b7 rfl (hK _ _ ?_)
   exact pst_0_57c hF hP _ (hb.alloc hb.size _) _ (h12.alloc _) _ (Has.new (hb.size)) _ (h19.alloc _)
theorem pst_0_57 (hF : PutF Q W0 t0 t1 t2 t3 t5 t8 t15 r key ks pk pl nk ck nl cl xs v0 v1 v2 v3 v4) (hP : PutC W0 r key ks pk pl nk ck nl cl xs v0 v1 v2 v3 v4) (w : World) (hb : Below W0.heap.size W0 w) (b12 : Nat) (h12 : Has W0.heap.size w b12 #[.string key] 9) (b14 : Nat) (h14 : Has W0.heap.size w b14 #[] 25) : wpIn Tryz.prog .any putOps Q (fun w' => Below r W0 w') 8 #[false, true, true, false, true, true, false, true, true, true, false, true, false, false, false, false] ⟨#[t0, t1, t2, t3, undef, t5, .pointer (some ⟨r, 0, none⟩), undef, t8, .slice pk nk ck, undef, .string key, .slice (some ⟨b12, 0, none⟩) 1 1, undef, .slice (some ⟨b14, 0, none⟩) 0 0, t15, .slice pl nl cl, undef, .agg #[v0, v1, v2, v3, v4], undef, undef, undef], []⟩ w := by
 refine wpIn_each [0, 12] (hb.mono hP.rle) (by kernel_rfl) (by decide) ?_
 refine .cons _ rfl (by rfl) (fun K hK => ?_) (.cons _ rfl (by rfl) (fun K hK => ?_) (.nil))
 · refine wp_b0 rfl (hK _ _ ?_)
   exact pst_0_057 hF hP _ (hb.alloc hb.size _) _ (Has.new (hb.size)) _ (h12.alloc _) _ (h14.alloc _)
 · refine wp_b12 rfl rfl (hK _ _ ?_)
   exact pst_0_57c hF hP _ (hb.alloc hb.size _) _ (h12.alloc _) _ (h14.alloc _) _ (Has.new (hb.size))
theorem pst_0_0c (hF : PutF Q W0 t0 t1 t2 t3 t5 t8 t15 r key ks pk pl nk ck nl cl xs v0 v1 v2 v3 v4) (hP : PutC W0 r key ks pk pl nk ck nl cl xs v0 v1 v2 v3 v4) (w : World) (hb : Below W0.heap.size W0 w) (b7 : Nat) (h7 : Has W0.heap.size w b7 #[] 9) (b19 : Nat) (h19 : Has W0.heap.size w b19 #[v0, v1, v2, v3, v4] 25) : wpIn Tryz.prog .any putOps Q (fun w' => Below r W0 w') 8 #[true, true, true, false, true, false, false, false, true, true, false, true, true, false, false, false] ⟨#[t0, t1, t2, t3, undef, t5, .pointer (some ⟨r, 0, none⟩), .slice (some ⟨b7, 0, none⟩) 0 0, t8, .slice pk nk ck, undef, .string key, undef, undef, undef, t15, .slice pl nl cl, undef, .agg #[v0, v1, v2, v3, v4], .slice (some ⟨b19, 0, none⟩) 1 1, undef, undef], []⟩ w := by
 refine wpIn_each [3, 5, 7] (hb.mono hP.rle) (by kernel_rfl) (by decide) ?_
 refine .cons _ rfl (by rfl) (fun K hK => ?_) (.cons _ rfl (by rfl) (fun K hK => ?_) (.cons _ rfl (by rfl) (fun K hK => ?_) (.nil)))
 · refine wp_append_src (.tmp 7) (.tmp 9) 22 rfl W0.heap.size 9 (.string ⟨#[]⟩) 1 16 Tryz.underlying22 Tryz.info9 rfl (by decide) (by decide) _ 0 [] rfl h7.own pk nk ck (ks.map Value.string) rfl (by simp [hP.len]) hP.kp (fun ad e j u h => (hb.cell (hP.kc ad e j u h).1).trans (hP.kc ad e j u h).2) (strs_one ks) (by have := hP.nk5; omega) hb.size ?_
   intro v' w' hown hg hat
   refine hK _ _ ?_
   rw [Nat.zero_add, List.nil_append] at hown
   obtain ⟨q, c, rfl⟩ := own_sl hown
   exact pst_1_0c hF hP _ (below_grown hb hg h7.ge) _ _ _ hown _ (h19.kept hg (Has.apart h7 h19 (by simp)))
 · refine wp_b5 rfl rfl (hK _ _ ?_)
   exact pst_0_05c hF hP _ (hb.alloc hb.size _) _ (h7.alloc _) _ (Has.new (hb.size)) _ (h19.alloc _)
 · refine wp_b7 rfl (hK _ _ ?_)
   exact pst_0_07c hF hP _ (hb.alloc hb.size _) _ (h7.alloc _) _ (Has.new (hb.size)) _ (h19.alloc _)
theorem pst_0_07 (hF : PutF Q W0 t0 t1 t2 t3 t5 t8 t15 r key ks pk pl nk ck nl cl xs v0 v1 v2 v3 v4) (hP : PutC W0 r key ks pk pl nk ck nl cl xs v0 v1 v2 v3 v4) (w : World) (hb : Below W0.heap.size W0 w) (b7 : Nat) (h7 : Has W0.heap.size w b7 #[] 9) (b14 : Nat) (h14 : Has W0.heap.size w b14 #[] 25) : wpIn Tryz.prog .any putOps Q (fun w' => Below r W0 w') 8 #[true, true, true, false, true, false, false, true, true, true, false, true, false, false, false, false] ⟨#[t0, t1, t2, t3, undef, t5, .pointer (some ⟨r, 0, none⟩), .slice (some ⟨b7, 0, none⟩) 0 0, t8, .slice pk nk ck, undef, .string key, undef, undef, .slice (some ⟨b14, 0, none⟩) 0 0, t15, .slice pl nl cl, undef, .agg #[v0, v1, v2, v3, v4], undef, undef, undef], []⟩ w := by
 refine wpIn_each [3, 5, 12] (hb.mono hP.rle) (by kernel_rfl) (by decide) ?_
 refine .cons _ rfl (by rfl) (fun K hK => ?_) (.cons _ rfl (by rfl) (fun K hK => ?_) (.cons _ rfl (by rfl) (fun K hK => ?_) (.nil)))
 · refine wp_append_src (.tmp 7) (.tmp 9) 22 rfl W0.heap.size 9 (.string ⟨#[]⟩) 1 16 Tryz.underlying22 Tryz.info9 rfl (by decide) (by decide) _ 0 [] rfl h7.own pk nk ck (ks.map Value.string) rfl (by simp [hP.len]) hP.kp (fun ad e j u h => (hb.cell (hP.kc ad e j u h).1).trans (hP.kc ad e j u h).2) (strs_one ks) (by have := hP.nk5; omega) hb.size ?_
   intro v' w' hown hg hat
   refine hK _ _ ?_
   rw [Nat.zero_add, List.nil_append] at hown
   obtain ⟨q, c, rfl⟩ := own_sl hown
   exact pst_1_07 hF hP _ (below_grown hb hg h7.ge) _ _ _ hown _ (h14.kept hg (Has.apart h7 h14 (by simp)))
 · refine wp_b5 rfl rfl (hK _ _ ?_)
   exact pst_0_057 hF hP _ (hb.alloc hb.size _) _ (h7.alloc _) _ (Has.new (hb.size)) _ (h14.alloc _)
 · refine wp_b12 rfl rfl (hK _ _ ?_)
   exact pst_0_07c hF hP _ (hb.alloc hb.size _) _ (h7.alloc _) _ (h14.alloc _) _ (Has.new (hb.size))
theorem pst_0_05 (hF : PutF Q W0 t0 t1 t2 t3 t5 t8 t15 r key ks pk pl nk ck nl cl xs v0 v1 v2 v3 v4) (hP : PutC W0 r key ks pk pl nk ck nl cl xs v0 v1 v2 v3 v4) (w : World) (hb : Below W0.heap.size W0 w) (b7 : Nat) (h7 : Has W0.heap.size w b7 #[] 9) (b12 : Nat) (h12 : Has W0.heap.size w b12 #[.string key] 9) : wpIn Tryz.prog .any putOps Q (fun w' => Below r W0 w') 8 #[true, true, true, false, true, true, false, false, true, true, false, true, false, false, false, false] ⟨#[t0, t1, t2, t3, undef, t5, .pointer (some ⟨r, 0, none⟩), .slice (some ⟨b7, 0, none⟩) 0 0, t8, .slice pk nk ck, undef, .string key, .slice (some ⟨b12, 0, none⟩) 1 1, undef, undef, t15, .slice pl nl cl, undef, .agg #[v0, v1, v2, v3, v4], undef, undef, undef], []⟩ w := by
 refine wpIn_each [3, 7, 12] (hb.mono hP.rle) (by kernel_rfl) (by decide) ?_
 refine .cons _ rfl (by rfl) (fun K hK => ?_) (.cons _ rfl (by rfl) (fun K hK => ?_) (.cons _ rfl (by rfl) (fun K hK => ?_) (.nil)))
 · refine wp_append_src (.tmp 7) (.tmp 9) 22 rfl W0.heap.size 9 (.string ⟨#[]⟩) 1 16 Tryz.underlying22 Tryz.info9 rfl (by decide) (by decide) _ 0 [] rfl h7.own pk nk ck (ks.map Value.string) rfl (by simp [hP.len]) hP.kp (fun ad e j u h => (hb.cell (hP.kc ad e j u h).1).trans (hP.kc ad e j u h).2) (strs_one ks) (by have := hP.nk5; omega) hb.size ?_
   intro v' w' hown hg hat
   refine hK _ _ ?_
   rw [Nat.zero_add, List.nil_append] at hown
   obtain ⟨q, c, rfl⟩ := own_sl hown
   exact pst_1_05 hF hP _ (below_grown hb hg h7.ge) _ _ _ hown _ (h12.kept hg (Has.apart h7 h12 (by simp))) (own_new hat (Has.apart h7 h12 (by simp)) h12.lt)
 · refine wp_b7 rfl (hK _ _ ?_)
   exact pst_0_057 hF hP _ (hb.alloc hb.size _) _ (h7.alloc _) _ (h12.alloc _) _ (Has.new (hb.size))
 · refine wp_b12 rfl rfl (hK _ _ ?_)
   exact pst_0_05c hF hP _ (hb.alloc hb.size _) _ (h7.alloc _) _ (h12.alloc _) _ (Has.new (hb.size))
theorem pst_1_0 (hF : PutF Q W0 t0 t1 t2 t3 t5 t8 t15 r key ks pk pl nk ck nl cl xs v0 v1 v2 v3 v4) (hP : PutC W0 r key ks pk pl nk ck nl cl xs v0 v1 v2 v3 v4) (w : World) (hb : Below W0.heap.size W0 w) (x7 : Value) (q10 : Option Addr) (c10 : Nat) (o10 : w.ownsRow W0.heap.size 9 1 (.slice q10 nk c10) nk (ks.map Value.string)) : wpIn Tryz.prog .any putOps Q (fun w' => Below r W0 w') 8 #[true, true, true, true, true, false, false, false, true, true, false, true, false, false, false, false] ⟨#[t0, t1, t2, t3, undef, t5, .pointer (some ⟨r, 0, none⟩), x7, t8, .slice pk nk ck, .slice q10 nk c10, .string key, undef, undef, undef, t15, .slice pl nl cl, undef, .agg #[v0, v1, v2, v3, v4], undef, undef, undef], []⟩ w := by
 refine wpIn_each [5, 7, 12] (hb.mono hP.rle) (by kernel_rfl) (by decide) ?_
 refine .cons _ rfl (by rfl) (fun K hK => ?_) (.cons _ rfl (by rfl) (fun K hK => ?_) (.cons _ rfl (by rfl) (fun K hK => ?_) (.nil)))
 · refine wp_b5 rfl rfl (hK _ _ ?_)
   exact pst_1_05 hF hP _ (hb.alloc hb.size _) _ _ _ (o10.alloc _) _ (Has.new (hb.size)) (own_lt o10)
 · refine wp_b7 rfl (hK _ _ ?_)
   exact pst_1_07 hF hP _ (hb.alloc hb.size _) _ _ _ (o10.alloc _) _ (Has.new (hb.size))
 · refine wp_b12 rfl rfl (hK _ _ ?_)
   exact pst_1_0c hF hP _ (hb.alloc hb.size _) _ _ _ (o10.alloc _) _ (Has.new (hb.size))
theorem pst_0_c (hF : PutF Q W0 t0 t1 t2 t3 t5 t8 t15 r key ks pk pl nk ck nl cl xs v0 v1 v2 v3 v4) (hP : PutC W0 r key ks pk pl nk ck nl cl xs v0 v1 v2 v3 v4) (w : World) (hb : Below W0.heap.size W0 w) (b19 : Nat) (h19 : Has W0.heap.size w b19 #[v0, v1, v2, v3, v4] 25) : wpIn Tryz.prog .any putOps Q (fun w' => Below r W0 w') 9 #[false, true, true, false, true, false, false, false, true, true, false, true, true, false, false, false] ⟨#[t0, t1, t2, t3, undef, t5, .pointer (some ⟨r, 0, none⟩), undef, t8, .slice pk nk ck, undef, .string key, undef, undef, undef, t15, .slice pl nl cl, undef, .agg #[v0, v1, v2, v3, v4], .slice (some ⟨b19, 0, none⟩) 1 1, undef, undef], []⟩ w := by
 refine wpIn_each [0, 5, 7] (hb.mono hP.rle) (by kernel_rfl) (by decide) ?_
 refine .cons _ rfl (by rfl) (fun K hK => ?_) (.cons _ rfl (by rfl) (fun K hK => ?_) (.cons _ rfl (by rfl) (fun K hK => ?_) (.nil)))
 · refine wp_b0 rfl (hK _ _ ?_)
   exact pst_0_0c hF hP _ (hb.alloc hb.size _) _ (Has.new (hb.size)) _ (h19.alloc _)
 · refine wp_b5 rfl rfl (hK _ _ ?_)
   exact pst_0_5c hF hP _ (hb.alloc hb.size _) _ (Has.new (hb.size)) _ (h19.alloc _)
 · refine wp_b7 rfl (hK _ _ ?_)
   exact pst_0_7c hF hP _ (hb.alloc hb.size _) _ (Has.new (hb.size)) _ (h19.alloc _)
theorem pst_0_7 (hF : PutF Q W0 t0 t1 t2 t3 t5 t8 t15 r key ks pk pl nk ck nl cl xs v0 v1 v2 v3 v4) (hP : PutC W0 r key ks pk pl nk ck nl cl xs v0 v1 v2 v3 v4) (w : World) (hb : Below W0.heap.size W0 w) (b14 : Nat) (h14 : Has W0.heap.size w b14 #[] 25) : wpIn Tryz.prog .any putOps Q (fun w' => Below r W0 w') 9 #[false, true, true, false, true, false, false, true, true, true, false, true, false, false, false, false] ⟨#[t0, t1, t2, t3, undef, t5, .pointer (some ⟨r, 0, none⟩), undef, t8, .slice pk nk ck, undef, .string key, undef, undef, .slice (some ⟨b14, 0, none⟩) 0 0, t15, .slice pl nl cl, undef, .agg #[v0, v1, v2, v3, v4], undef, undef, undef], []⟩ w := by
 refine wpIn_each [0, 5, 12] (hb.mono hP.rle) (by kernel_rfl) (by decide) ?_
 refine .cons _ rfl (by rfl) (fun K hK => ?_) (.cons _ rfl (by rfl) (fun K hK => ?_) (.cons _ rfl (by rfl) (fun K hK => ?_) (.nil)))
 · refine wp_b0 rfl (hK _ _ ?_)
   exact pst_0_07 hF hP _ (hb.alloc hb.size _) _ (Has.new (hb.size)) _ (h14.alloc _)
 · refine wp_b5 rfl rfl (hK _ _ ?_)
   exact pst_0_57 hF hP _ (hb.alloc hb.size _) _ (Has.new (hb.size)) _ (h14.alloc _)
 · refine wp_b12 rfl rfl (hK _ _ ?_)
   exact pst_0_7c hF hP _ (hb.alloc hb.size _) _ (h14.alloc _) _ (Has.new (hb.size))
theorem pst_0_5 (hF : PutF Q W0 t0 t1 t2 t3 t5 t8 t15 r key ks pk pl nk ck nl cl xs v0 v1 v2 v3 v4) (hP : PutC W0 r key ks pk pl nk ck nl cl xs v0 v1 v2 v3 v4) (w : World) (hb : Below W0.heap.size W0 w) (b12 : Nat) (h12 : Has W0.heap.size w b12 #[.string key] 9) : wpIn Tryz.prog .any putOps Q (fun w' => Below r W0 w') 9 #[false, true, true, false, true, true, false, false, true, true, false, true, false, false, false, false] ⟨#[t0, t1, t2, t3, undef, t5, .pointer (some ⟨r, 0, none⟩), undef, t8, .slice pk nk ck, undef, .string key, .slice (some ⟨b12, 0, none⟩) 1 1, undef, undef, t15, .slice pl nl cl, undef, .agg #[v0, v1, v2, v3, v4], undef, undef, undef], []⟩ w := by
 refine wpIn_each [0, 7, 12] (hb.mono hP.rle) (by kernel_rfl) (by decide) ?_
 refine .cons _ rfl (by rfl) (fun K hK => ?_) (.cons _ rfl (by rfl) (fun K hK => ?_) (.cons _ rfl (by rfl) (fun K hK => ?_) (.nil)))
 · refine wp_b0 rfl (hK _ _ ?_)
   exact pst_0_05 hF hP _ (hb.alloc hb.size _) _ (Has.new (hb.size)) _ (h12.alloc _)
 · refine wp_b7 rfl (hK _ _ ?_)
   exact pst_0_57 hF hP _ (hb.alloc hb.size _) _ (h12.alloc _) _ (Has.new (hb.size))
 · refine wp_b12 rfl rfl (hK _ _ ?_)
   exact pst_0_5c hF hP _ (hb.alloc hb.size _) _ (h12.alloc _) _ (Has.new (hb.size))
theorem pst_0_0 (hF : PutF Q W0 t0 t1 t2 t3 t5 t8 t15 r key ks pk pl nk ck nl cl xs v0 v1 v2 v3 v4) (hP : PutC W0 r key ks pk pl nk ck nl cl xs v0 v1 v2 v3 v4) (w : World) (hb : Below W0.heap.size W0 w) (b7 : Nat) (h7 : Has W0.heap.size w b7 #[] 9) : wpIn Tryz.prog .any putOps Q (fun w' => Below r W0 w') 9 #[true, true, true, false, true, false, false, false, true, true, false, true, false, false, false, false] ⟨#[t0, t1, t2, t3, undef, t5, .pointer (some ⟨r, 0, none⟩), .slice (some ⟨b7, 0, none⟩) 0 0, t8, .slice pk nk ck, undef, .string key, undef, undef, undef, t15, .slice pl nl cl, undef, .agg #[v0, v1, v2, v3, v4], undef, undef, undef], []⟩ w := by
 refine wpIn_each [3, 5, 7, 12] (hb.mono hP.rle) (by kernel_rfl) (by decide) ?_
 refine .cons _ rfl (by rfl) (fun K hK => ?_) (.cons _ rfl (by rfl) (fun K hK => ?_) (.cons _ rfl (by rfl) (fun K hK => ?_) (.cons _ rfl (by rfl) (fun K hK => ?_) (.nil))))
 · refine wp_append_src (.tmp 7) (.tmp 9) 22 rfl W0.heap.size 9 (.string ⟨#[]⟩) 1 16 Tryz.underlying22 Tryz.info9 rfl (by decide) (by decide) _ 0 [] rfl h7.own pk nk ck (ks.map Value.string) rfl (by simp [hP.len]) hP.kp (fun ad e j u h => (hb.cell (hP.kc ad e j u h).1).trans (hP.kc ad e j u h).2) (strs_one ks) (by have := hP.nk5; omega) hb.size ?_
   intro v' w' hown hg hat
   refine hK _ _ ?_
   rw [Nat.zero_add, List.nil_append] at hown
   obtain ⟨q, c, rfl⟩ := own_sl hown
   exact pst_1_0 hF hP _ (below_grown hb hg h7.ge) _ _ _ hown
 · refine wp_b5 rfl rfl (hK _ _ ?_)
   exact pst_0_05 hF hP _ (hb.alloc hb.size _) _ (h7.alloc _) _ (Has.new (hb.size))
 · refine wp_b7 rfl (hK _ _ ?_)
   exact pst_0_07 hF hP _ (hb.alloc hb.size _) _ (h7.alloc _) _ (Has.new (hb.size))
 · refine wp_b12 rfl rfl (hK _ _ ?_)
   exact pst_0_0c hF hP _ (hb.alloc hb.size _) _ (h7.alloc _) _ (Has.new (hb.size))
theorem pst_0_n (hF : PutF Q W0 t0 t1 t2 t3 t5 t8 t15 r key ks pk pl nk ck nl cl xs v0 v1 v2 v3 v4) (hP : PutC W0 r key ks pk pl nk ck nl cl xs v0 v1 v2 v3 v4) (w : World) (hb : Below W0.heap.size W0 w)  : wpIn Tryz.prog .any putOps Q (fun w' => Below r W0 w') 10 #[false, true, true, false, true, false, false, false, true, true, false, true, false, false, false, false] ⟨#[t0, t1, t2, t3, undef, t5, .pointer (some ⟨r, 0, none⟩), undef, t8, .slice pk nk ck, undef, .string key, undef, undef, undef, t15, .slice pl nl cl, undef, .agg #[v0, v1, v2, v3, v4], undef, undef, undef], []⟩ w := by
 refine wpIn_each [0, 5, 7, 12] (hb.mono hP.rle) (by kernel_rfl) (by decide) ?_
 refine .cons _ rfl (by rfl) (fun K hK => ?_) (.cons _ rfl (by rfl) (fun K hK => ?_) (.cons _ rfl (by rfl) (fun K hK => ?_) (.cons _ rfl (by rfl) (fun K hK => ?_) (.nil))))
 · refine wp_b0 rfl (hK _ _ ?_)
   exact pst_0_0 hF hP _ (hb.alloc hb.size _) _ (Has.new (hb.size))
 · refine wp_b5 rfl rfl (hK _ _ ?_)
   exact pst_0_5 hF hP _ (hb.alloc hb.size _) _ (Has.new (hb.size))
 · refine wp_b7 rfl (hK _ _ ?_)
   exact pst_0_7 hF hP _ (hb.alloc hb.size _) _ (Has.new (hb.size))
 · refine wp_b12 rfl rfl (hK _ _ ?_)
   exact pst_0_c hF hP _ (hb.alloc hb.size _) _ (Has.new (hb.size))
end
theorem oneCells {O : Nat → Prop} {w : World} {j : J} {cs : List Value} (h : isJ O w j cs) : ∀ u ∈ cs, u.oneCell' = true := by
 obtain ⟨k, i, t, pk, nk, ck, pl, nl, cl, rfl⟩ := isJ_shape h
 intro u hu
 simp only [List.mem_cons, List.not_mem_nil, or_false] at hu
 rcases hu with rfl | rfl | rfl | rfl | rfl <;> rfl
theorem row_of_js {O : Nat → Prop} {w : World} {p : Option Addr} : ∀ (l : List J) (n : Nat), isJs O w p n l → ∃ xs, isRow O w l xs ∧ xs.length = l.length * 5 ∧ (∀ u ∈ xs, u.oneCell' = true) ∧ ∀ ad, p = some ad → ∀ (m : Nat) u, xs[m]? = some u → O ad.block ∧ w.cell? (ad.add (n * 5 + m)) = some u
 | [], n, _ => ⟨[], by unfold isRow; rfl, rfl, (fun u hu => absurd hu (by simp)), (fun ad _ m u h => absurd h (by simp))⟩
 | j :: r, n, h => by
  unfold isJs at h
  obtain ⟨⟨b, o, cs, rfl, hO, hc, hj⟩, hr⟩ := h
  obtain ⟨xs, h1, h2, h3, h4⟩ := row_of_js r (n + 1) hr
  have h5 := hj.five
  refine ⟨cs ++ xs, ?_, by rw [List.length_append, h5, h2, List.length_cons]; omega, fun u hu => ?_, fun ad e m u hm => ?_⟩
  · unfold isRow
    exact ⟨cs, xs, rfl, h5, hj, h1⟩
  · rcases List.mem_append.1 hu with hu | hu
    · exact oneCells hj u hu
    · exact h3 u hu
  · cases e
    have hadd : ∀ m, (⟨b, o, none⟩ : Addr).add m = ⟨b, o + m, none⟩ := fun m => by unfold Addr.add; split <;> simp_all
    refine ⟨hO, ?_⟩
    by_cases hlt : m < 5
    · rw [List.getElem?_append_left (by omega)] at hm
      have := hc m u hm
      rw [hadd]
      rwa [Nat.add_assoc] at this
    · rw [List.getElem?_append_right (by omega), h5] at hm
      have := (h4 _ rfl (m - 5) u hm).2
      rw [hadd] at this ⊢
      rw [show n * 5 + m = (n + 1) * 5 + (m - 5) by omega]
      exact this
theorem rPut_any {O : Nat → Prop} {w : World} {j v : J} {k i vk vi : Int} {t vt : ByteArray} {pk pl vpk vpl : Option Addr} {nk ck nl cl vnk vck vnl vcl : Nat} (key : ByteArray) (hO : ∀ b, O b → b < w.heap.size)
    (hj : isJ O w j [.int .i64 k, .int .i64 i, .string t, .slice pk nk ck, .slice pl nl cl]) (hv : isJ O w v [.int .i64 vk, .int .i64 vi, .string vt, .slice vpk vnk vck, .slice vpl vnl vcl]) (hkp : pk = none → ck = 0) (hlp : pl = none → cl = 0) (hnk : nk ≤ 100000) (hnl : nl ≤ 100000) :
    Calls Tryz.prog 30 #[.agg #[.int .i64 k, .int .i64 i, .string t, .slice pk nk ck, .slice pl nl cl], .string key, .agg #[.int .i64 vk, .int .i64 vi, .string vt, .slice vpk vnk vck, .slice vpl vnl vcl]] w fun x w' => (∃ b1 c1 b2 c2, x = .returned (.agg #[.int .i64 5, .int .i64 0, .string ⟨#[]⟩, .slice (some ⟨b1, 0, none⟩) (nk + 1) c1, .slice (some ⟨b2, 0, none⟩) (nl + 1) c2]) ∧ isJ (fun b => O b ∨ New w w' b) w' (.mk 5 0 nix (j.keys ++ [key]) (j.list ++ [v])) [.int .i64 5, .int .i64 0, .string ⟨#[]⟩, .slice (some ⟨b1, 0, none⟩) (nk + 1) c1, .slice (some ⟨b2, 0, none⟩) (nl + 1) c2]) ∧ Below w.heap.size w w' := by
 obtain ⟨W0, hW0⟩ : ∃ W0, W0 = ((w.alloc (.cells #[.int .i64 k, .int .i64 i, .string t, .slice pk nk ck, .slice pl nl cl] 25)).alloc (.cells #[.int .i64 vk, .int .i64 vi, .string vt, .slice vpk vnk vck, .slice vpl vnl vcl] 25)).alloc (.cells #[.int .i64 0, .int .i64 0, .string ⟨#[]⟩, .slice none 0 0, .slice none 0 0] 25) := ⟨_, rfl⟩
 have hbw : Below w.heap.size w W0 := by rw [hW0]; exact (((Below.refl _ _).alloc (Nat.le_refl _) _).alloc (by simp) _).alloc (by simp; omega) _
 have hx0 : W0.heap[w.heap.size]? = some (.cells #[.int .i64 k, .int .i64 i, .string t, .slice pk nk ck, .slice pl nl cl] 25 (0, 0)) := by rw [hW0, Below.heap_alloc _ _ _ (by simp; omega)]; exact one_of _ _
 have hx1 : W0.heap[w.heap.size + 1]? = some (.cells #[.int .i64 vk, .int .i64 vi, .string vt, .slice vpk vnk vck, .slice vpl vnl vcl] 25 (0, 0)) := by rw [hW0, Below.heap_alloc _ _ _ (by simp)]; exact two_at _ _
 have hr : W0.heap[w.heap.size + 1 + 1]? = some (.cells #[.int .i64 0, .int .i64 0, .string ⟨#[]⟩, .slice none 0 0, .slice none 0 0] 25 (0, 0)) := by
  have h := heap_alloc_new ((w.alloc (.cells #[.int .i64 k, .int .i64 i, .string t, .slice pk nk ck, .slice pl nl cl] 25)).alloc (.cells #[.int .i64 vk, .int .i64 vi, .string vt, .slice vpk vnk vck, .slice vpl vnl vcl] 25)) (.cells #[.int .i64 0, .int .i64 0, .string ⟨#[]⟩, .slice none 0 0, .slice none 0 0] 25)
  rw [hW0]
  simpa using h
 have hs0 : w.heap.size + 3 = W0.heap.size := by rw [hW0]; simp
 have hjB := hj.carry (O' := O) (w' := W0) fun b hb => ⟨hb, hbw.block b (hO b hb)⟩
 have hvB := hv.carry (O' := O) (w' := W0) fun b hb => ⟨hb, hbw.block b (hO b hb)⟩
 have hat := isJ_at hjB
 have e4 := hat.2.2.2.1
 have e5 := hat.2.2.2.2.1
 have hrk := hat.2.2.2.2.2.1
 have hlc := hat.2.2.2.2.2.2.1
 have hjs := hat.2.2.2.2.2.2.2
 clear hat
 obtain ⟨xs, r1, r2, r3, r4⟩ := row_of_js j.list 0 hjs
 have HP : Hid (PutC W0 (w.heap.size + 1 + 1) key j.keys pk pl nk ck nl cl xs (.int .i64 vk) (.int .i64 vi) (.string vt) (.slice vpk vnk vck) (.slice vpl vnl vcl)) := by
  have hz : ∀ {l : List ByteArray} {p : Option Addr} {c : Nat}, RdK O W0 p c l → p = none → l.length = 0 := fun {l p c} h hp => by
   cases l with
   | nil => rfl
   | cons a r => obtain ⟨ad, e, _⟩ := h.2 0 (by simp); rw [hp] at e; cases e
  refine ⟨by omega, e4.symm, by rw [r2, e5], hnk, hnl, fun hp => ⟨by rw [e4]; exact hz hrk hp, hkp hp⟩, fun hp => ⟨?_, hlp hp⟩, fun ad e m u hm => ?_, fun ad e m u hm => ?_, r3, oneCells hv⟩
  · rw [e5]
    cases hl : j.list with
    | nil => rfl
    | cons a r =>
     rw [hl] at hjs
     unfold isJs at hjs
     obtain ⟨⟨b, o, cs, e, _⟩, _⟩ := hjs
     rw [hp] at e
     cases e
  · have hm1 : m < j.keys.length := by
      have := (List.getElem?_eq_some_iff.1 hm).1
      simpa using this
    obtain ⟨ad', e', hOa, hc⟩ := hrk.2 m hm1
    rw [e] at e'
    cases e'
    rw [List.getElem?_map, List.getElem?_eq_getElem hm1] at hm
    cases hm
    refine ⟨by rw [add_block]; exact Nat.lt_of_lt_of_le (hO _ hOa) hbw.size, ?_⟩
    rw [hc, List.getD_eq_getElem?_getD, List.getElem?_eq_getElem hm1]
    rfl
  · obtain ⟨h1, h2⟩ := r4 ad e m u hm
    refine ⟨by rw [add_block]; exact Nat.lt_of_lt_of_le (hO _ h1) hbw.size, ?_⟩
    rw [Nat.zero_mul, Nat.zero_add] at h2
    exact h2
 have hQ : Hid (∀ wq, Below (w.heap.size + 1 + 1) W0 wq → wq.cell? ⟨w.heap.size, 3, none⟩ = some (.slice pk nk ck) ∧ wq.cell? ⟨w.heap.size, 4, none⟩ = some (.slice pl nl cl) ∧ wq.cell? ⟨w.heap.size + 1, 0, none⟩ = some (.int .i64 vk) ∧ wq.cell? ⟨w.heap.size + 1, 1, none⟩ = some (.int .i64 vi) ∧ wq.cell? ⟨w.heap.size + 1, 2, none⟩ = some (.string vt) ∧ wq.cell? ⟨w.heap.size + 1, 3, none⟩ = some (.slice vpk vnk vck) ∧ wq.cell? ⟨w.heap.size + 1, 4, none⟩ = some (.slice vpl vnl vcl)) := fun wq h => by
  have h0 := (h.block w.heap.size (by omega)).trans hx0
  have h1 := (h.block (w.heap.size + 1) (by omega)).trans hx1
  exact ⟨five_c3 h0, five_c4 h0, five_c0 h1, five_c1 h1, five_c2 h1, five_c3 h1, five_c4 h1⟩
 have HR : Hid (∀ wq, Below W0.heap.size W0 wq → wq.heap[w.heap.size + 1 + 1]? = some (.cells #[.int .i64 0, .int .i64 0, .string ⟨#[]⟩, .slice none 0 0, .slice none 0 0] 25 (0, 0))) := fun wq h => (h.block _ (by omega)).trans hr
 have HS : Hid (w.heap.size + 3 = W0.heap.size) := hs0
 have HBW : Hid (Below w.heap.size w W0) := hbw
 have HRW : Hid (isRow O W0 j.list xs) := r1
 have HVB : Hid (isJ O W0 v [.int .i64 vk, .int .i64 vi, .string vt, .slice vpk vnk vck, .slice vpl vnl vcl]) := hvB
 have HO : Hid (∀ b, O b → b < w.heap.size) := hO
 have HE : Hid (nk = j.keys.length ∧ nl = j.list.length) := ⟨e4, e5⟩
 clear hj hv hjB hvB hrk hlc hjs r1 r2 r3 r4 e4 e5 hx0 hx1 hr hkp hlp hs0 hbw hO
 go_enter Tryz.func30, Tryz.ntmps30
 go_wp2
 rw [← hW0]
 clear hW0
 have hC0 : Below W0.heap.size W0 W0.drew := (Below.refl _ _).drew
 refine wp_region_in (by kernel_rfl) (fun w' => Below (w.heap.size + 1 + 1) W0 w') ?_
 change wpIn _ _ _ _ _ _ _ _ (World.drew _)
 refine wpIn_tk (i := 1) (d := some 8) rfl ?_
 refine wpIn_tp (i := 2) (d := some 9) rfl (by (intro wq hq; obtain ⟨q3, q4, q5, q6, q7, q8, q9⟩ := hQ.out wq hq; go_simp; first | done | with_reducible rfl)) ?_
 refine wpIn_tk (i := 4) (d := some 11) rfl ?_
 refine wpIn_tk (i := 8) (d := some 15) rfl ?_
 refine wpIn_tp (i := 9) (d := some 16) rfl (by (intro wq hq; obtain ⟨q3, q4, q5, q6, q7, q8, q9⟩ := hQ.out wq hq; go_simp; first | done | with_reducible rfl)) ?_
 refine wpIn_tp (i := 11) (d := some 18) rfl (by (intro wq hq; obtain ⟨q3, q4, q5, q6, q7, q8, q9⟩ := hQ.out wq hq; go_simp; first | done | with_reducible rfl)) ?_
 refine pst_0_n (r := w.heap.size + 1 + 1) ?_ HP.out _ hC0
 intro w2 hb2 x7 x10 x12 q13 c13 o13 x14 x17 x19 q20 c20 o20
 unfold putOps
 refine wpIn_tk (i := 14) (d := some 21) rfl ?_
 have hres := HR.out w2 hb2
 have i0 := five_c0 hres; have i1 := five_c1 hres; have i2 := five_c2 hres; have i3 := five_c3 hres; have i4 := five_c4 hres
 have z0 := five_fz hres 0; have z1 := five_fz hres 1; have z2 := five_fz hres 2; have z3 := five_fz hres 3; have z4 := five_fz hres 4
 refine wpIn_do (i := 15) (hb2.mono HP.out.rle) (by kernel_rfl) rfl (by rfl) ?_
 intro K hK
 go_simp
 refine hK _ _ ?_
 clear hK K
 have h5 := set5_heap hres (.int .i64 5) (.int .i64 0) (.string ⟨#[]⟩) (.slice q13 (nk + 1) c13) (.slice q20 (nl + 1) c20)
 have HK5 : Keep (One (w.heap.size + 1 + 1)) w2 _ := set5_keep w2 (w.heap.size + 1 + 1) (.int .i64 5) (.int .i64 0) (.string ⟨#[]⟩) (.slice q13 (nk + 1) c13) (.slice q20 (nl + 1) c20)
 obtain ⟨WE, hWE⟩ : ∃ WE, WE = set5 w2 (w.heap.size + 1 + 1) (.int .i64 5) (.int .i64 0) (.string ⟨#[]⟩) (.slice q13 (nk + 1) c13) (.slice q20 (nl + 1) c20) := ⟨_, rfl⟩
 rw [← hWE] at h5 HK5
 unfold set5 at hWE
 rw [← hWE]
 have hS := HS.out
 have hB := HBW.out.size
 have s2 := hb2.size
 have sE := HK5.size
 have hbE : Below (w.heap.size + 1 + 1) W0 WE := (hb2.mono HP.out.rle).trans (HK5.below (by omega) fun q hq => by unfold One; omega)
 refine wpIn_done hbE (by kernel_rfl) ?_ _
 clear i0 i1 i2 i3 i4 z0 z1 z2 z3 z4 hWE
 go_wp2
 refine bodyPost_ret (results_cell rfl _ _ _ rfl (loadJ5 h5)) rfl ?_
 obtain ⟨b1, c1', e1⟩ := own_some o13
 obtain ⟨b2, c2', e2⟩ := own_some o20
 cases e1
 cases e2
 have g13 := own_ge o13 b1 rfl
 have g20 := own_ge o20 b2 rfl
 have o13' : w2.ownsRow W0.heap.size 9 1 (.slice (some ⟨b1, 0, none⟩) (nk + 1) c13) (j.keys ++ [key]).length ((j.keys ++ [key]).map Value.string) := by
  rw [List.length_append, List.map_append, ← HE.out.1]
  exact o13
 have o20' : w2.ownsRow W0.heap.size 25 5 (.slice (some ⟨b2, 0, none⟩) (nl + 1) c20) (j.list ++ [v]).length (xs ++ [.int .i64 vk, .int .i64 vi, .string vt, .slice vpk vnk vck, .slice vpl vnl vcl]) := by
  rw [List.length_append, ← HE.out.2]
  exact o20
 have carO : ∀ q, O q → O q ∧ w2.heap[q]? = W0.heap[q]? := fun q hq => ⟨hq, hb2.block q (by have := HO.out q hq; omega)⟩
 have hrow : isRow O w2 (j.list ++ [v]) (xs ++ [.int .i64 vk, .int .i64 vi, .string vt, .slice vpk vnk vck, .slice vpl vnl vcl]) := isRow.snoc rfl (HVB.out.carry carO) _ _ (isRow.carry carO _ _ HRW.out)
 obtain ⟨qk, cqk, ek, hk⟩ := own_rdK o13'
 obtain ⟨ql, cql, el, hcl, hl⟩ := own_js o20' hrow
 simp only [Value.slice.injEq] at ek el
 obtain ⟨rfl, hk1, rfl⟩ := ek
 obtain ⟨rfl, hl1, rfl⟩ := el
 have old : ∀ q, q < w2.heap.size → q ≠ w.heap.size + 1 + 1 → WE.heap[q]? = w2.heap[q]? := fun q h1 h2 => HK5.block q h1 (by unfold One; omega)
 have bE : Below w.heap.size w WE := HBW.out.trans (hbE.mono (by omega))
 refine ⟨⟨b1, c13, b2, c20, rfl, ?_⟩, bE⟩
 unfold isJ
 refine ⟨some ⟨b1, 0, none⟩, c13, some ⟨b2, 0, none⟩, c20, ?_, hk.carry fun q hq => ?_, hcl, hl.carry fun q hq => ?_⟩
 · rw [← hk1, ← hl1]
   rfl
 · exact ⟨.inr ⟨by have := hq.1; omega, by have := hq.2; omega⟩, old q hq.2 (by have := hq.1; omega)⟩
 · rcases hq with hq | hq
   · have := HO.out q hq
     exact ⟨.inl hq, old q (by omega) (by omega)⟩
   · exact ⟨.inr ⟨by have := hq.1; omega, by have := hq.2; omega⟩, old q hq.2 (by have := hq.1; omega)⟩
end Go.Proofs.YtnngalkdjgjmbaaGreat.Pt

/-
  Keys and values that are being read.
  Pairs read, by a contract: given how a value within them is read.
  A value read, by a contract: to the depth that may be.
  The whole text read, by a contract.
  The first byte that is no letter's, by a contract.
  Bytes decoded, by a contract.
-/
import Derived.Test.YtnmhpejnjaeecaaGreatDoorM3
import Derived.Test.YtnmhpejnjaeecaaGreatDoorShelf
import Derived.BigQuiet
import Derived.Laws.RangeAny
namespace Go.Proofs.YtnmhpejnjaeecaaGreatDoor
open Go.RowKit

/-- The blocks in which values may lie: of the call's own, and no row's. -/
def Free (B : Nat) (vk vl : Value) (w : World) : Nat → Prop := fun k => B ≤ k ∧ k < w.heap.size ∧ vk.ownBlock ≠ some k ∧ vl.ownBlock ≠ some k
/-- The keys and values that were read so far. -/
structure PI (B R M b : Nat) (WA : World) (ks : List ByteArray) (acc : List J) (vk vl : Value) (wr : World) : Prop where
  res : wr.heap[b]? = some (.cells #[.int .i64 0, .int .i64 0, .string ⟨#[]⟩, .slice none 0 0, .slice none 0 0] 25 (0, 0))
  keys : wr.ownsRow B 9 1 vk ks.length (ks.map Value.string)
  vals : ∃ xs, wr.ownsRow B 25 5 vl acc.length xs ∧ isRow (Free B vk vl wr) wr acc xs
  ne : ∀ i, vk.ownBlock = some i → vl.ownBlock ≠ some i
  keep : Keep (Two R M) WA wr
  szA : WA.heap.size = B
  rb : R < b
  bm : b < M
  mB : M < B
/-- What is free, or older than the rows, stays. -/
structure Goes (B : Nat) (vk vl : Value) (W : World) (vk' vl' : Value) (W' : World) : Prop where
  free : ∀ k, Free B vk vl W k → Free B vk' vl' W' k ∧ W'.heap[k]? = W.heap[k]?
  low : ∀ k, k < B → W'.heap[k]? = W.heap[k]?
theorem Stood.at {w w' : World} {M : Nat} {ks : List ByteArray} (h : Stood w M ks) (e : w'.heap[M]? = w.heap[M]?) : Stood w' M ks := by
  obtain ⟨D, ⟨es, clock, hb, F, hs, hD⟩, hm, hh⟩ := h
  exact ⟨D, ⟨es, clock, e.trans hb, F, hs, hD⟩, hm, hh⟩
section
variable {B R M b : Nat} {WA W W2 : World} {ks : List ByteArray} {acc : List J} {vk vl vk' vl' : Value}
theorem PI.size (h : PI B R M b WA ks acc vk vl W) : B ≤ W.heap.size := by have := h.keep.size; have := h.szA; omega
theorem PI.two (h : PI B R M b WA ks acc vk vl W) (hk : Keep (Two R M) W W2) : PI B R M b WA ks acc vk vl W2 := by
  have h1 := h.size
  have h2 := h.rb
  have h3 := h.bm
  have h4 := h.mB
  have hs := hk.size
  obtain ⟨xs, hv1, hv2⟩ := h.vals
  refine ⟨(hk.block _ (by omega) (by unfold Two; omega)).trans h.res, own_keep h.keys hk fun k e => ?_, ⟨xs, own_keep hv1 hk fun k e => ?_, hv2.carry fun k hk' => ⟨⟨hk'.1, by have := hk'.2.1; omega, hk'.2.2⟩, hk.block k hk'.2.1 ?_⟩⟩, h.ne, h.keep.then hk, h.szA, h2, h3, h4⟩
  · have := (own_ge h.keys k e).1; unfold Two; omega
  · have := (own_ge hv1 k e).1; unfold Two; omega
  · have := hk'.1; unfold Two; omega
theorem PI.one (h : PI B R M b WA ks acc vk vl W) (hk : Keep (One R) W W2) : PI B R M b WA ks acc vk vl W2 := h.two hk.one_two
theorem PI.alloc (h : PI B R M b WA ks acc vk vl W) (o : Obj) : PI B R M b WA ks acc vk vl (W.alloc o) := h.two ((Keep.refl _ _).alloc o)
theorem PI.drew (h : PI B R M b WA ks acc vk vl W) : PI B R M b WA ks acc vk vl W.drew := h.two (Keep.refl _ _).drew
theorem Goes.keep (hB : B ≤ W.heap.size) (hk : Keep (fun _ => False) W W2) : Goes B vk vl W vk vl W2 :=
  ⟨fun k hk' => ⟨⟨hk'.1, Nat.lt_of_lt_of_le hk'.2.1 hk.size, hk'.2.2⟩, hk.block k hk'.2.1 fun h => h⟩, fun k hk' => hk.block k (by omega) fun h => h⟩
theorem PI.key (h : PI B R M b WA ks acc vk vl W) {x : ByteArray} (hown : W2.ownsRow B 9 1 vk' (ks.length + 1) (ks.map Value.string ++ [.string x])) (hg : W.grownBy W2 vk.ownBlock) (hat : vk'.ownBlock = vk.ownBlock ∨ vk'.ownBlock = some W.heap.size) :
    PI B R M b WA (ks ++ [x]) acc vk' vl W2 ∧ Goes B vk vl W vk' vl W2 := by
  have h1 := h.size
  have h2 := h.rb
  have h3 := h.bm
  have h4 := h.mB
  have hs := hg.size
  have hgk := own_ge h.keys
  obtain ⟨xs, hv1, hv2⟩ := h.vals
  have hgv := own_ge hv1
  have low : ∀ k, k < B → W2.heap[k]? = W.heap[k]? := fun k hk => hg.block k (by omega) fun e => by have := (hgk k e.symm).1; omega
  have free : ∀ k, Free B vk vl W k → Free B vk' vl W2 k ∧ W2.heap[k]? = W.heap[k]? := by
    intro k hk
    refine ⟨⟨hk.1, by have := hk.2.1; omega, fun e => ?_, hk.2.2.2⟩, hg.block k hk.2.1 fun e => hk.2.2.1 e.symm⟩
    rcases hat with h' | h'
    · exact hk.2.2.1 (h' ▸ e)
    · rw [h'] at e
      have := Option.some.inj e
      have := hk.2.1
      omega
  refine ⟨⟨(low b (by omega)).trans h.res, by rw [List.length_append, List.map_append]; exact hown, ⟨xs, own_keep hv1 (S := fun k => vk.ownBlock = some k) (Keep.of_grown hg fun _ _ e => e) fun k e e' => h.ne k e' e, hv2.carry free⟩, ?_, h.keep.grown hg fun k e => by have := (hgk k e).1; have := h.szA; omega, h.szA, h2, h3, h4⟩, ⟨free, low⟩⟩
  intro i e e'
  rcases hat with h' | h'
  · exact h.ne i (h' ▸ e) e'
  · rw [h'] at e
    have := Option.some.inj e
    have := (hgv i e').2
    omega
theorem PI.val (h : PI B R M b WA ks acc vk vl W) {y : J} {cs xs : List Value} (hv1 : W.ownsRow B 25 5 vl acc.length xs) (hv2 : isRow (Free B vk vl W) W acc xs) (hy : isJ (Free B vk vl W) W y cs)
    (hown : W2.ownsRow B 25 5 vl' (acc.length + 1) (xs ++ cs)) (hg : W.grownBy W2 vl.ownBlock) (hat : vl'.ownBlock = vl.ownBlock ∨ vl'.ownBlock = some W.heap.size) :
    PI B R M b WA ks (acc ++ [y]) vk vl' W2 ∧ Goes B vk vl W vk vl' W2 := by
  have h1 := h.size
  have h2 := h.rb
  have h3 := h.bm
  have h4 := h.mB
  have hs := hg.size
  have hgk := own_ge h.keys
  have hgv := own_ge hv1
  have low : ∀ k, k < B → W2.heap[k]? = W.heap[k]? := fun k hk => hg.block k (by omega) fun e => by have := (hgv k e.symm).1; omega
  have free : ∀ k, Free B vk vl W k → Free B vk vl' W2 k ∧ W2.heap[k]? = W.heap[k]? := by
    intro k hk
    refine ⟨⟨hk.1, by have := hk.2.1; omega, hk.2.2.1, fun e => ?_⟩, hg.block k hk.2.1 fun e => hk.2.2.2 e.symm⟩
    rcases hat with h' | h'
    · exact hk.2.2.2 (h' ▸ e)
    · rw [h'] at e
      have := Option.some.inj e
      have := hk.2.1
      omega
  refine ⟨⟨(low b (by omega)).trans h.res, own_keep h.keys (S := fun k => vl.ownBlock = some k) (Keep.of_grown hg fun _ _ e => e) fun k e e' => h.ne k e e', ⟨xs ++ cs, by rw [List.length_append]; exact hown, isRow.snoc hy.five (hy.carry free) acc xs (hv2.carry free)⟩, ?_, h.keep.grown hg fun k e => by have := (hgv k e).1; have := h.szA; omega, h.szA, h2, h3, h4⟩, ⟨free, low⟩⟩
  intro i e e'
  rcases hat with h' | h'
  · exact h.ne i e (h' ▸ e')
  · rw [h'] at e'
    have := Option.some.inj e'
    have := (hgk i e).2
    omega
/-- A value that was just read is free. -/
theorem PI.new {w4 : World} {y : J} {cs : List Value} (h : PI B R M b WA ks acc vk vl W) (hj : isJ (New W w4) w4 y cs) (o : Obj) : isJ (Free B vk vl (w4.alloc o)) (w4.alloc o) y cs := by
  have hs := h.size
  obtain ⟨xs, h1, h2⟩ := h.vals
  refine hj.carry fun k hk' => ⟨⟨by have := hk'.1; omega, by have := hk'.2; simp; omega, fun e => ?_, fun e => ?_⟩, Below.heap_alloc _ _ _ hk'.2⟩
  · have := (own_ge h.keys k e).2
    have := hk'.1
    omega
  · have := (own_ge h1 k e).2
    have := hk'.1
    omega
/-- And so is its own block. -/
theorem PI.free_new {w4 : World} (h : PI B R M b WA ks acc vk vl w4) (o : Obj) : Free B vk vl (w4.alloc o) w4.heap.size := by
  have hs := h.size
  obtain ⟨xs, h1, h2⟩ := h.vals
  refine ⟨by omega, by simp, fun e => ?_, fun e => ?_⟩
  · have := (own_ge h.keys _ e).2; omega
  · have := (own_ge h1 _ e).2; omega
end
theorem keyAt_new {t : List Int} {ks : List ByteArray} {p q : Nat} {c : ByteArray} (h : keyAt t ks p = .ok c q) : ∀ k ∈ ks, k ≠ c := by
  intro k hk e
  subst e
  unfold keyAt at h
  split at h
  · cases hq : quoted t p with
    | bad e a => rw [hq] at h; cases h
    | ok s r =>
      rw [hq] at h
      simp only [Res.bind] at h
      split at h
      · cases h
      · rename_i hn
        cases hm : must t 58 (blanks t r) with
        | bad e a => rw [hm] at h; cases h
        | ok u v =>
          rw [hm] at h
          simp only [Res.ok.injEq] at h
          apply hn
          rw [List.any_eq_true]
          exact ⟨k, hk, by rw [h.1]; simp⟩
  · cases h
/-- A block that is free, and what lies there. -/
def Lies (B : Nat) (vk vl : Value) (W : World) (n : Nat) (o : Obj) : Prop := Free B vk vl W n ∧ W.heap[n]? = some o
theorem lies5 {B : Nat} {vk vl : Value} {W : World} {n : Nat} {t : TypeId} {y0 y1 y2 y3 y4 : Value} (h : Lies B vk vl W n (.cells #[y0, y1, y2, y3, y4] t (0, 0))) : ∀ j u, [y0, y1, y2, y3, y4][j]? = some u → W.cell? ((⟨n, 0, none⟩ : Addr).add j) = some u := by
  intro j u hj
  have e : (⟨n, 0, none⟩ : Addr).add j = ⟨n, j, none⟩ := by unfold Addr.add; split <;> simp_all
  rw [e]
  exact cell_row (cur := [y0, y1, y2, y3, y4]) h.2 j u hj
theorem lies1 {B : Nat} {vk vl : Value} {W : World} {n : Nat} {t : TypeId} {x : Value} (h : Lies B vk vl W n (.cells #[x] t (0, 0))) : ∀ j u, [x][j]? = some u → W.cell? ((⟨n, 0, none⟩ : Addr).add j) = some u := by
  intro j u hj
  have e : (⟨n, 0, none⟩ : Addr).add j = ⟨n, j, none⟩ := by unfold Addr.add; split <;> simp_all
  rw [e]
  exact cell_row (cur := [x]) h.2 j u hj
/-- Where both rows grow. -/
structure RS (B R M b : Nat) (WA : World) (ks : List ByteArray) (acc : List J) (vk vl : Value) (s : ByteArray) (q : Nat) (e l : Int) (st : List ByteArray) (y : J) (y0 y1 y2 y3 y4 : Value) (nv : Nat) (W : World) : Prop where
  pi : PI B R M b WA ks acc vk vl W
  y : isJ (Free B vk vl W) W y [y0, y1, y2, y3, y4]
  blk : Lies B vk vl W nv (.cells #[y0, y1, y2, y3, y4] 25 (0, 0))
  rdr : Rdr W R s q e l
  st : Stood W M st
section
variable {B R M b : Nat} {WA W W' : World} {ks ks' : List ByteArray} {acc acc' : List J} {vk vl vk' vl' : Value} {s : ByteArray} {q : Nat} {e l : Int} {st : List ByteArray} {y : J} {y0 y1 y2 y3 y4 : Value} {nv n : Nat} {o : Obj}
theorem Lies.go (h : Lies B vk vl W n o) (g : Goes B vk vl W vk' vl' W') : Lies B vk' vl' W' n o := ⟨(g.free n h.1).1, (g.free n h.1).2.trans h.2⟩
theorem RS.go (h : RS B R M b WA ks acc vk vl s q e l st y y0 y1 y2 y3 y4 nv W) (p : PI B R M b WA ks' acc' vk' vl' W') (g : Goes B vk vl W vk' vl' W') : RS B R M b WA ks' acc' vk' vl' s q e l st y y0 y1 y2 y3 y4 nv W' := by
  have h1 := p.rb
  have h2 := p.bm
  have h3 := p.mB
  exact ⟨p, h.y.carry g.free, h.blk.go g, (g.low R (by omega)).trans h.rdr, h.st.at (g.low M h3)⟩
theorem PI.goes (h : PI B R M b WA ks acc vk vl W) (o : Obj) : Goes B vk vl W vk vl (W.alloc o) := Goes.keep h.size ((Keep.refl _ _).alloc o)
theorem RS.alloc (h : RS B R M b WA ks acc vk vl s q e l st y y0 y1 y2 y3 y4 nv W) (o : Obj) : RS B R M b WA ks acc vk vl s q e l st y y0 y1 y2 y3 y4 nv (W.alloc o) := h.go (h.pi.alloc o) (h.pi.goes o)
theorem PI.lies (h : PI B R M b WA ks acc vk vl W) (cs : Array Value) (t : TypeId) (hn : W.heap.size = n) : Lies B vk vl (W.alloc (.cells cs t)) n (.cells cs t (0, 0)) := by
  subst hn
  exact ⟨h.free_new _, heap_alloc_new _ _⟩
theorem PI.mapOf {qk ql : Option Addr} {nk ck nl cl : Nat} (h : PI B R M b WA ks acc (.slice qk nk ck) (.slice ql nl cl) W) (hlen : ks.length = acc.length) (hn : ks.length ≤ 100000) (hd : ks.Pairwise (· ≠ ·)) :
    Calls Tryz.prog 28 #[.slice qk nk ck, .slice ql nl cl] W fun x w' => ∃ k i t pk nk ck pl nl cl, x = .returned (.agg #[.int .i64 k, .int .i64 i, .string t, .slice pk nk ck, .slice pl nl cl]) ∧ isJ (fun k => B ≤ k ∧ k < w'.heap.size) w' (Go.Proofs.YtnmhpejnjaeecaaGreatDoor.mapOf ks acc) [.int .i64 k, .int .i64 i, .string t, .slice pk nk ck, .slice pl nl cl] ∧ Below W.heap.size W w' := by
  have hB := h.size
  obtain ⟨xs, hv1, hv2⟩ := h.vals
  obtain ⟨q1, c1, e1, hrk⟩ := own_rdK h.keys
  obtain ⟨q2, c2, e2, hc2, hrj⟩ := own_js hv1 hv2
  cases e1
  cases e2
  have hrj' : isJs (fun k => B ≤ k ∧ k < W.heap.size) W ql 0 acc := hrj.carry fun k hk => ⟨by rcases hk with hk | hk; exact ⟨hk.1, hk.2.1⟩; exact hk, rfl⟩
  refine (mapOf_any hrk hrj' hlen (fun k hk => hk.2) hn hd).mono ?_
  rintro x w' ⟨cs, rfl, hj, hb⟩
  have hs := hb.size
  have hj' : isJ (fun k => B ≤ k ∧ k < w'.heap.size) w' (Go.Proofs.YtnmhpejnjaeecaaGreatDoor.mapOf ks acc) cs.toList := hj.carry fun k hk => ⟨by
    rcases hk with hk | hk
    · exact ⟨hk.1, by have := hk.2; omega⟩
    · exact ⟨by have := hk.1; omega, hk.2⟩, rfl⟩
  have hE : ∃ k i t pk nk ck pl nl cl, cs.toList = [.int .i64 k, .int .i64 i, .string t, .slice pk nk ck, .slice pl nl cl] := by
    have h2 := hj'
    unfold Go.Proofs.YtnmhpejnjaeecaaGreatDoor.mapOf isJ at h2
    obtain ⟨pk, ck, pl, cl, e, _⟩ := h2
    exact ⟨_, _, _, _, _, _, _, _, _, e⟩
  obtain ⟨k, i, t, pk, nk, ck, pl, nl, cl, e⟩ := hE
  have e' : cs = #[.int .i64 k, .int .i64 i, .string t, .slice pk nk ck, .slice pl nl cl] := by rw [← Array.toList_inj]; exact e
  rw [e] at hj'
  exact ⟨k, i, t, pk, nk, ck, pl, nl, cl, by rw [e'], hj', hb⟩
end
theorem pairwise_snoc {ks : List ByteArray} {c : ByteArray} (h : ks.Pairwise (· ≠ ·)) (hn : ∀ k ∈ ks, k ≠ c) : (ks ++ [c]).Pairwise (· ≠ ·) := by
  rw [List.pairwise_append]
  exact ⟨h, List.pairwise_singleton _ _, fun a ha b hb => by rw [List.mem_singleton.1 hb]; exact hn a ha⟩
end Go.Proofs.YtnmhpejnjaeecaaGreatDoor
namespace Go.Proofs.YtnmhpejnjaeecaaGreatDoor
open Go.RowKit

/-- The world in which the reading begins. -/
abbrev atP (w : World) (R p : Nat) : World := (w.setCell ⟨R, 1, none⟩ (.int .i64 ((p : Int) + 1))).alloc zJ
theorem atP_keep (w : World) (R p : Nat) : Keep (One R) w (atP w R p) := (Rdr.setAt w R (p + 1)).alloc _
theorem atP_res {w w2 : World} {R p : Nat} (hR : R < w.heap.size) (hk : Keep (One R) (atP w R p) w2) : w2.heap[w.heap.size]? = some (.cells #[.int .i64 0, .int .i64 0, .string ⟨#[]⟩, .slice none 0 0, .slice none 0 0] 25 (0, 0)) := by
  have := json_keep hk (by simpa using hR)
  rw [show (w.setCell ⟨R, 1, none⟩ (.int .i64 ((p : Int) + 1))).heap.size = w.heap.size by simp] at this
  exact this
theorem PI.start {w w2 : World} {R p : Nat} (hR : R < w.heap.size) (hk : Keep (One R) (atP w R p) w2) : PI (w2.heap.size + 1) R w2.heap.size w.heap.size (w2.alloc (.map #[] 0)) [] [] (.slice none 0 0) (.slice none 0 0) (w2.alloc (.map #[] 0)) := by
  have hs : (w.heap.size + 1) ≤ w2.heap.size := by have := hk.size; simp at this; exact this
  refine ⟨?_, World.ownsRow_nil _ _ _ _, ⟨[], World.ownsRow_nil _ _ _ _, rfl⟩, fun i e => (by cases e), Keep.refl _ _, by simp, hR, by omega, by omega⟩
  rw [Below.heap_alloc _ _ _ (by omega)]
  exact atP_res hR hk
theorem PI.end {w w2 W5 wr : World} {R p : Nat} {ks : List ByteArray} {acc : List J} {vk vl : Value} (h : PI (w2.heap.size + 1) R w2.heap.size w.heap.size (w2.alloc (.map #[] 0)) ks acc vk vl wr) (hkw : Keep (One R) (atP w R p) w2) (hk : Keep (One w.heap.size) wr W5) : Keep (One R) w W5 := by
  have hs : (w.heap.size + 1) ≤ w2.heap.size := by have := hkw.size; simp at this; exact this
  have k1 : Keep (One R) w (w2.alloc (.map #[] 0)) := ((atP_keep w R p).then hkw).alloc _
  have k2 : Keep (One R) w wr := k1.trans h.keep fun i hi h' => by
    rcases h' with h' | h'
    · exact h'
    · omega
  exact k2.trans hk fun i hi h' => by unfold One at h'; omega
theorem map_fin {w w8 W5 : World} {M : Nat} {j : J} {cs : List Value} (hM : w.heap.size < M) (hk : Keep (One w.heap.size) w8 W5) (hj : isJ (fun k => M + 1 ≤ k ∧ k < w8.heap.size) w8 j cs) : isJ (New w W5) W5 j cs := by
  have hs := hk.size
  exact hj.carry fun k hk' => ⟨⟨by have := hk'.1; omega, by have := hk'.2; omega⟩, hk.block k hk'.2 (by unfold One; have := hk'.1; omega)⟩
set_option maxRecDepth 100000 in
set_option maxHeartbeats 64000000 in
theorem pairs_any {d : Nat} (V : Reads d) {w : World} {R p : Nat} {s : ByteArray} {e l deep : Int} (hr : Rdr w R s p e l) (hs : short s) (hp : p < s.size) (hdeep : deep = 12 - (d : Int)) (hd : d ≤ 12) :
    Calls Tryz.prog 63 #[.pointer (some ⟨R, 0, none⟩), .int .i64 deep] w fun x w' => valTold w w' R s (pairsAt (ints s) (value (ints s) d) p) x := by
  have hsz := hs
  unfold short at hsz
  have hR := hr.lt
  have hd0 : 0 ≤ deep := by omega
  have hd1 : deep ≤ 12 := by omega
  have HD : Hid (deep = 12 - (d : Int)) := hdeep
  clear hdeep
  have c1 := hr.c1
  have f1 := hr.fz 1
  have HR1 : Rdr (atP w R p) R s (p + 1) e l := (hr.at (p + 1)).keep (S := fun _ => False) ((Keep.refl _ _).alloc _) (fun h => h)
  have hbl := blanks_le (t := ints s) (p := p + 1) (by rw [ints_length]; exact hp)
  rw [ints_length] at hbl
  unfold atP zJ at HR1
  by_cases h93 : byteAt (ints s) (blanks (ints s) (p + 1)) = 125
  · have HL : Hid (pairsAt (ints s) (value (ints s) d) p = .ok (.mk 5 0 nix [] []) (blanks (ints s) (p + 1) + 1)) := by unfold pairsAt; rw [if_pos h93]; rfl
    go_enter Tryz.func63, Tryz.ntmps63
    go_wp2_with (first
      | (go_at_call 46; refine (blanks_any HR1 hs hp).mono ?_; rintro x w2 ⟨rfl, ⟨⟨e2, l2, hr2⟩, hk2⟩⟩)
      | (go_at_call 79; refine (take_yes hr2 (by omega) 125 h93).mono ?_; rintro x w3 ⟨rfl, ⟨⟨e3, l3, hr3⟩, hk3⟩⟩
         have hres := atP_res hR (hk2.then hk3)
         have i0 := five_c0 hres; have i1 := five_c1 hres; have i2 := five_c2 hres; have i3 := five_c3 hres; have i4 := five_c4 hres
         have z0 := five_fz hres 0; have z1 := five_fz hres 1; have z2 := five_fz hres 2; have z3 := five_fz hres 3; have z4 := five_fz hres 4))
    have h5 := set5_heap hres (.int .i64 5) (.int .i64 0) (.string ⟨#[]⟩) (.slice none 0 0) (.slice none 0 0)
    have HK5 : Keep (One w.heap.size) w3 _ := set5_keep w3 w.heap.size (.int .i64 5) (.int .i64 0) (.string ⟨#[]⟩) (.slice none 0 0) (.slice none 0 0)
    unfold set5 at h5 HK5
    have k0 := five_c0 h5; have k1 := five_c1 h5; have k2 := five_c2 h5; have k3 := five_c3 h5; have k4 := five_c4 h5
    refine bodyPost_ret (v := .tuple #[.agg #[.int .i64 5, .int .i64 0, .string ⟨#[]⟩, .slice none 0 0, .slice none 0 0], .bool true]) (by simp [results, Tryz.results63, go_sem, k0, k1, k2, k3, k4]) rfl ?_
    rw [HL.out]
    exact ⟨⟨_, _, _, _, _, _, _, _, _, rfl, flat_isJ _ _ 5 0 nix⟩, ⟨_, _, hr3.keep HK5 (fun h => by unfold One at h; omega)⟩, (((atP_keep w R p).then hk2).then hk3).trans HK5 fun i hi h' => by unfold One at h'; omega⟩
  · have HL : Hid (pairsAt (ints s) (value (ints s) d) p = pairsL (ints s) (value (ints s) d) (s.size + 1) (blanks (ints s) (p + 1)) [] []) := by unfold pairsAt; rw [if_neg h93, ints_length]; rfl
    have hmm := @run_makeMap Tryz.prog
    go_enter Tryz.func63, Tryz.ntmps63
    go_wp2_with (first
      | (go_at_call 46; refine (blanks_any HR1 hs hp).mono ?_; rintro x w2 ⟨rfl, ⟨⟨e2, l2, hr2⟩, hk2⟩⟩)
      | (go_at_call 79; refine (take_no hr2 125 h93).mono ?_; rintro x w' ⟨rfl, rfl⟩))
    have hpi0 := PI.start (p := p) hR hk2
    have HKW : Keep (One R) (atP w R p) w2 := hk2
    have hst0 := Stood.made w2
    have hr0 : Rdr (w2.alloc (.map #[] 0)) R s (blanks (ints s) (p + 1)) e2 l2 := hr2.keep (S := fun _ => False) ((Keep.refl _ _).alloc _) (fun h => h)
    have hMw := hpi0.bm
    go_loopw [6, 7] (fun vk vl wr => ∃ (q m : Nat) (ks : List ByteArray) (acc : List J), q ≤ s.size ∧ s.size < q + m ∧ ks.length ≤ q ∧ ks.length = acc.length ∧ ks.Pairwise (· ≠ ·) ∧ pairsL (ints s) (value (ints s) d) m q ks acc = pairsAt (ints s) (value (ints s) d) p ∧ PI (w2.heap.size + 1) R w2.heap.size w.heap.size (w2.alloc (.map #[] 0)) ks acc vk vl wr ∧ Stood wr w2.heap.size ks ∧ ∃ e l, Rdr wr R s q e l) (fun _ _ wr => s.size - posOf R wr)
    case atStart => exact ⟨_, s.size + 1, [], [], hbl, by omega, by simp, rfl, List.Pairwise.nil, HL.out.symm, hpi0, hst0, _, _, hr0⟩
    case round =>
      clear hmm hpi0 hk2 hr2 HL HR1 c1 f1 hst0 hr0
      obtain ⟨q, m, ks, acc, hq, hm, hal, hlen, hdist, hx, hpi, hst, e1, l1, hr1⟩ := hrel
      have hE0 := own_slice hpi.keys
      obtain ⟨xs0, hE1, _⟩ := hpi.vals
      have hE1 := own_slice hE1
      obtain ⟨sk1, sk2, sk3, rfl⟩ := hE0
      obtain ⟨sl1, sl2, sl3, rfl⟩ := hE1
      have HLEN : Hid (ks.length = acc.length) := hlen
      have HDIST : Hid (ks.Pairwise (· ≠ ·)) := hdist
      clear hlen hdist
      have hb1 := blanks_le (t := ints s) (p := q) (by rw [ints_length]; exact hq)
      have hb0 := blanks_ge (ints s) q
      rw [ints_length] at hb1
      have hkadv := keyAt_adv (ks := ks) (t := ints s) (p := blanks (ints s) q) (by rw [ints_length]; exact hb1)
      have hK := fun (wv : World) (e l : Int) (h : Rdr wv R s (blanks (ints s) q) e l) (hst : Stood wv w2.heap.size ks) => key_any h hs hst (by omega) (by omega)
      obtain ⟨m, rfl⟩ : ∃ m', m = m' + 1 := ⟨m - 1, by omega⟩
      have HX : Hid (pairsL (ints s) (value (ints s) d) (m + 1) q ks acc = pairsAt (ints s) (value (ints s) d) p) := hx
      clear hx
      unfold pairsL at HX
      have HP0 := posOf_rdr hr1
      cases hkv : keyAt (ints s) ks (blanks (ints s) q) with
      | bad er la =>
        rw [hkv] at HX hK
        go_wp2_with (first
          | (go_at_call 46; refine (blanks_any hr1 hs hq).mono ?_; rintro x w3 ⟨rfl, ⟨⟨e3, l3, hr3⟩, hk3⟩⟩)
          | (go_at_call 80; refine (hK _ _ _ hr3 (hst.keep hk3 (by unfold One; omega))).mono ?_; rintro x w3b ⟨rfl, ⟨q3b, hr3b⟩, hk3b⟩
             have hpi3 := (hpi.one hk3).two hk3b
             have i0 := five_c0 hpi3.res; have i1 := five_c1 hpi3.res; have i2 := five_c2 hpi3.res; have i3 := five_c3 hpi3.res; have i4 := five_c4 hpi3.res
             have z0 := five_fz hpi3.res 0; have z1 := five_fz hpi3.res 1; have z2 := five_fz hpi3.res 2; have z3 := five_fz hpi3.res 3; have z4 := five_fz hpi3.res 4))
        have h5 := set5_heap hpi3.res (.int .i64 0) (.int .i64 0) (.string ⟨#[]⟩) (.slice none 0 0) (.slice none 0 0)
        have HK5 : Keep (One w.heap.size) w3b _ := set5_keep w3b w.heap.size (.int .i64 0) (.int .i64 0) (.string ⟨#[]⟩) (.slice none 0 0) (.slice none 0 0)
        unfold set5 at h5 HK5
        have k0 := five_c0 h5; have k1 := five_c1 h5; have k2 := five_c2 h5; have k3 := five_c3 h5; have k4 := five_c4 h5
        refine bodyPost_ret (v := .tuple #[.agg #[.int .i64 0, .int .i64 0, .string ⟨#[]⟩, .slice none 0 0, .slice none 0 0], .bool false]) (by simp [results, Tryz.results63, go_sem, k0, k1, k2, k3, k4]) rfl ?_
        rw [← HX.out]
        exact ⟨⟨0, 0, nix, rfl⟩, ⟨_, hr3b.keep HK5 (fun h => by unfold One at h; omega)⟩, hpi3.end HKW HK5⟩
      | ok c qk =>
        have HNEW : Hid (∀ k ∈ ks, k ≠ c) := keyAt_new hkv
        rw [hkv] at HX hK hkadv
        have hqk := hkadv.2
        have hqk0 := hkadv.1
        rw [ints_length] at hqk
        clear hkadv
        have hadv := value_adv (ints s) d qk (by rw [ints_length]; exact hqk)
        have hV := fun (wv : World) (e l : Int) (h : Rdr wv R s qk e l) => V wv R qk s e l (deep + 1) h hs hqk (by have := HD.out; omega)
        cases hv : value (ints s) d qk with
        | bad er la =>
          have HX : Hid ((value (ints s) d qk).bind _ = pairsAt (ints s) (value (ints s) d) p) := HX
          rw [hv] at HX hV
          go_wp2_with (first
            | (go_at_call 46; refine (blanks_any hr1 hs hq).mono ?_; rintro x w3 ⟨rfl, ⟨⟨e3, l3, hr3⟩, hk3⟩⟩)
            | (go_at_call 80; refine (hK _ _ _ hr3 (hst.keep hk3 (by unfold One; omega))).mono ?_; rintro x w3b ⟨rfl, ⟨e3b, l3b, hr3b⟩, hst3b, hk3b⟩)
            | (go_at_call 47; refine (hV _ _ _ hr3b).mono ?_; rintro x w4 ⟨⟨kv, iv, tv, rfl⟩, ⟨q4, hr4⟩, hk4⟩
               unfold flat
               have hpi4 := (((hpi.one hk3).two hk3b).one hk4).alloc (.cells #[.int .i64 kv, .int .i64 iv, .string tv, .slice none 0 0, .slice none 0 0] 25)
               have hr4a : Rdr (w4.alloc (.cells #[.int .i64 kv, .int .i64 iv, .string tv, .slice none 0 0, .slice none 0 0] 25)) R s q4 er la := hr4.keep (S := fun _ => False) ((Keep.refl _ _).alloc _) (fun h => h)
               have i0 := five_c0 hpi4.res; have i1 := five_c1 hpi4.res; have i2 := five_c2 hpi4.res; have i3 := five_c3 hpi4.res; have i4 := five_c4 hpi4.res
               have z0 := five_fz hpi4.res 0; have z1 := five_fz hpi4.res 1; have z2 := five_fz hpi4.res 2; have z3 := five_fz hpi4.res 3; have z4 := five_fz hpi4.res 4))
          have h5 := set5_heap hpi4.res (.int .i64 0) (.int .i64 0) (.string ⟨#[]⟩) (.slice none 0 0) (.slice none 0 0)
          have HK5 : Keep (One w.heap.size) (w4.alloc (.cells #[.int .i64 kv, .int .i64 iv, .string tv, .slice none 0 0, .slice none 0 0] 25)) _ := set5_keep (w4.alloc (.cells #[.int .i64 kv, .int .i64 iv, .string tv, .slice none 0 0, .slice none 0 0] 25)) w.heap.size (.int .i64 0) (.int .i64 0) (.string ⟨#[]⟩) (.slice none 0 0) (.slice none 0 0)
          unfold set5 at h5 HK5
          have k0 := five_c0 h5; have k1 := five_c1 h5; have k2 := five_c2 h5; have k3 := five_c3 h5; have k4 := five_c4 h5
          refine bodyPost_ret (v := .tuple #[.agg #[.int .i64 0, .int .i64 0, .string ⟨#[]⟩, .slice none 0 0, .slice none 0 0], .bool false]) (by simp [results, Tryz.results63, go_sem, k0, k1, k2, k3, k4]) rfl ?_
          rw [← HX.out]
          exact ⟨⟨0, 0, nix, rfl⟩, ⟨_, hr4a.keep HK5 (fun h => by unfold One at h; omega)⟩, hpi4.end HKW HK5⟩
        | ok y qy =>
          have HX : Hid ((value (ints s) d qk).bind _ = pairsAt (ints s) (value (ints s) d) p) := HX
          rw [hv] at HX hV hadv
          have HX : Hid ((if byteAt (ints s) (blanks (ints s) qy) = 125 then .ok (mapOf (ks ++ [c]) (acc ++ [y])) (blanks (ints s) qy + 1) else if byteAt (ints s) (blanks (ints s) qy) = 44 then pairsL (ints s) (value (ints s) d) m (blanks (ints s) qy + 1) (ks ++ [c]) (acc ++ [y]) else .bad 11 (blanks (ints s) qy)) = pairsAt (ints s) (value (ints s) d) p) := HX
          have hqy := hadv.2
          have hqy0 := hadv.1
          rw [ints_length] at hqy
          have hb2 := blanks_le (t := ints s) (p := qy) (by rw [ints_length]; exact hqy)
          rw [ints_length] at hb2
          have hb3 := blanks_ge (ints s) qy
          clear hadv
          go_wp2_with (first
            | (go_at_call 46; refine (blanks_any hr1 hs hq).mono ?_; rintro x w3 ⟨rfl, ⟨⟨e3, l3, hr3⟩, hk3⟩⟩)
            | (go_at_call 80; refine (hK _ _ _ hr3 (hst.keep hk3 (by unfold One; omega))).mono ?_; rintro x w3b ⟨rfl, ⟨e3b, l3b, hr3b⟩, hst3b, hk3b⟩)
            | (go_at_call 47; refine (hV _ _ _ hr3b).mono ?_; rintro x w4 ⟨⟨kv, iv, tv, pk, nk, ck, pl, nl, cl, rfl, hj⟩, ⟨e4, l4, hr4⟩, hk4⟩
               have hpi3 := (hpi.one hk3).two hk3b
               have hyJ := hpi3.new hj (.cells #[.int .i64 kv, .int .i64 iv, .string tv, .slice pk nk ck, .slice pl nl cl] 25)
               have hfr := (hpi3.one hk4).free_new (.cells #[.int .i64 kv, .int .i64 iv, .string tv, .slice pk nk ck, .slice pl nl cl] 25)
               have hblk : (w4.alloc (.cells #[.int .i64 kv, .int .i64 iv, .string tv, .slice pk nk ck, .slice pl nl cl] 25)).heap[w4.heap.size]? = some (.cells #[.int .i64 kv, .int .i64 iv, .string tv, .slice pk nk ck, .slice pl nl cl] 25 (0, 0)) := heap_alloc_new _ _
               have hpi4 := (hpi3.one hk4).alloc (.cells #[.int .i64 kv, .int .i64 iv, .string tv, .slice pk nk ck, .slice pl nl cl] 25)
               have hr4a : Rdr (w4.alloc (.cells #[.int .i64 kv, .int .i64 iv, .string tv, .slice pk nk ck, .slice pl nl cl] 25)) R s qy e4 l4 := hr4.keep (S := fun _ => False) ((Keep.refl _ _).alloc _) (fun h => h)
               have hst4 : Stood (w4.alloc (.cells #[.int .i64 kv, .int .i64 iv, .string tv, .slice pk nk ck, .slice pl nl cl] 25)) w2.heap.size (ks ++ [c]) := (hst3b.keep hk4 (by unfold One; omega)).at (Below.heap_alloc _ _ _ (by have := (hst3b.keep hk4 (by unfold One; omega)).lt; omega))))
          have HL2 : Hid ((ks ++ [c]).length = (acc ++ [y]).length) := by have := HLEN.out; simp; omega
          have HD2 : Hid ((ks ++ [c]).Pairwise (· ≠ ·)) := pairwise_snoc HDIST.out HNEW.out
          have rs0 : RS (w2.heap.size + 1) R w2.heap.size w.heap.size (w2.alloc (.map #[] 0)) ks acc (.slice sk1 sk2 sk3) (.slice sl1 sl2 sl3) s qy e4 l4 (ks ++ [c]) y (.int .i64 kv) (.int .i64 iv) (.string tv) (.slice pk nk ck) (.slice pl nl cl) w4.heap.size (w4.alloc (.cells #[.int .i64 kv, .int .i64 iv, .string tv, .slice pk nk ck, .slice pl nl cl] 25)) := ⟨hpi4, hyJ, ⟨hfr, hblk⟩, hr4a, hst4⟩
          have rs0 := rs0.go rs0.pi.drew (Goes.keep rs0.pi.size (Keep.refl _ _).drew)
          clear hpi3 hyJ hfr hblk hpi4 hr4a hst4
          refine wp_region_in (by kernel_rfl) (fun w' => w'.heap[w4.heap.size]? = some (.cells #[.int .i64 kv, .int .i64 iv, .string tv, .slice pk nk ck, .slice pl nl cl] 25 (0, 0))) ?_
          change wpIn _ _ _ _ _ _ _ _ (World.drew _)
          generalize (w4.alloc (.cells #[.int .i64 kv, .int .i64 iv, .string tv, .slice pk nk ck, .slice pl nl cl] 25)).drew = W0 at rs0 ⊢
          generalize w4.heap.size = nv at rs0 ⊢
          have hC0 := rs0.blk.2
          have rsK := rs0.alloc (.cells #[.string c] 9)
          have lsK := rs0.pi.lies #[.string c] 9 rfl
          have hCK := rsK.blk.2
          have rsJ := rs0.alloc (.cells #[.int .i64 kv, .int .i64 iv, .string tv, .slice pk nk ck, .slice pl nl cl] 25)
          have lsJ := rs0.pi.lies #[.int .i64 kv, .int .i64 iv, .string tv, .slice pk nk ck, .slice pl nl cl] 25 rfl
          have hCJ := rsJ.blk.2
          have rsKJ := rsK.alloc (.cells #[.int .i64 kv, .int .i64 iv, .string tv, .slice pk nk ck, .slice pl nl cl] 25)
          have lsKJ := rsK.pi.lies (n := W0.heap.size + 1) #[.int .i64 kv, .int .i64 iv, .string tv, .slice pk nk ck, .slice pl nl cl] 25 (by simp)
          have lsKJk := lsK.go (rsK.pi.goes (.cells #[.int .i64 kv, .int .i64 iv, .string tv, .slice pk nk ck, .slice pl nl cl] 25))
          have hCKJ := rsKJ.blk.2
          have rsJK := rsJ.alloc (.cells #[.string c] 9)
          have lsJK := rsJ.pi.lies (n := W0.heap.size + 1) #[.string c] 9 (by simp)
          have lsJKj := lsJ.go (rsJ.pi.goes (.cells #[.string c] 9))
          have hCJK := rsJK.blk.2
          refine wpIn_take (i := 0) (d := (some 46)) (v := ?vqp0) (a' := ?aqp0) rfl rfl (by kernel_rfl) (by kernel_rfl) (by kernel_rfl) (fun _ _ _ h => h) (Or.inl ⟨by rfl, ?yqp0⟩) ?fqp0 ?_
          case yqp0 => (intro wq hq; go_simp; first | done | with_reducible rfl)
          case fqp0 => (go_frame; rfl)
          refine wpIn_take (i := 1) (d := (some 47)) (v := ?vqp1) (a' := ?aqp1) rfl rfl (by kernel_rfl) (by kernel_rfl) (by kernel_rfl) (fun _ _ _ h => h) (Or.inl ⟨by rfl, ?yqp1⟩) ?fqp1 ?_
          case yqp1 => (intro wq hq; go_simp; first | done | with_reducible rfl)
          case fqp1 => (go_frame; rfl)
          refine wpIn_take (i := 4) (d := (some 50)) (v := ?vqp4) (a' := ?aqp4) rfl rfl (by kernel_rfl) (by kernel_rfl) (by kernel_rfl) (fun _ _ _ h => h) (Or.inl ⟨by rfl, ?yqp4⟩) ?fqp4 ?_
          case yqp4 => (intro wq hq; go_simp; first | done | with_reducible rfl)
          case fqp4 => (go_frame; rfl)
          refine wpIn_take (i := 5) (d := (some 51)) (v := ?vqp5) (a' := ?aqp5) rfl rfl (by kernel_rfl) (by kernel_rfl) (by kernel_rfl) (fun _ _ _ h => h) (Or.inl ⟨by rfl, ?yqp5⟩) ?fqp5 ?_
          case yqp5 => (intro wq hq; have q0 := five_c0 hq; have q1 := five_c1 hq; have q2 := five_c2 hq; have q3 := five_c3 hq; have q4 := five_c4 hq; go_simp; first | done | with_reducible rfl)
          case fqp5 => (go_frame; rfl)
          refine wpIn_pair (i := 2) (j := 6) hC0 (by kernel_rfl) rfl rfl (by rfl) (by rfl) ?_ ?_
          · skip
            intro K hK
            go_simp
            refine hK _ _ ?_
            clear hK K
            refine wpIn_pair (i := 3) (j := 6) hCK (by kernel_rfl) rfl rfl (by rfl) (by rfl) ?_ ?_
            · skip
              intro K hK
              refine wp_append_at (.tmp 46) (.tmp 48) 22 rfl (w2.heap.size + 1) 9 (.string ⟨#[]⟩) 1 16 Tryz.underlying22 Tryz.info9 rfl (by decide) (by decide) _ ks.length (ks.map Value.string) rfl rsK.pi.keys _ [.string c] rfl rfl (lies1 lsK) (str_one c) (by omega) rsK.pi.size ?_
              intro vk2 WK hownK hgK hatK
              refine hK _ _ ?_
              clear hK K
              obtain ⟨qk5, nk5, ck5, hE5⟩ := own_slice hownK
              subst hE5
              have hpg := rsK.pi.key hownK hgK hatK
              have rs2 := rsK.go hpg.1 hpg.2
              have hgo := hpg.2
              clear hownK hgK hatK hpg
              have hC2 := rs2.blk.2
              refine wpIn_do (i := 6) hC2 (by kernel_rfl) rfl (by rfl) ?_
              intro K hK
              go_simp
              refine hK _ _ ?_
              clear hK K
              have rs3 := rs2.alloc (.cells #[.int .i64 kv, .int .i64 iv, .string tv, .slice pk nk ck, .slice pl nl cl] 25)
              have ls3 := rs2.pi.lies #[.int .i64 kv, .int .i64 iv, .string tv, .slice pk nk ck, .slice pl nl cl] 25 rfl
              have hC3 := rs3.blk.2
              refine wpIn_do (i := 7) hC3 (by kernel_rfl) rfl (by rfl) ?_
              intro K hK
              obtain ⟨xs, hv1, hv2⟩ := rs3.pi.vals
              refine wp_append_at (.tmp 50) (.tmp 52) 23 rfl (w2.heap.size + 1) 25 (.agg #[.int .i64 0, .int .i64 0, .string ⟨#[]⟩, .slice none 0 0, .slice none 0 0]) 5 80 Tryz.underlying23 Tryz.info25 rfl (by decide) (by decide) _ acc.length xs rfl hv1 _ [.int .i64 kv, .int .i64 iv, .string tv, .slice pk nk ck, .slice pl nl cl] rfl rfl (lies5 ls3) one5 (by have := HLEN.out; omega) rs3.pi.size ?_
              intro vl2 WV hownV hgV hatV
              refine hK _ _ ?_
              clear hK K
              obtain ⟨ql5, nl5, cl5, hE5⟩ := own_slice hownV
              subst hE5
              have hpg := rs3.pi.val hv1 hv2 rs3.y hownV hgV hatV
              have rsF := rs3.go hpg.1 hpg.2
              have hCF := rsF.blk.2
              clear hownV hgV hatV hpg hv1 hv2
              refine wpIn_take (i := 8) (d := (some 6)) (v := ?vqax8) (a' := ?aqax8) rfl rfl (by kernel_rfl) (by kernel_rfl) (by kernel_rfl) (fun _ _ _ h => h) (Or.inl ⟨by rfl, ?yqax8⟩) ?fqax8 ?_
              case yqax8 => (intro wq hq; go_simp; first | done | with_reducible rfl)
              case fqax8 => (go_frame; rfl)
              refine wpIn_take (i := 9) (d := (some 7)) (v := ?vqbx9) (a' := ?aqbx9) rfl rfl (by kernel_rfl) (by kernel_rfl) (by kernel_rfl) (fun _ _ _ h => h) (Or.inl ⟨by rfl, ?yqbx9⟩) ?fqbx9 ?_
              case yqbx9 => (intro wq hq; go_simp; first | done | with_reducible rfl)
              case fqbx9 => (go_frame; rfl)
              refine wpIn_done hCF (by kernel_rfl) ?_ _
              have hpiF := rsF.pi
              have hrF := rsF.rdr
              have hstF := rsF.st
              clear hCF rsF
              by_cases h9 : byteAt (ints s) (blanks (ints s) qy) = 125
              · rw [if_pos h9] at HX
                go_wp2_with (first
                  | (go_at_call 46; refine (blanks_any hrF hs hqy).mono ?_; rintro x w6 ⟨rfl, ⟨⟨e6, l6, hr6⟩, hk6⟩⟩)
                  | (go_at_call 79; refine (take_yes hr6 (by omega) 125 h9).mono ?_; rintro x w7 ⟨rfl, ⟨⟨e7, l7, hr7⟩, hk7⟩⟩
                     have hpi7 := (hpiF.one hk6).one hk7)
                  | (go_at_call 28; refine (hpi7.mapOf HL2.out (by simp; omega) HD2.out).mono ?_; rintro x w8 ⟨kf, jf, tf, pkf, nkf, ckf, plf, nlf, clf, rfl, hJf, hb8⟩
                     have hres8 := (hb8.block _ (Array.getElem?_eq_some_iff.1 hpi7.res).1).trans hpi7.res
                     have i0 := five_c0 hres8; have i1 := five_c1 hres8; have i2 := five_c2 hres8; have i3 := five_c3 hres8; have i4 := five_c4 hres8
                     have z0 := five_fz hres8 0; have z1 := five_fz hres8 1; have z2 := five_fz hres8 2; have z3 := five_fz hres8 3; have z4 := five_fz hres8 4))
                have h5 := set5_heap hres8 (.int .i64 kf) (.int .i64 jf) (.string tf) (.slice pkf nkf ckf) (.slice plf nlf clf)
                have HK5 : Keep (One w.heap.size) w8 _ := set5_keep w8 w.heap.size (.int .i64 kf) (.int .i64 jf) (.string tf) (.slice pkf nkf ckf) (.slice plf nlf clf)
                unfold set5 at h5 HK5
                have k0 := five_c0 h5; have k1 := five_c1 h5; have k2 := five_c2 h5; have k3 := five_c3 h5; have k4 := five_c4 h5
                refine bodyPost_ret (v := .tuple #[.agg #[.int .i64 kf, .int .i64 jf, .string tf, .slice pkf nkf ckf, .slice plf nlf clf], .bool true]) (by simp [results, Tryz.results63, go_sem, k0, k1, k2, k3, k4]) rfl ?_
                rw [← HX.out]
                have hK8 : Keep (One w.heap.size) w7 _ := (Keep.of_below hb8).then HK5
                exact ⟨⟨_, _, _, _, _, _, _, _, _, rfl, map_fin hMw HK5 hJf⟩, ⟨_, _, (hr7.keep (S := fun _ => False) (Keep.of_below hb8) (fun h => h)).keep HK5 (fun h => by unfold One at h; omega)⟩, hpi7.end HKW hK8⟩
              · rw [if_neg h9] at HX
                by_cases h44 : byteAt (ints s) (blanks (ints s) qy) = 44
                · rw [if_pos h44] at HX
                  have hlt := byteAt_lt (t := ints s) (p := blanks (ints s) qy) (by rw [h44]; decide)
                  rw [ints_length] at hlt
                  go_wp2_with (first
                    | (go_at_call 46; refine (blanks_any hrF hs hqy).mono ?_; rintro x w6 ⟨rfl, ⟨⟨e6, l6, hr6⟩, hk6⟩⟩)
                    | (go_at_call 79; refine (take_no hr6 125 h9).mono ?_; rintro x w' ⟨rfl, rfl⟩)
                    | (go_at_call 76; refine (must_yes hr6 (by omega) 44 h44).mono ?_; rintro x w7 ⟨rfl, ⟨⟨e7, l7, hr7⟩, hk7⟩⟩
                       have hpi7 := (hpiF.one hk6).one hk7
                       have hst7 := (hstF.keep hk6 (by unfold One; omega)).keep hk7 (by unfold One; omega)))
                  have HP := posOf_rdr hr7
                  go_roundw
                  case rel => exact ⟨_, m, ks ++ [c], acc ++ [y], hlt, by omega, by simp; omega, HL2.out, HD2.out, HX.out, hpi7, hst7, _, _, hr7⟩
                  case measure => rw [HP, HP0]; omega
                · rw [if_neg h44] at HX
                  go_wp2_with (first
                    | (go_at_call 46; refine (blanks_any hrF hs hqy).mono ?_; rintro x w6 ⟨rfl, ⟨⟨e6, l6, hr6⟩, hk6⟩⟩)
                    | (go_at_call 79; refine (take_no hr6 125 h9).mono ?_; rintro x w' ⟨rfl, rfl⟩)
                    | (go_at_call 76; refine (must_no hr6 44 h44).mono ?_; rintro x w7 ⟨rfl, ⟨⟨q7, hr7⟩, hk7⟩⟩
                       have hpi7 := (hpiF.one hk6).one hk7
                       have i0 := five_c0 hpi7.res; have i1 := five_c1 hpi7.res; have i2 := five_c2 hpi7.res; have i3 := five_c3 hpi7.res; have i4 := five_c4 hpi7.res
                       have z0 := five_fz hpi7.res 0; have z1 := five_fz hpi7.res 1; have z2 := five_fz hpi7.res 2; have z3 := five_fz hpi7.res 3; have z4 := five_fz hpi7.res 4))
                  have h5 := set5_heap hpi7.res (.int .i64 0) (.int .i64 0) (.string ⟨#[]⟩) (.slice none 0 0) (.slice none 0 0)
                  have HK5 : Keep (One w.heap.size) w7 _ := set5_keep w7 w.heap.size (.int .i64 0) (.int .i64 0) (.string ⟨#[]⟩) (.slice none 0 0) (.slice none 0 0)
                  unfold set5 at h5 HK5
                  have k0 := five_c0 h5; have k1 := five_c1 h5; have k2 := five_c2 h5; have k3 := five_c3 h5; have k4 := five_c4 h5
                  refine bodyPost_ret (v := .tuple #[.agg #[.int .i64 0, .int .i64 0, .string ⟨#[]⟩, .slice none 0 0, .slice none 0 0], .bool false]) (by simp [results, Tryz.results63, go_sem, k0, k1, k2, k3, k4]) rfl ?_
                  rw [← HX.out]
                  exact ⟨⟨0, 0, nix, rfl⟩, ⟨_, hr7.keep HK5 (fun h => by unfold One at h; omega)⟩, hpi7.end HKW HK5⟩
            · skip
              intro K hK
              go_simp
              refine hK _ _ ?_
              clear hK K
              refine wpIn_do (i := 3) hCKJ (by kernel_rfl) rfl (by rfl) ?_
              intro K hK
              refine wp_append_at (.tmp 46) (.tmp 48) 22 rfl (w2.heap.size + 1) 9 (.string ⟨#[]⟩) 1 16 Tryz.underlying22 Tryz.info9 rfl (by decide) (by decide) _ ks.length (ks.map Value.string) rfl rsKJ.pi.keys _ [.string c] rfl rfl (lies1 lsKJk) (str_one c) (by omega) rsKJ.pi.size ?_
              intro vk2 WK hownK hgK hatK
              refine hK _ _ ?_
              clear hK K
              obtain ⟨qk5, nk5, ck5, hE5⟩ := own_slice hownK
              subst hE5
              have hpg := rsKJ.pi.key hownK hgK hatK
              have rs3 := rsKJ.go hpg.1 hpg.2
              have hgo := hpg.2
              clear hownK hgK hatK hpg
              have ls3 := lsKJ.go hgo
              have hC3 := rs3.blk.2
              refine wpIn_do (i := 7) hC3 (by kernel_rfl) rfl (by rfl) ?_
              intro K hK
              obtain ⟨xs, hv1, hv2⟩ := rs3.pi.vals
              refine wp_append_at (.tmp 50) (.tmp 52) 23 rfl (w2.heap.size + 1) 25 (.agg #[.int .i64 0, .int .i64 0, .string ⟨#[]⟩, .slice none 0 0, .slice none 0 0]) 5 80 Tryz.underlying23 Tryz.info25 rfl (by decide) (by decide) _ acc.length xs rfl hv1 _ [.int .i64 kv, .int .i64 iv, .string tv, .slice pk nk ck, .slice pl nl cl] rfl rfl (lies5 ls3) one5 (by have := HLEN.out; omega) rs3.pi.size ?_
              intro vl2 WV hownV hgV hatV
              refine hK _ _ ?_
              clear hK K
              obtain ⟨ql5, nl5, cl5, hE5⟩ := own_slice hownV
              subst hE5
              have hpg := rs3.pi.val hv1 hv2 rs3.y hownV hgV hatV
              have rsF := rs3.go hpg.1 hpg.2
              have hCF := rsF.blk.2
              clear hownV hgV hatV hpg hv1 hv2
              refine wpIn_take (i := 8) (d := (some 6)) (v := ?vqay8) (a' := ?aqay8) rfl rfl (by kernel_rfl) (by kernel_rfl) (by kernel_rfl) (fun _ _ _ h => h) (Or.inl ⟨by rfl, ?yqay8⟩) ?fqay8 ?_
              case yqay8 => (intro wq hq; go_simp; first | done | with_reducible rfl)
              case fqay8 => (go_frame; rfl)
              refine wpIn_take (i := 9) (d := (some 7)) (v := ?vqby9) (a' := ?aqby9) rfl rfl (by kernel_rfl) (by kernel_rfl) (by kernel_rfl) (fun _ _ _ h => h) (Or.inl ⟨by rfl, ?yqby9⟩) ?fqby9 ?_
              case yqby9 => (intro wq hq; go_simp; first | done | with_reducible rfl)
              case fqby9 => (go_frame; rfl)
              refine wpIn_done hCF (by kernel_rfl) ?_ _
              have hpiF := rsF.pi
              have hrF := rsF.rdr
              have hstF := rsF.st
              clear hCF rsF
              by_cases h9 : byteAt (ints s) (blanks (ints s) qy) = 125
              · rw [if_pos h9] at HX
                go_wp2_with (first
                  | (go_at_call 46; refine (blanks_any hrF hs hqy).mono ?_; rintro x w6 ⟨rfl, ⟨⟨e6, l6, hr6⟩, hk6⟩⟩)
                  | (go_at_call 79; refine (take_yes hr6 (by omega) 125 h9).mono ?_; rintro x w7 ⟨rfl, ⟨⟨e7, l7, hr7⟩, hk7⟩⟩
                     have hpi7 := (hpiF.one hk6).one hk7)
                  | (go_at_call 28; refine (hpi7.mapOf HL2.out (by simp; omega) HD2.out).mono ?_; rintro x w8 ⟨kf, jf, tf, pkf, nkf, ckf, plf, nlf, clf, rfl, hJf, hb8⟩
                     have hres8 := (hb8.block _ (Array.getElem?_eq_some_iff.1 hpi7.res).1).trans hpi7.res
                     have i0 := five_c0 hres8; have i1 := five_c1 hres8; have i2 := five_c2 hres8; have i3 := five_c3 hres8; have i4 := five_c4 hres8
                     have z0 := five_fz hres8 0; have z1 := five_fz hres8 1; have z2 := five_fz hres8 2; have z3 := five_fz hres8 3; have z4 := five_fz hres8 4))
                have h5 := set5_heap hres8 (.int .i64 kf) (.int .i64 jf) (.string tf) (.slice pkf nkf ckf) (.slice plf nlf clf)
                have HK5 : Keep (One w.heap.size) w8 _ := set5_keep w8 w.heap.size (.int .i64 kf) (.int .i64 jf) (.string tf) (.slice pkf nkf ckf) (.slice plf nlf clf)
                unfold set5 at h5 HK5
                have k0 := five_c0 h5; have k1 := five_c1 h5; have k2 := five_c2 h5; have k3 := five_c3 h5; have k4 := five_c4 h5
                refine bodyPost_ret (v := .tuple #[.agg #[.int .i64 kf, .int .i64 jf, .string tf, .slice pkf nkf ckf, .slice plf nlf clf], .bool true]) (by simp [results, Tryz.results63, go_sem, k0, k1, k2, k3, k4]) rfl ?_
                rw [← HX.out]
                have hK8 : Keep (One w.heap.size) w7 _ := (Keep.of_below hb8).then HK5
                exact ⟨⟨_, _, _, _, _, _, _, _, _, rfl, map_fin hMw HK5 hJf⟩, ⟨_, _, (hr7.keep (S := fun _ => False) (Keep.of_below hb8) (fun h => h)).keep HK5 (fun h => by unfold One at h; omega)⟩, hpi7.end HKW hK8⟩
              · rw [if_neg h9] at HX
                by_cases h44 : byteAt (ints s) (blanks (ints s) qy) = 44
                · rw [if_pos h44] at HX
                  have hlt := byteAt_lt (t := ints s) (p := blanks (ints s) qy) (by rw [h44]; decide)
                  rw [ints_length] at hlt
                  go_wp2_with (first
                    | (go_at_call 46; refine (blanks_any hrF hs hqy).mono ?_; rintro x w6 ⟨rfl, ⟨⟨e6, l6, hr6⟩, hk6⟩⟩)
                    | (go_at_call 79; refine (take_no hr6 125 h9).mono ?_; rintro x w' ⟨rfl, rfl⟩)
                    | (go_at_call 76; refine (must_yes hr6 (by omega) 44 h44).mono ?_; rintro x w7 ⟨rfl, ⟨⟨e7, l7, hr7⟩, hk7⟩⟩
                       have hpi7 := (hpiF.one hk6).one hk7
                       have hst7 := (hstF.keep hk6 (by unfold One; omega)).keep hk7 (by unfold One; omega)))
                  have HP := posOf_rdr hr7
                  go_roundw
                  case rel => exact ⟨_, m, ks ++ [c], acc ++ [y], hlt, by omega, by simp; omega, HL2.out, HD2.out, HX.out, hpi7, hst7, _, _, hr7⟩
                  case measure => rw [HP, HP0]; omega
                · rw [if_neg h44] at HX
                  go_wp2_with (first
                    | (go_at_call 46; refine (blanks_any hrF hs hqy).mono ?_; rintro x w6 ⟨rfl, ⟨⟨e6, l6, hr6⟩, hk6⟩⟩)
                    | (go_at_call 79; refine (take_no hr6 125 h9).mono ?_; rintro x w' ⟨rfl, rfl⟩)
                    | (go_at_call 76; refine (must_no hr6 44 h44).mono ?_; rintro x w7 ⟨rfl, ⟨⟨q7, hr7⟩, hk7⟩⟩
                       have hpi7 := (hpiF.one hk6).one hk7
                       have i0 := five_c0 hpi7.res; have i1 := five_c1 hpi7.res; have i2 := five_c2 hpi7.res; have i3 := five_c3 hpi7.res; have i4 := five_c4 hpi7.res
                       have z0 := five_fz hpi7.res 0; have z1 := five_fz hpi7.res 1; have z2 := five_fz hpi7.res 2; have z3 := five_fz hpi7.res 3; have z4 := five_fz hpi7.res 4))
                  have h5 := set5_heap hpi7.res (.int .i64 0) (.int .i64 0) (.string ⟨#[]⟩) (.slice none 0 0) (.slice none 0 0)
                  have HK5 : Keep (One w.heap.size) w7 _ := set5_keep w7 w.heap.size (.int .i64 0) (.int .i64 0) (.string ⟨#[]⟩) (.slice none 0 0) (.slice none 0 0)
                  unfold set5 at h5 HK5
                  have k0 := five_c0 h5; have k1 := five_c1 h5; have k2 := five_c2 h5; have k3 := five_c3 h5; have k4 := five_c4 h5
                  refine bodyPost_ret (v := .tuple #[.agg #[.int .i64 0, .int .i64 0, .string ⟨#[]⟩, .slice none 0 0, .slice none 0 0], .bool false]) (by simp [results, Tryz.results63, go_sem, k0, k1, k2, k3, k4]) rfl ?_
                  rw [← HX.out]
                  exact ⟨⟨0, 0, nix, rfl⟩, ⟨_, hr7.keep HK5 (fun h => by unfold One at h; omega)⟩, hpi7.end HKW HK5⟩
          · skip
            intro K hK
            go_simp
            refine hK _ _ ?_
            clear hK K
            refine wpIn_do (i := 2) hCJ (by kernel_rfl) rfl (by rfl) ?_
            intro K hK
            go_simp
            refine hK _ _ ?_
            clear hK K
            refine wpIn_do (i := 3) hCJK (by kernel_rfl) rfl (by rfl) ?_
            intro K hK
            refine wp_append_at (.tmp 46) (.tmp 48) 22 rfl (w2.heap.size + 1) 9 (.string ⟨#[]⟩) 1 16 Tryz.underlying22 Tryz.info9 rfl (by decide) (by decide) _ ks.length (ks.map Value.string) rfl rsJK.pi.keys _ [.string c] rfl rfl (lies1 lsJK) (str_one c) (by omega) rsJK.pi.size ?_
            intro vk2 WK hownK hgK hatK
            refine hK _ _ ?_
            clear hK K
            obtain ⟨qk5, nk5, ck5, hE5⟩ := own_slice hownK
            subst hE5
            have hpg := rsJK.pi.key hownK hgK hatK
            have rs3 := rsJK.go hpg.1 hpg.2
            have hgo := hpg.2
            clear hownK hgK hatK hpg
            have ls3 := lsJKj.go hgo
            have hC3 := rs3.blk.2
            refine wpIn_do (i := 7) hC3 (by kernel_rfl) rfl (by rfl) ?_
            intro K hK
            obtain ⟨xs, hv1, hv2⟩ := rs3.pi.vals
            refine wp_append_at (.tmp 50) (.tmp 52) 23 rfl (w2.heap.size + 1) 25 (.agg #[.int .i64 0, .int .i64 0, .string ⟨#[]⟩, .slice none 0 0, .slice none 0 0]) 5 80 Tryz.underlying23 Tryz.info25 rfl (by decide) (by decide) _ acc.length xs rfl hv1 _ [.int .i64 kv, .int .i64 iv, .string tv, .slice pk nk ck, .slice pl nl cl] rfl rfl (lies5 ls3) one5 (by have := HLEN.out; omega) rs3.pi.size ?_
            intro vl2 WV hownV hgV hatV
            refine hK _ _ ?_
            clear hK K
            obtain ⟨ql5, nl5, cl5, hE5⟩ := own_slice hownV
            subst hE5
            have hpg := rs3.pi.val hv1 hv2 rs3.y hownV hgV hatV
            have rsF := rs3.go hpg.1 hpg.2
            have hCF := rsF.blk.2
            clear hownV hgV hatV hpg hv1 hv2
            refine wpIn_take (i := 8) (d := (some 6)) (v := ?vqaz8) (a' := ?aqaz8) rfl rfl (by kernel_rfl) (by kernel_rfl) (by kernel_rfl) (fun _ _ _ h => h) (Or.inl ⟨by rfl, ?yqaz8⟩) ?fqaz8 ?_
            case yqaz8 => (intro wq hq; go_simp; first | done | with_reducible rfl)
            case fqaz8 => (go_frame; rfl)
            refine wpIn_take (i := 9) (d := (some 7)) (v := ?vqbz9) (a' := ?aqbz9) rfl rfl (by kernel_rfl) (by kernel_rfl) (by kernel_rfl) (fun _ _ _ h => h) (Or.inl ⟨by rfl, ?yqbz9⟩) ?fqbz9 ?_
            case yqbz9 => (intro wq hq; go_simp; first | done | with_reducible rfl)
            case fqbz9 => (go_frame; rfl)
            refine wpIn_done hCF (by kernel_rfl) ?_ _
            have hpiF := rsF.pi
            have hrF := rsF.rdr
            have hstF := rsF.st
            clear hCF rsF
            by_cases h9 : byteAt (ints s) (blanks (ints s) qy) = 125
            · rw [if_pos h9] at HX
              go_wp2_with (first
                | (go_at_call 46; refine (blanks_any hrF hs hqy).mono ?_; rintro x w6 ⟨rfl, ⟨⟨e6, l6, hr6⟩, hk6⟩⟩)
                | (go_at_call 79; refine (take_yes hr6 (by omega) 125 h9).mono ?_; rintro x w7 ⟨rfl, ⟨⟨e7, l7, hr7⟩, hk7⟩⟩
                   have hpi7 := (hpiF.one hk6).one hk7)
                | (go_at_call 28; refine (hpi7.mapOf HL2.out (by simp; omega) HD2.out).mono ?_; rintro x w8 ⟨kf, jf, tf, pkf, nkf, ckf, plf, nlf, clf, rfl, hJf, hb8⟩
                   have hres8 := (hb8.block _ (Array.getElem?_eq_some_iff.1 hpi7.res).1).trans hpi7.res
                   have i0 := five_c0 hres8; have i1 := five_c1 hres8; have i2 := five_c2 hres8; have i3 := five_c3 hres8; have i4 := five_c4 hres8
                   have z0 := five_fz hres8 0; have z1 := five_fz hres8 1; have z2 := five_fz hres8 2; have z3 := five_fz hres8 3; have z4 := five_fz hres8 4))
              have h5 := set5_heap hres8 (.int .i64 kf) (.int .i64 jf) (.string tf) (.slice pkf nkf ckf) (.slice plf nlf clf)
              have HK5 : Keep (One w.heap.size) w8 _ := set5_keep w8 w.heap.size (.int .i64 kf) (.int .i64 jf) (.string tf) (.slice pkf nkf ckf) (.slice plf nlf clf)
              unfold set5 at h5 HK5
              have k0 := five_c0 h5; have k1 := five_c1 h5; have k2 := five_c2 h5; have k3 := five_c3 h5; have k4 := five_c4 h5
              refine bodyPost_ret (v := .tuple #[.agg #[.int .i64 kf, .int .i64 jf, .string tf, .slice pkf nkf ckf, .slice plf nlf clf], .bool true]) (by simp [results, Tryz.results63, go_sem, k0, k1, k2, k3, k4]) rfl ?_
              rw [← HX.out]
              have hK8 : Keep (One w.heap.size) w7 _ := (Keep.of_below hb8).then HK5
              exact ⟨⟨_, _, _, _, _, _, _, _, _, rfl, map_fin hMw HK5 hJf⟩, ⟨_, _, (hr7.keep (S := fun _ => False) (Keep.of_below hb8) (fun h => h)).keep HK5 (fun h => by unfold One at h; omega)⟩, hpi7.end HKW hK8⟩
            · rw [if_neg h9] at HX
              by_cases h44 : byteAt (ints s) (blanks (ints s) qy) = 44
              · rw [if_pos h44] at HX
                have hlt := byteAt_lt (t := ints s) (p := blanks (ints s) qy) (by rw [h44]; decide)
                rw [ints_length] at hlt
                go_wp2_with (first
                  | (go_at_call 46; refine (blanks_any hrF hs hqy).mono ?_; rintro x w6 ⟨rfl, ⟨⟨e6, l6, hr6⟩, hk6⟩⟩)
                  | (go_at_call 79; refine (take_no hr6 125 h9).mono ?_; rintro x w' ⟨rfl, rfl⟩)
                  | (go_at_call 76; refine (must_yes hr6 (by omega) 44 h44).mono ?_; rintro x w7 ⟨rfl, ⟨⟨e7, l7, hr7⟩, hk7⟩⟩
                     have hpi7 := (hpiF.one hk6).one hk7
                     have hst7 := (hstF.keep hk6 (by unfold One; omega)).keep hk7 (by unfold One; omega)))
                have HP := posOf_rdr hr7
                go_roundw
                case rel => exact ⟨_, m, ks ++ [c], acc ++ [y], hlt, by omega, by simp; omega, HL2.out, HD2.out, HX.out, hpi7, hst7, _, _, hr7⟩
                case measure => rw [HP, HP0]; omega
              · rw [if_neg h44] at HX
                go_wp2_with (first
                  | (go_at_call 46; refine (blanks_any hrF hs hqy).mono ?_; rintro x w6 ⟨rfl, ⟨⟨e6, l6, hr6⟩, hk6⟩⟩)
                  | (go_at_call 79; refine (take_no hr6 125 h9).mono ?_; rintro x w' ⟨rfl, rfl⟩)
                  | (go_at_call 76; refine (must_no hr6 44 h44).mono ?_; rintro x w7 ⟨rfl, ⟨⟨q7, hr7⟩, hk7⟩⟩
                     have hpi7 := (hpiF.one hk6).one hk7
                     have i0 := five_c0 hpi7.res; have i1 := five_c1 hpi7.res; have i2 := five_c2 hpi7.res; have i3 := five_c3 hpi7.res; have i4 := five_c4 hpi7.res
                     have z0 := five_fz hpi7.res 0; have z1 := five_fz hpi7.res 1; have z2 := five_fz hpi7.res 2; have z3 := five_fz hpi7.res 3; have z4 := five_fz hpi7.res 4))
                have h5 := set5_heap hpi7.res (.int .i64 0) (.int .i64 0) (.string ⟨#[]⟩) (.slice none 0 0) (.slice none 0 0)
                have HK5 : Keep (One w.heap.size) w7 _ := set5_keep w7 w.heap.size (.int .i64 0) (.int .i64 0) (.string ⟨#[]⟩) (.slice none 0 0) (.slice none 0 0)
                unfold set5 at h5 HK5
                have k0 := five_c0 h5; have k1 := five_c1 h5; have k2 := five_c2 h5; have k3 := five_c3 h5; have k4 := five_c4 h5
                refine bodyPost_ret (v := .tuple #[.agg #[.int .i64 0, .int .i64 0, .string ⟨#[]⟩, .slice none 0 0, .slice none 0 0], .bool false]) (by simp [results, Tryz.results63, go_sem, k0, k1, k2, k3, k4]) rfl ?_
                rw [← HX.out]
                exact ⟨⟨0, 0, nix, rfl⟩, ⟨_, hr7.keep HK5 (fun h => by unfold One at h; omega)⟩, hpi7.end HKW HK5⟩
end Go.Proofs.YtnmhpejnjaeecaaGreatDoor
namespace Go.Proofs.YtnmhpejnjaeecaaGreatDoor
open Go.RowKit

section
variable {w w3 W5 : World} {R q : Nat} {s : ByteArray} {e l : Int} {o : Obj}
theorem val_keep (hk3 : Keep (One R) (w.alloc o) w3) (HK5 : Keep (One w.heap.size) w3 W5) : Keep (One R) w W5 :=
  (((Keep.refl (One R) w).alloc o).then hk3).trans HK5 fun i hi h => by unfold One at h; omega
theorem val_ok (hk3 : Keep (One R) (w.alloc o) w3) (hr3 : Rdr w3 R s q e l) (HK5 : Keep (One w.heap.size) w3 W5) (hR : R < w.heap.size) : OkAt w W5 R s q :=
  ⟨⟨e, l, hr3.keep HK5 (fun h => by unfold One at h; omega)⟩, val_keep hk3 HK5⟩
theorem val_bad {la : Nat} (hk3 : Keep (One R) (w.alloc o) w3) (hr3 : Rdr w3 R s q e la) (HK5 : Keep (One w.heap.size) w3 W5) (hR : R < w.heap.size) : BadAt w W5 R s e la :=
  ⟨⟨q, hr3.keep HK5 (fun h => by unfold One at h; omega)⟩, val_keep hk3 HK5⟩
theorem val_j {j : J} {cs : List Value} (hj : isJ (New (w.alloc o) w3) w3 j cs) (HK5 : Keep (One w.heap.size) w3 W5) : isJ (New w W5) W5 j cs := by
  have hs := HK5.size
  refine hj.carry fun k hk => ?_
  have h1 := hk.1
  have h2 := hk.2
  simp at h1
  exact ⟨⟨by omega, by omega⟩, HK5.block k h2 (by unfold One; omega)⟩
end
set_option maxRecDepth 100000 in
set_option maxHeartbeats 8000000 in
theorem reads_zero : Reads 0 := by
  intro w R p s e l deep hr hs hp hdeep
  have h13 : deep = 13 := by omega
  clear hdeep
  subst h13
  have hsz := hs
  unfold short at hsz
  have hR := hr.lt
  have hra : Rdr (w.alloc zJ) R s p e l := hr.keep (S := fun _ => False) ((Keep.refl _ _).alloc _) (fun h => h)
  have c1 := hra.c1
  have pk := peek_any hra
  have bg := begins_any (byteAt (ints s) p) (w.alloc zJ)
  cases hb : begins (byteAt (ints s) p) with
  | true =>
    have HX : Hid (value (ints s) 0 p = .bad 12 p) := by unfold value; rw [if_pos hb]; rfl
    rw [hb] at bg
    unfold zJ at c1 pk bg
    go_enter Tryz.func47, Tryz.ntmps47
    go_wp2_with (first
      | (go_at_call 58; refine pk.mono ?_; rintro x w' ⟨rfl, rfl⟩)
      | (go_at_call 59; refine bg.mono ?_; rintro x w' ⟨rfl, rfl⟩)
      | (go_at_call 48; refine (fail_any hra 12 (p : Int)).mono ?_; rintro x w3 ⟨rfl, hr3, hk3⟩
         have hres := json_keep hk3 hR
         have i0 := five_c0 hres; have i1 := five_c1 hres; have i2 := five_c2 hres; have i3 := five_c3 hres; have i4 := five_c4 hres
         have z0 := five_fz hres 0; have z1 := five_fz hres 1; have z2 := five_fz hres 2; have z3 := five_fz hres 3; have z4 := five_fz hres 4))
    have h5 := set5_heap hres (.int .i64 0) (.int .i64 0) (.string ⟨#[]⟩) (.slice none 0 0) (.slice none 0 0)
    have HK5 : Keep (One w.heap.size) w3 _ := set5_keep w3 w.heap.size (.int .i64 0) (.int .i64 0) (.string ⟨#[]⟩) (.slice none 0 0) (.slice none 0 0)
    unfold set5 at h5 HK5
    have k0 := five_c0 h5; have k1 := five_c1 h5; have k2 := five_c2 h5; have k3 := five_c3 h5; have k4 := five_c4 h5
    refine bodyPost_ret (v := .tuple #[.agg #[.int .i64 0, .int .i64 0, .string ⟨#[]⟩, .slice none 0 0, .slice none 0 0], .bool false]) (by simp [results, Tryz.results47, go_sem, k0, k1, k2, k3, k4]) rfl ?_
    rw [HX.out]
    exact ⟨⟨0, 0, nix, rfl⟩, val_bad hk3 hr3 HK5 hR⟩
  | false =>
    have HX : Hid (value (ints s) 0 p = .bad 11 p) := by unfold value; rw [if_neg (by simp [hb])]; rfl
    rw [hb] at bg
    unfold zJ at c1 pk bg
    go_enter Tryz.func47, Tryz.ntmps47
    go_wp2_with (first
      | (go_at_call 58; refine pk.mono ?_; rintro x w' ⟨rfl, rfl⟩)
      | (go_at_call 59; refine bg.mono ?_; rintro x w' ⟨rfl, rfl⟩)
      | (go_at_call 48; refine (fail_any hra 11 (p : Int)).mono ?_; rintro x w3 ⟨rfl, hr3, hk3⟩
         have hres := json_keep hk3 hR
         have i0 := five_c0 hres; have i1 := five_c1 hres; have i2 := five_c2 hres; have i3 := five_c3 hres; have i4 := five_c4 hres
         have z0 := five_fz hres 0; have z1 := five_fz hres 1; have z2 := five_fz hres 2; have z3 := five_fz hres 3; have z4 := five_fz hres 4))
    have h5 := set5_heap hres (.int .i64 0) (.int .i64 0) (.string ⟨#[]⟩) (.slice none 0 0) (.slice none 0 0)
    have HK5 : Keep (One w.heap.size) w3 _ := set5_keep w3 w.heap.size (.int .i64 0) (.int .i64 0) (.string ⟨#[]⟩) (.slice none 0 0) (.slice none 0 0)
    unfold set5 at h5 HK5
    have k0 := five_c0 h5; have k1 := five_c1 h5; have k2 := five_c2 h5; have k3 := five_c3 h5; have k4 := five_c4 h5
    refine bodyPost_ret (v := .tuple #[.agg #[.int .i64 0, .int .i64 0, .string ⟨#[]⟩, .slice none 0 0, .slice none 0 0], .bool false]) (by simp [results, Tryz.results47, go_sem, k0, k1, k2, k3, k4]) rfl ?_
    rw [HX.out]
    exact ⟨⟨0, 0, nix, rfl⟩, val_bad hk3 hr3 HK5 hR⟩
set_option maxRecDepth 100000 in
set_option maxHeartbeats 32000000 in
theorem reads_succ {d : Nat} (V : Reads d) (hd : d + 1 ≤ 12) : Reads (d + 1) := by
  intro w R p s e l deep hr hs hp hdeep
  have hd0 : 0 ≤ deep := by omega
  have hd1 : deep ≤ 12 := by omega
  have HD : Hid (deep = 12 - (d : Int)) := by show deep = _; omega
  clear hdeep
  have hsz := hs
  unfold short at hsz
  have hR := hr.lt
  have hra : Rdr (w.alloc zJ) R s p e l := hr.keep (S := fun _ => False) ((Keep.refl _ _).alloc _) (fun h => h)
  have c1 := hra.c1
  have pk := peek_any hra
  have bg := begins_any (byteAt (ints s) p) (w.alloc zJ)
  cases hb : begins (byteAt (ints s) p) with
  | false =>
    have HX : Hid (value (ints s) (d + 1) p = .bad 11 p) := by unfold value; rw [if_neg (by simp [hb])]; rfl
    rw [hb] at bg
    unfold zJ at c1 pk bg
    go_enter Tryz.func47, Tryz.ntmps47
    go_wp2_with (first
      | (go_at_call 58; refine pk.mono ?_; rintro x w' ⟨rfl, rfl⟩)
      | (go_at_call 59; refine bg.mono ?_; rintro x w' ⟨rfl, rfl⟩)
      | (go_at_call 48; refine (fail_any hra 11 (p : Int)).mono ?_; rintro x w3 ⟨rfl, hr3, hk3⟩
         have hres := json_keep hk3 hR
         have i0 := five_c0 hres; have i1 := five_c1 hres; have i2 := five_c2 hres; have i3 := five_c3 hres; have i4 := five_c4 hres
         have z0 := five_fz hres 0; have z1 := five_fz hres 1; have z2 := five_fz hres 2; have z3 := five_fz hres 3; have z4 := five_fz hres 4))
    have h5 := set5_heap hres (.int .i64 0) (.int .i64 0) (.string ⟨#[]⟩) (.slice none 0 0) (.slice none 0 0)
    have HK5 : Keep (One w.heap.size) w3 _ := set5_keep w3 w.heap.size (.int .i64 0) (.int .i64 0) (.string ⟨#[]⟩) (.slice none 0 0) (.slice none 0 0)
    unfold set5 at h5 HK5
    have k0 := five_c0 h5; have k1 := five_c1 h5; have k2 := five_c2 h5; have k3 := five_c3 h5; have k4 := five_c4 h5
    refine bodyPost_ret (v := .tuple #[.agg #[.int .i64 0, .int .i64 0, .string ⟨#[]⟩, .slice none 0 0, .slice none 0 0], .bool false]) (by simp [results, Tryz.results47, go_sem, k0, k1, k2, k3, k4]) rfl ?_
    rw [HX.out]
    exact ⟨⟨0, 0, nix, rfl⟩, val_bad hk3 hr3 HK5 hR⟩
  | true =>
    rw [hb] at bg
    have hlt : p < s.size := by
      have := byteAt_lt (t := ints s) (p := p) (by intro h; rw [h] at hb; exact absurd hb (by decide))
      rw [ints_length] at this; exact this
    by_cases n110 : byteAt (ints s) p = 110
    · skip
      rw [n110] at pk bg
      have ct : Calls Tryz.prog 60 #[.pointer (some ⟨R, 0, none⟩), .string ⟨#[110, 117, 108, 108]⟩] (w.alloc zJ) fun x w' => boolTold (w.alloc zJ) w' R s (word (ints s) [110, 117, 108, 108] p) x := word_any hra (by omega) ⟨#[110, 117, 108, 108]⟩ (by decide)
      cases hv : word (ints s) [110, 117, 108, 108] p with
      | bad er la =>
        have HX : Hid (value (ints s) (d + 1) p = .bad er la) := by unfold value; rw [if_pos hb, if_pos n110, hv]; rfl
        rw [hv] at ct
        unfold zJ at c1 pk bg ct
        go_enter Tryz.func47, Tryz.ntmps47
        go_wp2_with (first
          | (go_at_call 58; refine pk.mono ?_; rintro x w' ⟨rfl, rfl⟩)
          | (go_at_call 59; refine bg.mono ?_; rintro x w' ⟨rfl, rfl⟩)
          | (go_at_call 60; refine ct.mono ?_; rintro x w3 ⟨rfl, ⟨⟨q3, hr3⟩, hk3⟩⟩
             have hres := json_keep hk3 hR
             have i0 := five_c0 hres; have i1 := five_c1 hres; have i2 := five_c2 hres; have i3 := five_c3 hres; have i4 := five_c4 hres
             have z0 := five_fz hres 0; have z1 := five_fz hres 1; have z2 := five_fz hres 2; have z3 := five_fz hres 3; have z4 := five_fz hres 4))
        have h5 := set5_heap hres (.int .i64 0) (.int .i64 0) (.string ⟨#[]⟩) (.slice none 0 0) (.slice none 0 0)
        have HK5 : Keep (One w.heap.size) w3 _ := set5_keep w3 w.heap.size (.int .i64 0) (.int .i64 0) (.string ⟨#[]⟩) (.slice none 0 0) (.slice none 0 0)
        unfold set5 at h5 HK5
        have k0 := five_c0 h5; have k1 := five_c1 h5; have k2 := five_c2 h5; have k3 := five_c3 h5; have k4 := five_c4 h5
        refine bodyPost_ret (v := .tuple #[.agg #[.int .i64 0, .int .i64 0, .string ⟨#[]⟩, .slice none 0 0, .slice none 0 0], .bool false]) (by simp [results, Tryz.results47, go_sem, k0, k1, k2, k3, k4]) rfl ?_
        rw [HX.out]
        exact ⟨⟨0, 0, nix, rfl⟩, val_bad hk3 hr3 HK5 hR⟩
      | ok u qv =>
        have HX : Hid (value (ints s) (d + 1) p = .ok (.mk 0 0 nix [] []) qv) := by unfold value; rw [if_pos hb, if_pos n110, hv]; rfl
        rw [hv] at ct
        unfold zJ at c1 pk bg ct
        go_enter Tryz.func47, Tryz.ntmps47
        go_wp2_with (first
          | (go_at_call 58; refine pk.mono ?_; rintro x w' ⟨rfl, rfl⟩)
          | (go_at_call 59; refine bg.mono ?_; rintro x w' ⟨rfl, rfl⟩)
          | (go_at_call 60; refine ct.mono ?_; rintro x w3 ⟨rfl, ⟨⟨e3, l3, hr3⟩, hk3⟩⟩
             have hres := json_keep hk3 hR
             have i0 := five_c0 hres; have i1 := five_c1 hres; have i2 := five_c2 hres; have i3 := five_c3 hres; have i4 := five_c4 hres
             have z0 := five_fz hres 0; have z1 := five_fz hres 1; have z2 := five_fz hres 2; have z3 := five_fz hres 3; have z4 := five_fz hres 4))
        have h5 := set5_heap hres (.int .i64 0) (.int .i64 0) (.string ⟨#[]⟩) (.slice none 0 0) (.slice none 0 0)
        have HK5 : Keep (One w.heap.size) w3 _ := set5_keep w3 w.heap.size (.int .i64 0) (.int .i64 0) (.string ⟨#[]⟩) (.slice none 0 0) (.slice none 0 0)
        unfold set5 at h5 HK5
        have k0 := five_c0 h5; have k1 := five_c1 h5; have k2 := five_c2 h5; have k3 := five_c3 h5; have k4 := five_c4 h5
        refine bodyPost_ret (v := .tuple #[.agg #[.int .i64 0, .int .i64 0, .string ⟨#[]⟩, .slice none 0 0, .slice none 0 0], .bool true]) (by simp [results, Tryz.results47, go_sem, k0, k1, k2, k3, k4]) rfl ?_
        rw [HX.out]
        exact ⟨⟨_, _, _, _, _, _, _, _, _, rfl, flat_isJ _ _ 0 0 nix⟩, val_ok hk3 hr3 HK5 hR⟩
    by_cases n116 : byteAt (ints s) p = 116
    · skip
      rw [n116] at pk bg
      have ct : Calls Tryz.prog 60 #[.pointer (some ⟨R, 0, none⟩), .string ⟨#[116, 114, 117, 101]⟩] (w.alloc zJ) fun x w' => boolTold (w.alloc zJ) w' R s (word (ints s) [116, 114, 117, 101] p) x := word_any hra (by omega) ⟨#[116, 114, 117, 101]⟩ (by decide)
      cases hv : word (ints s) [116, 114, 117, 101] p with
      | bad er la =>
        have HX : Hid (value (ints s) (d + 1) p = .bad er la) := by unfold value; rw [if_pos hb, if_neg n110, if_pos n116, hv]; rfl
        rw [hv] at ct
        unfold zJ at c1 pk bg ct
        go_enter Tryz.func47, Tryz.ntmps47
        go_wp2_with (first
          | (go_at_call 58; refine pk.mono ?_; rintro x w' ⟨rfl, rfl⟩)
          | (go_at_call 59; refine bg.mono ?_; rintro x w' ⟨rfl, rfl⟩)
          | (go_at_call 60; refine ct.mono ?_; rintro x w3 ⟨rfl, ⟨⟨q3, hr3⟩, hk3⟩⟩
             have hres := json_keep hk3 hR
             have i0 := five_c0 hres; have i1 := five_c1 hres; have i2 := five_c2 hres; have i3 := five_c3 hres; have i4 := five_c4 hres
             have z0 := five_fz hres 0; have z1 := five_fz hres 1; have z2 := five_fz hres 2; have z3 := five_fz hres 3; have z4 := five_fz hres 4))
        have h5 := set5_heap hres (.int .i64 1) (.int .i64 1) (.string ⟨#[]⟩) (.slice none 0 0) (.slice none 0 0)
        have HK5 : Keep (One w.heap.size) w3 _ := set5_keep w3 w.heap.size (.int .i64 1) (.int .i64 1) (.string ⟨#[]⟩) (.slice none 0 0) (.slice none 0 0)
        unfold set5 at h5 HK5
        have k0 := five_c0 h5; have k1 := five_c1 h5; have k2 := five_c2 h5; have k3 := five_c3 h5; have k4 := five_c4 h5
        refine bodyPost_ret (v := .tuple #[.agg #[.int .i64 1, .int .i64 1, .string ⟨#[]⟩, .slice none 0 0, .slice none 0 0], .bool false]) (by simp [results, Tryz.results47, go_sem, k0, k1, k2, k3, k4]) rfl ?_
        rw [HX.out]
        exact ⟨⟨1, 1, nix, rfl⟩, val_bad hk3 hr3 HK5 hR⟩
      | ok u qv =>
        have HX : Hid (value (ints s) (d + 1) p = .ok (.mk 1 1 nix [] []) qv) := by unfold value; rw [if_pos hb, if_neg n110, if_pos n116, hv]; rfl
        rw [hv] at ct
        unfold zJ at c1 pk bg ct
        go_enter Tryz.func47, Tryz.ntmps47
        go_wp2_with (first
          | (go_at_call 58; refine pk.mono ?_; rintro x w' ⟨rfl, rfl⟩)
          | (go_at_call 59; refine bg.mono ?_; rintro x w' ⟨rfl, rfl⟩)
          | (go_at_call 60; refine ct.mono ?_; rintro x w3 ⟨rfl, ⟨⟨e3, l3, hr3⟩, hk3⟩⟩
             have hres := json_keep hk3 hR
             have i0 := five_c0 hres; have i1 := five_c1 hres; have i2 := five_c2 hres; have i3 := five_c3 hres; have i4 := five_c4 hres
             have z0 := five_fz hres 0; have z1 := five_fz hres 1; have z2 := five_fz hres 2; have z3 := five_fz hres 3; have z4 := five_fz hres 4))
        have h5 := set5_heap hres (.int .i64 1) (.int .i64 1) (.string ⟨#[]⟩) (.slice none 0 0) (.slice none 0 0)
        have HK5 : Keep (One w.heap.size) w3 _ := set5_keep w3 w.heap.size (.int .i64 1) (.int .i64 1) (.string ⟨#[]⟩) (.slice none 0 0) (.slice none 0 0)
        unfold set5 at h5 HK5
        have k0 := five_c0 h5; have k1 := five_c1 h5; have k2 := five_c2 h5; have k3 := five_c3 h5; have k4 := five_c4 h5
        refine bodyPost_ret (v := .tuple #[.agg #[.int .i64 1, .int .i64 1, .string ⟨#[]⟩, .slice none 0 0, .slice none 0 0], .bool true]) (by simp [results, Tryz.results47, go_sem, k0, k1, k2, k3, k4]) rfl ?_
        rw [HX.out]
        exact ⟨⟨_, _, _, _, _, _, _, _, _, rfl, flat_isJ _ _ 1 1 nix⟩, val_ok hk3 hr3 HK5 hR⟩
    by_cases n102 : byteAt (ints s) p = 102
    · skip
      rw [n102] at pk bg
      have ct : Calls Tryz.prog 60 #[.pointer (some ⟨R, 0, none⟩), .string ⟨#[102, 97, 108, 115, 101]⟩] (w.alloc zJ) fun x w' => boolTold (w.alloc zJ) w' R s (word (ints s) [102, 97, 108, 115, 101] p) x := word_any hra (by omega) ⟨#[102, 97, 108, 115, 101]⟩ (by decide)
      cases hv : word (ints s) [102, 97, 108, 115, 101] p with
      | bad er la =>
        have HX : Hid (value (ints s) (d + 1) p = .bad er la) := by unfold value; rw [if_pos hb, if_neg n110, if_neg n116, if_pos n102, hv]; rfl
        rw [hv] at ct
        unfold zJ at c1 pk bg ct
        go_enter Tryz.func47, Tryz.ntmps47
        go_wp2_with (first
          | (go_at_call 58; refine pk.mono ?_; rintro x w' ⟨rfl, rfl⟩)
          | (go_at_call 59; refine bg.mono ?_; rintro x w' ⟨rfl, rfl⟩)
          | (go_at_call 60; refine ct.mono ?_; rintro x w3 ⟨rfl, ⟨⟨q3, hr3⟩, hk3⟩⟩
             have hres := json_keep hk3 hR
             have i0 := five_c0 hres; have i1 := five_c1 hres; have i2 := five_c2 hres; have i3 := five_c3 hres; have i4 := five_c4 hres
             have z0 := five_fz hres 0; have z1 := five_fz hres 1; have z2 := five_fz hres 2; have z3 := five_fz hres 3; have z4 := five_fz hres 4))
        have h5 := set5_heap hres (.int .i64 1) (.int .i64 0) (.string ⟨#[]⟩) (.slice none 0 0) (.slice none 0 0)
        have HK5 : Keep (One w.heap.size) w3 _ := set5_keep w3 w.heap.size (.int .i64 1) (.int .i64 0) (.string ⟨#[]⟩) (.slice none 0 0) (.slice none 0 0)
        unfold set5 at h5 HK5
        have k0 := five_c0 h5; have k1 := five_c1 h5; have k2 := five_c2 h5; have k3 := five_c3 h5; have k4 := five_c4 h5
        refine bodyPost_ret (v := .tuple #[.agg #[.int .i64 1, .int .i64 0, .string ⟨#[]⟩, .slice none 0 0, .slice none 0 0], .bool false]) (by simp [results, Tryz.results47, go_sem, k0, k1, k2, k3, k4]) rfl ?_
        rw [HX.out]
        exact ⟨⟨1, 0, nix, rfl⟩, val_bad hk3 hr3 HK5 hR⟩
      | ok u qv =>
        have HX : Hid (value (ints s) (d + 1) p = .ok (.mk 1 0 nix [] []) qv) := by unfold value; rw [if_pos hb, if_neg n110, if_neg n116, if_pos n102, hv]; rfl
        rw [hv] at ct
        unfold zJ at c1 pk bg ct
        go_enter Tryz.func47, Tryz.ntmps47
        go_wp2_with (first
          | (go_at_call 58; refine pk.mono ?_; rintro x w' ⟨rfl, rfl⟩)
          | (go_at_call 59; refine bg.mono ?_; rintro x w' ⟨rfl, rfl⟩)
          | (go_at_call 60; refine ct.mono ?_; rintro x w3 ⟨rfl, ⟨⟨e3, l3, hr3⟩, hk3⟩⟩
             have hres := json_keep hk3 hR
             have i0 := five_c0 hres; have i1 := five_c1 hres; have i2 := five_c2 hres; have i3 := five_c3 hres; have i4 := five_c4 hres
             have z0 := five_fz hres 0; have z1 := five_fz hres 1; have z2 := five_fz hres 2; have z3 := five_fz hres 3; have z4 := five_fz hres 4))
        have h5 := set5_heap hres (.int .i64 1) (.int .i64 0) (.string ⟨#[]⟩) (.slice none 0 0) (.slice none 0 0)
        have HK5 : Keep (One w.heap.size) w3 _ := set5_keep w3 w.heap.size (.int .i64 1) (.int .i64 0) (.string ⟨#[]⟩) (.slice none 0 0) (.slice none 0 0)
        unfold set5 at h5 HK5
        have k0 := five_c0 h5; have k1 := five_c1 h5; have k2 := five_c2 h5; have k3 := five_c3 h5; have k4 := five_c4 h5
        refine bodyPost_ret (v := .tuple #[.agg #[.int .i64 1, .int .i64 0, .string ⟨#[]⟩, .slice none 0 0, .slice none 0 0], .bool true]) (by simp [results, Tryz.results47, go_sem, k0, k1, k2, k3, k4]) rfl ?_
        rw [HX.out]
        exact ⟨⟨_, _, _, _, _, _, _, _, _, rfl, flat_isJ _ _ 1 0 nix⟩, val_ok hk3 hr3 HK5 hR⟩
    by_cases n34 : byteAt (ints s) p = 34
    · skip
      rw [n34] at pk bg
      have ct := quoted_any hra hs hlt
      cases hv : quoted (ints s) p with
      | bad er la =>
        have HX : Hid (value (ints s) (d + 1) p = .bad er la) := by unfold value; rw [if_pos hb, if_neg n110, if_neg n116, if_neg n102, if_pos n34, hv]; rfl
        rw [hv] at ct
        unfold zJ at c1 pk bg ct
        go_enter Tryz.func47, Tryz.ntmps47
        go_wp2_with (first
          | (go_at_call 58; refine pk.mono ?_; rintro x w' ⟨rfl, rfl⟩)
          | (go_at_call 59; refine bg.mono ?_; rintro x w' ⟨rfl, rfl⟩)
          | (go_at_call 61; refine ct.mono ?_; rintro x w3 ⟨rfl, ⟨⟨q3, hr3⟩, hk3⟩⟩
             unfold nix
             have hres := json_keep hk3 hR
             have i0 := five_c0 hres; have i1 := five_c1 hres; have i2 := five_c2 hres; have i3 := five_c3 hres; have i4 := five_c4 hres
             have z0 := five_fz hres 0; have z1 := five_fz hres 1; have z2 := five_fz hres 2; have z3 := five_fz hres 3; have z4 := five_fz hres 4))
        have h5 := set5_heap hres (.int .i64 3) (.int .i64 0) (.string ⟨#[]⟩) (.slice none 0 0) (.slice none 0 0)
        have HK5 : Keep (One w.heap.size) w3 _ := set5_keep w3 w.heap.size (.int .i64 3) (.int .i64 0) (.string ⟨#[]⟩) (.slice none 0 0) (.slice none 0 0)
        unfold set5 at h5 HK5
        have k0 := five_c0 h5; have k1 := five_c1 h5; have k2 := five_c2 h5; have k3 := five_c3 h5; have k4 := five_c4 h5
        refine bodyPost_ret (v := .tuple #[.agg #[.int .i64 3, .int .i64 0, .string ⟨#[]⟩, .slice none 0 0, .slice none 0 0], .bool false]) (by simp [results, Tryz.results47, go_sem, k0, k1, k2, k3, k4]) rfl ?_
        rw [HX.out]
        exact ⟨⟨3, 0, nix, rfl⟩, val_bad hk3 hr3 HK5 hR⟩
      | ok cq qv =>
        have HX : Hid (value (ints s) (d + 1) p = .ok (.mk 3 0 (strOfNums cq) [] []) qv) := by unfold value; rw [if_pos hb, if_neg n110, if_neg n116, if_neg n102, if_pos n34, hv]; rfl
        rw [hv] at ct
        unfold zJ at c1 pk bg ct
        go_enter Tryz.func47, Tryz.ntmps47
        go_wp2_with (first
          | (go_at_call 58; refine pk.mono ?_; rintro x w' ⟨rfl, rfl⟩)
          | (go_at_call 59; refine bg.mono ?_; rintro x w' ⟨rfl, rfl⟩)
          | (go_at_call 61; refine ct.mono ?_; rintro x w3 ⟨rfl, ⟨⟨e3, l3, hr3⟩, hk3⟩⟩
             have hres := json_keep hk3 hR
             have i0 := five_c0 hres; have i1 := five_c1 hres; have i2 := five_c2 hres; have i3 := five_c3 hres; have i4 := five_c4 hres
             have z0 := five_fz hres 0; have z1 := five_fz hres 1; have z2 := five_fz hres 2; have z3 := five_fz hres 3; have z4 := five_fz hres 4))
        have h5 := set5_heap hres (.int .i64 3) (.int .i64 0) (.string (strOfNums cq)) (.slice none 0 0) (.slice none 0 0)
        have HK5 : Keep (One w.heap.size) w3 _ := set5_keep w3 w.heap.size (.int .i64 3) (.int .i64 0) (.string (strOfNums cq)) (.slice none 0 0) (.slice none 0 0)
        unfold set5 at h5 HK5
        have k0 := five_c0 h5; have k1 := five_c1 h5; have k2 := five_c2 h5; have k3 := five_c3 h5; have k4 := five_c4 h5
        refine bodyPost_ret (v := .tuple #[.agg #[.int .i64 3, .int .i64 0, .string (strOfNums cq), .slice none 0 0, .slice none 0 0], .bool true]) (by simp [results, Tryz.results47, go_sem, k0, k1, k2, k3, k4]) rfl ?_
        rw [HX.out]
        exact ⟨⟨_, _, _, _, _, _, _, _, _, rfl, flat_isJ _ _ 3 0 (strOfNums cq)⟩, val_ok hk3 hr3 HK5 hR⟩
    by_cases n91 : byteAt (ints s) p = 91
    · skip
      rw [n91] at pk bg
      have ct := list_any V hra hs hlt HD.out (by omega)
      cases hv : listAt (ints s) (value (ints s) d) p with
      | bad er la =>
        have HX : Hid (value (ints s) (d + 1) p = .bad er la) := by unfold value; rw [if_pos hb, if_neg n110, if_neg n116, if_neg n102, if_neg n34, if_pos n91, hv]; rfl
        rw [hv] at ct
        unfold zJ at c1 pk bg ct
        go_enter Tryz.func47, Tryz.ntmps47
        go_wp2_with (first
          | (go_at_call 58; refine pk.mono ?_; rintro x w' ⟨rfl, rfl⟩)
          | (go_at_call 59; refine bg.mono ?_; rintro x w' ⟨rfl, rfl⟩)
          | (go_at_call 62; refine ct.mono ?_; rintro x w3 ⟨⟨kv, iv, tv, rfl⟩, ⟨q3, hr3⟩, hk3⟩
             unfold flat
             have hres := json_keep hk3 hR
             have i0 := five_c0 hres; have i1 := five_c1 hres; have i2 := five_c2 hres; have i3 := five_c3 hres; have i4 := five_c4 hres
             have z0 := five_fz hres 0; have z1 := five_fz hres 1; have z2 := five_fz hres 2; have z3 := five_fz hres 3; have z4 := five_fz hres 4))
        have h5 := set5_heap hres (.int .i64 kv) (.int .i64 iv) (.string tv) (.slice none 0 0) (.slice none 0 0)
        have HK5 : Keep (One w.heap.size) w3 _ := set5_keep w3 w.heap.size (.int .i64 kv) (.int .i64 iv) (.string tv) (.slice none 0 0) (.slice none 0 0)
        unfold set5 at h5 HK5
        have k0 := five_c0 h5; have k1 := five_c1 h5; have k2 := five_c2 h5; have k3 := five_c3 h5; have k4 := five_c4 h5
        refine bodyPost_ret (v := .tuple #[.agg #[.int .i64 kv, .int .i64 iv, .string tv, .slice none 0 0, .slice none 0 0], .bool false]) (by simp [results, Tryz.results47, go_sem, k0, k1, k2, k3, k4]) rfl ?_
        rw [HX.out]
        exact ⟨⟨kv, iv, tv, rfl⟩, val_bad hk3 hr3 HK5 hR⟩
      | ok jv qv =>
        have HX : Hid (value (ints s) (d + 1) p = .ok jv qv) := by unfold value; rw [if_pos hb, if_neg n110, if_neg n116, if_neg n102, if_neg n34, if_pos n91, hv]; rfl
        rw [hv] at ct
        unfold zJ at c1 pk bg ct
        go_enter Tryz.func47, Tryz.ntmps47
        go_wp2_with (first
          | (go_at_call 58; refine pk.mono ?_; rintro x w' ⟨rfl, rfl⟩)
          | (go_at_call 59; refine bg.mono ?_; rintro x w' ⟨rfl, rfl⟩)
          | (go_at_call 62; refine ct.mono ?_; rintro x w3 ⟨⟨kv, iv, tv, pk2, nk, ck, pl, nl, cl, rfl, hj⟩, ⟨e3, l3, hr3⟩, hk3⟩
             have hres := json_keep hk3 hR
             have i0 := five_c0 hres; have i1 := five_c1 hres; have i2 := five_c2 hres; have i3 := five_c3 hres; have i4 := five_c4 hres
             have z0 := five_fz hres 0; have z1 := five_fz hres 1; have z2 := five_fz hres 2; have z3 := five_fz hres 3; have z4 := five_fz hres 4))
        have h5 := set5_heap hres (.int .i64 kv) (.int .i64 iv) (.string tv) (.slice pk2 nk ck) (.slice pl nl cl)
        have HK5 : Keep (One w.heap.size) w3 _ := set5_keep w3 w.heap.size (.int .i64 kv) (.int .i64 iv) (.string tv) (.slice pk2 nk ck) (.slice pl nl cl)
        unfold set5 at h5 HK5
        have k0 := five_c0 h5; have k1 := five_c1 h5; have k2 := five_c2 h5; have k3 := five_c3 h5; have k4 := five_c4 h5
        refine bodyPost_ret (v := .tuple #[.agg #[.int .i64 kv, .int .i64 iv, .string tv, .slice pk2 nk ck, .slice pl nl cl], .bool true]) (by simp [results, Tryz.results47, go_sem, k0, k1, k2, k3, k4]) rfl ?_
        rw [HX.out]
        exact ⟨⟨_, _, _, _, _, _, _, _, _, rfl, val_j hj HK5⟩, val_ok hk3 hr3 HK5 hR⟩
    by_cases n123 : byteAt (ints s) p = 123
    · skip
      rw [n123] at pk bg
      have ct := pairs_any V hra hs hlt HD.out (by omega)
      cases hv : pairsAt (ints s) (value (ints s) d) p with
      | bad er la =>
        have HX : Hid (value (ints s) (d + 1) p = .bad er la) := by unfold value; rw [if_pos hb, if_neg n110, if_neg n116, if_neg n102, if_neg n34, if_neg n91, if_pos n123, hv]; rfl
        rw [hv] at ct
        unfold zJ at c1 pk bg ct
        go_enter Tryz.func47, Tryz.ntmps47
        go_wp2_with (first
          | (go_at_call 58; refine pk.mono ?_; rintro x w' ⟨rfl, rfl⟩)
          | (go_at_call 59; refine bg.mono ?_; rintro x w' ⟨rfl, rfl⟩)
          | (go_at_call 63; refine ct.mono ?_; rintro x w3 ⟨⟨kv, iv, tv, rfl⟩, ⟨q3, hr3⟩, hk3⟩
             unfold flat
             have hres := json_keep hk3 hR
             have i0 := five_c0 hres; have i1 := five_c1 hres; have i2 := five_c2 hres; have i3 := five_c3 hres; have i4 := five_c4 hres
             have z0 := five_fz hres 0; have z1 := five_fz hres 1; have z2 := five_fz hres 2; have z3 := five_fz hres 3; have z4 := five_fz hres 4))
        have h5 := set5_heap hres (.int .i64 kv) (.int .i64 iv) (.string tv) (.slice none 0 0) (.slice none 0 0)
        have HK5 : Keep (One w.heap.size) w3 _ := set5_keep w3 w.heap.size (.int .i64 kv) (.int .i64 iv) (.string tv) (.slice none 0 0) (.slice none 0 0)
        unfold set5 at h5 HK5
        have k0 := five_c0 h5; have k1 := five_c1 h5; have k2 := five_c2 h5; have k3 := five_c3 h5; have k4 := five_c4 h5
        refine bodyPost_ret (v := .tuple #[.agg #[.int .i64 kv, .int .i64 iv, .string tv, .slice none 0 0, .slice none 0 0], .bool false]) (by simp [results, Tryz.results47, go_sem, k0, k1, k2, k3, k4]) rfl ?_
        rw [HX.out]
        exact ⟨⟨kv, iv, tv, rfl⟩, val_bad hk3 hr3 HK5 hR⟩
      | ok jv qv =>
        have HX : Hid (value (ints s) (d + 1) p = .ok jv qv) := by unfold value; rw [if_pos hb, if_neg n110, if_neg n116, if_neg n102, if_neg n34, if_neg n91, if_pos n123, hv]; rfl
        rw [hv] at ct
        unfold zJ at c1 pk bg ct
        go_enter Tryz.func47, Tryz.ntmps47
        go_wp2_with (first
          | (go_at_call 58; refine pk.mono ?_; rintro x w' ⟨rfl, rfl⟩)
          | (go_at_call 59; refine bg.mono ?_; rintro x w' ⟨rfl, rfl⟩)
          | (go_at_call 63; refine ct.mono ?_; rintro x w3 ⟨⟨kv, iv, tv, pk2, nk, ck, pl, nl, cl, rfl, hj⟩, ⟨e3, l3, hr3⟩, hk3⟩
             have hres := json_keep hk3 hR
             have i0 := five_c0 hres; have i1 := five_c1 hres; have i2 := five_c2 hres; have i3 := five_c3 hres; have i4 := five_c4 hres
             have z0 := five_fz hres 0; have z1 := five_fz hres 1; have z2 := five_fz hres 2; have z3 := five_fz hres 3; have z4 := five_fz hres 4))
        have h5 := set5_heap hres (.int .i64 kv) (.int .i64 iv) (.string tv) (.slice pk2 nk ck) (.slice pl nl cl)
        have HK5 : Keep (One w.heap.size) w3 _ := set5_keep w3 w.heap.size (.int .i64 kv) (.int .i64 iv) (.string tv) (.slice pk2 nk ck) (.slice pl nl cl)
        unfold set5 at h5 HK5
        have k0 := five_c0 h5; have k1 := five_c1 h5; have k2 := five_c2 h5; have k3 := five_c3 h5; have k4 := five_c4 h5
        refine bodyPost_ret (v := .tuple #[.agg #[.int .i64 kv, .int .i64 iv, .string tv, .slice pk2 nk ck, .slice pl nl cl], .bool true]) (by simp [results, Tryz.results47, go_sem, k0, k1, k2, k3, k4]) rfl ?_
        rw [HX.out]
        exact ⟨⟨_, _, _, _, _, _, _, _, _, rfl, val_j hj HK5⟩, val_ok hk3 hr3 HK5 hR⟩
    have ct := number_any hra hs hp
    cases hv : number (ints s) p with
    | bad er la =>
      have HX : Hid (value (ints s) (d + 1) p = .bad er la) := by unfold value; rw [if_pos hb, if_neg n110, if_neg n116, if_neg n102, if_neg n34, if_neg n91, if_neg n123, hv]; rfl
      rw [hv] at ct
      unfold zJ at c1 pk bg ct
      go_enter Tryz.func47, Tryz.ntmps47
      go_wp2_with (first
        | (go_at_call 58; refine pk.mono ?_; rintro x w' ⟨rfl, rfl⟩)
        | (go_at_call 59; refine bg.mono ?_; rintro x w' ⟨rfl, rfl⟩)
        | (go_at_call 64; refine ct.mono ?_; rintro x w3 ⟨⟨kv, iv, tv, rfl⟩, ⟨q3, hr3⟩, hk3⟩
           unfold flat
           have hres := json_keep hk3 hR
           have i0 := five_c0 hres; have i1 := five_c1 hres; have i2 := five_c2 hres; have i3 := five_c3 hres; have i4 := five_c4 hres
           have z0 := five_fz hres 0; have z1 := five_fz hres 1; have z2 := five_fz hres 2; have z3 := five_fz hres 3; have z4 := five_fz hres 4))
      have h5 := set5_heap hres (.int .i64 kv) (.int .i64 iv) (.string tv) (.slice none 0 0) (.slice none 0 0)
      have HK5 : Keep (One w.heap.size) w3 _ := set5_keep w3 w.heap.size (.int .i64 kv) (.int .i64 iv) (.string tv) (.slice none 0 0) (.slice none 0 0)
      unfold set5 at h5 HK5
      have k0 := five_c0 h5; have k1 := five_c1 h5; have k2 := five_c2 h5; have k3 := five_c3 h5; have k4 := five_c4 h5
      refine bodyPost_ret (v := .tuple #[.agg #[.int .i64 kv, .int .i64 iv, .string tv, .slice none 0 0, .slice none 0 0], .bool false]) (by simp [results, Tryz.results47, go_sem, k0, k1, k2, k3, k4]) rfl ?_
      rw [HX.out]
      exact ⟨⟨kv, iv, tv, rfl⟩, val_bad hk3 hr3 HK5 hR⟩
    | ok jv qv =>
      have HX : Hid (value (ints s) (d + 1) p = .ok jv qv) := by unfold value; rw [if_pos hb, if_neg n110, if_neg n116, if_neg n102, if_neg n34, if_neg n91, if_neg n123, hv]; rfl
      rw [hv] at ct
      unfold zJ at c1 pk bg ct
      go_enter Tryz.func47, Tryz.ntmps47
      go_wp2_with (first
        | (go_at_call 58; refine pk.mono ?_; rintro x w' ⟨rfl, rfl⟩)
        | (go_at_call 59; refine bg.mono ?_; rintro x w' ⟨rfl, rfl⟩)
        | (go_at_call 64; refine ct.mono ?_; rintro x w3 ⟨⟨kv, iv, tv, pk2, nk, ck, pl, nl, cl, rfl, hj⟩, ⟨e3, l3, hr3⟩, hk3⟩
           have hres := json_keep hk3 hR
           have i0 := five_c0 hres; have i1 := five_c1 hres; have i2 := five_c2 hres; have i3 := five_c3 hres; have i4 := five_c4 hres
           have z0 := five_fz hres 0; have z1 := five_fz hres 1; have z2 := five_fz hres 2; have z3 := five_fz hres 3; have z4 := five_fz hres 4))
      have h5 := set5_heap hres (.int .i64 kv) (.int .i64 iv) (.string tv) (.slice pk2 nk ck) (.slice pl nl cl)
      have HK5 : Keep (One w.heap.size) w3 _ := set5_keep w3 w.heap.size (.int .i64 kv) (.int .i64 iv) (.string tv) (.slice pk2 nk ck) (.slice pl nl cl)
      unfold set5 at h5 HK5
      have k0 := five_c0 h5; have k1 := five_c1 h5; have k2 := five_c2 h5; have k3 := five_c3 h5; have k4 := five_c4 h5
      refine bodyPost_ret (v := .tuple #[.agg #[.int .i64 kv, .int .i64 iv, .string tv, .slice pk2 nk ck, .slice pl nl cl], .bool true]) (by simp [results, Tryz.results47, go_sem, k0, k1, k2, k3, k4]) rfl ?_
      rw [HX.out]
      exact ⟨⟨_, _, _, _, _, _, _, _, _, rfl, val_j hj HK5⟩, val_ok hk3 hr3 HK5 hR⟩
theorem reads : ∀ d, d ≤ 12 → Reads d
  | 0, _ => reads_zero
  | d + 1, h => reads_succ (reads d (by omega)) h
end Go.Proofs.YtnmhpejnjaeecaaGreatDoor
namespace Go.Proofs.YtnmhpejnjaeecaaGreatDoor
open Go.RowKit

theorem new_grow {w w2 w3 w5 : World} {R : Nat} {j : J} {cs : List Value} {o : Obj} (h2 : w.heap.size ≤ w2.heap.size) (hR : R < w2.heap.size) (hj : isJ (New w2 w3) w3 j cs) (hk5 : Keep (One R) (w3.alloc o) w5) : isJ (New w w5) w5 j cs := by
  have hs := hk5.size
  simp at hs
  refine hj.carry fun k hk => ?_
  have h1 := hk.1
  have h3 := hk.2
  exact ⟨⟨by omega, by omega⟩, by rw [hk5.block k (by simp; omega) (by unfold One; omega), Below.heap_alloc _ _ _ h3]⟩
set_option maxRecDepth 100000 in
set_option maxHeartbeats 8000000 in
theorem whole_any {w : World} {R : Nat} {s : ByteArray} {e l : Int} (hr : Rdr w R s 0 e l) (hs : short s) :
    Calls Tryz.prog 37 #[.pointer (some ⟨R, 0, none⟩)] w fun x w' => valTold w w' R s (whole (ints s)) x := by
  have hsz := hs
  unfold short at hsz
  have hR := hr.lt
  have hra : Rdr (w.alloc zJ) R s 0 e l := hr.keep (S := fun _ => False) ((Keep.refl _ _).alloc _) (fun h => h)
  have hb1 := blanks_le (t := ints s) (p := 0) (by simp)
  rw [ints_length] at hb1
  have hadv := value_adv (ints s) 12 (blanks (ints s) 0) (by rw [ints_length]; exact hb1)
  have hV := fun (wv : World) (e l : Int) (h : Rdr wv R s (blanks (ints s) 0) e l) => reads 12 (Nat.le_refl _) wv R (blanks (ints s) 0) s e l 1 h hs hb1 rfl
  unfold zJ at hra
  cases hv : value (ints s) 12 (blanks (ints s) 0) with
  | bad er la =>
    have HX : Hid (whole (ints s) = .bad er la) := by unfold whole; rw [hv]; rfl
    rw [hv] at hV
    go_enter Tryz.func37, Tryz.ntmps37
    go_wp2_with (first
      | (go_at_call 46; refine (blanks_any hra hs (Nat.zero_le _)).mono ?_; rintro x w2 ⟨rfl, ⟨⟨e2, l2, hr2⟩, hk2⟩⟩)
      | (go_at_call 47; refine (hV _ _ _ hr2).mono ?_; rintro x w3 ⟨⟨kv, iv, tv, rfl⟩, ⟨q3, hr3⟩, hk3⟩
         unfold flat
         have hr3a : Rdr (w3.alloc (.cells #[.int .i64 kv, .int .i64 iv, .string tv, .slice none 0 0, .slice none 0 0] 25)) R s q3 er la := hr3.keep (S := fun _ => False) ((Keep.refl _ _).alloc _) (fun h => h)
         have hk9 : Keep (One R) (w.alloc zJ) (w3.alloc (.cells #[.int .i64 kv, .int .i64 iv, .string tv, .slice none 0 0, .slice none 0 0] 25)) := (hk2.then hk3).alloc _
         have hres := json_keep hk9 hR
         have i0 := five_c0 hres; have i1 := five_c1 hres; have i2 := five_c2 hres; have i3 := five_c3 hres; have i4 := five_c4 hres
         have z0 := five_fz hres 0; have z1 := five_fz hres 1; have z2 := five_fz hres 2; have z3 := five_fz hres 3; have z4 := five_fz hres 4))
    have h5 := set5_heap hres (.int .i64 0) (.int .i64 0) (.string ⟨#[]⟩) (.slice none 0 0) (.slice none 0 0)
    have HK5 : Keep (One w.heap.size) (w3.alloc (.cells #[.int .i64 kv, .int .i64 iv, .string tv, .slice none 0 0, .slice none 0 0] 25)) _ := set5_keep (w3.alloc (.cells #[.int .i64 kv, .int .i64 iv, .string tv, .slice none 0 0, .slice none 0 0] 25)) w.heap.size (.int .i64 0) (.int .i64 0) (.string ⟨#[]⟩) (.slice none 0 0) (.slice none 0 0)
    unfold set5 at h5 HK5
    have k0 := five_c0 h5; have k1 := five_c1 h5; have k2 := five_c2 h5; have k3 := five_c3 h5; have k4 := five_c4 h5
    refine bodyPost_ret (v := .tuple #[.agg #[.int .i64 0, .int .i64 0, .string ⟨#[]⟩, .slice none 0 0, .slice none 0 0], .bool false]) (by simp [results, Tryz.results37, go_sem, k0, k1, k2, k3, k4]) rfl ?_
    rw [HX.out]
    exact ⟨⟨0, 0, nix, rfl⟩, val_bad hk9 hr3a HK5 hR⟩
  | ok jv qv =>
    rw [hv] at hV hadv
    have hqv : qv ≤ s.size := by have := hadv.2; rw [ints_length] at this; exact this
    clear hadv
    by_cases ht : blanks (ints s) qv < s.size
    · have HX : Hid (whole (ints s) = .bad 16 (blanks (ints s) qv)) := by unfold whole; rw [hv]; show (if _ then _ else _) = _; rw [ints_length, if_pos ht]
      go_enter Tryz.func37, Tryz.ntmps37
      go_wp2_with (first
        | (go_at_call 46; refine (blanks_any hr3a hs hqv).mono ?_; rintro x w5 ⟨rfl, ⟨⟨e5, l5, hr5⟩, hk5⟩⟩
           have c0 := hr5.c0; have c1 := hr5.c1)
        | (go_at_call 46; refine (blanks_any hra hs (Nat.zero_le _)).mono ?_; rintro x w2 ⟨rfl, ⟨⟨e2, l2, hr2⟩, hk2⟩⟩)
        | (go_at_call 47; refine (hV _ _ _ hr2).mono ?_; rintro x w3 ⟨⟨kv, iv, tv, pk, nk, ck, pl, nl, cl, rfl, hj⟩, ⟨e3, l3, hr3⟩, hk3⟩
           have hr3a : Rdr (w3.alloc (.cells #[.int .i64 kv, .int .i64 iv, .string tv, .slice pk nk ck, .slice pl nl cl] 25)) R s qv e3 l3 := hr3.keep (S := fun _ => False) ((Keep.refl _ _).alloc _) (fun h => h)))
      go_quiet (fail)
      have hr5d : Rdr (w5.drewN nq) R s (blanks (ints s) qv) e5 l5 := hr5
      go_wp2_with (first
        | (go_at_call 48; refine (fail_any hr5d 16 (blanks (ints s) qv : Nat)).mono ?_; rintro x w6 ⟨rfl, hr6, hk6⟩
           have hk9 : Keep (One R) (w.alloc zJ) w6 := (((hk2.then hk3).alloc (.cells #[.int .i64 kv, .int .i64 iv, .string tv, .slice pk nk ck, .slice pl nl cl] 25)).then (hk5.drewN nq)).then hk6
           have hres := json_keep hk9 hR
           have i0 := five_c0 hres; have i1 := five_c1 hres; have i2 := five_c2 hres; have i3 := five_c3 hres; have i4 := five_c4 hres
           have z0 := five_fz hres 0; have z1 := five_fz hres 1; have z2 := five_fz hres 2; have z3 := five_fz hres 3; have z4 := five_fz hres 4))
      have h5 := set5_heap hres (.int .i64 0) (.int .i64 0) (.string ⟨#[]⟩) (.slice none 0 0) (.slice none 0 0)
      have HK5 : Keep (One w.heap.size) w6 _ := set5_keep w6 w.heap.size (.int .i64 0) (.int .i64 0) (.string ⟨#[]⟩) (.slice none 0 0) (.slice none 0 0)
      unfold set5 at h5 HK5
      have k0 := five_c0 h5; have k1 := five_c1 h5; have k2 := five_c2 h5; have k3 := five_c3 h5; have k4 := five_c4 h5
      refine bodyPost_ret (v := .tuple #[.agg #[.int .i64 0, .int .i64 0, .string ⟨#[]⟩, .slice none 0 0, .slice none 0 0], .bool false]) (by simp [results, Tryz.results37, go_sem, k0, k1, k2, k3, k4]) rfl ?_
      rw [HX.out]
      exact ⟨⟨0, 0, nix, rfl⟩, val_bad hk9 hr6 HK5 hR⟩
    · have HX : Hid (whole (ints s) = .ok jv (blanks (ints s) qv)) := by unfold whole; rw [hv]; show (if _ then _ else _) = _; rw [ints_length, if_neg ht]
      go_enter Tryz.func37, Tryz.ntmps37
      go_wp2_with (first
        | (go_at_call 46; refine (blanks_any hr3a hs hqv).mono ?_; rintro x w5 ⟨rfl, ⟨⟨e5, l5, hr5⟩, hk5⟩⟩
           have c0 := hr5.c0; have c1 := hr5.c1)
        | (go_at_call 46; refine (blanks_any hra hs (Nat.zero_le _)).mono ?_; rintro x w2 ⟨rfl, ⟨⟨e2, l2, hr2⟩, hk2⟩⟩)
        | (go_at_call 47; refine (hV _ _ _ hr2).mono ?_; rintro x w3 ⟨⟨kv, iv, tv, pk, nk, ck, pl, nl, cl, rfl, hj⟩, ⟨e3, l3, hr3⟩, hk3⟩
           have hr3a : Rdr (w3.alloc (.cells #[.int .i64 kv, .int .i64 iv, .string tv, .slice pk nk ck, .slice pl nl cl] 25)) R s qv e3 l3 := hr3.keep (S := fun _ => False) ((Keep.refl _ _).alloc _) (fun h => h)))
      go_quiet (fail)
      have hk5 := hk5.drewN nq
      have hr5 : Rdr (w5.drewN nq) R s (blanks (ints s) qv) e5 l5 := hr5
      have hk9 : Keep (One R) (w.alloc zJ) (w5.drewN nq) := ((hk2.then hk3).alloc (.cells #[.int .i64 kv, .int .i64 iv, .string tv, .slice pk nk ck, .slice pl nl cl] 25)).then hk5
      have hvb : (w5.drewN nq).heap[w3.heap.size]? = some (.cells #[.int .i64 kv, .int .i64 iv, .string tv, .slice pk nk ck, .slice pl nl cl] 25 (0, 0)) := json_keep hk5 (by have := hk2.size; have := hk3.size; simp at *; omega)
      have j0 := five_c0 hvb; have j1 := five_c1 hvb; have j2 := five_c2 hvb; have j3 := five_c3 hvb; have j4 := five_c4 hvb
      have hres := json_keep hk9 hR
      have i0 := five_c0 hres; have i1 := five_c1 hres; have i2 := five_c2 hres; have i3 := five_c3 hres; have i4 := five_c4 hres
      have z0 := five_fz hres 0; have z1 := five_fz hres 1; have z2 := five_fz hres 2; have z3 := five_fz hres 3; have z4 := five_fz hres 4
      go_wp2
      have h5 := set5_heap hres (.int .i64 kv) (.int .i64 iv) (.string tv) (.slice pk nk ck) (.slice pl nl cl)
      have HK5 : Keep (One w.heap.size) (w5.drewN nq) _ := set5_keep (w5.drewN nq) w.heap.size (.int .i64 kv) (.int .i64 iv) (.string tv) (.slice pk nk ck) (.slice pl nl cl)
      unfold set5 at h5 HK5
      have k0 := five_c0 h5; have k1 := five_c1 h5; have k2 := five_c2 h5; have k3 := five_c3 h5; have k4 := five_c4 h5
      refine bodyPost_ret (v := .tuple #[.agg #[.int .i64 kv, .int .i64 iv, .string tv, .slice pk nk ck, .slice pl nl cl], .bool true]) (by simp [results, Tryz.results37, go_sem, k0, k1, k2, k3, k4]) rfl ?_
      rw [HX.out]
      exact ⟨⟨_, _, _, _, _, _, _, _, _, rfl, val_j (new_grow hk2.size (by have := hk2.size; simp at this; omega) hj hk5) HK5⟩, val_ok hk9 hr5 HK5 hR⟩
end Go.Proofs.YtnmhpejnjaeecaaGreatDoor
namespace Go.Proofs.YtnmhpejnjaeecaaGreatDoor
open Go.RowKit

/-- The letter FFFD, written out. -/
def isF (s : ByteArray) (i : Nat) : Bool := decide (byteAt (ints s) i = 239 ∧ byteAt (ints s) (i + 1) = 191 ∧ byteAt (ints s) (i + 2) = 189)
theorem take_three {l : List UInt8} {n : Nat} (h : n + 3 ≤ l.length) : (l.drop n).take 3 = [l[n], l[n + 1], l[n + 2]] := by
  rw [List.drop_eq_getElem_cons (by omega), List.drop_eq_getElem_cons (i := n + 1) (by omega), List.drop_eq_getElem_cons (i := n + 2) (by omega)]
  rfl
theorem byte_eq (a : UInt8) (n : Nat) (hn : n < 256) : ((a.toNat : Int) = (n : Int)) ↔ a = UInt8.ofNat n := by
  constructor
  · intro h
    apply UInt8.toNat_inj.1
    have : a.toNat = n := by omega
    rw [this]
    simp
    omega
  · intro h
    subst h
    simp
    omega
theorem take_f (s : ByteArray) (i : Nat) : decide ((s.data.toList.drop i).take 3 = [239, 191, 189]) = isF s i := by
  unfold isF
  rw [decide_eq_decide]
  have hl : s.data.toList.length = s.size := by simp
  by_cases h : i + 3 ≤ s.size
  · rw [take_three (by omega), byte_in s i (by omega), byte_in s (i + 1) (by omega), byte_in s (i + 2) (by omega)]
    have e1 := byte_eq s[i] 239 (by omega)
    have e2 := byte_eq s[i + 1] 191 (by omega)
    have e3 := byte_eq s[i + 2] 189 (by omega)
    have g : ∀ k (hk : k < s.size), s.data.toList[k]'(by omega) = s[k] := fun k hk => by simp [ByteArray.getElem_eq_getElem_data]
    rw [g i (by omega), g (i + 1) (by omega), g (i + 2) (by omega)]
    simp only [List.cons.injEq, and_true]
    exact and_congr e1.symm (and_congr e2.symm e3.symm)
  · constructor
    · intro h'
      have := congrArg List.length h'
      simp at this
      omega
    · intro h'
      have := byte_past s (i + 2) (by omega)
      omega
theorem pre_list (s : ByteArray) (i : Nat) : (((s.extract i s.size).extract 0 3).toList == [239, 191, 189]) = isF s i := by
  rw [← take_f, Lib.toList_data, ByteArray.data_extract, Array.toList_extract, ByteArray.data_extract, Array.toList_extract]
  simp only [List.extract_eq_take_drop, List.drop_zero, Nat.sub_zero]
  have : (s.data.toList.drop i).take (s.size - i) = s.data.toList.drop i := List.take_of_length_le (by simp)
  rw [this, Bool.eq_iff_iff]
  simp only [beq_iff_eq, decide_eq_true_eq]
set_option maxHeartbeats 1000000 in
theorem lite_any (s : ByteArray) (i : Nat) (w : World) (hi : i ≤ s.size) (hs : s.size ≤ 1000000000) :
    Calls Tryz.prog 57 #[.string (s.extract i s.size), .string ⟨#[239, 191, 189]⟩] w fun e w' => e = .returned (.bool (isF s i)) ∧ w = w' := by
  have h1 := pre_list s i
  have hu : (s.extract i s.size).size = s.size - i := by simp
  by_cases h : i + 3 ≤ s.size
  · obtain ⟨u, hu'⟩ : ∃ u, s.extract i s.size = u := ⟨_, rfl⟩
    rw [hu'] at h1 hu ⊢
    have hu1 : 3 ≤ u.size := by omega
    have hu2 : u.size ≤ 1000000000 := by omega
    clear hu hu'
    cases hb : isF s i
    all_goals
      rw [hb] at h1
      go_enter Tryz.func57, Tryz.ntmps57
      go_wp2
      go_ret
      exact ⟨rfl, rfl⟩
  · have hF : isF s i = false := by
      unfold isF
      apply decide_eq_false
      intro h'
      have := byte_past s (i + 2) (by omega)
      omega
    rw [hF]
    obtain ⟨u, hu'⟩ : ∃ u, s.extract i s.size = u := ⟨_, rfl⟩
    rw [hu'] at h1 hu ⊢
    have hu1 : u.size < 3 := by omega
    clear hu hu' h1
    go_enter Tryz.func57, Tryz.ntmps57
    go_wp2
    go_ret
    exact ⟨rfl, rfl⟩
set_option maxHeartbeats 1000000 in
theorem prefix_any (s : ByteArray) (i : Nat) (w : World) (hi : i ≤ s.size) (hs : s.size ≤ 1000000000) :
    Calls Tryz.prog 45 #[.string (s.extract i s.size), .string ⟨#[239, 191, 189]⟩] w fun e w' => e = .returned (.bool (isF s i)) ∧ w = w' := by
  go_enter Tryz.func45, Tryz.ntmps45
  go_wp2_with (go_at_call 57; refine (lite_any s i _ hi hs).mono ?_; rintro x w' ⟨rfl, rfl⟩)
  go_ret
  exact ⟨rfl, rfl⟩
/-- What the seeker of such a byte returns. -/
def strayTold (r : Option Nat) (x : Ending) : Prop := match r with
  | none => x = .returned (.tuple #[.int .i64 0, .bool false])
  | some p => x = .returned (.tuple #[.int .i64 p, .bool true])
set_option maxRecDepth 100000 in
set_option maxHeartbeats 4000000 in
theorem stray_any (s : ByteArray) (w : World) (hs : s.size ≤ 1000000000) :
    Calls Tryz.prog 36 #[.string s] w fun x w' => strayTold (stray (ints s)) x ∧ ∃ pos, w' = w.iter s pos := by
  go_enter Tryz.func36, Tryz.ntmps36
  go_wp2
  go_loopw [4] (fun _ wr => ∃ (pos m : Nat), wr = w.iter s pos ∧ strayL (ints s) m pos = stray (ints s) ∧ s.size ≤ pos + m) (fun _ wr => s.size - wr.iterPos w.heap.size)
  case atStart => exact ⟨0, s.size, rfl, by unfold stray; rw [ints_length], by omega⟩
  case round =>
    obtain ⟨pos, m, rfl, hc, hb⟩ := hrel
    have HC : Hid (strayL (ints s) m pos = stray (ints s)) := hc
    clear hc
    by_cases hp : pos < s.size
    · have hnx : ∀ ty, (Instr.next (.pointer (some ⟨w.heap.size, 0, none⟩)) true ty).run Tryz.prog (w.iter s pos) = _ := fun ty => run_next_any w s pos ty hp
      have hdec := decode_rune s pos
      obtain ⟨m, rfl⟩ : ∃ m', m = m' + 1 := ⟨m - 1, by omega⟩
      unfold strayL at HC
      rw [ints_length, if_pos hp] at HC
      by_cases h0 : (runeAt (ints s) pos).2 = 0
      · rw [if_pos h0] at HC hdec
        have hF : isF s pos = false := by
          unfold isF
          apply decide_eq_false
          rintro ⟨a, b, c⟩
          rw [rune_fffd _ _ a b c] at h0
          cases h0
        have pf := fun w' => prefix_any s pos w' (by omega) hs
        rw [hF] at pf
        rw [hdec] at hnx
        go_wp2_with (go_at_call 45; refine (pf _).mono ?_; rintro x w' ⟨rfl, rfl⟩)
        go_ret2
        rw [← HC.out]
        exact ⟨rfl, _, rfl⟩
      · rw [if_neg h0] at HC hdec
        have hw4 := rune_width (ints s) pos
        by_cases hr : (runeAt (ints s) pos).1 = 65533
        · have hF : isF s pos = true := decide_eq_true (rune_is (ints s) pos (byte_bd s) h0 hr)
          have pf := fun w' => prefix_any s pos w' (by omega) hs
          rw [hF] at pf
          rw [hr] at hdec
          rw [hdec] at hnx
          obtain ⟨wd, hwd⟩ : ∃ wd, (runeAt (ints s) pos).2 = wd := ⟨_, rfl⟩
          rw [hwd] at hnx HC h0 hw4
          clear hdec hwd
          go_wp2_with (go_at_call 45; refine (pf _).mono ?_; rintro x w' ⟨rfl, rfl⟩)
          go_roundw
          case rel => exact ⟨pos + wd, m, rfl, HC.out, by omega⟩
          case measure => simp; omega
        · obtain ⟨c, hcn⟩ : ∃ c, (runeAt (ints s) pos).1.toNat = c := ⟨_, rfl⟩
          have hc1 : (c : Int) ≠ 65533 := by omega
          rw [hcn] at hdec
          rw [hdec] at hnx
          obtain ⟨wd, hwd⟩ : ∃ wd, (runeAt (ints s) pos).2 = wd := ⟨_, rfl⟩
          rw [hwd] at hnx HC h0 hw4
          clear hdec hwd hcn
          go_wp2
          go_roundw
          case rel => exact ⟨pos + wd, m, rfl, HC.out, by omega⟩
          case measure => simp; omega
    · have hnx : ∀ ty, (Instr.next (.pointer (some ⟨w.heap.size, 0, none⟩)) true ty).run Tryz.prog (w.iter s pos) = _ := fun ty => run_next_end w s pos ty hp
      go_wp2
      go_ret2
      have hn : strayL (ints s) m pos = none := by
        cases m with
        | zero => rfl
        | succ m => unfold strayL; rw [ints_length, if_neg hp]
      rw [← HC.out, hn]
      exact ⟨rfl, _, rfl⟩
end Go.Proofs.YtnmhpejnjaeecaaGreatDoor
namespace Go.Proofs.YtnmhpejnjaeecaaGreatDoor
open Go.RowKit

/-- What bytes say, or the first error and its place. -/
def decode (t : List Int) : Res J := if 16384 < t.length then .bad 13 16384 else match stray t with
  | some p => .bad 10 p
  | none => whole t
/-- What Decode returns. -/
def decTold (w w' : World) (r : Res J) (x : Ending) : Prop := match r with
  | .ok j _ => (∃ k i t pk nk ck pl nl cl, x = .returned (.tuple #[.agg #[.int .i64 k, .int .i64 i, .string t, .slice pk nk ck, .slice pl nl cl], .int .i64 0, .int .i64 0]) ∧ isJ (New w w') w' j [.int .i64 k, .int .i64 i, .string t, .slice pk nk ck, .slice pl nl cl]) ∧ Below w.heap.size w w'
  | .bad e l => x = .returned (.tuple #[.agg (flat 0 0 nix), .int .i64 e, .int .i64 l]) ∧ Below w.heap.size w w'
theorem rd_string {B : Nat} {w : World} {p : Option Addr} {c : Nat} {rs : List Int} (h : Rd B w p c rs) :
    (convert 27 9 (.slice p rs.length c)).run Tryz.prog w = .ok (.string (strOfNums rs)) w := by
  cases p with
  | none =>
    have h0 : rs = [] := by
      cases rs with
      | nil => rfl
      | cons x r => obtain ⟨a, ha, _⟩ := h.2.2 0 (by simp); cases ha
    subst h0
    exact run_convert_bytes_nil w 27 5 Tryz.underlying27 Tryz.underlying5 0 c 9 Tryz.underlying9
  | some a =>
    have := run_convert_bytes_back (P := Tryz.prog) w 27 9 5 a c (rs.map fun n => UInt8.ofNat n.toNat) Tryz.underlying27 Tryz.underlying5 Tryz.underlying9 (fun j hj => by
      have hj' : j < rs.length := by simpa using hj
      obtain ⟨a', ha, _, hc⟩ := h.2.2 j hj'
      cases ha
      rw [hc, List.getElem_map]
      have hb := h.2.1 rs[j] (List.getElem_mem hj')
      have hx : rs[j].toNat < 256 := by omega
      rw [UInt8.toNat_ofNat_of_lt' hx, List.getD_eq_getElem?_getD, List.getElem?_eq_getElem hj']
      congr 2
      simp
      omega)
    rw [List.length_map] at this
    exact this
theorem own_rd {w : World} {B : Nat} {v : Value} {L : List Int} (h : w.ownsRow B 5 1 v L.length (L.map (Value.int .u8))) (hL : ∀ x ∈ L, 0 ≤ x ∧ x ≤ 255) : ∃ q cq, v = .slice q L.length cq ∧ Rd w.heap.size w q cq L := by
  rcases h.2 with ⟨rfl, hn⟩ | ⟨g, cap, cur, rfl, hg, hgg, h1, h2, h3, h4⟩
  · obtain rfl : L = [] := List.eq_nil_of_length_eq_zero hn
    exact ⟨none, 0, rfl, Nat.le_refl _, hL, fun j hj => by simp at hj⟩
  · refine ⟨_, cap, rfl, h1, hL, fun j hj => ⟨_, rfl, (Array.getElem?_eq_some_iff.1 hgg).1, ?_⟩⟩
    have e : (⟨g, 0, none⟩ : Addr).add j = ⟨g, j, none⟩ := by unfold Addr.add; split <;> simp_all
    rw [e, h.cellAt j (by omega), List.getElem?_map, List.getElem?_eq_getElem hj, List.getD_eq_getElem?_getD, List.getElem?_eq_getElem hj]
    rfl
/-- The blocks of the call's own. -/
theorem dec_below {w w3 W5 : World} {o o' : Obj} {R : Nat} (hR : R = w.heap.size + 1) (hk : Keep (One R) ((w.alloc o).alloc o') w3) (HK5 : Keep (One w.heap.size) w3 W5) : Below w.heap.size w W5 := by
  subst hR
  have k1 : Keep (fun _ => False) w ((w.alloc o).alloc o') := ((Keep.refl _ _).alloc _).alloc _
  have k2 := k1.trans hk (S := fun _ => False) fun i hi h => by unfold One at h; omega
  have k3 := k2.trans HK5 (S := fun _ => False) fun i hi h => by unfold One at h; omega
  exact k3.below (Nat.le_refl _) fun _ _ h => h
theorem dec_res {w w3 : World} {o' : Obj} {cs : Array Value} (hk : Keep (One (w.heap.size + 1)) ((w.alloc (.cells cs 25)).alloc o') w3) : w3.heap[w.heap.size]? = some (.cells cs 25 (0, 0)) := by
  rw [hk.block w.heap.size (by simp; omega) (fun h => by unfold One at h; omega), Below.heap_alloc _ _ _ (by simp)]
  exact heap_alloc_new _ _
theorem dec_rdr (w : World) (s : ByteArray) (pos : Nat) : Rdr (((w.alloc zJ).alloc (.cells #[.string s, .int .i64 0, .int .i64 0, .int .i64 0] 56)).iter s pos) (w.heap.size + 1) s 0 0 0 := by
  unfold Rdr World.iter
  rw [Below.heap_alloc _ _ _ (by simp)]
  have := heap_alloc_new (w.alloc zJ) (.cells #[.string s, .int .i64 0, .int .i64 0, .int .i64 0] 56)
  rw [show (w.alloc zJ).heap.size = w.heap.size + 1 by simp] at this
  exact this
theorem dec_j {w w1 w3 W5 : World} {o2 : Obj} {j : J} {cs : List Value} (hj : isJ (New w1 w3) w3 j cs) (HK5 : Keep (One w.heap.size) (w3.alloc o2) W5) (h1 : w.heap.size < w1.heap.size) : isJ (New w W5) W5 j cs := by
  have hs := HK5.size
  simp at hs
  refine hj.carry fun k hk => ?_
  have g1 := hk.1
  have g2 := hk.2
  exact ⟨⟨by omega, by omega⟩, by rw [HK5.block k (by simp; omega) (by unfold One; omega), Below.heap_alloc _ _ _ g2]⟩
set_option maxRecDepth 100000 in
set_option maxHeartbeats 16000000 in
theorem decode_any {w : World} {p : Option Addr} {c : Nat} {rs : List Int} (hrd : Rd w.heap.size w p c rs) (hn : rs.length ≤ 1000000) :
    Calls Tryz.prog 21 #[.slice p rs.length c] w fun x w' => decTold w w' (decode rs) x := by
  obtain ⟨n, hln⟩ : ∃ n, rs.length = n := ⟨_, rfl⟩
  by_cases hlong : 16384 < n
  · have HX : Hid (decode rs = .bad 13 16384) := by unfold decode; rw [hln, if_pos hlong]; rfl
    rw [hln]
    have hres0 := heap_alloc_new w zJ
    unfold zJ at hres0
    have hres : (w.alloc (.cells #[.int .i64 0, .int .i64 0, .string ⟨#[]⟩, .slice none 0 0, .slice none 0 0] 25)).heap[w.heap.size]? = some (.cells #[.int .i64 0, .int .i64 0, .string ⟨#[]⟩, .slice none 0 0, .slice none 0 0] 25 (0, 0)) := hres0
    go_enter Tryz.func21, Tryz.ntmps21
    go_wp2
    have k0 := five_c0 hres; have k1 := five_c1 hres; have k2 := five_c2 hres; have k3 := five_c3 hres; have k4 := five_c4 hres
    refine bodyPost_ret (v := .tuple #[.agg #[.int .i64 0, .int .i64 0, .string ⟨#[]⟩, .slice none 0 0, .slice none 0 0], .int .i64 13, .int .i64 16384]) (by simp [results, Tryz.results21, go_sem, k0, k1, k2, k3, k4]) rfl ?_
    rw [HX.out]
    exact ⟨rfl, (Below.refl _ _).alloc (Nat.le_refl _) _⟩
  · have hcv : (convert 27 9 (.slice p n c)).run Tryz.prog (w.alloc zJ) = .ok (.string (strOfNums rs)) (w.alloc zJ) := by
      rw [← hln]
      exact rd_string (B := w.heap.size) ⟨hrd.1, hrd.2.1, fun j hj => by
        obtain ⟨a, ha, hB, hc⟩ := hrd.2.2 j hj
        exact ⟨a, ha, hB, (World.cell?_of_block (by rw [add_block]; exact Below.heap_alloc _ _ _ hB)).trans hc⟩⟩
    have hint : ints (strOfNums rs) = rs := ints_str rs hrd.2.1
    have hssz : (strOfNums rs).size = n := by rw [str_size]; exact hln
    have HX0 : Hid (decode rs = match stray (ints (strOfNums rs)) with | some p => .bad 10 p | none => whole (ints (strOfNums rs))) := by unfold decode; rw [hln, if_neg hlong, hint]; rfl
    rw [hln]
    obtain ⟨s, hs'⟩ : ∃ s, strOfNums rs = s := ⟨_, rfl⟩
    rw [hs'] at hcv HX0 hssz
    clear hs' hint
    have hs : short s := by unfold short; omega
    have sa := fun w' => stray_any s w' (by omega)
    have hr1 := dec_rdr w s
    unfold zJ at hcv hr1
    cases hst : stray (ints s) with
    | some at1 =>
      have HX : Hid (decode rs = .bad 10 at1) := by rw [HX0.out, hst]; rfl
      rw [hst] at sa
      clear HX0
      go_enter Tryz.func21, Tryz.ntmps21
      go_wp2_with (first
        | (go_at_call 36; refine (sa _).mono ?_; rintro x w1 ⟨rfl, pos, rfl⟩
           have hk9 : Keep (One (w.heap.size + 1)) ((w.alloc (.cells #[.int .i64 0, .int .i64 0, .string ⟨#[]⟩, .slice none 0 0, .slice none 0 0] 25)).alloc (.cells #[.string s, .int .i64 0, .int .i64 0, .int .i64 0] 56)) (((w.alloc (.cells #[.int .i64 0, .int .i64 0, .string ⟨#[]⟩, .slice none 0 0, .slice none 0 0] 25)).alloc (.cells #[.string s, .int .i64 0, .int .i64 0, .int .i64 0] 56)).iter s pos) := (Keep.refl _ _).alloc _
           have hres := dec_res hk9
           have i0 := five_c0 hres; have i1 := five_c1 hres; have i2 := five_c2 hres; have i3 := five_c3 hres; have i4 := five_c4 hres
           have z0 := five_fz hres 0; have z1 := five_fz hres 1; have z2 := five_fz hres 2; have z3 := five_fz hres 3; have z4 := five_fz hres 4))
      have h5 := set5_heap hres (.int .i64 0) (.int .i64 0) (.string ⟨#[]⟩) (.slice none 0 0) (.slice none 0 0)
      have HK5 : Keep (One w.heap.size) (((w.alloc (.cells #[.int .i64 0, .int .i64 0, .string ⟨#[]⟩, .slice none 0 0, .slice none 0 0] 25)).alloc (.cells #[.string s, .int .i64 0, .int .i64 0, .int .i64 0] 56)).iter s pos) _ := set5_keep (((w.alloc (.cells #[.int .i64 0, .int .i64 0, .string ⟨#[]⟩, .slice none 0 0, .slice none 0 0] 25)).alloc (.cells #[.string s, .int .i64 0, .int .i64 0, .int .i64 0] 56)).iter s pos) w.heap.size (.int .i64 0) (.int .i64 0) (.string ⟨#[]⟩) (.slice none 0 0) (.slice none 0 0)
      unfold set5 at h5 HK5
      have k0 := five_c0 h5; have k1 := five_c1 h5; have k2 := five_c2 h5; have k3 := five_c3 h5; have k4 := five_c4 h5
      refine bodyPost_ret (v := .tuple #[.agg #[.int .i64 0, .int .i64 0, .string ⟨#[]⟩, .slice none 0 0, .slice none 0 0], .int .i64 10, .int .i64 at1]) (by simp [results, Tryz.results21, go_sem, k0, k1, k2, k3, k4]) rfl ?_
      rw [HX.out]
      exact ⟨rfl, dec_below rfl hk9 HK5⟩
    | none =>
      rw [hst] at sa
      have HX0 : Hid (decode rs = whole (ints s)) := by rw [HX0.out, hst]; rfl
      have hW := fun pos => whole_any (hr1 pos) hs
      cases hv : whole (ints s) with
      | bad er la =>
        have HX : Hid (decode rs = .bad er la) := by rw [HX0.out, hv]; rfl
        rw [hv] at hW
        clear HX0
        go_enter Tryz.func21, Tryz.ntmps21
        go_wp2_with (first
          | (go_at_call 36; refine (sa _).mono ?_; rintro x w1 ⟨rfl, pos, rfl⟩)
          | (go_at_call 37; refine (hW _).mono ?_; rintro x w3 ⟨⟨kv, iv, tv, rfl⟩, ⟨q3, hr3⟩, hk3⟩
             unfold flat
             have hk9 : Keep (One (w.heap.size + 1)) ((w.alloc (.cells #[.int .i64 0, .int .i64 0, .string ⟨#[]⟩, .slice none 0 0, .slice none 0 0] 25)).alloc (.cells #[.string s, .int .i64 0, .int .i64 0, .int .i64 0] 56)) (w3.alloc (.cells #[.int .i64 kv, .int .i64 iv, .string tv, .slice none 0 0, .slice none 0 0] 25)) := (((Keep.refl _ _).alloc _).then hk3).alloc _
             have hr3a : Rdr (w3.alloc (.cells #[.int .i64 kv, .int .i64 iv, .string tv, .slice none 0 0, .slice none 0 0] 25)) (w.heap.size + 1) s q3 er la := hr3.keep (S := fun _ => False) ((Keep.refl _ _).alloc _) (fun h => h)
             have hres := dec_res hk9))
        refine wp_region_in (by kernel_rfl) (fun w' => Rdr w' (w.heap.size + 1) s q3 er la) ?_
        change wpIn _ _ _ _ _ _ _ _ (World.drew _)
        have hC0 : Rdr (w3.alloc (.cells #[.int .i64 kv, .int .i64 iv, .string tv, .slice none 0 0, .slice none 0 0] 25)).drew (w.heap.size + 1) s q3 er la := hr3a
        have hk9 := hk9.drew
        have hres : (w3.alloc (.cells #[.int .i64 kv, .int .i64 iv, .string tv, .slice none 0 0, .slice none 0 0] 25)).drew.heap[w.heap.size]? = some (.cells #[.int .i64 0, .int .i64 0, .string ⟨#[]⟩, .slice none 0 0, .slice none 0 0] 25 (0, 0)) := hres
        generalize (w3.alloc (.cells #[.int .i64 kv, .int .i64 iv, .string tv, .slice none 0 0, .slice none 0 0] 25)).drew = W0 at hC0 hk9 hres ⊢
        have i0 := five_c0 hres; have i1 := five_c1 hres; have i2 := five_c2 hres; have i3 := five_c3 hres; have i4 := five_c4 hres
        have z0 := five_fz hres 0; have z1 := five_fz hres 1; have z2 := five_fz hres 2; have z3 := five_fz hres 3; have z4 := five_fz hres 4
        refine wpIn_take (i := 0) (d := (some 32)) (v := ?vqd0) (a' := ?aqd0) rfl rfl (by kernel_rfl) (by kernel_rfl) (by kernel_rfl) (fun _ _ _ h => h) (Or.inl ⟨by rfl, ?yqd0⟩) ?fqd0 ?_
        case yqd0 => (intro wq hq; have q2 := Rdr.c2 hq; have q3 := Rdr.c3 hq; go_simp; first | done | with_reducible rfl)
        case fqd0 => (go_frame; rfl)
        refine wpIn_take (i := 1) (d := (some 33)) (v := ?vqd1) (a' := ?aqd1) rfl rfl (by kernel_rfl) (by kernel_rfl) (by kernel_rfl) (fun _ _ _ h => h) (Or.inl ⟨by rfl, ?yqd1⟩) ?fqd1 ?_
        case yqd1 => (intro wq hq; have q2 := Rdr.c2 hq; have q3 := Rdr.c3 hq; go_simp; first | done | with_reducible rfl)
        case fqd1 => (go_frame; rfl)
        refine wpIn_take (i := 2) (d := (some 34)) (v := ?vqd2) (a' := ?aqd2) rfl rfl (by kernel_rfl) (by kernel_rfl) (by kernel_rfl) (fun _ _ _ h => h) (Or.inl ⟨by rfl, ?yqd2⟩) ?fqd2 ?_
        case yqd2 => (intro wq hq; have q2 := Rdr.c2 hq; have q3 := Rdr.c3 hq; go_simp; first | done | with_reducible rfl)
        case fqd2 => (go_frame; rfl)
        refine wpIn_take (i := 3) (d := (some 35)) (v := ?vqd3) (a' := ?aqd3) rfl rfl (by kernel_rfl) (by kernel_rfl) (by kernel_rfl) (fun _ _ _ h => h) (Or.inl ⟨by rfl, ?yqd3⟩) ?fqd3 ?_
        case yqd3 => (intro wq hq; have q2 := Rdr.c2 hq; have q3 := Rdr.c3 hq; go_simp; first | done | with_reducible rfl)
        case fqd3 => (go_frame; rfl)
        refine wpIn_take (i := 4) (d := (some 36)) (v := ?vqd4) (a' := ?aqd4) rfl rfl (by kernel_rfl) (by kernel_rfl) (by kernel_rfl) (fun _ _ _ h => h) (Or.inl ⟨by rfl, ?yqd4⟩) ?fqd4 ?_
        case yqd4 => (intro wq hq; have q2 := Rdr.c2 hq; have q3 := Rdr.c3 hq; go_simp; first | done | with_reducible rfl)
        case fqd4 => (go_frame; rfl)
        refine wpIn_do (i := 5) hC0 (by kernel_rfl) rfl (by rfl) ?_
        intro K hK
        go_simp
        refine hK _ _ ?_
        clear hK K
        have HK6 : Keep (One w.heap.size) W0 _ := set5_keep W0 w.heap.size (.int .i64 0) (.int .i64 0) (.string ⟨#[]⟩) (.slice none 0 0) (.slice none 0 0)
        have hC1 := hC0.keep HK6 (by unfold One; omega)
        unfold set5 at hC1 HK6
        refine wpIn_take (i := 6) (d := (some 3)) (v := ?vqe6) (a' := ?aqe6) rfl rfl (by kernel_rfl) (by kernel_rfl) (by kernel_rfl) (fun _ _ _ h => h) (Or.inl ⟨by rfl, ?yqe6⟩) ?fqe6 ?_
        case yqe6 => (intro wq hq; go_simp; first | done | with_reducible rfl)
        case fqe6 => (go_frame; rfl)
        refine wpIn_take (i := 7) (d := (some 4)) (v := ?vqe7) (a' := ?aqe7) rfl rfl (by kernel_rfl) (by kernel_rfl) (by kernel_rfl) (fun _ _ _ h => h) (Or.inl ⟨by rfl, ?yqe7⟩) ?fqe7 ?_
        case yqe7 => (intro wq hq; go_simp; first | done | with_reducible rfl)
        case fqe7 => (go_frame; rfl)
        refine wpIn_done hC1 (by kernel_rfl) ?_ _
        go_wp2
        have h5 := set5_heap hres (.int .i64 0) (.int .i64 0) (.string ⟨#[]⟩) (.slice none 0 0) (.slice none 0 0)
        have HK5 : Keep (One w.heap.size) W0 _ := set5_keep W0 w.heap.size (.int .i64 0) (.int .i64 0) (.string ⟨#[]⟩) (.slice none 0 0) (.slice none 0 0)
        unfold set5 at h5 HK5
        have k0 := five_c0 h5; have k1 := five_c1 h5; have k2 := five_c2 h5; have k3 := five_c3 h5; have k4 := five_c4 h5
        refine bodyPost_ret (v := .tuple #[.agg #[.int .i64 0, .int .i64 0, .string ⟨#[]⟩, .slice none 0 0, .slice none 0 0], .int .i64 er, .int .i64 la]) (by simp [results, Tryz.results21, go_sem, k0, k1, k2, k3, k4]) rfl ?_
        rw [HX.out]
        exact ⟨rfl, dec_below rfl hk9 HK5⟩
      | ok jv qv =>
        have HX : Hid (decode rs = .ok jv qv) := by rw [HX0.out, hv]; rfl
        rw [hv] at hW
        clear HX0
        go_enter Tryz.func21, Tryz.ntmps21
        go_wp2_with (first
          | (go_at_call 36; refine (sa _).mono ?_; rintro x w1 ⟨rfl, pos, rfl⟩)
          | (go_at_call 37; refine (hW _).mono ?_; rintro x w3 ⟨⟨kv, iv, tv, pk, nk, ck, pl, nl, cl, rfl, hj⟩, ⟨e3, l3, hr3⟩, hk3⟩
             have hk9 : Keep (One (w.heap.size + 1)) ((w.alloc (.cells #[.int .i64 0, .int .i64 0, .string ⟨#[]⟩, .slice none 0 0, .slice none 0 0] 25)).alloc (.cells #[.string s, .int .i64 0, .int .i64 0, .int .i64 0] 56)) (w3.alloc (.cells #[.int .i64 kv, .int .i64 iv, .string tv, .slice pk nk ck, .slice pl nl cl] 25)) := (((Keep.refl _ _).alloc _).then hk3).alloc _
             have hvb : (w3.alloc (.cells #[.int .i64 kv, .int .i64 iv, .string tv, .slice pk nk ck, .slice pl nl cl] 25)).heap[w3.heap.size]? = some (.cells #[.int .i64 kv, .int .i64 iv, .string tv, .slice pk nk ck, .slice pl nl cl] 25 (0, 0)) := heap_alloc_new _ _
             have hres := dec_res hk9
             have i0 := five_c0 hres; have i1 := five_c1 hres; have i2 := five_c2 hres; have i3 := five_c3 hres; have i4 := five_c4 hres
             have z0 := five_fz hres 0; have z1 := five_fz hres 1; have z2 := five_fz hres 2; have z3 := five_fz hres 3; have z4 := five_fz hres 4))
        have h5 := set5_heap hres (.int .i64 kv) (.int .i64 iv) (.string tv) (.slice pk nk ck) (.slice pl nl cl)
        have HK5 : Keep (One w.heap.size) (w3.alloc (.cells #[.int .i64 kv, .int .i64 iv, .string tv, .slice pk nk ck, .slice pl nl cl] 25)) _ := set5_keep (w3.alloc (.cells #[.int .i64 kv, .int .i64 iv, .string tv, .slice pk nk ck, .slice pl nl cl] 25)) w.heap.size (.int .i64 kv) (.int .i64 iv) (.string tv) (.slice pk nk ck) (.slice pl nl cl)
        unfold set5 at h5 HK5
        have k0 := five_c0 h5; have k1 := five_c1 h5; have k2 := five_c2 h5; have k3 := five_c3 h5; have k4 := five_c4 h5
        refine bodyPost_ret (v := .tuple #[.agg #[.int .i64 kv, .int .i64 iv, .string tv, .slice pk nk ck, .slice pl nl cl], .int .i64 0, .int .i64 0]) (by simp [results, Tryz.results21, go_sem, k0, k1, k2, k3, k4]) rfl ?_
        rw [HX.out]
        exact ⟨⟨_, _, _, _, _, _, _, _, _, rfl, dec_j hj HK5 (by simp [World.iter]; omega)⟩, dec_below rfl hk9 HK5⟩
end Go.Proofs.YtnmhpejnjaeecaaGreatDoor

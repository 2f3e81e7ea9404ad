/-
  A map or list that is being made, a key and a value after another: what lies in memory.
  A key and a value more, by a contract: what told's own function does.
  The small parts of an event's shape and JSON, by contracts: within, digest, text, number.
-/
import Derived.Test.YtldegjjaknelgaaGreatDoorAY18
import Derived.Laws.OwnMore
set_option maxRecDepth 100000
set_option maxHeartbeats 16000000
namespace Go.Proofs.YtldegjjaknelgaaGreatDoor
open Go.RowKit
def Els (O : Nat → Prop) (B : Nat) (vk vl : Value) (w : World) : Nat → Prop := fun k => O k ∨ (B ≤ k ∧ k < w.heap.size ∧ vk.ownBlock ≠ some k ∧ vl.ownBlock ≠ some k)
structure TI (O : Nat → Prop) (B g : Nat) (kd : Int) (WB : World) (ks : List ByteArray) (js : List J) (vk vl : Value) (w : World) : Prop where
 obj : w.heap[g]? = some (.cells #[.int .i64 kd, .int .i64 0, .string ⟨#[]⟩, vk, vl] 25 (0, 0))
 keys : w.ownsRow B 9 1 vk ks.length (ks.map Value.string)
 vals : ∃ xs, w.ownsRow B 25 5 vl js.length xs ∧ isRow (Els O B vk vl w) w js xs
 ne : ∀ i, vk.ownBlock = some i → vl.ownBlock ≠ some i
 keep : Keep (One g) WB w
 szB : WB.heap.size = B
 lt : g < B
 low : ∀ k, O k → k < B ∧ k ≠ g
theorem own_sl {w : World} {B e size n : Nat} {v : Value} {xs : List Value} (h : w.ownsRow B e size v n xs) : ∃ q c, v = .slice q n c := by
 rcases h.2 with ⟨h', h0⟩ | ⟨g', cap', cur, h', _⟩
 · exact ⟨none, 0, by rw [h', h0]⟩
 · exact ⟨_, _, h'⟩
section
variable {O : Nat → Prop} {B g : Nat} {kd : Int} {WB W W2 W5 : World} {ks : List ByteArray} {js : List J} {vk vl vk' vl' : Value}
theorem TI.size (h : TI O B g kd WB ks js vk vl W) : B ≤ W.heap.size := by have := h.keep.size; have := h.szB; omega
theorem TI.start (hsz : WB.heap.size = B) (hg : g < B) (hlow : ∀ k, O k → k < B ∧ k ≠ g) (hobj : WB.heap[g]? = some (.cells #[.int .i64 kd, .int .i64 0, .string ⟨#[]⟩, .slice none 0 0, .slice none 0 0] 25 (0, 0))) : TI O B g kd WB [] [] (.slice none 0 0) (.slice none 0 0) WB :=
 ⟨hobj, World.ownsRow_nil _ _ _ _, ⟨[], World.ownsRow_nil _ _ _ _, rfl⟩, (fun i h => by cases h), Keep.refl _ _, hsz, hg, hlow⟩
theorem TI.more (h : TI O B g kd WB ks js vk vl W) (hb : Below W.heap.size W W2) : TI O B g kd WB ks js vk vl W2 := by
 have hs := h.size
 have hlt := h.lt
 obtain ⟨xs, h1, h2⟩ := h.vals
 have kp : Keep (fun _ => False) W W2 := Keep.of_below hb
 refine ⟨(hb.block g (by omega)).trans h.obj, own_keep h.keys kp fun _ _ h => h, ⟨xs, own_keep h1 kp fun _ _ h => h, h2.carry fun k hk => ?_⟩, h.ne, h.keep.trans kp fun _ _ h => h.elim, h.szB, hlt, h.low⟩
 rcases hk with hk | hk
 · have := h.low k hk
   exact ⟨.inl hk, hb.block k (by omega)⟩
 · exact ⟨.inr ⟨hk.1, by have := hk.2.1; have := hb.size; omega, hk.2.2⟩, hb.block k hk.2.1⟩
theorem TI.drew (h : TI O B g kd WB ks js vk vl W) : TI O B g kd WB ks js vk vl W.drew := h.more ⟨rfl, rfl, rfl, Nat.le_refl _, fun _ _ => rfl⟩
theorem TI.alloc (h : TI O B g kd WB ks js vk vl W) (o : Obj) : TI O B g kd WB ks js vk vl (W.alloc o) := h.more ((Below.refl _ _).alloc (Nat.le_refl _) o)
theorem TI.fresh (h : TI O B g kd WB ks js vk vl W) (_hb : Below W.heap.size W W2) {y : J} {cs : List Value} (hy : isJ (fun k => O k ∨ New W W2 k) W2 y cs) : isJ (Els O B vk vl W2) W2 y cs := by
 have hs := h.size
 obtain ⟨xs, h1, _⟩ := h.vals
 refine hy.carry fun k hk => ⟨?_, rfl⟩
 rcases hk with hk | hk
 · exact .inl hk
 · have e1 := hk.1
   have e2 := hk.2
   exact .inr ⟨by omega, e2, fun e => by have := (own_ge h.keys k e).2; omega, fun e => by have := (own_ge h1 k e).2; omega⟩
theorem els_more (hb : Below W.heap.size W W2) (hO : ∀ k, O k → k < W.heap.size) {y : J} {cs : List Value} (hy : isJ (Els O B vk vl W) W y cs) : isJ (Els O B vk vl W2) W2 y cs := by
 refine hy.carry fun k hk => ?_
 rcases hk with hk | hk
 · exact ⟨.inl hk, hb.block k (hO k hk)⟩
 · exact ⟨.inr ⟨hk.1, by have := hk.2.1; have := hb.size; omega, hk.2.2⟩, hb.block k hk.2.1⟩
theorem TI.key (h : TI O B g kd WB ks js vk vl W) {x : ByteArray} (hown : W2.ownsRow B 9 1 vk' (ks.length + 1) (ks.map Value.string ++ [.string x])) (hg : W.grownBy W2 vk.ownBlock) (hat : vk'.ownBlock = vk.ownBlock ∨ vk'.ownBlock = some W.heap.size) :
    W2.cell? ⟨g, 3, none⟩ = some vk ∧ W2.frozen? ⟨g, 3, none⟩ = false ∧ TI O B g kd WB (ks ++ [x]) js vk' vl (W2.setCell ⟨g, 3, none⟩ vk') ∧ ∀ k, Els O B vk vl W k → Els O B vk' vl (W2.setCell ⟨g, 3, none⟩ vk') k ∧ (W2.setCell ⟨g, 3, none⟩ vk').heap[k]? = W.heap[k]? := by
 have hs := h.size
 have hlt := h.lt
 have hss := hg.size
 have hgk := own_ge h.keys
 obtain ⟨xs, hv1, hv2⟩ := h.vals
 have hgv := own_ge hv1
 have low : ∀ k, k < B → W2.heap[k]? = W.heap[k]? := fun k hk => hg.block k (by omega) fun e => by have := (hgk k e.symm).1; omega
 have ob : W2.heap[g]? = some (.cells #[.int .i64 kd, .int .i64 0, .string ⟨#[]⟩, vk, vl] 25 (0, 0)) := (low g hlt).trans h.obj
 have K3 : Keep (One g) W2 (W2.setCell ⟨g, 3, none⟩ vk') := Keep.setCell (Keep.refl _ _) (fun _ => (rfl : g = g)) _
 have hgk' := own_ge hown
 have carry : ∀ k, Els O B vk vl W k → Els O B vk' vl (W2.setCell ⟨g, 3, none⟩ vk') k ∧ (W2.setCell ⟨g, 3, none⟩ vk').heap[k]? = W.heap[k]? := fun k hk => by
  rcases hk with hk | hk
  · have := h.low k hk
    exact ⟨.inl hk, by rw [K3.block k (by omega) (by unfold One; omega), low k this.1]⟩
  · have e1 := hk.1
    have e2 := hk.2.1
    refine ⟨.inr ⟨e1, by have := K3.size; omega, fun e => ?_, hk.2.2.2⟩, by rw [K3.block k (by omega) (by unfold One; omega), hg.block k e2 fun e => hk.2.2.1 e.symm]⟩
    rcases hat with h' | h'
    · exact hk.2.2.1 (h' ▸ e)
    · rw [h'] at e
      have := Option.some.inj e
      omega
 refine ⟨five_c3 ob, five_fz ob 3, ⟨?_, ?_, ⟨xs, ?_, hv2.carry carry⟩, ?_, ?_, h.szB, hlt, h.low⟩, carry⟩
 · rw [heap_setCell_same _ g 3 _ _ _ ob]; rfl
 · rw [List.length_append, List.map_append]
   exact own_keep hown K3 fun k e => by have := (hgk' k e).1; unfold One; omega
 · refine own_keep (own_keep hv1 (S := fun k => vk.ownBlock = some k) (Keep.of_grown hg fun _ _ e => e) fun k e e' => h.ne k e' e) K3 fun k e => by have := (hgv k e).1; unfold One; omega
 · intro i e e'
   rcases hat with h1 | h1
   · exact h.ne i (h1 ▸ e) e'
   · rw [h1] at e
     have h2 := (hgv i e').2
     have h3 := Option.some.inj e
     omega
 · exact (h.keep.trans (S' := fun k => vk.ownBlock = some k) (Keep.of_grown hg fun _ _ e => e) fun k hk e => by have := (hgk k e).1; have := h.szB; omega).then K3
theorem TI.val (h : TI O B g kd WB ks js vk vl W) {y : J} {cs xs : List Value} (hv1 : W.ownsRow B 25 5 vl js.length xs) (hv2 : isRow (Els O B vk vl W) W js xs) (hy : isJ (Els O B vk vl W) W y cs) (hg : W.grownBy W2 vl.ownBlock) (hat : vl'.ownBlock = vl.ownBlock ∨ vl'.ownBlock = some W.heap.size)
    (hobj : W5.heap[g]? = some (.cells #[.int .i64 kd, .int .i64 0, .string ⟨#[]⟩, vk, vl'] 25 (0, 0))) (hown : W5.ownsRow B 25 5 vl' (js.length + 1) (xs ++ cs)) (hk5 : Keep (fun k => k = g ∨ vl'.ownBlock = some k) W2 W5) : TI O B g kd WB ks (js ++ [y]) vk vl' W5 := by
 have hs := h.size
 have hlt := h.lt
 have hss := hg.size
 have hgk := own_ge h.keys
 have hgv := own_ge hv1
 have hgv' := own_ge hown
 have carry : ∀ k, Els O B vk vl W k → Els O B vk vl' W5 k ∧ W5.heap[k]? = W.heap[k]? := by
  intro k hk
  rcases hk with hk | hk
  · have := h.low k hk
    exact ⟨.inl hk, by rw [hk5.block k (by omega) (fun e => e.elim (fun e => this.2 e) fun e => by have := (hgv' k e).1; omega), hg.block k (by omega) fun e => by have := (hgv k e.symm).1; omega]⟩
  · have e1 := hk.1
    have e2 := hk.2.1
    have e3 : vl'.ownBlock ≠ some k := fun e => by
     rcases hat with h' | h'
     · exact hk.2.2.2 (h' ▸ e)
     · rw [h'] at e
       have := Option.some.inj e
       omega
    exact ⟨.inr ⟨e1, by have := hk5.size; omega, hk.2.2.1, e3⟩, by rw [hk5.block k (by omega) (fun e => e.elim (fun e => by omega) e3), hg.block k e2 fun e => hk.2.2.2 e.symm]⟩
 refine ⟨hobj, ?_, ⟨xs ++ cs, by rw [List.length_append]; exact hown, isRow.snoc hy.five (hy.carry carry) js xs (hv2.carry carry)⟩, ?_, ?_, h.szB, hlt, h.low⟩
 · refine own_keep (own_keep h.keys (S := fun k => vl.ownBlock = some k) (Keep.of_grown hg fun _ _ e => e) fun k e e' => h.ne k e e') hk5 fun k e e' => ?_
   rcases e' with e' | e'
   · have := (hgk k e).1; omega
   · rcases hat with h' | h'
     · exact h.ne k e (h' ▸ e')
     · rw [h'] at e'
       have := Option.some.inj e'
       have := (hgk k e).2
       omega
 · intro i e e'
   rcases hat with h' | h'
   · exact h.ne i e (h' ▸ e')
   · rw [h'] at e'
     have := Option.some.inj e'
     have := (hgk i e).2
     omega
 · refine (h.keep.trans (S' := fun k => vl.ownBlock = some k) (Keep.of_grown hg fun _ _ e => e) fun k hk e => by have := (hgv k e).1; have := h.szB; omega).trans hk5 fun k hk e => ?_
   rcases e with e | e
   · exact e
   · have := (hgv' k e).1
     have := h.szB
     omega
end
def st5 (w : World) (b o : Nat) (v0 v1 v2 v3 v4 : Value) : World := ((((w.setCell ⟨b, o, none⟩ v0).setCell ⟨b, o + 1, none⟩ v1).setCell ⟨b, o + 2, none⟩ v2).setCell ⟨b, o + 3, none⟩ v3).setCell ⟨b, o + 4, none⟩ v4
theorem st5_keep (w : World) (b o : Nat) (v0 v1 v2 v3 v4 : Value) : Keep (One b) w (st5 w b o v0 v1 v2 v3 v4) := by
 have K : ∀ (W : World) (o : Nat) (v : Value), Keep (One b) W (W.setCell ⟨b, o, none⟩ v) := fun W o v => Keep.setCell (Keep.refl _ _) (fun _ => (rfl : b = b)) _
 exact ((((K _ _ _).then (K _ _ _)).then (K _ _ _)).then (K _ _ _)).then (K _ _ _)
theorem st5_own {w : World} {B e b m cap : Nat} {xs : List Value} {z0 z1 z2 z3 z4 : Value} (h : w.ownsRow B e 5 (.slice (some ⟨b, 0, none⟩) (m + 1) cap) (m + 1) (xs ++ [z0, z1, z2, z3, z4])) (hx : xs.length = m * 5) (v0 v1 v2 v3 v4 : Value) :
    (st5 w b (m * 5) v0 v1 v2 v3 v4).ownsRow B e 5 (.slice (some ⟨b, 0, none⟩) (m + 1) cap) (m + 1) (xs ++ [v0, v1, v2, v3, v4]) := by
 have h1 := (((((h.stored (m * 5) v0).1.stored (m * 5 + 1) v1).1.stored (m * 5 + 2) v2).1.stored (m * 5 + 3) v3).1.stored (m * 5 + 4) v4).1
 have e : (((((xs ++ [z0, z1, z2, z3, z4]).set (m * 5) v0).set (m * 5 + 1) v1).set (m * 5 + 2) v2).set (m * 5 + 3) v3).set (m * 5 + 4) v4 = xs ++ [v0, v1, v2, v3, v4] := by
  rw [← hx]
  simp
 rw [e] at h1
 exact h1
theorem one_new2 (w : World) (v : Value) (t : Nat) : ∀ j u, [v][j]? = some u → (w.alloc (.cells #[v] t)).cell? ((⟨w.heap.size, 0, none⟩ : Addr).add j) = some u := by
 intro j u hj
 match j, hj with
 | 0, hj => simp at hj; subst hj; exact cell_row (cur := [_]) (heap_alloc_new _ _) 0 _ rfl
theorem one_at2 {w : World} {b : Nat} {v : Value} {t : Nat} (h : w.heap.size = b) : ∀ j u, [v][j]? = some u → (w.alloc (.cells #[v] t)).cell? ((⟨b, 0, none⟩ : Addr).add j) = some u := by
 subst h
 exact one_new2 w v t
theorem str_one2 (x : ByteArray) : ∀ u ∈ [Value.string x], u.oneCell' = true := by
 intro u hu; simp at hu; subst hu; rfl
theorem five_new2 (w : World) (t : Nat) (y0 y1 y2 y3 y4 : Value) : ∀ j u, [y0, y1, y2, y3, y4][j]? = some u → (w.alloc (.cells #[y0, y1, y2, y3, y4] t)).cell? ((⟨w.heap.size, 0, none⟩ : Addr).add j) = some u := by
 intro j u hj
 have e : (⟨w.heap.size, 0, none⟩ : Addr).add j = ⟨w.heap.size, j, none⟩ := by unfold Addr.add; split <;> simp_all
 rw [e]
 exact cell_row (cur := [_, _, _, _, _]) (heap_alloc_new _ _) j u hj
theorem five_at2 {w : World} {b t : Nat} {y0 y1 y2 y3 y4 : Value} (h : w.heap.size = b) : ∀ j u, [y0, y1, y2, y3, y4][j]? = some u → (w.alloc (.cells #[y0, y1, y2, y3, y4] t)).cell? ((⟨b, 0, none⟩ : Addr).add j) = some u := by
 subst h
 exact five_new2 w t y0 y1 y2 y3 y4
theorem wpList_app2 {w : World} {ops : Array Oper} {rest : List Oper} {o : Oper} {a : Act} {Q : Exit → Act → World → Prop} (hgd : o.guard = none) (s x : Operand) (t : TypeId)
    (ho : o.op = .call { callee := .builtin .append, args := #[s, x], argTypes := #[t, t] })
    (base : Nat) (e : TypeId) (z : Value) (size bytes : Nat) (ht : Tryz.prog.underlying t = some (.slice e)) (hinfo : (Tryz.prog.info? e).map (fun i => (i.zero, i.size, i.bytes)) = some (some z, size, bytes))
    (hzs : z.cells.size = size) (hsz : 0 < size) (hby : bytes ≤ 100)
    (v : Value) (n : Nat) (xs : List Value) (hs : a.eval s = v) (hown : w.ownsRow base e size v n xs)
    (ad : Addr) (news : List Value) (hx : a.eval x = .slice (some ad) 1 1) (hl : news.length = size) (hnews : ∀ j u, news[j]? = some u → w.cell? (ad.add j) = some u) (h1 : ∀ u ∈ news, u.oneCell' = true)
    (hn : n ≤ 1000000) (hbase : base ≤ w.heap.size)
    (h : ∀ v' w', w'.ownsRow base e size v' (n + 1) (xs ++ news) → w.grownBy w' v.ownBlock → (v'.ownBlock = v.ownBlock ∨ v'.ownBlock = some w.heap.size) → wpList Tryz.prog ops Q rest (a.put o.dst v') w') : wpList Tryz.prog ops Q (o :: rest) a w :=
 wpList_plain hgd fun _ hK => wp_append_at s x t ho base e z size bytes ht hinfo hzs hsz hby v n xs hs hown ad news hx hl hnews h1 hn hbase fun v' w' h2 h3 h4 => hK _ _ (h v' w' h2 h3 h4)
theorem own_some {w : World} {B e size n : Nat} {v : Value} {xs : List Value} (h : w.ownsRow B e size v (n + 1) xs) : ∃ b c, v = .slice (some ⟨b, 0, none⟩) (n + 1) c := by
 rcases h.2 with ⟨h', h0⟩ | ⟨g', cap', cur, h', _⟩
 · omega
 · exact ⟨_, _, h'⟩
abbrev zj5 : List Value := [.int .i64 0, .int .i64 0, .string ⟨#[]⟩, .slice none 0 0, .slice none 0 0]
theorem eput_any {O : Nat → Prop} {B g : Nat} {kd : Int} {WB w : World} {ks : List ByteArray} {js : List J} {vk vl : Value} {y : J} {k i : Int} {t : ByteArray} {pk pl : Option Addr} {nk ck nl cl : Nat} (h : TI O B g kd WB ks js vk vl w)
    (hy : isJ (Els O B vk vl w) w y [.int .i64 k, .int .i64 i, .string t, .slice pk nk ck, .slice pl nl cl]) (hn : ks.length ≤ 100000) (hm : js.length ≤ 100000) (x : ByteArray) :
    Calls Tryz.prog 114 #[.string x, .agg #[.int .i64 k, .int .i64 i, .string t, .slice pk nk ck, .slice pl nl cl], .pointer (some ⟨g, 0, none⟩)] w fun e w' => e = .returned (.tuple #[]) ∧ ∃ vk' vl', TI O B g kd WB (ks ++ [x]) (js ++ [y]) vk' vl' w' := by
 have hlow := h.low
 have hszB := h.size
 have h1 := (h.alloc (.cells #[.int .i64 k, .int .i64 i, .string t, .slice pk nk ck, .slice pl nl cl] 25)).alloc (.cells #[.string x] 9)
 have hy1 := els_more (W2 := (w.alloc (.cells #[.int .i64 k, .int .i64 i, .string t, .slice pk nk ck, .slice pl nl cl] 25)).alloc (.cells #[.string x] 9)) (((Below.refl _ _).alloc (Nat.le_refl _) _).alloc (by simp) _) (fun k hk => by have := (hlow k hk).1; omega) hy
 obtain ⟨qk, ck', hvk⟩ := own_sl h.keys
 obtain ⟨xs0, hv10, hv20⟩ := h.vals
 obtain ⟨ql, cl', hvl⟩ := own_sl hv10
 have hEb : Els O B vk vl ((w.alloc (.cells #[.int .i64 k, .int .i64 i, .string t, .slice pk nk ck, .slice pl nl cl] 25)).alloc (.cells #[.string x] 9)) w.heap.size :=
  .inr ⟨hszB, by simp; omega, fun e => by have := (own_ge h.keys _ e).2; omega, fun e => by have := (own_ge hv10 _ e).2; omega⟩
 have hbx : ((w.alloc (.cells #[.int .i64 k, .int .i64 i, .string t, .slice pk nk ck, .slice pl nl cl] 25)).alloc (.cells #[.string x] 9)).heap[w.heap.size]? = some (.cells #[.int .i64 k, .int .i64 i, .string t, .slice pk nk ck, .slice pl nl cl] 25 (0, 0)) := by
  rw [Below.heap_alloc _ _ _ (by simp)]
  exact heap_alloc_new _ _
 have c3 := five_c3 (h.alloc (.cells #[.int .i64 k, .int .i64 i, .string t, .slice pk nk ck, .slice pl nl cl] 25)).obj
 have HL : Hid (∀ k, O k → k < B ∧ k ≠ g) := hlow
 have HNE0 : Hid (vl.ownBlock ≠ some w.heap.size) := fun e => by have := (own_ge hv10 _ e).2; omega
 clear hv10 hv20 xs0 hlow hy
 subst hvk hvl
 have HNE : Hid ((Value.slice ql js.length cl').ownBlock ≠ some w.heap.size) := HNE0.out
 clear HNE0
 go_enter Tryz.func114, Tryz.ntmps114
 go_wp2_with (at_builtin; refine wpList_app2 rfl _ _ 22 rfl B 9 (.string ⟨#[]⟩) 1 16 Tryz.underlying22 Tryz.info9 rfl (by decide) (by decide) _ ks.length (ks.map Value.string) rfl h1.keys _ [.string x] rfl rfl (one_at2 (by simp)) (str_one2 x) (by omega) h1.size ?_
              intro vk2 W2 hown2 hg2 hat2
              obtain ⟨d3, f3, h3, hcar⟩ := h1.key hown2 hg2 hat2
              obtain ⟨b2, c2, hv2⟩ := own_some hown2
              subst hv2)
 have hy3 := hy1.carry fun k hk => hcar k hk
 have hbx3 := (hcar _ hEb).2.trans hbx
 have HBX : Hid ((W2.setCell ⟨g, 3, none⟩ (.slice (some ⟨b2, 0, none⟩) (ks.length + 1) c2)).heap[w.heap.size]? = some (.cells #[.int .i64 k, .int .i64 i, .string t, .slice pk nk ck, .slice pl nl cl] 25 (0, 0))) := hbx3
 clear hcar hy1 h1 hbx hbx3 hEb hown2 hg2 hat2 d3 f3
 obtain ⟨W3, hW3⟩ : ∃ W3, W3 = W2.setCell ⟨g, 3, none⟩ (.slice (some ⟨b2, 0, none⟩) (ks.length + 1) c2) := ⟨_, rfl⟩
 rw [← hW3] at h3 hy3 HBX ⊢
 clear hW3 c3
 have hd := h3.drew
 have hA := hd.alloc (.cells #[.int .i64 0, .int .i64 0, .string ⟨#[]⟩, .slice none 0 0, .slice none 0 0] 25)
 obtain ⟨xs, hv1, hv2⟩ := hA.vals
 have hyA := els_more (W := W3) (W2 := W3.drew.alloc (.cells #[.int .i64 0, .int .i64 0, .string ⟨#[]⟩, .slice none 0 0, .slice none 0 0] 25)) ((show Below W3.heap.size W3 W3.drew from ⟨rfl, rfl, rfl, Nat.le_refl _, fun _ _ => rfl⟩).alloc (Nat.le_refl _) _) (fun k hk => by have := (HL.out k hk).1; have := h3.size; omega) hy3
 have d4 := five_c4 hd.obj
 have a4 : (W3.alloc (.cells #[.int .i64 0, .int .i64 0, .string ⟨#[]⟩, .slice none 0 0, .slice none 0 0] 25)).drew.cell? ⟨g, 4, none⟩ = some (.slice ql js.length cl') := five_c4 hA.obj
 have hbs := (Array.getElem?_eq_some_iff.1 HBX.out).1
 have HC : Hid (∀ W : World, W.heap[w.heap.size]? = some (.cells #[.int .i64 k, .int .i64 i, .string t, .slice pk nk ck, .slice pl nl cl] 25 (0, 0)) → ∀ n v, [Value.int .i64 k, .int .i64 i, .string t, .slice pk nk ck, .slice pl nl cl][n]? = some v → W.cell? ⟨w.heap.size, n, none⟩ = some v) := fun W hW n v hv => cell_row (cur := [_, _, _, _, _]) hW n v hv
 have hC0 : W3.drew.heap[w.heap.size]? = some (.cells #[.int .i64 k, .int .i64 i, .string t, .slice pk nk ck, .slice pl nl cl] 25 (0, 0)) := HBX.out
 have hC1 : (W3.drew.alloc (.cells #[.int .i64 0, .int .i64 0, .string ⟨#[]⟩, .slice none 0 0, .slice none 0 0] 25)).heap[w.heap.size]? = some (.cells #[.int .i64 k, .int .i64 i, .string t, .slice pk nk ck, .slice pl nl cl] 25 (0, 0)) := (Below.heap_alloc _ _ _ hbs).trans hC0
 have HXL : Hid (xs.length = js.length * 5) := hv1.1
 refine wp_region_in (by kernel_rfl) (fun W => W.heap[w.heap.size]? = some (.cells #[.int .i64 k, .int .i64 i, .string t, .slice pk nk ck, .slice pl nl cl] 25 (0, 0))) ?_
 change wpIn _ _ _ _ _ _ _ _ (World.drew _)
 refine wpIn_tk (i := 0) (d := some 11) rfl ?_
 refine wpIn_tp (i := 2) (d := some 13) rfl (by (intro wq hq; have q0 := HC.out wq hq 0 _ rfl; have q1 := HC.out wq hq 1 _ rfl; have q2 := HC.out wq hq 2 _ rfl; have q3 := HC.out wq hq 3 _ rfl; have q4 := HC.out wq hq 4 _ rfl; go_simp; first | done | with_reducible rfl)) ?_
 refine wpIn_pair (i := 1) (j := 4) hC0 (by kernel_rfl) rfl rfl (by rfl) (by rfl) ?_ ?_
 · intro K hK
   go_simp
   refine hK _ _ ?_
   clear hK K
   refine wpIn_tk (i := 3) (d := some 14) rfl ?_
   refine wpIn_do (i := 4) hC0 (by kernel_rfl) rfl (by rfl) ?_
   intro K hK
   go_simp
   refine hK _ _ ?_
   clear hK K
   refine wpIn_do (i := 5) hC1 (by kernel_rfl) rfl (by rfl) ?_
   intro K hK
   refine wp_append_at (.tmp 12) (.tmp 15) 23 rfl B 25 (.agg #[.int .i64 0, .int .i64 0, .string ⟨#[]⟩, .slice none 0 0, .slice none 0 0]) 5 80 Tryz.underlying23 Tryz.info25 rfl (by decide) (by decide) _ js.length xs rfl hv1 _ zj5 rfl rfl (five_at2 (by simp)) (by decide) (by omega) hA.size ?_
   intro vl2 W4 hown4 hg4 hat4
   refine hK _ _ ?_
   clear hK K
   obtain ⟨b4, c4, hv4⟩ := own_some hown4
   subst hv4
   have hg4' : (W3.drew.alloc (.cells #[.int .i64 0, .int .i64 0, .string ⟨#[]⟩, .slice none 0 0, .slice none 0 0] 25)).grownBy W4 (Value.slice ql js.length cl').ownBlock := hg4
   have hat4' : (Value.slice (some ⟨b4, 0, none⟩) (js.length + 1) c4).ownBlock = (Value.slice ql js.length cl').ownBlock ∨ (Value.slice (some ⟨b4, 0, none⟩) (js.length + 1) c4).ownBlock = some (W3.drew.alloc (.cells #[.int .i64 0, .int .i64 0, .string ⟨#[]⟩, .slice none 0 0, .slice none 0 0] 25)).heap.size := hat4
   have hgv := own_ge hv1
   have hgv4 := own_ge hown4
   have hgb4 := (hgv4 b4 rfl).1
   have hltg := h3.lt
   have hsA := hA.size
   have hbw : b4 ≠ w.heap.size := fun e => by
    rcases hat4' with h' | h'
    · exact HNE.out (h'.symm.trans (by rw [← e]; rfl))
    · have := Option.some.inj h'
      simp at this
      have := hbs
      omega
   have obj4 : W4.heap[g]? = some (.cells #[.int .i64 kd, .int .i64 0, .string ⟨#[]⟩, .slice (some ⟨b2, 0, none⟩) (ks.length + 1) c2, .slice ql js.length cl'] 25 (0, 0)) := (hg4'.block g (by omega) fun e => by have := (hgv g e.symm).1; omega).trans hA.obj
   have hC2 : W4.heap[w.heap.size]? = some (.cells #[.int .i64 k, .int .i64 i, .string t, .slice pk nk ck, .slice pl nl cl] 25 (0, 0)) := (hg4'.block w.heap.size (by simp; exact Nat.lt_succ_of_lt hbs) fun e => HNE.out e.symm).trans hC1
   have HAT : Hid ((Value.slice (some ⟨b4, 0, none⟩) (js.length + 1) c4).ownBlock = (Value.slice ql js.length cl').ownBlock ∨ (Value.slice (some ⟨b4, 0, none⟩) (js.length + 1) c4).ownBlock = some (W3.drew.alloc (.cells #[.int .i64 0, .int .i64 0, .string ⟨#[]⟩, .slice none 0 0, .slice none 0 0] 25)).heap.size) := hat4'
   clear hg4 hat4 hgv4 hat4'
   have hzx : ∀ (W : World), W.ownsRow B 25 5 (.slice (some ⟨b4, 0, none⟩) (js.length + 1) c4) (js.length + 1) (xs ++ zj5) → ∀ j u, zj5[j]? = some u → W.cell? ⟨b4, js.length * 5 + j, none⟩ = some u ∧ W.frozen? ⟨b4, js.length * 5 + j, none⟩ = false := fun W hW j u hj => by
    have hj5 : j < 5 := (List.getElem?_eq_some_iff.1 hj).1
    refine ⟨(hW.cellAt (js.length * 5 + j) (by omega)).trans ?_, hW.frozenAt _⟩
    rw [List.getElem?_append_right (by rw [HXL.out]; omega), HXL.out, Nat.add_sub_cancel_left]
    exact hj
   have hli : (js.length : Int) < (js.length : Int) + 1 := by omega
   refine wpIn_tk (i := 6) (d := some 17) rfl ?_
   refine wpIn_tk (i := 8) (d := some 18) rfl ?_
   refine wpIn_pair (i := 7) (j := 9) hC2 (by kernel_rfl) rfl rfl (by rfl) (by rfl) ?_ ?_
   · intro K hK
     have e0 := hzx W4 hown4 0 _ rfl; have e1 := hzx W4 hown4 1 _ rfl; have e2 := hzx W4 hown4 2 _ rfl; have e3 := hzx W4 hown4 3 _ rfl; have e4 := hzx W4 hown4 4 _ rfl
     obtain ⟨e00, e01⟩ := e0; obtain ⟨e10, e11⟩ := e1; obtain ⟨e20, e21⟩ := e2; obtain ⟨e30, e31⟩ := e3; obtain ⟨e40, e41⟩ := e4
     rw [Nat.add_zero] at e00 e01
     go_simp
     refine hK _ _ ?_
     clear hK K
     have kp := st5_keep W4 b4 (js.length * 5) (.int .i64 k) (.int .i64 i) (.string t) (.slice pk nk ck) (.slice pl nl cl)
     have ow := st5_own hown4 HXL.out (.int .i64 k) (.int .i64 i) (.string t) (.slice pk nk ck) (.slice pl nl cl)
     have ob5 := (kp.block g (by have := (Array.getElem?_eq_some_iff.1 obj4).1; omega) (by unfold One; omega)).trans obj4
     have hC3 := (kp.block w.heap.size (Array.getElem?_eq_some_iff.1 hC2).1 (by unfold One; omega)).trans hC2
     have g0 := five_c4 ob5
     have g1 := five_fz ob5 4
     obtain ⟨W5, hW5⟩ : ∃ W5, W5 = st5 W4 b4 (js.length * 5) (.int .i64 k) (.int .i64 i) (.string t) (.slice pk nk ck) (.slice pl nl cl) := ⟨_, rfl⟩
     rw [← hW5] at kp ow ob5 hC3 g0 g1
     have hW5' := hW5
     unfold st5 at hW5'
     rw [← hW5']
     clear hW5 hW5' e00 e01 e10 e11 e20 e21 e30 e31 e40 e41 hzx
     refine wpIn_do (i := 9) hC3 (by kernel_rfl) rfl (by rfl) ?_
     intro K hK
     go_simp
     refine hK _ _ ?_
     clear hK K
     have K3 : Keep (One g) W5 (W5.setCell ⟨g, 4, none⟩ (.slice (some ⟨b4, 0, none⟩) (js.length + 1) c4)) := Keep.setCell (Keep.refl _ _) (fun _ => (rfl : g = g)) _
     have hC4 := (K3.block w.heap.size (Array.getElem?_eq_some_iff.1 hC3).1 (by unfold One; omega)).trans hC3
     have hti := hA.val hv1 hv2 hyA hg4' HAT.out (W5 := W5.setCell ⟨g, 4, none⟩ (.slice (some ⟨b4, 0, none⟩) (js.length + 1) c4)) (by rw [heap_setCell_same _ g 4 _ _ _ ob5]; rfl) (own_keep ow K3 fun q e => by have := Option.some.inj e; unfold One; simp at this; omega) ((kp.mono fun q _ e => .inr (by unfold One at e; rw [e]; rfl)).then (K3.mono fun q _ e => .inl e))
     refine wpIn_done hC4 (by kernel_rfl) ?_ _
     clear hC3 hC4 g0 g1 ob5 ow kp
     go_wp2
     go_end0
     exact ⟨rfl, _, _, hti⟩
   · intro K hK
     have g0 := five_c4 obj4
     have g1 := five_fz obj4 4
     go_simp
     refine hK _ _ ?_
     clear hK K
     have K3 : Keep (One g) W4 (W4.setCell ⟨g, 4, none⟩ (.slice (some ⟨b4, 0, none⟩) (js.length + 1) c4)) := Keep.setCell (Keep.refl _ _) (fun _ => (rfl : g = g)) _
     have ob5 : (W4.setCell ⟨g, 4, none⟩ (.slice (some ⟨b4, 0, none⟩) (js.length + 1) c4)).heap[g]? = some (.cells #[.int .i64 kd, .int .i64 0, .string ⟨#[]⟩, .slice (some ⟨b2, 0, none⟩) (ks.length + 1) c2, .slice (some ⟨b4, 0, none⟩) (js.length + 1) c4] 25 (0, 0)) := by rw [heap_setCell_same _ g 4 _ _ _ obj4]; rfl
     have hC3 := (K3.block w.heap.size (Array.getElem?_eq_some_iff.1 hC2).1 (by unfold One; omega)).trans hC2
     have ow := own_keep hown4 K3 fun q e => by have := Option.some.inj e; unfold One; simp at this; omega
     obtain ⟨W5, hW5⟩ : ∃ W5, W5 = W4.setCell ⟨g, 4, none⟩ (.slice (some ⟨b4, 0, none⟩) (js.length + 1) c4) := ⟨_, rfl⟩
     rw [← hW5] at K3 ow ob5 hC3 ⊢
     clear hW5 g0 g1
     have e0 := hzx W5 ow 0 _ rfl; have e1 := hzx W5 ow 1 _ rfl; have e2 := hzx W5 ow 2 _ rfl; have e3 := hzx W5 ow 3 _ rfl; have e4 := hzx W5 ow 4 _ rfl
     obtain ⟨e00, e01⟩ := e0; obtain ⟨e10, e11⟩ := e1; obtain ⟨e20, e21⟩ := e2; obtain ⟨e30, e31⟩ := e3; obtain ⟨e40, e41⟩ := e4
     rw [Nat.add_zero] at e00 e01
     refine wpIn_do (i := 7) hC3 (by kernel_rfl) rfl (by rfl) ?_
     intro K hK
     go_simp
     refine hK _ _ ?_
     clear hK K
     have kp := st5_keep W5 b4 (js.length * 5) (.int .i64 k) (.int .i64 i) (.string t) (.slice pk nk ck) (.slice pl nl cl)
     have ow5 := st5_own ow HXL.out (.int .i64 k) (.int .i64 i) (.string t) (.slice pk nk ck) (.slice pl nl cl)
     have ob6 := (kp.block g (by have := (Array.getElem?_eq_some_iff.1 ob5).1; omega) (by unfold One; omega)).trans ob5
     have hC4 := (kp.block w.heap.size (Array.getElem?_eq_some_iff.1 hC3).1 (by unfold One; omega)).trans hC3
     have hti := hA.val hv1 hv2 hyA hg4' HAT.out ob6 ow5 ((K3.mono fun q _ e => .inl e).then (kp.mono fun q _ e => .inr (by unfold One at e; rw [e]; rfl)))
     unfold st5 at hC4 hti
     refine wpIn_done hC4 (by kernel_rfl) ?_ _
     clear hC3 hC4 e00 e01 e10 e11 e20 e21 e30 e31 e40 e41 hzx ow ow5 ob5 ob6 kp
     go_wp2
     go_end0
     exact ⟨rfl, _, _, hti⟩
 · intro K hK
   go_simp
   refine hK _ _ ?_
   clear hK K
   refine wpIn_do (i := 1) hC1 (by kernel_rfl) rfl (by rfl) ?_
   intro K hK
   go_simp
   refine hK _ _ ?_
   clear hK K
   refine wpIn_tk (i := 3) (d := some 14) rfl ?_
   refine wpIn_do (i := 5) hC1 (by kernel_rfl) rfl (by rfl) ?_
   intro K hK
   refine wp_append_at (.tmp 12) (.tmp 15) 23 rfl B 25 (.agg #[.int .i64 0, .int .i64 0, .string ⟨#[]⟩, .slice none 0 0, .slice none 0 0]) 5 80 Tryz.underlying23 Tryz.info25 rfl (by decide) (by decide) _ js.length xs rfl hv1 _ zj5 rfl rfl (five_at2 (by simp)) (by decide) (by omega) hA.size ?_
   intro vl2 W4 hown4 hg4 hat4
   refine hK _ _ ?_
   clear hK K
   obtain ⟨b4, c4, hv4⟩ := own_some hown4
   subst hv4
   have hg4' : (W3.drew.alloc (.cells #[.int .i64 0, .int .i64 0, .string ⟨#[]⟩, .slice none 0 0, .slice none 0 0] 25)).grownBy W4 (Value.slice ql js.length cl').ownBlock := hg4
   have hat4' : (Value.slice (some ⟨b4, 0, none⟩) (js.length + 1) c4).ownBlock = (Value.slice ql js.length cl').ownBlock ∨ (Value.slice (some ⟨b4, 0, none⟩) (js.length + 1) c4).ownBlock = some (W3.drew.alloc (.cells #[.int .i64 0, .int .i64 0, .string ⟨#[]⟩, .slice none 0 0, .slice none 0 0] 25)).heap.size := hat4
   have hgv := own_ge hv1
   have hgv4 := own_ge hown4
   have hgb4 := (hgv4 b4 rfl).1
   have hltg := h3.lt
   have hsA := hA.size
   have hbw : b4 ≠ w.heap.size := fun e => by
    rcases hat4' with h' | h'
    · exact HNE.out (h'.symm.trans (by rw [← e]; rfl))
    · have := Option.some.inj h'
      simp at this
      have := hbs
      omega
   have obj4 : W4.heap[g]? = some (.cells #[.int .i64 kd, .int .i64 0, .string ⟨#[]⟩, .slice (some ⟨b2, 0, none⟩) (ks.length + 1) c2, .slice ql js.length cl'] 25 (0, 0)) := (hg4'.block g (by omega) fun e => by have := (hgv g e.symm).1; omega).trans hA.obj
   have hC2 : W4.heap[w.heap.size]? = some (.cells #[.int .i64 k, .int .i64 i, .string t, .slice pk nk ck, .slice pl nl cl] 25 (0, 0)) := (hg4'.block w.heap.size (by simp; exact Nat.lt_succ_of_lt hbs) fun e => HNE.out e.symm).trans hC1
   have HAT : Hid ((Value.slice (some ⟨b4, 0, none⟩) (js.length + 1) c4).ownBlock = (Value.slice ql js.length cl').ownBlock ∨ (Value.slice (some ⟨b4, 0, none⟩) (js.length + 1) c4).ownBlock = some (W3.drew.alloc (.cells #[.int .i64 0, .int .i64 0, .string ⟨#[]⟩, .slice none 0 0, .slice none 0 0] 25)).heap.size) := hat4'
   clear hg4 hat4 hgv4 hat4'
   have hzx : ∀ (W : World), W.ownsRow B 25 5 (.slice (some ⟨b4, 0, none⟩) (js.length + 1) c4) (js.length + 1) (xs ++ zj5) → ∀ j u, zj5[j]? = some u → W.cell? ⟨b4, js.length * 5 + j, none⟩ = some u ∧ W.frozen? ⟨b4, js.length * 5 + j, none⟩ = false := fun W hW j u hj => by
    have hj5 : j < 5 := (List.getElem?_eq_some_iff.1 hj).1
    refine ⟨(hW.cellAt (js.length * 5 + j) (by omega)).trans ?_, hW.frozenAt _⟩
    rw [List.getElem?_append_right (by rw [HXL.out]; omega), HXL.out, Nat.add_sub_cancel_left]
    exact hj
   have hli : (js.length : Int) < (js.length : Int) + 1 := by omega
   refine wpIn_tk (i := 6) (d := some 17) rfl ?_
   refine wpIn_tk (i := 8) (d := some 18) rfl ?_
   refine wpIn_pair (i := 7) (j := 9) hC2 (by kernel_rfl) rfl rfl (by rfl) (by rfl) ?_ ?_
   · intro K hK
     have e0 := hzx W4 hown4 0 _ rfl; have e1 := hzx W4 hown4 1 _ rfl; have e2 := hzx W4 hown4 2 _ rfl; have e3 := hzx W4 hown4 3 _ rfl; have e4 := hzx W4 hown4 4 _ rfl
     obtain ⟨e00, e01⟩ := e0; obtain ⟨e10, e11⟩ := e1; obtain ⟨e20, e21⟩ := e2; obtain ⟨e30, e31⟩ := e3; obtain ⟨e40, e41⟩ := e4
     rw [Nat.add_zero] at e00 e01
     go_simp
     refine hK _ _ ?_
     clear hK K
     have kp := st5_keep W4 b4 (js.length * 5) (.int .i64 k) (.int .i64 i) (.string t) (.slice pk nk ck) (.slice pl nl cl)
     have ow := st5_own hown4 HXL.out (.int .i64 k) (.int .i64 i) (.string t) (.slice pk nk ck) (.slice pl nl cl)
     have ob5 := (kp.block g (by have := (Array.getElem?_eq_some_iff.1 obj4).1; omega) (by unfold One; omega)).trans obj4
     have hC3 := (kp.block w.heap.size (Array.getElem?_eq_some_iff.1 hC2).1 (by unfold One; omega)).trans hC2
     have g0 := five_c4 ob5
     have g1 := five_fz ob5 4
     obtain ⟨W5, hW5⟩ : ∃ W5, W5 = st5 W4 b4 (js.length * 5) (.int .i64 k) (.int .i64 i) (.string t) (.slice pk nk ck) (.slice pl nl cl) := ⟨_, rfl⟩
     rw [← hW5] at kp ow ob5 hC3 g0 g1
     have hW5' := hW5
     unfold st5 at hW5'
     rw [← hW5']
     clear hW5 hW5' e00 e01 e10 e11 e20 e21 e30 e31 e40 e41 hzx
     refine wpIn_do (i := 9) hC3 (by kernel_rfl) rfl (by rfl) ?_
     intro K hK
     go_simp
     refine hK _ _ ?_
     clear hK K
     have K3 : Keep (One g) W5 (W5.setCell ⟨g, 4, none⟩ (.slice (some ⟨b4, 0, none⟩) (js.length + 1) c4)) := Keep.setCell (Keep.refl _ _) (fun _ => (rfl : g = g)) _
     have hC4 := (K3.block w.heap.size (Array.getElem?_eq_some_iff.1 hC3).1 (by unfold One; omega)).trans hC3
     have hti := hA.val hv1 hv2 hyA hg4' HAT.out (W5 := W5.setCell ⟨g, 4, none⟩ (.slice (some ⟨b4, 0, none⟩) (js.length + 1) c4)) (by rw [heap_setCell_same _ g 4 _ _ _ ob5]; rfl) (own_keep ow K3 fun q e => by have := Option.some.inj e; unfold One; simp at this; omega) ((kp.mono fun q _ e => .inr (by unfold One at e; rw [e]; rfl)).then (K3.mono fun q _ e => .inl e))
     refine wpIn_done hC4 (by kernel_rfl) ?_ _
     clear hC3 hC4 g0 g1 ob5 ow kp
     go_wp2
     go_end0
     exact ⟨rfl, _, _, hti⟩
   · intro K hK
     have g0 := five_c4 obj4
     have g1 := five_fz obj4 4
     go_simp
     refine hK _ _ ?_
     clear hK K
     have K3 : Keep (One g) W4 (W4.setCell ⟨g, 4, none⟩ (.slice (some ⟨b4, 0, none⟩) (js.length + 1) c4)) := Keep.setCell (Keep.refl _ _) (fun _ => (rfl : g = g)) _
     have ob5 : (W4.setCell ⟨g, 4, none⟩ (.slice (some ⟨b4, 0, none⟩) (js.length + 1) c4)).heap[g]? = some (.cells #[.int .i64 kd, .int .i64 0, .string ⟨#[]⟩, .slice (some ⟨b2, 0, none⟩) (ks.length + 1) c2, .slice (some ⟨b4, 0, none⟩) (js.length + 1) c4] 25 (0, 0)) := by rw [heap_setCell_same _ g 4 _ _ _ obj4]; rfl
     have hC3 := (K3.block w.heap.size (Array.getElem?_eq_some_iff.1 hC2).1 (by unfold One; omega)).trans hC2
     have ow := own_keep hown4 K3 fun q e => by have := Option.some.inj e; unfold One; simp at this; omega
     obtain ⟨W5, hW5⟩ : ∃ W5, W5 = W4.setCell ⟨g, 4, none⟩ (.slice (some ⟨b4, 0, none⟩) (js.length + 1) c4) := ⟨_, rfl⟩
     rw [← hW5] at K3 ow ob5 hC3 ⊢
     clear hW5 g0 g1
     have e0 := hzx W5 ow 0 _ rfl; have e1 := hzx W5 ow 1 _ rfl; have e2 := hzx W5 ow 2 _ rfl; have e3 := hzx W5 ow 3 _ rfl; have e4 := hzx W5 ow 4 _ rfl
     obtain ⟨e00, e01⟩ := e0; obtain ⟨e10, e11⟩ := e1; obtain ⟨e20, e21⟩ := e2; obtain ⟨e30, e31⟩ := e3; obtain ⟨e40, e41⟩ := e4
     rw [Nat.add_zero] at e00 e01
     refine wpIn_do (i := 7) hC3 (by kernel_rfl) rfl (by rfl) ?_
     intro K hK
     go_simp
     refine hK _ _ ?_
     clear hK K
     have kp := st5_keep W5 b4 (js.length * 5) (.int .i64 k) (.int .i64 i) (.string t) (.slice pk nk ck) (.slice pl nl cl)
     have ow5 := st5_own ow HXL.out (.int .i64 k) (.int .i64 i) (.string t) (.slice pk nk ck) (.slice pl nl cl)
     have ob6 := (kp.block g (by have := (Array.getElem?_eq_some_iff.1 ob5).1; omega) (by unfold One; omega)).trans ob5
     have hC4 := (kp.block w.heap.size (Array.getElem?_eq_some_iff.1 hC3).1 (by unfold One; omega)).trans hC3
     have hti := hA.val hv1 hv2 hyA hg4' HAT.out ob6 ow5 ((K3.mono fun q _ e => .inl e).then (kp.mono fun q _ e => .inr (by unfold One at e; rw [e]; rfl)))
     unfold st5 at hC4 hti
     refine wpIn_done hC4 (by kernel_rfl) ?_ _
     clear hC3 hC4 e00 e01 e10 e11 e20 e21 e30 e31 e40 e41 hzx ow ow5 ob5 ob6 kp
     go_wp2
     go_end0
     exact ⟨rfl, _, _, hti⟩
theorem within_any (n m : Int) (w : World) : Calls Tryz.prog 107 #[.int .i64 n, .int .i64 m] w fun e w' => e = .returned (.bool (withinE n m)) ∧ w = w' := by
 go_enter Tryz.func107, Tryz.ntmps107
 go_wp2
 all_goals
  go_ret
  refine ⟨ret_bool ?_, rfl⟩
  unfold withinE
  rw [Bool.eq_iff_iff]
  simp
  omega
theorem dol_size (s : ByteArray) : (dol s).size = s.size + 1 := by
 unfold dol
 rw [ByteArray.size_append, Nat.add_comm]
 rfl
theorem digest_any (s : ByteArray) (w : World) (hs : s.size ≤ 1000000000) :
    Calls Tryz.prog 108 #[.string s] w fun e w' => e = .returned (.bool (digestE s)) ∧ Below w.heap.size w w' := by
 have hE := Id.event_any (dol s) w (by rw [dol_size]; omega)
 have HD : Hid (Id.evt (dol s) = digestE s) := rfl
 unfold dol at hE HD
 go_enter Tryz.func108, Tryz.ntmps108
 go_wp2_with (go_at_call 133; refine hE.mono ?_; rintro e w' ⟨rfl, hb⟩)
 go_ret
 exact ⟨ret_bool HD.out, hb⟩
theorem etext_any (s : ByteArray) (w : World) :
    Calls Tryz.prog 117 #[.string s] w fun e w' => e = .returned (.agg #[.int .i64 3, .int .i64 0, .string s, .slice none 0 0, .slice none 0 0]) ∧ Below w.heap.size w w' := by
 have h5 := heap_alloc_new w (.cells #[.int .i64 3, .int .i64 0, .string s, .slice none 0 0, .slice none 0 0] 25)
 have k0 := five_c0 h5; have k1 := five_c1 h5; have k2 := five_c2 h5; have k3 := five_c3 h5; have k4 := five_c4 h5
 go_enter Tryz.func117, Tryz.ntmps117
 go_wp2
 refine bodyPost_ret (v := .agg #[.int .i64 3, .int .i64 0, .string s, .slice none 0 0, .slice none 0 0]) (by simp [results, Tryz.results117, go_sem, k0, k1, k2, k3, k4]) rfl ?_
 exact ⟨rfl, (Below.refl _ _).alloc (Nat.le_refl _) _⟩
theorem enumber_any (n : Int) (w : World) :
    Calls Tryz.prog 116 #[.int .i64 n] w fun e w' => e = .returned (.agg #[.int .i64 2, .int .i64 n, .string nix, .slice none 0 0, .slice none 0 0]) ∧ Below w.heap.size w w' := by
 have h5 := heap_alloc_new w (.cells #[.int .i64 2, .int .i64 n, .string ⟨#[]⟩, .slice none 0 0, .slice none 0 0] 25)
 have k0 := five_c0 h5; have k1 := five_c1 h5; have k2 := five_c2 h5; have k3 := five_c3 h5; have k4 := five_c4 h5
 go_enter Tryz.func116, Tryz.ntmps116
 go_wp2
 refine bodyPost_ret (v := .agg #[.int .i64 2, .int .i64 n, .string ⟨#[]⟩, .slice none 0 0, .slice none 0 0]) (by simp [results, Tryz.results116, go_sem, k0, k1, k2, k3, k4]) rfl ?_
 exact ⟨rfl, (Below.refl _ _).alloc (Nat.le_refl _) _⟩
end Go.Proofs.YtldegjjaknelgaaGreatDoor

/-
  On which types and keys an event hangs: by a contract.
  Rows of events with their names that a call builds.
  What is heard of an event by a state: by a contract.
  open: the walk.
-/
import Derived.Test.YtldegjjaknelgaaGreatDoorAY14
import Derived.Laws.AppendOwn
set_option maxRecDepth 100000
set_option maxHeartbeats 16000000
namespace Go.Proofs.YtldegjjaknelgaaGreatDoor
open Go.RowKit
abbrev Ent := ByteArray × ByteArray
def flatE (l : List Ent) : List Value := l.flatMap fun x => [.string x.1, .string x.2, .string ⟨#[]⟩]
theorem flatE_append (l m : List Ent) : flatE (l ++ m) = flatE l ++ flatE m := by simp [flatE]
theorem flatE_get : ∀ (l : List Ent) (j : Nat), j < l.length → (flatE l)[j * 3]? = some (.string (l.getD j (nix, nix)).1) ∧ (flatE l)[j * 3 + 1]? = some (.string (l.getD j (nix, nix)).2) ∧ (flatE l)[j * 3 + 2]? = some (.string ⟨#[]⟩)
 | [], j, h => absurd h (by simp)
 | a :: r, 0, _ => ⟨rfl, rfl, rfl⟩
 | a :: r, j + 1, h => by
  have := flatE_get r j (by simpa using h)
  rw [show (j + 1) * 3 = j * 3 + 1 + 1 + 1 by omega]
  exact this
def RdT (O : Nat → Prop) (w : World) (p : Option Addr) (c : Nat) (l : List Ent) : Prop :=
 l.length ≤ c ∧ ∀ j, j < l.length → ∃ b o, p = some ⟨b, o, none⟩ ∧ O b ∧ w.cell? ⟨b, o + j * 3, none⟩ = some (.string (l.getD j (nix, nix)).1) ∧ w.cell? ⟨b, o + j * 3 + 1, none⟩ = some (.string (l.getD j (nix, nix)).2) ∧ w.cell? ⟨b, o + j * 3 + 2, none⟩ = some (.string ⟨#[]⟩)
theorem RdT.nil (O : Nat → Prop) (w : World) (c : Nat) (p : Option Addr) : RdT O w p c [] := ⟨Nat.zero_le _, fun j hj => absurd hj (by simp)⟩
theorem RdT.carry {O O' : Nat → Prop} {w w' : World} {p : Option Addr} {c : Nat} {l : List Ent} (h : RdT O w p c l) (hO : ∀ k, O k → O' k ∧ w'.heap[k]? = w.heap[k]?) : RdT O' w' p c l :=
 ⟨h.1, fun j hj => by
  obtain ⟨b, o, hp, hB, h1, h2, h3⟩ := h.2 j hj
  exact ⟨b, o, hp, (hO _ hB).1, (World.cell?_of_block (a := ⟨b, o + j * 3, none⟩) (hO _ hB).2).trans h1, (World.cell?_of_block (a := ⟨b, o + j * 3 + 1, none⟩) (hO _ hB).2).trans h2, (World.cell?_of_block (a := ⟨b, o + j * 3 + 2, none⟩) (hO _ hB).2).trans h3⟩⟩
def wantT (e : Ev) : List Ent := if eqT e.typ tCreate then [] else
 [(tCreate, ⟨#[]⟩), (tPower, ⟨#[]⟩), (tMember, e.sender)] ++
  (if e.st && eqT e.typ tMember then (if eqT e.key e.sender then [] else [(tMember, e.key)]) ++ (if eqT (textT e.content nMemb) vJoin || eqT (textT e.content nMemb) vInvite then [(tRules, ⟨#[]⟩)] else []) else [])
theorem rdT_of_own {w : World} {base : Nat} {v : Value} {l : List Ent} (h : w.ownsRow base 39 3 v l.length (flatE l)) : ∃ q c, v = .slice q l.length c ∧ RdT (fun b => base ≤ b ∧ b < w.heap.size) w q c l := by
 obtain ⟨_, ⟨rfl, h0⟩ | ⟨g, cap, cur, rfl, hb, hg, hn, _, hc, ht⟩⟩ := h
 · obtain rfl : l = [] := List.eq_nil_of_length_eq_zero h0
   exact ⟨none, 0, rfl, RdT.nil _ _ _ _⟩
 · refine ⟨_, _, rfl, hn, fun j hj => ?_⟩
   obtain ⟨g1, g2, g3⟩ := flatE_get l j hj
   rw [← ht, List.getElem?_take, if_pos (by omega)] at g1 g2 g3
   refine ⟨g, 0, rfl, ⟨hb, objP_lt hg⟩, ?_, ?_, ?_⟩
   · rw [Nat.zero_add]
     exact cellP hg (j * 3) _ (by simpa using g1)
   · rw [Nat.zero_add]
     exact cellP hg (j * 3 + 1) _ (by simpa using g2)
   · rw [Nat.zero_add]
     exact cellP hg (j * 3 + 2) _ (by simpa using g3)
theorem infoEnt : (Tryz.prog.info? 39).map (fun i => (i.size, i.bytes, i.zero)) = some (3, 48, some (.agg #[.string ⟨#[]⟩, .string ⟨#[]⟩, .string ⟨#[]⟩])) := by kernel_rfl
theorem wpList_append_ent {w : World} {ops : Array Oper} {rest : List Oper} {o : Oper} {a : Act} {Q : Exit → Act → World → Prop} (hgd : o.guard = none) (s x : Operand)
    (ho : o.op = .call { callee := .builtin .append, args := #[s, x], argTypes := #[36, 36] })
    (base : Nat) (v : Value) (L : List Ent) (hs : a.eval s = v) (hown : w.ownsRow base 39 3 v L.length (flatE L)) (g c : Nat) (y : Ent) (hx : a.eval x = .slice (some ⟨g, 0, none⟩) 1 c) (hg : w.heap[g]? = some (.cells #[.string y.1, .string y.2, .string ⟨#[]⟩] 39 (0, 0)))
    (hlen : L.length ≤ 100000) (hbase : base ≤ w.heap.size)
    (h : ∀ v' w', w'.ownsRow base 39 3 v' (L ++ [y]).length (flatE (L ++ [y])) → w.grownBy w' v.ownBlock → wpList Tryz.prog ops Q rest (a.put o.dst v') w') : wpList Tryz.prog ops Q (o :: rest) a w := by
 obtain ⟨i, hi, hi2⟩ := Option.map_eq_some_iff.1 infoEnt
 simp only [Prod.mk.injEq] at hi2
 obtain ⟨hz0, hz1, hz2⟩ := hi2
 refine wpList_append_own w hgd s x 36 ho base 39 i _ 3 48 Tryz.underlying36 hi hz2 hz0 hz1 rfl (by decide) v L.length (flatE L) hs hown ⟨g, 0, none⟩ 1 c [.string y.1, .string y.2, .string ⟨#[]⟩] hx rfl (fun j u hu => ?_) (fun u hu => ?_) (by unfold maxLen; omega) (by omega) hbase ?_
 · have ea : (⟨g, 0, none⟩ : Addr).add j = ⟨g, j, none⟩ := by unfold Addr.add; split <;> simp_all
   rw [ea]
   exact cellP hg j u (by simpa using hu)
 · simp only [List.mem_cons, List.not_mem_nil, or_false] at hu
   rcases hu with rfl | rfl | rfl <;> rfl
 · intro v' w' hown' hgrow _
   exact h v' w' (by rw [List.length_append, flatE_append]; exact hown') hgrow
theorem grown_below {w w' : World} {row : Option Nat} {B : Nat} (h : w.grownBy w' row) (hB : B ≤ w.heap.size) (hr : ∀ k, row = some k → B ≤ k) : Below B w w' :=
 ⟨h.os, h.tape, h.output, h.size, fun k hk => h.block k (Nat.lt_of_lt_of_le hk hB) fun e => by have := hr k e.symm; omega⟩
theorem wanted_any {O : Nat → Prop} {w : World} {e : Ev} {p : Pt} (h : IsE O w e p) (hO : ∀ b, O b → b < w.heap.size) (hz : SzE e) :
    Calls Tryz.prog 14 #[valE e p] w fun x w' => (∃ q c, x = .returned (.slice q (wantT e).length c) ∧ RdT (fun b => w.heap.size ≤ b ∧ b < w'.heap.size) w' q c (wantT e)) ∧ Below w.heap.size w w' := by
 obtain ⟨W0, hW0⟩ : ∃ W0, W0 = w.alloc (.cells (cellsE e p).toArray 28) := ⟨_, rfl⟩
 have hb0 : Below w.heap.size w W0 := by rw [hW0]; exact (Below.refl _ _).alloc (Nat.le_refl _) _
 have hX0 : W0.heap[w.heap.size]? = some (.cells (cellsE e p).toArray 28 (0, 0)) := by rw [hW0]; exact newP _
 have HS0 : Hid (W0.heap.size = w.heap.size + 1) := by show _ = _; rw [hW0]; simp
 have hV := isV_new h hO hb0 hX0
 have HV : Hid (∀ X, Below W0.heap.size W0 X → IsV X w.heap.size e p) := fun X hX => hV.below hX
 have HTx : Hid (∀ X, Below W0.heap.size W0 X → Calls Tryz.prog 31 #[.agg #[.int .i64 e.content.kind, .int .i64 e.content.int, .string e.content.text, .slice p.pk e.content.keys.length p.ck, .slice p.pl e.content.list.length p.cl], .string nMemb] X fun x w' => x = .returned (.string (textT e.content nMemb)) ∧ Below X.heap.size X w') := fun X hX => atext_any (O := (· < X.heap.size)) (j := e.content) (HV.out X hX).ev.cont (fun _ h => h) (szP_keys hz.cont) nMemb
 have HW : Hid (wantT e = if eqT e.typ tCreate then [] else [(tCreate, ⟨#[]⟩), (tPower, ⟨#[]⟩), (tMember, e.sender)] ++ (if e.st && eqT e.typ tMember then (if eqT e.key e.sender then [] else [(tMember, e.key)]) ++ (if eqT (textT e.content nMemb) vJoin || eqT (textT e.content nMemb) vInvite then [(tRules, ⟨#[]⟩)] else []) else [])) := rfl
 have HEND : Hid (∀ (l : List Ent) v W, wantT e = l → W.ownsRow W0.heap.size 39 3 v l.length (flatE l) → Below W0.heap.size W0 W → (∃ q c, Ending.returned v = .returned (.slice q (wantT e).length c) ∧ RdT (fun b => w.heap.size ≤ b ∧ b < W.heap.size) W q c (wantT e)) ∧ Below w.heap.size w W) := fun l v W hl ho hb => by
  obtain ⟨q, c, rfl, hr⟩ := rdT_of_own ho
  rw [hl]
  exact ⟨⟨q, c, rfl, hr.carry fun k hk => ⟨⟨Nat.le_trans hb0.size hk.1, hk.2⟩, rfl⟩⟩, belowP hb0 hb⟩
 have et := hV.typ
 clear h hV hX0 hz
 unfold valE
 unfold eqT at HW
 rw [lit_tCreate, lit_tMember, lit_vJoin, lit_vInvite] at HW
 cases hc : (e.typ.toList == [109, 46, 114, 111, 111, 109, 46, 99, 114, 101, 97, 116, 101]) with
 | true =>
  have HT : Hid (wantT e = []) := by show _ = _; rw [HW.out, if_pos hc]
  go_enter Tryz.func14, Tryz.ntmps14
  go_upto_region 1 with fail
  rw [← hW0]
  clear hW0
  go_wp2
  go_ret
  exact HEND.out [] _ _ HT.out (World.ownsRow_nil _ _ _ _) (Below.refl _ _)
 | false =>
  have HT : Hid (wantT e = [(tCreate, ⟨#[]⟩), (tPower, ⟨#[]⟩), (tMember, e.sender)] ++ (if e.st && (e.typ.toList == [109, 46, 114, 111, 111, 109, 46, 109, 101, 109, 98, 101, 114]) then (if e.key.toList == e.sender.toList then [] else [(tMember, e.key)]) ++ (if (textT e.content nMemb).toList == [106, 111, 105, 110] || (textT e.content nMemb).toList == [105, 110, 118, 105, 116, 101] then [(tRules, ⟨#[]⟩)] else []) else [])) := by show _ = _; rw [HW.out, if_neg (by rw [hc]; decide)]
  clear HW
  have es := (HV.out W0 (Below.refl _ _)).sender
  go_enter Tryz.func14, Tryz.ntmps14
  go_upto_region 1 with fail
  rw [← hW0]
  clear hW0
  go_upto_region 4 with fail
  obtain ⟨W1, hW1⟩ : ∃ W1, W1 = W0.alloc (.cells #[.string tCreate, .string ⟨#[]⟩, .string ⟨#[]⟩, .string tPower, .string ⟨#[]⟩, .string ⟨#[]⟩, .string tMember, .string e.sender, .string ⟨#[]⟩] 39) := ⟨_, rfl⟩
  have hb1 : Below W0.heap.size W0 W1 := by rw [hW1]; exact (Below.refl _ _).alloc (Nat.le_refl _) _
  have hX1 : W1.heap[W0.heap.size]? = some (.cells #[.string tCreate, .string ⟨#[]⟩, .string ⟨#[]⟩, .string tPower, .string ⟨#[]⟩, .string ⟨#[]⟩, .string tMember, .string e.sender, .string ⟨#[]⟩] 39 (0, 0)) := by rw [hW1]; exact newP _
  have HO1 : Hid (W1.ownsRow W0.heap.size 39 3 (.slice (some ⟨W0.heap.size, 0, none⟩) 3 3) 3 (flatE [(tCreate, ⟨#[]⟩), (tPower, ⟨#[]⟩), (tMember, e.sender)])) := ⟨rfl, .inr ⟨W0.heap.size, 3, _, rfl, Nat.le_refl _, hX1, Nat.le_refl _, by decide, rfl, rfl⟩⟩
  change Code.wp _ _ _ _ (W0.alloc (.cells #[.string tCreate, .string ⟨#[]⟩, .string ⟨#[]⟩, .string tPower, .string ⟨#[]⟩, .string ⟨#[]⟩, .string tMember, .string e.sender, .string ⟨#[]⟩] 39))
  rw [← hW1]
  clear hW1 hX1 et es
  have hV1 := HV.out W1 hb1
  have et := hV1.typ
  have est := hV1.isSt
  have ek := hV1.key
  have es := hV1.sender
  have HRJ := (show Hid _ from hV1.rangeJ)
  clear hV1
  generalize hst : e.st = st at est HT
  cases st with
  | false =>
   go_wp2
   go_ret
   exact HEND.out _ _ _ HT.out HO1.out hb1
  | true =>
   cases hm : (e.typ.toList == [109, 46, 114, 111, 111, 109, 46, 109, 101, 109, 98, 101, 114]) with
   | false =>
    go_wp2
    go_ret
    refine HEND.out _ _ _ ?_ HO1.out hb1
    rw [HT.out, hm]
    rfl
   | true =>
    have HT2 : Hid (wantT e = [(tCreate, ⟨#[]⟩), (tPower, ⟨#[]⟩), (tMember, e.sender)] ++ ((if e.key.toList == e.sender.toList then [] else [(tMember, e.key)]) ++ (if (textT e.content nMemb).toList == [106, 111, 105, 110] || (textT e.content nMemb).toList == [105, 110, 118, 105, 116, 101] then [(tRules, ⟨#[]⟩)] else []))) := by show _ = _; rw [HT.out, hm]; rfl
    clear HT
    generalize textT e.content nMemb = m at HTx HT2
    cases hk : (e.key.toList == e.sender.toList) with
    | true =>
     have hTx := HTx.out W1 hb1
     rw [hk] at HT2
     go_upto_region 9 with (first
      | (refine wpList_load_mid rfl 25 _ rfl w.heap.size 5 rfl _ _ HRJ.out Tryz.underlying25 rfl (by kernel_rfl) ?_)
      | (go_at_call 31; refine hTx.mono ?_; rintro x W2 ⟨rfl, hb2⟩))
     have hB2 : Below W0.heap.size W0 W2 := belowP hb1 hb2
     have HO2 : Hid (W2.ownsRow W0.heap.size 39 3 (.slice (some ⟨W0.heap.size, 0, none⟩) 3 3) [(tCreate, ⟨#[]⟩), (tPower, ⟨#[]⟩), (tMember, e.sender)].length (flatE [(tCreate, ⟨#[]⟩), (tPower, ⟨#[]⟩), (tMember, e.sender)])) := by
      obtain ⟨h1, ⟨h2, _⟩ | ⟨g, cap, cur, h2, h3, h4, h5⟩⟩ := HO1.out
      · cases h2
      · exact ⟨h1, .inr ⟨g, cap, cur, h2, h3, (hb2.block g (objP_lt h4)).trans h4, h5⟩⟩
     cases hj : (m.toList == [106, 111, 105, 110]) with
     | true =>
      go_wp2_with (refine wpList_append_ent rfl _ _ rfl W0.heap.size (.slice (some ⟨W0.heap.size, 0, none⟩) 3 3) [(tCreate, ⟨#[]⟩), (tPower, ⟨#[]⟩), (tMember, e.sender)] rfl ((HO2.out).alloc _) W2.heap.size 1 (tRules, ⟨#[]⟩) rfl (newP _) (by simp) (by simp; exact Nat.le_trans hB2.size (Nat.le_succ _)) fun v9 W9 ho9 hg9 => ?_)
      go_ret
      exact HEND.out _ _ _ (by rw [HT2.out, hj]; rfl) ho9 (hB2.trans (((Below.refl W0.heap.size W2).alloc hB2.size _).trans (grown_below hg9 (by simp; exact Nat.le_trans hB2.size (Nat.le_succ _)) fun k hk => (HO2.out.lt k hk).1)))
     | false =>
      cases hi : (m.toList == [105, 110, 118, 105, 116, 101]) with
      | true =>
       go_wp2_with (refine wpList_append_ent rfl _ _ rfl W0.heap.size (.slice (some ⟨W0.heap.size, 0, none⟩) 3 3) [(tCreate, ⟨#[]⟩), (tPower, ⟨#[]⟩), (tMember, e.sender)] rfl ((HO2.out).alloc _) W2.heap.size 1 (tRules, ⟨#[]⟩) rfl (newP _) (by simp) (by simp; exact Nat.le_trans hB2.size (Nat.le_succ _)) fun v9 W9 ho9 hg9 => ?_)
       go_ret
       exact HEND.out _ _ _ (by rw [HT2.out, hj, hi]; rfl) ho9 (hB2.trans (((Below.refl W0.heap.size W2).alloc hB2.size _).trans (grown_below hg9 (by simp; exact Nat.le_trans hB2.size (Nat.le_succ _)) fun k hk => (HO2.out.lt k hk).1)))
      | false =>
       go_wp2
       go_ret
       exact HEND.out _ _ _ (by rw [HT2.out, hj, hi]; rfl) HO2.out hB2
    | false =>
     rw [hk] at HT2
     go_upto_region 8 with (refine wpList_append_ent rfl _ _ rfl W0.heap.size (.slice (some ⟨W0.heap.size, 0, none⟩) 3 3) [(tCreate, ⟨#[]⟩), (tPower, ⟨#[]⟩), (tMember, e.sender)] rfl ((HO1.out).alloc _) W1.heap.size 1 (tMember, e.key) rfl (newP _) (by simp) (by simp; exact Nat.le_trans hb1.size (Nat.le_succ _)) fun v1 W2 ho2 hg2 => ?_)
     have hB2 : Below W0.heap.size W0 W2 := hb1.trans (((Below.refl W0.heap.size W1).alloc hb1.size _).trans (grown_below hg2 (by simp; exact Nat.le_trans hb1.size (Nat.le_succ _)) fun k hk => (HO1.out.lt k hk).1))
     have HO2 : Hid (W2.ownsRow W0.heap.size 39 3 v1 ([(tCreate, ⟨#[]⟩), (tPower, ⟨#[]⟩), (tMember, e.sender)] ++ [(tMember, e.key)]).length (flatE ([(tCreate, ⟨#[]⟩), (tPower, ⟨#[]⟩), (tMember, e.sender)] ++ [(tMember, e.key)]))) := ho2
     have hTx := HTx.out W2 hB2
     have HRJ2 := (show Hid _ from (HV.out W2 hB2).rangeJ)
     clear ho2 hg2 HRJ HO1 hb1 et est ek es
     go_upto_region 9 with (first
      | (refine wpList_load_mid rfl 25 _ rfl w.heap.size 5 rfl _ _ HRJ2.out Tryz.underlying25 rfl (by kernel_rfl) ?_)
      | (go_at_call 31; refine hTx.mono ?_; rintro x W3 ⟨rfl, hb3⟩))
     have hB3 : Below W0.heap.size W0 W3 := belowP hB2 hb3
     have HO3 : Hid (W3.ownsRow W0.heap.size 39 3 v1 ([(tCreate, ⟨#[]⟩), (tPower, ⟨#[]⟩), (tMember, e.sender)] ++ [(tMember, e.key)]).length (flatE ([(tCreate, ⟨#[]⟩), (tPower, ⟨#[]⟩), (tMember, e.sender)] ++ [(tMember, e.key)]))) := by
      obtain ⟨h1, ⟨h2, h3⟩ | ⟨g, cap, cur, h2, h3, h4, h5⟩⟩ := HO2.out
      · exact ⟨h1, .inl ⟨h2, h3⟩⟩
      · exact ⟨h1, .inr ⟨g, cap, cur, h2, h3, (hb3.block g (objP_lt h4)).trans h4, h5⟩⟩
     cases hj : (m.toList == [106, 111, 105, 110]) with
     | true =>
      go_wp2_with (refine wpList_append_ent rfl _ _ rfl W0.heap.size v1 ([(tCreate, ⟨#[]⟩), (tPower, ⟨#[]⟩), (tMember, e.sender)] ++ [(tMember, e.key)]) rfl ((HO3.out).alloc _) W3.heap.size 1 (tRules, ⟨#[]⟩) rfl (newP _) (by simp) (by simp; exact Nat.le_trans hB3.size (Nat.le_succ _)) fun v9 W9 ho9 hg9 => ?_)
      go_ret
      exact HEND.out _ _ _ (by rw [HT2.out, hj]; rfl) ho9 (hB3.trans (((Below.refl W0.heap.size W3).alloc hB3.size _).trans (grown_below hg9 (by simp; exact Nat.le_trans hB3.size (Nat.le_succ _)) fun k hk => (HO3.out.lt k hk).1)))
     | false =>
      cases hi : (m.toList == [105, 110, 118, 105, 116, 101]) with
      | true =>
       go_wp2_with (refine wpList_append_ent rfl _ _ rfl W0.heap.size v1 ([(tCreate, ⟨#[]⟩), (tPower, ⟨#[]⟩), (tMember, e.sender)] ++ [(tMember, e.key)]) rfl ((HO3.out).alloc _) W3.heap.size 1 (tRules, ⟨#[]⟩) rfl (newP _) (by simp) (by simp; exact Nat.le_trans hB3.size (Nat.le_succ _)) fun v9 W9 ho9 hg9 => ?_)
       go_ret
       exact HEND.out _ _ _ (by rw [HT2.out, hj, hi]; rfl) ho9 (hB3.trans (((Below.refl W0.heap.size W3).alloc hB3.size _).trans (grown_below hg9 (by simp; exact Nat.le_trans hB3.size (Nat.le_succ _)) fun k hk => (HO3.out.lt k hk).1)))
      | false =>
       go_wp2
       go_ret
       exact HEND.out _ _ _ (by rw [HT2.out, hj, hi]; rfl) HO3.out hB3
abbrev Kp := Kn × Pt
abbrev zKp : Kp := (zK, Pt.zero)
def flatK (l : List Kp) : List Value := l.flatMap fun x => cellsK x.1 x.2
theorem flatK_append (l m : List Kp) : flatK (l ++ m) = flatK l ++ flatK m := by simp [flatK]
theorem flatK_get : ∀ (l : List Kp) (j n : Nat) (v : Value), j < l.length → (cellsK (l.getD j zKp).1 (l.getD j zKp).2)[n]? = some v → (flatK l)[j * 17 + n]? = some v
 | [], j, n, v, h, _ => by simp at h
 | a :: t, 0, n, v, _, hv => by
  have hn : n < 17 := by
   have := (List.getElem?_eq_some_iff.1 hv).1
   exact this
  have hv' : (cellsK a.1 a.2)[n]? = some v := hv
  rw [flatK, List.flatMap_cons, Nat.zero_mul, Nat.zero_add, List.getElem?_append_left hn]
  exact hv'
 | a :: t, j + 1, n, v, h, hv => by
  have hl : (cellsK a.1 a.2).length = 17 := rfl
  rw [flatK, List.flatMap_cons, List.getElem?_append_right (by rw [hl]; omega), hl, show (j + 1) * 17 + n - 17 = j * 17 + n by omega]
  exact flatK_get t j n v (by simpa using h) (by simpa using hv)
theorem rdE_of_own {O : Nat → Prop} {w : World} {base : Nat} {v : Value} {L : List Kp} (h : w.ownsRow base 41 17 v L.length (flatK L)) (hE : ∀ x ∈ L, IsE O w x.1.2 x.2) (hO : ∀ b, base ≤ b → b < w.heap.size → O b) : ∃ q c, v = .slice q (L.map Prod.fst).length c ∧ RdE O w q c (L.map Prod.fst) := by
 obtain ⟨_, ⟨rfl, h0⟩ | ⟨g, cap, cur, rfl, hb, hg, hn, _, hc, ht⟩⟩ := h
 · obtain rfl : L = [] := List.eq_nil_of_length_eq_zero h0
   exact ⟨none, 0, rfl, RdE.nil _ _ _ _⟩
 · have hlen : (L.map Prod.fst).length = L.length := List.length_map ..
   refine ⟨_, _, by rw [hlen], by rw [hlen]; exact hn, fun j hj => ?_⟩
   rw [hlen] at hj
   have hget : (L.map Prod.fst).getD j zK = (L.getD j zKp).1 := by
    rw [List.getD_eq_getElem?_getD, List.getD_eq_getElem?_getD, List.getElem?_map]
    cases L[j]? <;> rfl
   rw [hget]
   refine ⟨g, 0, (L.getD j zKp).2, rfl, hO g hb (objP_lt hg), fun n u hu => ?_, hE _ ?_⟩
   · have hn17 : n < 17 := (List.getElem?_eq_some_iff.1 hu).1
     have g1 := flatK_get L j n u hj hu
     rw [← ht, List.getElem?_take, if_pos (by omega)] at g1
     rw [Nat.zero_add]
     exact cellP hg (j * 17 + n) _ (by simpa using g1)
   · rw [List.getD_eq_getElem?_getD, List.getElem?_eq_getElem hj]
     exact List.getElem_mem hj
theorem infoKr : (Tryz.prog.info? 41).map (fun i => (i.size, i.bytes, i.zero)) = some (17, 272, some (.agg (cellsK zK Pt.zero).toArray)) := by kernel_rfl
theorem one_kr (k : Kn) (p : Pt) : ∀ u ∈ cellsK k p, u.oneCell' = true := by
 intro u hu
 simp only [cellsK, cellsE, List.mem_cons, List.not_mem_nil, or_false] at hu
 rcases hu with rfl | rfl | rfl | rfl | rfl | rfl | rfl | rfl | rfl | rfl | rfl | rfl | rfl | rfl | rfl | rfl | rfl <;> rfl
theorem wpList_append_kn {w : World} {ops : Array Oper} {rest : List Oper} {o : Oper} {a : Act} {Q : Exit → Act → World → Prop} (hgd : o.guard = none) (s x : Operand)
    (ho : o.op = .call { callee := .builtin .append, args := #[s, x], argTypes := #[29, 29] })
    (base : Nat) (v : Value) (L : List Kp) (hs : a.eval s = v) (hown : w.ownsRow base 41 17 v L.length (flatK L)) (g c : Nat) (y : Kp) (hx : a.eval x = .slice (some ⟨g, 0, none⟩) 1 c) (hg : w.heap[g]? = some (.cells (cellsK y.1 y.2).toArray 41 (0, 0)))
    (hlen : L.length ≤ 100000) (hbase : base ≤ w.heap.size)
    (h : ∀ v' w', w'.ownsRow base 41 17 v' (L ++ [y]).length (flatK (L ++ [y])) → w.grownBy w' v.ownBlock → wpList Tryz.prog ops Q rest (a.put o.dst v') w') : wpList Tryz.prog ops Q (o :: rest) a w := by
 obtain ⟨i, hi, hi2⟩ := Option.map_eq_some_iff.1 infoKr
 simp only [Prod.mk.injEq] at hi2
 obtain ⟨hz0, hz1, hz2⟩ := hi2
 refine wpList_append_own w hgd s x 29 ho base 41 i _ 17 272 Tryz.underlying29 hi hz2 hz0 hz1 rfl (by decide) v L.length (flatK L) hs hown ⟨g, 0, none⟩ 1 c (cellsK y.1 y.2) hx rfl (fun j u hu => ?_) (one_kr _ _) (by unfold maxLen; omega) (by omega) hbase ?_
 · have ea : (⟨g, 0, none⟩ : Addr).add j = ⟨g, j, none⟩ := by unfold Addr.add; split <;> simp_all
   rw [ea]
   exact cellP hg j u (by simpa using hu)
 · intro v' w' hown' hgrow _
   exact h v' w' (by rw [List.length_append, flatK_append]; simpa [flatK] using hown') hgrow
theorem wpList_append_kno {w : World} {ops : Array Oper} {rest : List Oper} {o : Oper} {a : Act} {Q : Exit → Act → World → Prop} (hgd : o.guard = none) (s x : Operand)
    (ho : o.op = .call { callee := .builtin .append, args := #[s, x], argTypes := #[29, 29] })
    (base : Nat) (v : Value) (L : List Kp) (hs : a.eval s = v) (hown : w.ownsRow base 41 17 v L.length (flatK L)) (g c : Nat) (y : Kp) (M : List Value) (hM : M = cellsK y.1 y.2) (hx : a.eval x = .slice (some ⟨g, 0, none⟩) 1 c) (hg : w.heap[g]? = some (.cells M.toArray 41 (0, 0)))
    (hlen : L.length ≤ 100000) (hbase : base ≤ w.heap.size)
    (h : ∀ v' w', w'.ownsRow base 41 17 v' (L ++ [y]).length (flatK (L ++ [y])) → w.grownBy w' v.ownBlock → wpList Tryz.prog ops Q rest (a.put o.dst v') w') : wpList Tryz.prog ops Q (o :: rest) a w := by
 subst hM
 exact wpList_append_kn hgd s x ho base v L hs hown g c y hx hg hlen hbase h
def OpenP (w' : World) : Option Hr → Ending → Prop
 | none, x => x = thrown false
 | some H, x => ∃ hb P, x = .returned (.pointer (some ⟨hb, 0, none⟩)) ∧ IsH w' hb H P
theorem szL_startH {s : ByteArray} (h : s.size ≤ 1000000000) : SzL (startL s) := ⟨⟨by simp, fun p hp => by simp at hp; subst hp; exact h⟩, ⟨by simp, fun p hp => by simp at hp⟩⟩
theorem open_sz {e : Ev} {l : List Kn} {H : Hr} (hz : SzE e) (hk : SzK l) (h : openT e l = some H) : SzH H := by
 unfold openT at h
 split at h
 · cases h
 · rename_i c hc
   split at h
   · split at h
     · cases h
     · rename_i v hv
       cases h
       refine ⟨hz, hk, ?_⟩
       unfold levT at hv
       split at hv
       · rename_i k hf
         split at hv
         · cases hv
           exact parse_sz (sz_less 12 13 _ (by decide) (hk.cont k (List.mem_of_find?_eq_some hf)))
         · cases hv
       · cases hv
         exact szL_startH (hk.snd c (List.mem_of_find?_eq_some hc))
   · cases h
theorem setCells_mid (b t : Nat) : ∀ (vs pre cur post : List Value) (w : World), w.heap[b]? = some (.cells (pre ++ (cur ++ post)).toArray t (0, 0)) → cur.length = vs.length → (w.setCells b pre.length vs).heap[b]? = some (.cells (pre ++ (vs ++ post)).toArray t (0, 0))
 | [], pre, cur, post, w, h, hl => by
  obtain rfl : cur = [] := List.eq_nil_of_length_eq_zero hl
  exact h
 | v :: r, pre, c :: cur, post, w, h, hl => by
  have h0 : (w.setCell ⟨b, pre.length, none⟩ v).heap[b]? = some (.cells ((pre ++ [v]) ++ (cur ++ post)).toArray t (0, 0)) := by
   rw [heap_setCell_same w b pre.length _ _ _ h]
   simp
  have := setCells_mid b t r (pre ++ [v]) cur post _ h0 (by simpa using hl)
  rw [List.length_append] at this
  simpa [World.setCells] using this
theorem setCells_keep (b : Nat) : ∀ (vs : List Value) (w : World) (i : Nat), Keep (OneP b) w (w.setCells b i vs)
 | [], w, _ => Keep.refl _ w
 | v :: r, w, i => (Keep.setCell (p := ⟨b, i, none⟩) (Keep.refl (OneP b) w) (fun _ => (rfl : b = b)) v).then (setCells_keep b r _ (i + 1))
theorem wpList_store_to {ops : Array Oper} {rest : List Oper} {op : Oper} {a : Act} {w : World} {Q : Exit → Act → World → Prop} (hgd : op.guard = none) (ty : TypeId) (x y : Operand) (ho : op.op = .store ty x y)
    (b o : Nat) (cells : Array Value) (hx : a.eval x = .pointer (some ⟨b, o, none⟩)) (hy : a.eval y = .agg cells)
    (ht : w.there b o cells.size) (hi : (Tryz.prog.info? ty).map (·.size) = some cells.size) (h1 : cells.all (·.oneCell') = true) (W' : World) (hW' : W' = w.setCells b o cells.toList)
    (h : wpList Tryz.prog ops Q rest (a.put op.dst undef) W') : wpList Tryz.prog ops Q (op :: rest) a w := by
 subst hW'
 exact wpList_store_mid hgd ty x y ho b o cells hx hy ht hi h1 h
section
variable {w : World} {hb : Nat} {h : Hr} {p : Ph}
def preH (h : Hr) (p : Ph) : List Value := cellsE h.e p.e ++ (.slice p.ps h.st.length p.cs :: cellsK (h.cn, h.ce) p.ce)
theorem there_H {vs : Lv} {q : Pl} (hX : w.heap[hb]? = some (.cells (cellsH h p).toArray 92 (0, 0))) : w.there hb 34 (cellsL vs q).toArray.size := fun j hj => by
 have hj9 : j < 9 := hj
 refine ⟨?_, fzP hX _⟩
 have hlt : 34 + j < (cellsH h p).toArray.size := by show 34 + j < 44; omega
 rw [cellP hX (34 + j) _ (Array.getElem?_eq_getElem hlt)]
 rfl
theorem mid_H {l : Lv} {q : Pl} (hX : w.heap[hb]? = some (.cells (cellsH h p).toArray 92 (0, 0))) : (w.setCells hb 34 (cellsL l q)).heap[hb]? = some (.cells (preH h p ++ (cellsL l q ++ [Value.bool h.told])).toArray 92 (0, 0)) :=
 setCells_mid hb 92 (cellsL l q) (preH h p) (cellsL h.l p.l) [Value.bool h.told] w hX rfl
end
theorem open_any {O : Nat → Prop} {w : World} {e : Ev} {p : Pt} {ps : Option Addr} {cs : Nat} {l : List Kn} (h : IsE O w e p) (hst : RdE O w ps cs l) (hO : ∀ b, O b → b < w.heap.size) (hk : SzK l) :
    Calls Tryz.prog 52 #[valE e p, .slice ps l.length cs] w fun x w' => OpenP w' (openT e l) x ∧ Below w.heap.size w w' := by
 obtain ⟨W0, hW0⟩ : ∃ W0, W0 = w.alloc (.cells (cellsE e p).toArray 28) := ⟨_, rfl⟩
 have hb0 : Below w.heap.size w W0 := by rw [hW0]; exact (Below.refl _ _).alloc (Nat.le_refl _) _
 have hX0 : W0.heap[w.heap.size]? = some (.cells (cellsE e p).toArray 28 (0, 0)) := by rw [hW0]; exact newP _
 have hV := isV_new h hO hb0 hX0
 have HV : Hid (∀ X, Below W0.heap.size W0 X → IsV X w.heap.size e p) := fun X hX => hV.below hX
 have HST : Hid (∀ X, Below W0.heap.size W0 X → RdE (· < X.heap.size) X ps cs l) := fun X hX => hst.carry fun k hk => ⟨Nat.lt_of_lt_of_le (hO k hk) (belowP hb0 hX).size, (belowP hb0 hX).block k (hO k hk)⟩
 have HF : Hid (∀ (kind : ByteArray) X, Below W0.heap.size W0 X → Calls Tryz.prog 81 #[.slice ps l.length cs, .string kind, .string ⟨#[]⟩] X fun e w' => (∃ q, e = .returned (.tuple #[valK ((findT l kind ⟨#[]⟩).getD zK) q, .bool (findT l kind ⟨#[]⟩).isSome]) ∧ IsE (· < X.heap.size) w' ((findT l kind ⟨#[]⟩).getD zK).2 q) ∧ Below X.heap.size X w') := fun kind X hX => find_got (HST.out X hX) (fun _ h => h) hk.len kind ⟨#[]⟩
 have hF1 := HF.out tCreate W0 (Below.refl _ _)
 have HF2 := (show Hid _ from HF.out tPower)
 have HE0 : Hid (∀ X, Below w.heap.size w X → IsE (· < w.heap.size) X e p ∧ RdE (· < w.heap.size) X ps cs l) := fun X hX => ⟨h.carry fun k hk => ⟨hO k hk, hX.block k (hO k hk)⟩, hst.carry fun k hk => ⟨hO k hk, hX.block k (hO k hk)⟩⟩
 have HSC : Hid (∀ k, findT l tPower ⟨#[]⟩ = some k → szJ 12 k.2.content = true) := fun k hf => sz_less 12 13 _ (by decide) (hk.cont k (List.mem_of_find?_eq_some hf))
 have HO : Hid (openT e l = match findT l tCreate ⟨#[]⟩ with | none => none | some c => if eqT c.2.room e.room then (match levT l c.2.sender with | none => none | some v => some ⟨e, l, c.1, c.2, v, (findT l tPower ⟨#[]⟩).isSome⟩) else none) := rfl
 clear h hst hV hX0 HF hk
 unfold valE
 generalize findT l tCreate ⟨#[]⟩ = oc at hF1 HO
 cases oc with
 | none =>
  have HT : Hid (openT e l = none) := HO.out
  clear HO
  simp only [Option.getD_none, Option.isSome_none] at hF1
  go_enter Tryz.func52, Tryz.ntmps52
  go_upto_region 1 with fail
  rw [← hW0]
  clear hW0
  go_wp2_with (first
   | (go_at_call 81; refine hF1.mono ?_; rintro e w1 ⟨⟨q, rfl, _⟩, hb1⟩; unfold valK)
   | (refine wpList_store_row rfl 41 _ _ rfl w1.heap.size 41 _ (cellsK zK q).toArray rfl rfl (newP _) infoK rfl (one_K zK q) ?_)
   | (go_at_call 54; refine (noIf_any _ _).mono ?_; rintro e wn ⟨he, rfl⟩; replace he : e = _ := he; subst he))
  refine ⟨rfl, by rw [HT.out]; rfl, belowP hb0 (belowP hb1 ?_)⟩
  exact ((Below.refl _ _).alloc (Nat.le_refl _) _).trans ((keep_setRow _ w1.heap.size _).below (by simp) fun q hq e => by unfold OneP at e; omega)
 | some c =>
  simp only [Option.getD_some, Option.isSome_some] at hF1 HO
  go_enter Tryz.func52, Tryz.ntmps52
  go_upto_region 1 with fail
  rw [← hW0]
  clear hW0
  go_upto_region 2 with (first
   | (go_at_call 81; refine hF1.mono ?_; rintro e w1 ⟨⟨q, rfl, hIc⟩, hb1⟩; unfold valK)
   | (refine wpList_store_row rfl 41 _ _ rfl w1.heap.size 41 _ (cellsK c q).toArray rfl rfl (newP _) infoK rfl (one_K c q) ?_))
  have hbA : Below w1.heap.size w1 ((w1.alloc (.cells (cellsK zK Pt.zero).toArray 41)).setRow w1.heap.size (cellsK c q).toArray) :=
   ((Below.refl _ _).alloc (Nat.le_refl _) _).trans ((keep_setRow _ w1.heap.size _).below (by simp) fun q hq e => by unfold OneP at e; omega)
  have hX : ((w1.alloc (.cells (cellsK zK Pt.zero).toArray 41)).setRow w1.heap.size (cellsK c q).toArray).heap[w1.heap.size]? = some (.cells (cellsK c q).toArray 41 (0, 0)) := setRow_heap _ _ _ _ _ _ (newP _)
  change Code.wp _ _ _ _ ((w1.alloc (.cells (cellsK zK Pt.zero).toArray 41)).setRow w1.heap.size (cellsK c q).toArray)
  generalize (w1.alloc (.cells (cellsK zK Pt.zero).toArray 41)).setRow w1.heap.size (cellsK c q).toArray = W at hbA hX
  have hBW : Below W0.heap.size W0 W := belowP hb1 hbA
  have HB : Hid (∀ X, Below W.heap.size W X → Below w.heap.size w X) := fun X hX => belowP hb0 (belowP hBW hX)
  have HVW : Hid (∀ X, Below W.heap.size W X → IsV X w.heap.size e p) := fun X hX => HV.out X (belowP hBW hX)
  have HSW : Hid (∀ X, Below W.heap.size W X → RdE (· < X.heap.size) X ps cs l) := fun X hX' => HST.out X (belowP hBW hX')
  have HFW : Hid (∀ X, Below W.heap.size W X → Calls Tryz.prog 81 #[.slice ps l.length cs, .string tPower, .string ⟨#[]⟩] X fun e w' => (∃ q, e = .returned (.tuple #[valK ((findT l tPower ⟨#[]⟩).getD zK) q, .bool (findT l tPower ⟨#[]⟩).isSome]) ∧ IsE (· < X.heap.size) w' ((findT l tPower ⟨#[]⟩).getD zK).2 q) ∧ Below X.heap.size X w') := fun X hX => HF2.out X (belowP hBW hX)
  have HKW : Hid (∀ X, Below W.heap.size W X → X.heap[w1.heap.size]? = some (.cells (cellsK c q).toArray 41 (0, 0)) ∧ IsE (· < X.heap.size) X c.2 q) := fun X hX' => ⟨(hX'.block _ (objP_lt hX)).trans hX, hIc.carry fun k hk => ⟨Nat.lt_of_lt_of_le (Nat.lt_of_lt_of_le hk hb1.size) (Nat.le_trans hbA.size hX'.size), (hX'.block k (Nat.lt_of_lt_of_le (Nat.lt_of_lt_of_le hk hb1.size) hbA.size)).trans (hbA.block k (Nat.lt_of_lt_of_le hk hb1.size))⟩⟩
  have er := (HVW.out W (Below.refl _ _)).room
  have cr : W.cell? ⟨w1.heap.size, 1, none⟩ = some (.string c.2.room) := cellP hX 1 _ rfl
  clear hF1 HF2 HV HST hIc hbA hX hBW hb1
  cases hr : (c.2.room.toList == e.room.toList) with
  | false =>
   have HT : Hid (openT e l = none) := by show _ = _; rw [HO.out]; exact if_neg (by show ¬ (eqT c.2.room e.room) = true; rw [show eqT c.2.room e.room = false from hr]; decide)
   clear HO
   go_wp2_with (go_at_call 54; refine (noIf_any _ _).mono ?_; rintro e wn ⟨he, rfl⟩; replace he : e = _ := he; subst he)
   exact ⟨rfl, by rw [HT.out]; rfl, HB.out _ (Below.refl _ _)⟩
  | true =>
   have HT : Hid (openT e l = match levT l c.2.sender with | none => none | some v => some ⟨e, l, c.1, c.2, v, (findT l tPower ⟨#[]⟩).isSome⟩) := by show _ = _; rw [HO.out]; exact if_pos hr
   clear HO
   go_upto_region 3 with (go_at_call 54; refine (noIf_any _ _).mono ?_; rintro e wn ⟨he, rfl⟩; replace he : e = _ := he; subst he)
   refine wp_region_in (by kernel_rfl) (fun w' => Below W.heap.size W w') ?_
   change wpIn _ _ _ _ _ _ _ _ (World.drew _)
   have hD : Below W.heap.size W W.drew := (Below.refl _ _).drew
   refine wpIn_take (i := 0) (d := (some 26)) (v := (valE e p)) (a' := ?aqo0) rfl rfl (by kernel_rfl) (by kernel_rfl) (by kernel_rfl) (fun _ _ _ h => h) (Or.inl ⟨by rfl, ?yqo0⟩) ?fqo0 ?_
   case yqo0 => exact fun wq hq => exec_loadR rfl rfl (run_loadAt_mid wq w.heap.size 0 28 (cellsE e p) _ (HVW.out wq hq).rangeE Tryz.underlying28 rfl infoE)
   case fqo0 => (go_frame; rfl)
   refine wpIn_tk (i := 1) (d := some 27) rfl ?_
   refine wpIn_take (i := 2) (d := (some 28)) (v := (valK c q)) (a' := ?aqo2) rfl rfl (by kernel_rfl) (by kernel_rfl) (by kernel_rfl) (fun _ _ _ h => h) (Or.inl ⟨by rfl, ?yqo2⟩) ?fqo2 ?_
   case yqo2 => exact fun wq hq => exec_loadR rfl rfl (run_loadAt_mid wq w1.heap.size 0 41 (cellsK c q) _ (range_of (HKW.out wq hq).1) Tryz.underlying41 rfl infoK)
   case fqo2 => (go_frame; rfl)
   refine wpIn_tk (i := 3) (d := some 29) rfl ?_
   refine wpIn_tk (i := 4) (d := some 30) rfl ?_
   refine wpIn_tp (i := 5) (d := some 31) rfl (by (intro wq hq; have zf : wq.cell? ⟨w1.heap.size, 3, none⟩ = some (.string c.2.sender) := cellP (HKW.out wq hq).1 3 _ rfl; go_simp; first | done | with_reducible rfl)) ?_
   refine wpIn_do (i := 6) hD (by kernel_rfl) rfl (by rfl) ?_
   intro K hK
   go_simp
   go_wp2_with (go_at_call 82; refine (start_lv c.2.sender).mono ?_; rintro x w2 ⟨⟨ql, rfl, hIl⟩, hbw2⟩)
   have hD6 : Below W.heap.size W w2 := belowP hD hbw2
   refine wpIn_take (i := 7) (d := (some 33)) (v := (.agg (cellsH ⟨e, l, c.1, c.2, startL c.2.sender, false⟩ ⟨p, ps, cs, q, ql⟩).toArray)) (a' := ?aqo7) rfl rfl (by kernel_rfl) (by kernel_rfl) (by kernel_rfl) (fun _ _ _ h => h) (Or.inl ⟨by rfl, ?yqo7⟩) ?fqo7 ?_
   case yqo7 => (intro wq hq; simp only [valE, valK, valL, cellsE, cellsK, cellsL]; go_simp; first | done | rfl)
   case fqo7 => (go_frame; rfl)
   refine wpIn_do (i := 8) hD6 (by kernel_rfl) rfl (by rfl) ?_
   intro K hK
   go_simp
   refine hK _ _ ?_
   clear hK K
   obtain ⟨W3, hW3⟩ : ∃ W3, W3 = w2.alloc (.cells (cellsH ⟨e, l, c.1, c.2, startL c.2.sender, false⟩ ⟨p, ps, cs, q, ql⟩).toArray 92) := ⟨_, rfl⟩
   have hb3 : Below w2.heap.size w2 W3 := by rw [hW3]; exact (Below.refl _ _).alloc (Nat.le_refl _) _
   have hX3 : W3.heap[w2.heap.size]? = some (.cells (cellsH ⟨e, l, c.1, c.2, startL c.2.sender, false⟩ ⟨p, ps, cs, q, ql⟩).toArray 92 (0, 0)) := by rw [hW3]; exact newP _
   have hD8 : Below W.heap.size W W3 := belowP hD6 hb3
   rw [← hW3]
   refine wpIn_tk (i := 9) (d := some 7) rfl ?_
   refine wpIn_done hD8 (by kernel_rfl) ?_ _
   have HTN : Hid (findT l tPower ⟨#[]⟩ = none → openT e l = some ⟨e, l, c.1, c.2, startL c.2.sender, false⟩) := fun hf => by rw [HT.out, levT, hf]; rfl
   have HTS : Hid (∀ k, findT l tPower ⟨#[]⟩ = some k → (parseT (ordT k.2.content)).2 = 0 → openT e l = some ⟨e, l, c.1, c.2, (parseT (ordT k.2.content)).1, true⟩) := fun k hf h0 => by rw [HT.out, levT, hf]; simp only []; rw [if_pos h0]; rfl
   have HTB : Hid (∀ k, findT l tPower ⟨#[]⟩ = some k → (parseT (ordT k.2.content)).2 = 1 → openT e l = none) := fun k hf h0 => by rw [HT.out, levT, hf]; simp only []; rw [if_neg (by rw [h0]; decide)]
   have HI3 : Hid (IsH W3 w2.heap.size ⟨e, l, c.1, c.2, startL c.2.sender, false⟩ ⟨p, ps, cs, q, ql⟩) := ⟨hX3, (HVW.out W3 hD8).ev, HSW.out W3 hD8, hIl.carry fun b hb => ⟨Nat.lt_of_lt_of_le hb.2 hb3.size, hb3.block b hb.2⟩⟩
   have hF := HFW.out W3 hD8
   have HS4 : Hid (w.heap.size ≤ w2.heap.size ∧ w2.heap.size < W3.heap.size) := ⟨(HB.out w2 hD6).size, objP_lt hX3⟩
   have HB3 : Hid (∀ X, Below W3.heap.size W3 X → Below w.heap.size w X) := fun X hX => HB.out X (belowP hD8 hX)
   clear HT hW3 hX3 hIl HVW HSW HFW HKW hD6 hD hD8 hb3 hbw2 er cr HB
   generalize findT l tPower ⟨#[]⟩ = op at hF HTN HTS HTB HSC
   cases op with
   | none =>
    have HTE := (show Hid _ from HTN.out rfl)
    clear HTN HTS HTB HSC
    simp only [Option.getD_none, Option.isSome_none] at hF
    go_wp2_with (first
     | (go_at_call 81; refine hF.mono ?_; rintro x w4 ⟨⟨qk, rfl, _⟩, hb4⟩; unfold valK)
     | (refine wpList_store_row rfl 41 _ _ rfl w4.heap.size 41 _ (cellsK zK qk).toArray rfl rfl (newP _) infoK rfl (one_K zK qk) ?_))
    go_ret
    have hbA : Below w4.heap.size w4 ((w4.alloc (.cells (cellsK zK Pt.zero).toArray 41)).setRow w4.heap.size (cellsK zK qk).toArray) :=
     ((Below.refl _ _).alloc (Nat.le_refl _) _).trans ((keep_setRow _ w4.heap.size _).below (by simp) fun q hq e => by unfold OneP at e; omega)
    refine ⟨?_, HB3.out _ (belowP hb4 hbA)⟩
    rw [HTE.out]
    exact ⟨_, ⟨p, ps, cs, q, ql⟩, rfl, HI3.out.below (belowP hb4 hbA)⟩
   | some k =>
    have HSK := (show Hid _ from HSC.out k rfl)
    simp only [Option.getD_some, Option.isSome_some] at hF
    go_upto_region 6 with (first
     | (go_at_call 81; refine hF.mono ?_; rintro x w4 ⟨⟨qk, rfl, hIk⟩, hb4⟩; unfold valK)
     | (refine wpList_store_row rfl 41 _ _ rfl w4.heap.size 41 _ (cellsK k qk).toArray rfl rfl (newP _) infoK rfl (one_K k qk) ?_))
    have hbA : Below w4.heap.size w4 ((w4.alloc (.cells (cellsK zK Pt.zero).toArray 41)).setRow w4.heap.size (cellsK k qk).toArray) :=
     ((Below.refl _ _).alloc (Nat.le_refl _) _).trans ((keep_setRow _ w4.heap.size _).below (by simp) fun q hq e => by unfold OneP at e; omega)
    have hX4 : ((w4.alloc (.cells (cellsK zK Pt.zero).toArray 41)).setRow w4.heap.size (cellsK k qk).toArray).heap[w4.heap.size]? = some (.cells (cellsK k qk).toArray 41 (0, 0)) := setRow_heap _ _ _ _ _ _ (newP _)
    change Code.wp _ _ _ _ ((w4.alloc (.cells (cellsK zK Pt.zero).toArray 41)).setRow w4.heap.size (cellsK k qk).toArray)
    generalize (w4.alloc (.cells (cellsK zK Pt.zero).toArray 41)).setRow w4.heap.size (cellsK k qk).toArray = W4 at hbA hX4
    have hB4 : Below W3.heap.size W3 W4 := belowP hb4 hbA
    have HR4 : Hid (W4.rangeAt w4.heap.size 1 (cellsE k.2 qk)) := range_sub hX4 1 rfl
    have hLv := levelsIn_any (O := (· < W3.heap.size)) (w := W4) (e := k.2) (p := qk) (hIk.carry fun b hb => ⟨hb, hbA.block b (Nat.lt_of_lt_of_le hb hb4.size)⟩) (fun b hb => Nat.lt_of_lt_of_le hb hB4.size) HSK.out
    have HTS1 := (show Hid _ from HTS.out k rfl)
    have HTB1 := (show Hid _ from HTB.out k rfl)
    clear HTN HTS HTB HSC hF hIk hX4 HSK
    unfold LevP at hLv
    unfold valE at hLv
    have HEE : Hid ((parseT (ordT k.2.content)).2 = 0 ∨ (parseT (ordT k.2.content)).2 = 1) := parse_err _
    generalize parseT (ordT k.2.content) = R at hLv HTS1 HTB1 HEE
    obtain ⟨L, E⟩ := R
    simp only at hLv HTS1 HTB1 HEE
    have HI4 := (show Hid _ from HI3.out.below hB4)
    rcases HEE.out with rfl | rfl
    · have hLv0 : Calls Tryz.prog 83 #[.agg (cellsE k.2 qk).toArray] W4 fun x w' => (∃ q2, x = .returned (.agg (cellsL L q2).toArray) ∧ IsL (fun b => W4.heap.size ≤ b ∧ b < w'.heap.size) w' L q2) ∧ Below W4.heap.size W4 w' := by
        refine hLv.mono fun x w' hh => ⟨?_, hh.2⟩
        rcases hh.1 with ⟨_, q2, hx, hi⟩ | ⟨hx, _⟩
        · exact ⟨q2, hx, hi⟩
        · exact absurd hx (by decide)
      have HTE := (show Hid _ from HTS1.out rfl)
      clear hLv HTS1 HTB1 HEE
      go_wp2_with (first
       | (refine wpList_load_mid rfl 28 _ rfl w4.heap.size 1 rfl (cellsE k.2 qk) _ HR4.out Tryz.underlying28 rfl infoE ?_)
       | (go_at_call 83; refine hLv0.mono ?_; rintro x w5 ⟨⟨q2, rfl, hI2⟩, hb5⟩
          have HX5 := (show Hid _ from (HI4.out.below hb5).blk)
          have HTH : Hid (w5.there w2.heap.size 34 (cellsL L q2).toArray.size) := there_H HX5.out
          obtain ⟨W5, hW5⟩ : ∃ W5, W5 = w5.setCells w2.heap.size 34 (cellsL L q2) := ⟨_, rfl⟩
          have HW5 := (show Hid _ from hW5)
          have HM := (show Hid _ from mid_H (l := L) (q := q2) HX5.out)
          rw [← hW5] at HM
          clear hW5
          have g43 : W5.cell? ⟨w2.heap.size, 43, none⟩ = some (.bool false) := cellP HM.out 43 _ rfl
          have z43 := fzP HM.out 43)
       | (refine wpList_store_to rfl 47 _ _ rfl w2.heap.size 34 (cellsL L q2).toArray rfl rfl HTH.out infoL (one_L L q2) W5 HW5.out ?_))
      go_ret
      have hk1 : Keep (OneP w2.heap.size) w5 W5 := by rw [HW5.out]; exact setCells_keep w2.heap.size (cellsL L q2) w5 34
      have hk2 : Keep (OneP w2.heap.size) w5 (W5.setCell ⟨w2.heap.size, 43, none⟩ (.bool true)) := Keep.setCell (S := OneP w2.heap.size) (p := ⟨w2.heap.size, 43, none⟩) hk1 (fun _ => (rfl : w2.heap.size = w2.heap.size)) _
      have hh : (W5.setCell ⟨w2.heap.size, 43, none⟩ (.bool true)).heap[w2.heap.size]? = some (.cells (cellsH ⟨e, l, c.1, c.2, L, true⟩ ⟨p, ps, cs, q, q2⟩).toArray 92 (0, 0)) := by rw [heap_setCell_same _ w2.heap.size 43 _ _ _ HM.out]; rfl
      have hB5 := HB3.out w5 (belowP hB4 hb5)
      have hs4 := HS4.out
      have hs5 := hB4.size
      have hbE : Below w.heap.size w (W5.setCell ⟨w2.heap.size, 43, none⟩ (.bool true)) := hB5.trans (hk2.below hB5.size fun k hk e => by unfold OneP at e; omega)
      have hIE := HE0.out _ hbE
      refine ⟨?_, hbE⟩
      rw [HTE.out]
      exact ⟨_, ⟨p, ps, cs, q, q2⟩, rfl, ⟨hh, hIE.1.carry fun k hk => ⟨Nat.lt_of_lt_of_le hk hbE.size, rfl⟩, hIE.2.carry fun k hk => ⟨Nat.lt_of_lt_of_le hk hbE.size, rfl⟩, hI2.carry fun b hb => ⟨Nat.lt_of_lt_of_le hb.2 hk2.size, hk2.block b hb.2 (by unfold OneP; have := hb.1; omega)⟩⟩⟩
    · have hLv1 : Calls Tryz.prog 83 #[.agg (cellsE k.2 qk).toArray] W4 fun x w' => x = thrown false ∧ Below W4.heap.size W4 w' := by
        refine hLv.mono fun x w' hh => ⟨?_, hh.2⟩
        rcases hh.1 with ⟨hx, _⟩ | ⟨_, hx⟩
        · exact absurd hx (by decide)
        · exact hx
      have HTE := (show Hid _ from HTB1.out rfl)
      clear hLv HTS1 HTB1 HEE
      go_wp2_with (first
       | (refine wpList_load_mid rfl 28 _ rfl w4.heap.size 1 rfl (cellsE k.2 qk) _ HR4.out Tryz.underlying28 rfl infoE ?_)
       | (go_at_call 83; refine hLv1.mono ?_; rintro x w5 ⟨rfl, hb5⟩))
      exact ⟨rfl, by rw [HTE.out]; rfl, HB3.out _ (belowP hB4 hb5)⟩
end Go.Proofs.YtldegjjaknelgaaGreatDoor

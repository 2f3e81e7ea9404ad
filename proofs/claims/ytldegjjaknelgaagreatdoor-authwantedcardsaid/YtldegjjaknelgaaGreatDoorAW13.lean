/-
  On which types and keys an event hangs: by a contract.
  The document's event of a type and a key, its text under a key, a user's membership: by contracts.
  The document's text under a key of an event's content, and a user's membership: by contracts.
  On which types and keys an event hangs, as the document says: by contracts.
  On which types and keys an event hangs, as the document says: its walk.
  Whether no two of a row are the same, by a set: a contract.
  A map or list that is being made, a key and a value after another: what lies in memory.
-/
import Derived.Test.YtldegjjaknelgaaGreatDoorAW12
import Derived.Laws.AppendOwn
import Derived.Laws.OwnMore
set_option maxRecDepth 100000
set_option maxHeartbeats 16000000
namespace Go.Proofs.YtldegjjaknelgaaGreatDoor
open Go.RowKit
abbrev Ent := ByteArray × ByteArray
def flatE (l : List Ent) : List Value := l.flatMap fun x => [.string x.1, .string x.2, .string ⟨#[]⟩]
theorem flatE_append (l m : List Ent) : flatE (l ++ m) = flatE l ++ flatE m := by simp [flatE]
theorem flatE_get : ∀ (l : List Ent) (j : Nat), j < l.length → (flatE l)[j * 3]? = some (.string (l.getD j (nix, nix)).1) ∧ (flatE l)[j * 3 + 1]? = some (.string (l.getD j (nix, nix)).2) ∧ (flatE l)[j * 3 + 2]? = some (.string ⟨#[]⟩)
 | [], j, h => absurd h (by simp)
 | a :: r, 0, _ => ⟨rfl, rfl, rfl⟩
 | a :: r, j + 1, h => by
  have := flatE_get r j (by simpa using h)
  rw [show (j + 1) * 3 = j * 3 + 1 + 1 + 1 by omega]
  exact this
def RdT (O : Nat → Prop) (w : World) (p : Option Addr) (c : Nat) (l : List Ent) : Prop :=
 l.length ≤ c ∧ ∀ j, j < l.length → ∃ b o, p = some ⟨b, o, none⟩ ∧ O b ∧ w.cell? ⟨b, o + j * 3, none⟩ = some (.string (l.getD j (nix, nix)).1) ∧ w.cell? ⟨b, o + j * 3 + 1, none⟩ = some (.string (l.getD j (nix, nix)).2) ∧ w.cell? ⟨b, o + j * 3 + 2, none⟩ = some (.string ⟨#[]⟩)
theorem RdT.nil (O : Nat → Prop) (w : World) (c : Nat) (p : Option Addr) : RdT O w p c [] := ⟨Nat.zero_le _, fun j hj => absurd hj (by simp)⟩
theorem RdT.carry {O O' : Nat → Prop} {w w' : World} {p : Option Addr} {c : Nat} {l : List Ent} (h : RdT O w p c l) (hO : ∀ k, O k → O' k ∧ w'.heap[k]? = w.heap[k]?) : RdT O' w' p c l :=
 ⟨h.1, fun j hj => by
  obtain ⟨b, o, hp, hB, h1, h2, h3⟩ := h.2 j hj
  exact ⟨b, o, hp, (hO _ hB).1, (World.cell?_of_block (a := ⟨b, o + j * 3, none⟩) (hO _ hB).2).trans h1, (World.cell?_of_block (a := ⟨b, o + j * 3 + 1, none⟩) (hO _ hB).2).trans h2, (World.cell?_of_block (a := ⟨b, o + j * 3 + 2, none⟩) (hO _ hB).2).trans h3⟩⟩
def wantT (e : Ev) : List Ent := if eqT e.typ tCreate then [] else
 [(tCreate, ⟨#[]⟩), (tPower, ⟨#[]⟩), (tMember, e.sender)] ++
  (if e.st && eqT e.typ tMember then (if eqT e.key e.sender then [] else [(tMember, e.key)]) ++ (if eqT (textT e.content nMemb) vJoin || eqT (textT e.content nMemb) vInvite then [(tRules, ⟨#[]⟩)] else []) else [])
theorem rdT_of_own {w : World} {base : Nat} {v : Value} {l : List Ent} (h : w.ownsRow base 39 3 v l.length (flatE l)) : ∃ q c, v = .slice q l.length c ∧ RdT (fun b => base ≤ b ∧ b < w.heap.size) w q c l := by
 obtain ⟨_, ⟨rfl, h0⟩ | ⟨g, cap, cur, rfl, hb, hg, hn, _, hc, ht⟩⟩ := h
 · obtain rfl : l = [] := List.eq_nil_of_length_eq_zero h0
   exact ⟨none, 0, rfl, RdT.nil _ _ _ _⟩
 · refine ⟨_, _, rfl, hn, fun j hj => ?_⟩
   obtain ⟨g1, g2, g3⟩ := flatE_get l j hj
   rw [← ht, List.getElem?_take, if_pos (by omega)] at g1 g2 g3
   refine ⟨g, 0, rfl, ⟨hb, objP_lt hg⟩, ?_, ?_, ?_⟩
   · rw [Nat.zero_add]
     exact cellP hg (j * 3) _ (by simpa using g1)
   · rw [Nat.zero_add]
     exact cellP hg (j * 3 + 1) _ (by simpa using g2)
   · rw [Nat.zero_add]
     exact cellP hg (j * 3 + 2) _ (by simpa using g3)
theorem infoEnt : (Tryz.prog.info? 39).map (fun i => (i.size, i.bytes, i.zero)) = some (3, 48, some (.agg #[.string ⟨#[]⟩, .string ⟨#[]⟩, .string ⟨#[]⟩])) := by kernel_rfl
theorem wpList_append_ent {w : World} {ops : Array Oper} {rest : List Oper} {o : Oper} {a : Act} {Q : Exit → Act → World → Prop} (hgd : o.guard = none) (s x : Operand)
    (ho : o.op = .call { callee := .builtin .append, args := #[s, x], argTypes := #[36, 36] })
    (base : Nat) (v : Value) (L : List Ent) (hs : a.eval s = v) (hown : w.ownsRow base 39 3 v L.length (flatE L)) (g c : Nat) (y : Ent) (hx : a.eval x = .slice (some ⟨g, 0, none⟩) 1 c) (hg : w.heap[g]? = some (.cells #[.string y.1, .string y.2, .string ⟨#[]⟩] 39 (0, 0)))
    (hlen : L.length ≤ 100000) (hbase : base ≤ w.heap.size)
    (h : ∀ v' w', w'.ownsRow base 39 3 v' (L ++ [y]).length (flatE (L ++ [y])) → w.grownBy w' v.ownBlock → wpList Tryz.prog ops Q rest (a.put o.dst v') w') : wpList Tryz.prog ops Q (o :: rest) a w := by
 obtain ⟨i, hi, hi2⟩ := Option.map_eq_some_iff.1 infoEnt
 simp only [Prod.mk.injEq] at hi2
 obtain ⟨hz0, hz1, hz2⟩ := hi2
 refine wpList_append_own w hgd s x 36 ho base 39 i _ 3 48 Tryz.underlying36 hi hz2 hz0 hz1 rfl (by decide) v L.length (flatE L) hs hown ⟨g, 0, none⟩ 1 c [.string y.1, .string y.2, .string ⟨#[]⟩] hx rfl (fun j u hu => ?_) (fun u hu => ?_) (by unfold maxLen; omega) (by omega) hbase ?_
 · have ea : (⟨g, 0, none⟩ : Addr).add j = ⟨g, j, none⟩ := by unfold Addr.add; split <;> simp_all
   rw [ea]
   exact cellP hg j u (by simpa using hu)
 · simp only [List.mem_cons, List.not_mem_nil, or_false] at hu
   rcases hu with rfl | rfl | rfl <;> rfl
 · intro v' w' hown' hgrow _
   exact h v' w' (by rw [List.length_append, flatE_append]; exact hown') hgrow
theorem grown_below {w w' : World} {row : Option Nat} {B : Nat} (h : w.grownBy w' row) (hB : B ≤ w.heap.size) (hr : ∀ k, row = some k → B ≤ k) : Below B w w' :=
 ⟨h.os, h.tape, h.output, h.size, fun k hk => h.block k (Nat.lt_of_lt_of_le hk hB) fun e => by have := hr k e.symm; omega⟩
theorem wanted_any {O : Nat → Prop} {w : World} {e : Ev} {p : Pt} (h : IsE O w e p) (hO : ∀ b, O b → b < w.heap.size) (hz : SzE e) :
    Calls Tryz.prog 14 #[valE e p] w fun x w' => (∃ q c, x = .returned (.slice q (wantT e).length c) ∧ RdT (fun b => w.heap.size ≤ b ∧ b < w'.heap.size) w' q c (wantT e)) ∧ Below w.heap.size w w' := by
 obtain ⟨W0, hW0⟩ : ∃ W0, W0 = w.alloc (.cells (cellsE e p).toArray 28) := ⟨_, rfl⟩
 have hb0 : Below w.heap.size w W0 := by rw [hW0]; exact (Below.refl _ _).alloc (Nat.le_refl _) _
 have hX0 : W0.heap[w.heap.size]? = some (.cells (cellsE e p).toArray 28 (0, 0)) := by rw [hW0]; exact newP _
 have HS0 : Hid (W0.heap.size = w.heap.size + 1) := by show _ = _; rw [hW0]; simp
 have hV := isV_new h hO hb0 hX0
 have HV : Hid (∀ X, Below W0.heap.size W0 X → IsV X w.heap.size e p) := fun X hX => hV.below hX
 have HTx : Hid (∀ X, Below W0.heap.size W0 X → Calls Tryz.prog 31 #[.agg #[.int .i64 e.content.kind, .int .i64 e.content.int, .string e.content.text, .slice p.pk e.content.keys.length p.ck, .slice p.pl e.content.list.length p.cl], .string nMemb] X fun x w' => x = .returned (.string (textT e.content nMemb)) ∧ Below X.heap.size X w') := fun X hX => atext_any (O := (· < X.heap.size)) (j := e.content) (HV.out X hX).ev.cont (fun _ h => h) (szP_keys hz.cont) nMemb
 have HW : Hid (wantT e = if eqT e.typ tCreate then [] else [(tCreate, ⟨#[]⟩), (tPower, ⟨#[]⟩), (tMember, e.sender)] ++ (if e.st && eqT e.typ tMember then (if eqT e.key e.sender then [] else [(tMember, e.key)]) ++ (if eqT (textT e.content nMemb) vJoin || eqT (textT e.content nMemb) vInvite then [(tRules, ⟨#[]⟩)] else []) else [])) := rfl
 have HEND : Hid (∀ (l : List Ent) v W, wantT e = l → W.ownsRow W0.heap.size 39 3 v l.length (flatE l) → Below W0.heap.size W0 W → (∃ q c, Ending.returned v = .returned (.slice q (wantT e).length c) ∧ RdT (fun b => w.heap.size ≤ b ∧ b < W.heap.size) W q c (wantT e)) ∧ Below w.heap.size w W) := fun l v W hl ho hb => by
  obtain ⟨q, c, rfl, hr⟩ := rdT_of_own ho
  rw [hl]
  exact ⟨⟨q, c, rfl, hr.carry fun k hk => ⟨⟨Nat.le_trans hb0.size hk.1, hk.2⟩, rfl⟩⟩, belowP hb0 hb⟩
 have et := hV.typ
 clear h hV hX0 hz
 unfold valE
 unfold eqT at HW
 rw [lit_tCreate, lit_tMember, lit_vJoin, lit_vInvite] at HW
 cases hc : (e.typ.toList == [109, 46, 114, 111, 111, 109, 46, 99, 114, 101, 97, 116, 101]) with
 | true =>
  have HT : Hid (wantT e = []) := by show _ = _; rw [HW.out, if_pos hc]
  go_enter Tryz.func14, Tryz.ntmps14
  go_upto_region 1 with fail
  rw [← hW0]
  clear hW0
  go_wp2
  go_ret
  exact HEND.out [] _ _ HT.out (World.ownsRow_nil _ _ _ _) (Below.refl _ _)
 | false =>
  have HT : Hid (wantT e = [(tCreate, ⟨#[]⟩), (tPower, ⟨#[]⟩), (tMember, e.sender)] ++ (if e.st && (e.typ.toList == [109, 46, 114, 111, 111, 109, 46, 109, 101, 109, 98, 101, 114]) then (if e.key.toList == e.sender.toList then [] else [(tMember, e.key)]) ++ (if (textT e.content nMemb).toList == [106, 111, 105, 110] || (textT e.content nMemb).toList == [105, 110, 118, 105, 116, 101] then [(tRules, ⟨#[]⟩)] else []) else [])) := by show _ = _; rw [HW.out, if_neg (by rw [hc]; decide)]
  clear HW
  have es := (HV.out W0 (Below.refl _ _)).sender
  go_enter Tryz.func14, Tryz.ntmps14
  go_upto_region 1 with fail
  rw [← hW0]
  clear hW0
  go_upto_region 4 with fail
  obtain ⟨W1, hW1⟩ : ∃ W1, W1 = W0.alloc (.cells #[.string tCreate, .string ⟨#[]⟩, .string ⟨#[]⟩, .string tPower, .string ⟨#[]⟩, .string ⟨#[]⟩, .string tMember, .string e.sender, .string ⟨#[]⟩] 39) := ⟨_, rfl⟩
  have hb1 : Below W0.heap.size W0 W1 := by rw [hW1]; exact (Below.refl _ _).alloc (Nat.le_refl _) _
  have hX1 : W1.heap[W0.heap.size]? = some (.cells #[.string tCreate, .string ⟨#[]⟩, .string ⟨#[]⟩, .string tPower, .string ⟨#[]⟩, .string ⟨#[]⟩, .string tMember, .string e.sender, .string ⟨#[]⟩] 39 (0, 0)) := by rw [hW1]; exact newP _
  have HO1 : Hid (W1.ownsRow W0.heap.size 39 3 (.slice (some ⟨W0.heap.size, 0, none⟩) 3 3) 3 (flatE [(tCreate, ⟨#[]⟩), (tPower, ⟨#[]⟩), (tMember, e.sender)])) := ⟨rfl, .inr ⟨W0.heap.size, 3, _, rfl, Nat.le_refl _, hX1, Nat.le_refl _, by decide, rfl, rfl⟩⟩
  change Code.wp _ _ _ _ (W0.alloc (.cells #[.string tCreate, .string ⟨#[]⟩, .string ⟨#[]⟩, .string tPower, .string ⟨#[]⟩, .string ⟨#[]⟩, .string tMember, .string e.sender, .string ⟨#[]⟩] 39))
  rw [← hW1]
  clear hW1 hX1 et es
  have hV1 := HV.out W1 hb1
  have et := hV1.typ
  have est := hV1.isSt
  have ek := hV1.key
  have es := hV1.sender
  have HRJ := (show Hid _ from hV1.rangeJ)
  clear hV1
  generalize hst : e.st = st at est HT
  cases st with
  | false =>
   go_wp2
   go_ret
   exact HEND.out _ _ _ HT.out HO1.out hb1
  | true =>
   cases hm : (e.typ.toList == [109, 46, 114, 111, 111, 109, 46, 109, 101, 109, 98, 101, 114]) with
   | false =>
    go_wp2
    go_ret
    refine HEND.out _ _ _ ?_ HO1.out hb1
    rw [HT.out, hm]
    rfl
   | true =>
    have HT2 : Hid (wantT e = [(tCreate, ⟨#[]⟩), (tPower, ⟨#[]⟩), (tMember, e.sender)] ++ ((if e.key.toList == e.sender.toList then [] else [(tMember, e.key)]) ++ (if (textT e.content nMemb).toList == [106, 111, 105, 110] || (textT e.content nMemb).toList == [105, 110, 118, 105, 116, 101] then [(tRules, ⟨#[]⟩)] else []))) := by show _ = _; rw [HT.out, hm]; rfl
    clear HT
    generalize textT e.content nMemb = m at HTx HT2
    cases hk : (e.key.toList == e.sender.toList) with
    | true =>
     have hTx := HTx.out W1 hb1
     rw [hk] at HT2
     go_upto_region 9 with (first
      | (refine wpList_load_mid rfl 25 _ rfl w.heap.size 5 rfl _ _ HRJ.out Tryz.underlying25 rfl (by kernel_rfl) ?_)
      | (go_at_call 31; refine hTx.mono ?_; rintro x W2 ⟨rfl, hb2⟩))
     have hB2 : Below W0.heap.size W0 W2 := belowP hb1 hb2
     have HO2 : Hid (W2.ownsRow W0.heap.size 39 3 (.slice (some ⟨W0.heap.size, 0, none⟩) 3 3) [(tCreate, ⟨#[]⟩), (tPower, ⟨#[]⟩), (tMember, e.sender)].length (flatE [(tCreate, ⟨#[]⟩), (tPower, ⟨#[]⟩), (tMember, e.sender)])) := by
      obtain ⟨h1, ⟨h2, _⟩ | ⟨g, cap, cur, h2, h3, h4, h5⟩⟩ := HO1.out
      · cases h2
      · exact ⟨h1, .inr ⟨g, cap, cur, h2, h3, (hb2.block g (objP_lt h4)).trans h4, h5⟩⟩
     cases hj : (m.toList == [106, 111, 105, 110]) with
     | true =>
      go_wp2_with (refine wpList_append_ent rfl _ _ rfl W0.heap.size (.slice (some ⟨W0.heap.size, 0, none⟩) 3 3) [(tCreate, ⟨#[]⟩), (tPower, ⟨#[]⟩), (tMember, e.sender)] rfl ((HO2.out).alloc _) W2.heap.size 1 (tRules, ⟨#[]⟩) rfl (newP _) (by simp) (by simp; exact Nat.le_trans hB2.size (Nat.le_succ _)) fun v9 W9 ho9 hg9 => ?_)
      go_ret
      exact HEND.out _ _ _ (by rw [HT2.out, hj]; rfl) ho9 (hB2.trans (((Below.refl W0.heap.size W2).alloc hB2.size _).trans (grown_below hg9 (by simp; exact Nat.le_trans hB2.size (Nat.le_succ _)) fun k hk => (HO2.out.lt k hk).1)))
     | false =>
      cases hi : (m.toList == [105, 110, 118, 105, 116, 101]) with
      | true =>
       go_wp2_with (refine wpList_append_ent rfl _ _ rfl W0.heap.size (.slice (some ⟨W0.heap.size, 0, none⟩) 3 3) [(tCreate, ⟨#[]⟩), (tPower, ⟨#[]⟩), (tMember, e.sender)] rfl ((HO2.out).alloc _) W2.heap.size 1 (tRules, ⟨#[]⟩) rfl (newP _) (by simp) (by simp; exact Nat.le_trans hB2.size (Nat.le_succ _)) fun v9 W9 ho9 hg9 => ?_)
       go_ret
       exact HEND.out _ _ _ (by rw [HT2.out, hj, hi]; rfl) ho9 (hB2.trans (((Below.refl W0.heap.size W2).alloc hB2.size _).trans (grown_below hg9 (by simp; exact Nat.le_trans hB2.size (Nat.le_succ _)) fun k hk => (HO2.out.lt k hk).1)))
      | false =>
       go_wp2
       go_ret
       exact HEND.out _ _ _ (by rw [HT2.out, hj, hi]; rfl) HO2.out hB2
    | false =>
     rw [hk] at HT2
     go_upto_region 8 with (refine wpList_append_ent rfl _ _ rfl W0.heap.size (.slice (some ⟨W0.heap.size, 0, none⟩) 3 3) [(tCreate, ⟨#[]⟩), (tPower, ⟨#[]⟩), (tMember, e.sender)] rfl ((HO1.out).alloc _) W1.heap.size 1 (tMember, e.key) rfl (newP _) (by simp) (by simp; exact Nat.le_trans hb1.size (Nat.le_succ _)) fun v1 W2 ho2 hg2 => ?_)
     have hB2 : Below W0.heap.size W0 W2 := hb1.trans (((Below.refl W0.heap.size W1).alloc hb1.size _).trans (grown_below hg2 (by simp; exact Nat.le_trans hb1.size (Nat.le_succ _)) fun k hk => (HO1.out.lt k hk).1))
     have HO2 : Hid (W2.ownsRow W0.heap.size 39 3 v1 ([(tCreate, ⟨#[]⟩), (tPower, ⟨#[]⟩), (tMember, e.sender)] ++ [(tMember, e.key)]).length (flatE ([(tCreate, ⟨#[]⟩), (tPower, ⟨#[]⟩), (tMember, e.sender)] ++ [(tMember, e.key)]))) := ho2
     have hTx := HTx.out W2 hB2
     have HRJ2 := (show Hid _ from (HV.out W2 hB2).rangeJ)
     clear ho2 hg2 HRJ HO1 hb1 et est ek es
     go_upto_region 9 with (first
      | (refine wpList_load_mid rfl 25 _ rfl w.heap.size 5 rfl _ _ HRJ2.out Tryz.underlying25 rfl (by kernel_rfl) ?_)
      | (go_at_call 31; refine hTx.mono ?_; rintro x W3 ⟨rfl, hb3⟩))
     have hB3 : Below W0.heap.size W0 W3 := belowP hB2 hb3
     have HO3 : Hid (W3.ownsRow W0.heap.size 39 3 v1 ([(tCreate, ⟨#[]⟩), (tPower, ⟨#[]⟩), (tMember, e.sender)] ++ [(tMember, e.key)]).length (flatE ([(tCreate, ⟨#[]⟩), (tPower, ⟨#[]⟩), (tMember, e.sender)] ++ [(tMember, e.key)]))) := by
      obtain ⟨h1, ⟨h2, h3⟩ | ⟨g, cap, cur, h2, h3, h4, h5⟩⟩ := HO2.out
      · exact ⟨h1, .inl ⟨h2, h3⟩⟩
      · exact ⟨h1, .inr ⟨g, cap, cur, h2, h3, (hb3.block g (objP_lt h4)).trans h4, h5⟩⟩
     cases hj : (m.toList == [106, 111, 105, 110]) with
     | true =>
      go_wp2_with (refine wpList_append_ent rfl _ _ rfl W0.heap.size v1 ([(tCreate, ⟨#[]⟩), (tPower, ⟨#[]⟩), (tMember, e.sender)] ++ [(tMember, e.key)]) rfl ((HO3.out).alloc _) W3.heap.size 1 (tRules, ⟨#[]⟩) rfl (newP _) (by simp) (by simp; exact Nat.le_trans hB3.size (Nat.le_succ _)) fun v9 W9 ho9 hg9 => ?_)
      go_ret
      exact HEND.out _ _ _ (by rw [HT2.out, hj]; rfl) ho9 (hB3.trans (((Below.refl W0.heap.size W3).alloc hB3.size _).trans (grown_below hg9 (by simp; exact Nat.le_trans hB3.size (Nat.le_succ _)) fun k hk => (HO3.out.lt k hk).1)))
     | false =>
      cases hi : (m.toList == [105, 110, 118, 105, 116, 101]) with
      | true =>
       go_wp2_with (refine wpList_append_ent rfl _ _ rfl W0.heap.size v1 ([(tCreate, ⟨#[]⟩), (tPower, ⟨#[]⟩), (tMember, e.sender)] ++ [(tMember, e.key)]) rfl ((HO3.out).alloc _) W3.heap.size 1 (tRules, ⟨#[]⟩) rfl (newP _) (by simp) (by simp; exact Nat.le_trans hB3.size (Nat.le_succ _)) fun v9 W9 ho9 hg9 => ?_)
       go_ret
       exact HEND.out _ _ _ (by rw [HT2.out, hj, hi]; rfl) ho9 (hB3.trans (((Below.refl W0.heap.size W3).alloc hB3.size _).trans (grown_below hg9 (by simp; exact Nat.le_trans hB3.size (Nat.le_succ _)) fun k hk => (HO3.out.lt k hk).1)))
      | false =>
       go_wp2
       go_ret
       exact HEND.out _ _ _ (by rw [HT2.out, hj, hi]; rfl) HO3.out hB3
theorem rtext_any {O : Nat → Prop} {w : World} {e : Ev} {p : Pt} (h : IsE O w e p) (hO : ∀ b, O b → b < w.heap.size) (hz : szJ 13 e.content = true) (s : ByteArray) :
    Calls Tryz.prog 19 #[valE e p, .string s] w fun x w' => x = .returned (.string (textT e.content s)) ∧ Below w.heap.size w w' := by
 obtain ⟨W0, hW0⟩ : ∃ W0, W0 = w.alloc (.cells (cellsE e p).toArray 28) := ⟨_, rfl⟩
 have hb0 : Below w.heap.size w W0 := by rw [hW0]; exact (Below.refl _ _).alloc (Nat.le_refl _) _
 have hX0 : W0.heap[w.heap.size]? = some (.cells (cellsE e p).toArray 28 (0, 0)) := by rw [hW0]; exact newP _
 have hV := isV_new h hO hb0 hX0
 have HRJ := (show Hid _ from hV.rangeJ)
 have hG := get_any (O := (· < W0.heap.size)) (w := W0) (j := e.content) hV.ev.cont (fun _ h => h) (szP_keys hz) s
 have HT : Hid (textT e.content s = txtT (getT e.content s)) := rfl
 clear h hV hX0 hz
 unfold valE
 generalize getT e.content s = g at hG HT
 cases g with
 | none =>
  unfold UnderT zJP at hG
  go_enter Tryz.func19, Tryz.ntmps19
  go_upto_region 1 with fail
  rw [← hW0]
  clear hW0
  go_wp2_with (first
   | (refine wpList_load_mid rfl 25 _ rfl w.heap.size 5 rfl _ _ HRJ.out Tryz.underlying25 rfl (by kernel_rfl) ?_)
   | (go_at_call 43; refine hG.mono ?_; rintro x w1 ⟨rfl, hb1⟩))
  go_ret
  exact ⟨by rw [HT.out]; rfl, belowP hb0 (belowP hb1 ((Below.refl _ _).alloc (Nat.le_refl _) _))⟩
 | some v =>
  obtain ⟨vk, vi, vt, vks, vls⟩ := v
  unfold UnderT at hG
  have hG2 : Calls Tryz.prog 43 #[.agg #[.int .i64 e.content.kind, .int .i64 e.content.int, .string e.content.text, .slice p.pk e.content.keys.length p.ck, .slice p.pl e.content.list.length p.cl], .string s] W0 fun x w' => (∃ i p n c q m d, x = .returned (.tuple #[.agg #[.int .i64 vk, .int .i64 i, .string vt, .slice p n c, .slice q m d], .bool true])) ∧ Below W0.heap.size W0 w' := by
   refine hG.mono fun x w' hh => ⟨?_, hh.2⟩
   obtain ⟨k, i, t, p', n, c, q, m, d, hx, hj⟩ := hh.1
   obtain ⟨rfl, rfl, rfl, _⟩ := isJP_parts hj
   exact ⟨_, _, _, _, _, _, _, hx⟩
  clear hG
  cases h3 : decide (vk = 3) with
  | true =>
   obtain rfl : vk = 3 := by simpa using h3
   go_enter Tryz.func19, Tryz.ntmps19
   go_upto_region 1 with fail
   rw [← hW0]
   clear hW0
   go_wp2_with (first
    | (refine wpList_load_mid rfl 25 _ rfl w.heap.size 5 rfl _ _ HRJ.out Tryz.underlying25 rfl (by kernel_rfl) ?_)
    | (go_at_call 43; refine hG2.mono ?_; rintro x w1 ⟨⟨i, p', n, c, q, m, d, rfl⟩, hb1⟩))
   go_ret
   exact ⟨by rw [HT.out]; rfl, belowP hb0 (belowP hb1 ((Below.refl _ _).alloc (Nat.le_refl _) _))⟩
  | false =>
   have h4 : ¬ vk = 3 := by simpa using h3
   have h5 : (vk == 3) = false := by simpa using h3
   go_enter Tryz.func19, Tryz.ntmps19
   go_upto_region 1 with fail
   rw [← hW0]
   clear hW0
   go_wp2_with (first
    | (refine wpList_load_mid rfl 25 _ rfl w.heap.size 5 rfl _ _ HRJ.out Tryz.underlying25 rfl (by kernel_rfl) ?_)
    | (go_at_call 43; refine hG2.mono ?_; rintro x w1 ⟨⟨i, p', n, c, q, m, d, rfl⟩, hb1⟩))
   go_ret
   exact ⟨by rw [HT.out]; exact congrArg (fun b => Ending.returned (.string b)) (if_neg h4).symm, belowP hb0 (belowP hb1 ((Below.refl _ _).alloc (Nat.le_refl _) _))⟩
def putT (l : List Ent) (k s : ByteArray) : List Ent := if l.any (fun x => (x.1.toList == k.toList) && (x.2.toList == s.toList)) then l else l ++ [(k, s)]
theorem any_more {l : List Ent} {f : Ent → Bool} {k : Nat} (h : (l.take k).any f = false) (hk : k < l.length) (hf : f (l.getD k (nix, nix)) = false) : (l.take (k + 1)).any f = false := by
 rw [takeP_one (z := (nix, nix)) hk, List.any_append, h, List.any_cons, hf]
 rfl
theorem any_hit {l : List Ent} {f : Ent → Bool} {k : Nat} (hk : k < l.length) (hf : f (l.getD k (nix, nix)) = true) : l.any f = true := by
 refine List.any_eq_true.2 ⟨l.getD k (nix, nix), ?_, hf⟩
 rw [List.getD_eq_getElem?_getD, List.getElem?_eq_getElem hk]
 exact List.getElem_mem hk
theorem rput11_any {w : World} {base : Nat} {v : Value} {l : List Ent} (hown : w.ownsRow base 39 3 v l.length (flatE l)) (hlen : l.length ≤ 1000) (hbase : base ≤ w.heap.size) (kind key : ByteArray) :
    Calls Tryz.prog 32 #[v, .string kind, .string key] w fun x w' => (∃ v', x = .returned v' ∧ w'.ownsRow base 39 3 v' (putT l kind key).length (flatE (putT l kind key))) ∧ Below base w w' := by
 obtain ⟨q, c, rfl, hr⟩ := rdT_of_own hown
 have HO := (show Hid _ from hown)
 obtain ⟨n, hn⟩ : ∃ n, l.length = n := ⟨_, rfl⟩
 have HN : Hid (l.length = n) := hn
 have hc := hr.1
 have HL : Hid (l.length ≤ 1000) := hlen
 have HP : Hid (putT l kind key = if l.any (fun x => (x.1.toList == kind.toList) && (x.2.toList == key.toList)) then l else l ++ [(kind, key)]) := rfl
 rw [hn] at hlen hc ⊢
 clear hn hown
 go_enter Tryz.func32, Tryz.ntmps32
 go_wp2
 go_loop [7] (fun i => ∃ k : Nat, i = .int .i64 k ∧ k ≤ n ∧ Hid ((l.take k).any (fun x => (x.1.toList == kind.toList) && (x.2.toList == key.toList)) = false)) (fun i => n - (intOf i).toNat)
 case atStart => exact ⟨0, rfl, Nat.zero_le _, rfl⟩
 case round =>
  obtain ⟨k, rfl, hk, HF⟩ := hrel
  by_cases hlt : k < n
  · have hki : (k : Int) < (n : Int) := by omega
    have hkl : k < l.length := by rw [HN.out]; exact hlt
    obtain ⟨b, o, rfl, _, d0, d1, _⟩ := hr.2 k hkl
    have HM : Hid (((l.getD k (nix, nix)).1.toList == kind.toList && (l.getD k (nix, nix)).2.toList == key.toList) = false → (l.take (k + 1)).any (fun x => (x.1.toList == kind.toList) && (x.2.toList == key.toList)) = false) := fun h => any_more HF.out hkl h
    have HH : Hid (((l.getD k (nix, nix)).1.toList == kind.toList && (l.getD k (nix, nix)).2.toList == key.toList) = true → putT l kind key = l) := fun h => by rw [HP.out]; exact if_pos (any_hit hkl h)
    generalize (l.getD k (nix, nix)).1 = x1 at d0 HM HH
    generalize (l.getD k (nix, nix)).2 = x2 at d1 HM HH
    cases h1 : (x1.toList == kind.toList) with
    | false =>
     have HMM := (show Hid _ from HM.out (by simp [h1]))
     go_wp2
     go_round
     case rel => exact ⟨k + 1, by go_num, hlt, HMM⟩
     case measure => simp [intOf]; omega
    | true =>
     cases h2 : (x2.toList == key.toList) with
     | false =>
      have HMM := (show Hid _ from HM.out (by simp [h1, h2]))
      go_wp2
      go_round
      case rel => exact ⟨k + 1, by go_num, hlt, HMM⟩
      case measure => simp [intOf]; omega
     | true =>
      have HHH := (show Hid _ from HH.out (by simp [h1, h2]))
      go_wp2
      go_ret
      refine ⟨⟨_, rfl, ?_⟩, Below.refl _ _⟩
      rw [HHH.out, ← HN.out]
      exact HO.out
  · obtain rfl : k = n := by omega
    have HNO : Hid (putT l kind key = l ++ [(kind, key)]) := by
     have := HF.out
     rw [List.take_of_length_le (by rw [HN.out]; omega)] at this
     show _ = _
     rw [HP.out, if_neg (by rw [this]; decide)]
    have HO2 : Hid (w.ownsRow base 39 3 (.slice q k c) k (flatE l)) := by
     have h2 := HO.out
     rw [HN.out] at h2
     exact h2
    have T1 : Hid (∀ o : Obj, (w.alloc o).ownsRow base 39 3 (.slice q k c) l.length (flatE l)) := fun o => by rw [HN.out]; exact (HO2.out).alloc _
    have T2 : Hid (∀ o : Obj, base ≤ (w.alloc o).heap.size) := fun o => by rw [World.size_alloc]; exact Nat.le_succ_of_le hbase
    have T3 : Hid (l.length ≤ 100000) := Nat.le_trans HL.out (by decide)
    go_wp2_with (refine wpList_append_ent rfl _ _ rfl base (.slice q k c) l rfl (T1.out _) w.heap.size 1 (kind, key) rfl (newP _) T3.out (T2.out _) fun v' w' ho' hg' => ?_)
    go_ret
    refine ⟨⟨_, rfl, by rw [HNO.out]; exact ho'⟩, ?_⟩
    exact ((Below.refl base w).alloc hbase _).trans (grown_below hg' (by simp; exact Nat.le_succ_of_le hbase) fun k hk => (HO2.out.lt k hk).1)
def rwantT (e : Ev) : List Ent := if eqT e.typ tCreate then [] else
 if e.st && eqT e.typ tMember then (if eqT (textT e.content nMemb) vJoin || eqT (textT e.content nMemb) vInvite then putT (putT (putT (putT (putT [] tCreate ⟨#[]⟩) tPower ⟨#[]⟩) tMember e.sender) tMember e.key) tRules ⟨#[]⟩ else putT (putT (putT (putT [] tCreate ⟨#[]⟩) tPower ⟨#[]⟩) tMember e.sender) tMember e.key)
 else putT (putT (putT [] tCreate ⟨#[]⟩) tPower ⟨#[]⟩) tMember e.sender
theorem e_cp : (tCreate.toList == tPower.toList) = false := by kernel_rfl
theorem e_cm : (tCreate.toList == tMember.toList) = false := by kernel_rfl
theorem e_pm : (tPower.toList == tMember.toList) = false := by kernel_rfl
theorem e_mm : (tMember.toList == tMember.toList) = true := by kernel_rfl
theorem e_cr : (tCreate.toList == tRules.toList) = false := by kernel_rfl
theorem e_pr : (tPower.toList == tRules.toList) = false := by kernel_rfl
theorem e_mr : (tMember.toList == tRules.toList) = false := by kernel_rfl
theorem put3 (s : ByteArray) : putT (putT (putT [] tCreate ⟨#[]⟩) tPower ⟨#[]⟩) tMember s = [(tCreate, ⟨#[]⟩), (tPower, ⟨#[]⟩), (tMember, s)] := by
 have h1 : putT [] tCreate ⟨#[]⟩ = [(tCreate, ⟨#[]⟩)] := by unfold putT; simp only [List.any_nil]; rfl
 have h2 : putT [(tCreate, ⟨#[]⟩)] tPower ⟨#[]⟩ = [(tCreate, ⟨#[]⟩), (tPower, ⟨#[]⟩)] := by unfold putT; simp only [List.any_cons, List.any_nil, e_cp, Bool.false_and, Bool.or_false]; rfl
 rw [h1, h2]
 unfold putT
 simp only [List.any_cons, List.any_nil, e_cm, e_pm, Bool.false_and, Bool.or_false]
 rfl
theorem put4 (s k : ByteArray) : putT [(tCreate, ⟨#[]⟩), (tPower, ⟨#[]⟩), (tMember, s)] tMember k = [(tCreate, ⟨#[]⟩), (tPower, ⟨#[]⟩), (tMember, s)] ++ (if eqT k s then [] else [(tMember, k)]) := by
 have hs : (s.toList == k.toList) = (k.toList == s.toList) := by rw [Bool.eq_iff_iff, beq_iff_eq, beq_iff_eq]; exact eq_comm
 unfold putT eqT
 simp only [List.any_cons, List.any_nil, e_cm, e_pm, e_mm, Bool.false_and, Bool.false_or, Bool.true_and, Bool.or_false, hs]
 split <;> rfl
theorem put5 (s : ByteArray) (r : List Ent) (hr : ∀ x ∈ r, x.1 = tMember) : putT ([(tCreate, ⟨#[]⟩), (tPower, ⟨#[]⟩), (tMember, s)] ++ r) tRules ⟨#[]⟩ = ([(tCreate, ⟨#[]⟩), (tPower, ⟨#[]⟩), (tMember, s)] ++ r) ++ [(tRules, ⟨#[]⟩)] := by
 have h2 : r.any (fun x => (x.1.toList == tRules.toList) && (x.2.toList == (⟨#[]⟩ : ByteArray).toList)) = false := List.any_eq_false.2 fun x hx => by
  rw [hr x hx, e_mr, Bool.false_and]
  decide
 unfold putT
 rw [List.any_append, h2]
 simp only [List.any_cons, List.any_nil, e_cr, e_pr, e_mr, Bool.false_and, Bool.or_false]
 rfl
theorem rwant_same (e : Ev) : rwantT e = wantT e := by
 unfold rwantT wantT
 rw [put3]
 split
 · rfl
 · split
   · rw [put4]
     split
     · rw [put5 _ _ (fun x hx => by split at hx <;> simp at hx; rw [hx])]
       rw [List.append_assoc]
     · simp
   · simp
theorem put_len1 (l : List Ent) (k s : ByteArray) : (putT l k s).length ≤ l.length + 1 := by
 unfold putT
 split
 · exact Nat.le_succ _
 · simp
theorem put_len {n : Nat} (hn : n ≤ 1000) (l : List Ent) (h : l.length ≤ n) : l.length ≤ 1000 := Nat.le_trans h hn
theorem ownE_kept {W W' : World} {base : Nat} {v : Value} {l : List Ent} (h : W.ownsRow base 39 3 v l.length (flatE l)) (hb : Below W.heap.size W W') : W'.ownsRow base 39 3 v l.length (flatE l) := by
 obtain ⟨h1, ⟨h2, h3⟩ | ⟨g, cap, cur, h2, h3, h4, h5⟩⟩ := h
 · exact ⟨h1, .inl ⟨h2, h3⟩⟩
 · exact ⟨h1, .inr ⟨g, cap, cur, h2, h3, (hb.block g (objP_lt h4)).trans h4, h5⟩⟩
theorem rwanted_any {O : Nat → Prop} {w : World} {e : Ev} {p : Pt} (h : IsE O w e p) (hO : ∀ b, O b → b < w.heap.size) (hz : szJ 13 e.content = true) :
    Calls Tryz.prog 15 #[valE e p] w fun x w' => (∃ q c, x = .returned (.slice q (wantT e).length c) ∧ RdT (fun b => w.heap.size ≤ b ∧ b < w'.heap.size) w' q c (wantT e)) ∧ Below w.heap.size w w' := by
 obtain ⟨W0, hW0⟩ : ∃ W0, W0 = w.alloc (.cells (cellsE e p).toArray 28) := ⟨_, rfl⟩
 have hb0 : Below w.heap.size w W0 := by rw [hW0]; exact (Below.refl _ _).alloc (Nat.le_refl _) _
 have hX0 : W0.heap[w.heap.size]? = some (.cells (cellsE e p).toArray 28 (0, 0)) := by rw [hW0]; exact newP _
 have hV := isV_new h hO hb0 hX0
 have HV : Hid (∀ X, Below W0.heap.size W0 X → IsV X w.heap.size e p) := fun X hX => hV.below hX
 have HTx : Hid (∀ X, Below W0.heap.size W0 X → Calls Tryz.prog 19 #[.agg (cellsE e p).toArray, .string nMemb] X fun x w' => x = .returned (.string (textT e.content nMemb)) ∧ Below X.heap.size X w') := fun X hX => rtext_any (HV.out X hX).ev (fun _ h => h) hz nMemb
 have HW : Hid (wantT e = if eqT e.typ tCreate then [] else if e.st && eqT e.typ tMember then (if eqT (textT e.content nMemb) vJoin || eqT (textT e.content nMemb) vInvite then (putT (putT (putT (putT (putT [] tCreate ⟨#[]⟩) tPower ⟨#[]⟩) tMember e.sender) tMember e.key) tRules ⟨#[]⟩) else (putT (putT (putT (putT [] tCreate ⟨#[]⟩) tPower ⟨#[]⟩) tMember e.sender) tMember e.key)) else (putT (putT (putT [] tCreate ⟨#[]⟩) tPower ⟨#[]⟩) tMember e.sender)) := by show _ = _; rw [← rwant_same]; rfl
 have HEND : Hid (∀ (l : List Ent) v W, wantT e = l → W.ownsRow W0.heap.size 39 3 v l.length (flatE l) → Below W0.heap.size W0 W → (∃ q c, Ending.returned v = .returned (.slice q (wantT e).length c) ∧ RdT (fun b => w.heap.size ≤ b ∧ b < W.heap.size) W q c (wantT e)) ∧ Below w.heap.size w W) := fun l v W hl ho hb => by
  obtain ⟨q, c, rfl, hr⟩ := rdT_of_own ho
  rw [hl]
  exact ⟨⟨q, c, rfl, hr.carry fun k hk => ⟨⟨Nat.le_trans hb0.size hk.1, hk.2⟩, rfl⟩⟩, belowP hb0 hb⟩
 have HQ0 : Hid (([] : List Ent).length ≤ 0) := Nat.le_refl _
 have HQ1 : Hid ((putT [] tCreate ⟨#[]⟩).length ≤ 1) := put_len1 _ _ _
 have HQ2 : Hid ((putT (putT [] tCreate ⟨#[]⟩) tPower ⟨#[]⟩).length ≤ 2) := Nat.le_trans (put_len1 _ _ _) (Nat.succ_le_succ HQ1.out)
 have HQ3 : Hid ((putT (putT (putT [] tCreate ⟨#[]⟩) tPower ⟨#[]⟩) tMember e.sender).length ≤ 3) := Nat.le_trans (put_len1 _ _ _) (Nat.succ_le_succ HQ2.out)
 have HQ4 : Hid ((putT (putT (putT (putT [] tCreate ⟨#[]⟩) tPower ⟨#[]⟩) tMember e.sender) tMember e.key).length ≤ 4) := Nat.le_trans (put_len1 _ _ _) (Nat.succ_le_succ HQ3.out)
 have HN0 : Hid (W0.ownsRow W0.heap.size 39 3 (.slice none 0 0) ([] : List Ent).length (flatE [])) := World.ownsRow_nil _ _ _ _
 have hB0 : Below W0.heap.size W0 W0 := Below.refl _ _
 have et := hV.typ
 clear h hV hX0 hz
 unfold valE
 unfold eqT at HW
 rw [lit_tCreate, lit_tMember, lit_vJoin, lit_vInvite] at HW
 generalize textT e.content nMemb = m at HTx HW
 generalize hst : e.st = st at HW
 cases hc : (e.typ.toList == [109, 46, 114, 111, 111, 109, 46, 99, 114, 101, 97, 116, 101]) with
 | true =>
  go_enter Tryz.func15, Tryz.ntmps15
  go_upto_region 1 with fail
  rw [← hW0]
  clear hW0
  go_wp2_with (first
   | fail)
  go_ret
  exact HEND.out [] _ _ (by rw [HW.out, if_pos hc]) (World.ownsRow_nil _ _ _ _) (Below.refl _ _)
 | false =>
  cases st with
  | false =>
   go_enter Tryz.func15, Tryz.ntmps15
   go_upto_region 1 with fail
   rw [← hW0]
   clear hW0
   go_wp2_with (first
    | (go_at_call 32; refine (rput11_any (l := (putT (putT [] tCreate ⟨#[]⟩) tPower ⟨#[]⟩)) HO2.out (put_len (by decide) (putT (putT [] tCreate ⟨#[]⟩) tPower ⟨#[]⟩) HQ2.out) hB2.size tMember e.sender).mono ?_; rintro x W3 ⟨⟨v3, rfl, ho3⟩, hb3⟩; have hB3 := hB2.trans hb3; have HO3 := (show Hid _ from ho3); clear ho3 hb3; have ctyp3 := (HV.out _ hB3).typ; have cisSt3 := (HV.out _ hB3).isSt; have ckey3 := (HV.out _ hB3).key; rw [hst] at cisSt3)
    | (go_at_call 32; refine (rput11_any (l := (putT [] tCreate ⟨#[]⟩)) HO1.out (put_len (by decide) (putT [] tCreate ⟨#[]⟩) HQ1.out) hB1.size tPower ⟨#[]⟩).mono ?_; rintro x W2 ⟨⟨v2, rfl, ho2⟩, hb2⟩; have hB2 := hB1.trans hb2; have HO2 := (show Hid _ from ho2); clear ho2 hb2; have csender2 := (HV.out _ hB2).sender)
    | (go_at_call 32; refine (rput11_any (l := []) HN0.out (put_len (by decide) [] HQ0.out) hB0.size tCreate ⟨#[]⟩).mono ?_; rintro x W1 ⟨⟨v1, rfl, ho1⟩, hb1⟩; have hB1 := hB0.trans hb1; have HO1 := (show Hid _ from ho1); clear ho1 hb1))
   go_ret
   exact HEND.out _ _ _ (by rw [HW.out, if_neg (by rw [hc]; decide)]; rfl) HO3.out hB3
  | true =>
   cases hm : (e.typ.toList == [109, 46, 114, 111, 111, 109, 46, 109, 101, 109, 98, 101, 114]) with
   | false =>
    go_enter Tryz.func15, Tryz.ntmps15
    go_upto_region 1 with fail
    rw [← hW0]
    clear hW0
    go_wp2_with (first
     | (go_at_call 32; refine (rput11_any (l := (putT (putT [] tCreate ⟨#[]⟩) tPower ⟨#[]⟩)) HO2.out (put_len (by decide) (putT (putT [] tCreate ⟨#[]⟩) tPower ⟨#[]⟩) HQ2.out) hB2.size tMember e.sender).mono ?_; rintro x W3 ⟨⟨v3, rfl, ho3⟩, hb3⟩; have hB3 := hB2.trans hb3; have HO3 := (show Hid _ from ho3); clear ho3 hb3; have ctyp3 := (HV.out _ hB3).typ; have cisSt3 := (HV.out _ hB3).isSt; have ckey3 := (HV.out _ hB3).key; rw [hst] at cisSt3)
     | (go_at_call 32; refine (rput11_any (l := (putT [] tCreate ⟨#[]⟩)) HO1.out (put_len (by decide) (putT [] tCreate ⟨#[]⟩) HQ1.out) hB1.size tPower ⟨#[]⟩).mono ?_; rintro x W2 ⟨⟨v2, rfl, ho2⟩, hb2⟩; have hB2 := hB1.trans hb2; have HO2 := (show Hid _ from ho2); clear ho2 hb2; have csender2 := (HV.out _ hB2).sender)
     | (go_at_call 32; refine (rput11_any (l := []) HN0.out (put_len (by decide) [] HQ0.out) hB0.size tCreate ⟨#[]⟩).mono ?_; rintro x W1 ⟨⟨v1, rfl, ho1⟩, hb1⟩; have hB1 := hB0.trans hb1; have HO1 := (show Hid _ from ho1); clear ho1 hb1))
    go_ret
    exact HEND.out _ _ _ (by rw [HW.out, if_neg (by rw [hc]; decide), hm]; rfl) HO3.out hB3
   | true =>
    cases hj : (m.toList == [106, 111, 105, 110]) with
    | true =>
     go_enter Tryz.func15, Tryz.ntmps15
     go_upto_region 1 with fail
     rw [← hW0]
     clear hW0
     go_wp2_with (first
      | (refine wpList_load_mid rfl 28 _ rfl w.heap.size 0 rfl (cellsE e p) _ (HV.out _ hB4).rangeE Tryz.underlying28 rfl infoE ?_)
      | (go_at_call 19; refine (HTx.out _ hB4).mono ?_; rintro x W6 ⟨rfl, hb6⟩; have hB6 := belowP hB4 hb6; have HO6 := (show Hid _ from ownE_kept HO4.out hb6); clear hb6)
      | (go_at_call 32; refine (rput11_any (l := (putT (putT (putT (putT [] tCreate ⟨#[]⟩) tPower ⟨#[]⟩) tMember e.sender) tMember e.key)) HO6.out (put_len (by decide) (putT (putT (putT (putT [] tCreate ⟨#[]⟩) tPower ⟨#[]⟩) tMember e.sender) tMember e.key) HQ4.out) hB6.size tRules ⟨#[]⟩).mono ?_; rintro x W5 ⟨⟨v5, rfl, ho5⟩, hb5⟩; have hB5 := hB6.trans hb5; have HO5 := (show Hid _ from ho5); clear ho5 hb5)
      | (go_at_call 32; refine (rput11_any (l := (putT (putT (putT [] tCreate ⟨#[]⟩) tPower ⟨#[]⟩) tMember e.sender)) HO3.out (put_len (by decide) (putT (putT (putT [] tCreate ⟨#[]⟩) tPower ⟨#[]⟩) tMember e.sender) HQ3.out) hB3.size tMember e.key).mono ?_; rintro x W4 ⟨⟨v4, rfl, ho4⟩, hb4⟩; have hB4 := hB3.trans hb4; have HO4 := (show Hid _ from ho4); clear ho4 hb4)
      | (go_at_call 32; refine (rput11_any (l := (putT (putT [] tCreate ⟨#[]⟩) tPower ⟨#[]⟩)) HO2.out (put_len (by decide) (putT (putT [] tCreate ⟨#[]⟩) tPower ⟨#[]⟩) HQ2.out) hB2.size tMember e.sender).mono ?_; rintro x W3 ⟨⟨v3, rfl, ho3⟩, hb3⟩; have hB3 := hB2.trans hb3; have HO3 := (show Hid _ from ho3); clear ho3 hb3; have ctyp3 := (HV.out _ hB3).typ; have cisSt3 := (HV.out _ hB3).isSt; have ckey3 := (HV.out _ hB3).key; rw [hst] at cisSt3)
      | (go_at_call 32; refine (rput11_any (l := (putT [] tCreate ⟨#[]⟩)) HO1.out (put_len (by decide) (putT [] tCreate ⟨#[]⟩) HQ1.out) hB1.size tPower ⟨#[]⟩).mono ?_; rintro x W2 ⟨⟨v2, rfl, ho2⟩, hb2⟩; have hB2 := hB1.trans hb2; have HO2 := (show Hid _ from ho2); clear ho2 hb2; have csender2 := (HV.out _ hB2).sender)
      | (go_at_call 32; refine (rput11_any (l := []) HN0.out (put_len (by decide) [] HQ0.out) hB0.size tCreate ⟨#[]⟩).mono ?_; rintro x W1 ⟨⟨v1, rfl, ho1⟩, hb1⟩; have hB1 := hB0.trans hb1; have HO1 := (show Hid _ from ho1); clear ho1 hb1))
     go_ret
     exact HEND.out _ _ _ (by rw [HW.out, if_neg (by rw [hc]; decide), hm, hj]; rfl) HO5.out hB5
    | false =>
     cases hi : (m.toList == [105, 110, 118, 105, 116, 101]) with
     | true =>
      go_enter Tryz.func15, Tryz.ntmps15
      go_upto_region 1 with fail
      rw [← hW0]
      clear hW0
      go_wp2_with (first
       | (refine wpList_load_mid rfl 28 _ rfl w.heap.size 0 rfl (cellsE e p) _ (HV.out _ hB4).rangeE Tryz.underlying28 rfl infoE ?_)
       | (go_at_call 19; refine (HTx.out _ hB4).mono ?_; rintro x W6 ⟨rfl, hb6⟩; have hB6 := belowP hB4 hb6; have HO6 := (show Hid _ from ownE_kept HO4.out hb6); clear hb6)
       | (go_at_call 32; refine (rput11_any (l := (putT (putT (putT (putT [] tCreate ⟨#[]⟩) tPower ⟨#[]⟩) tMember e.sender) tMember e.key)) HO6.out (put_len (by decide) (putT (putT (putT (putT [] tCreate ⟨#[]⟩) tPower ⟨#[]⟩) tMember e.sender) tMember e.key) HQ4.out) hB6.size tRules ⟨#[]⟩).mono ?_; rintro x W5 ⟨⟨v5, rfl, ho5⟩, hb5⟩; have hB5 := hB6.trans hb5; have HO5 := (show Hid _ from ho5); clear ho5 hb5)
       | (go_at_call 32; refine (rput11_any (l := (putT (putT (putT [] tCreate ⟨#[]⟩) tPower ⟨#[]⟩) tMember e.sender)) HO3.out (put_len (by decide) (putT (putT (putT [] tCreate ⟨#[]⟩) tPower ⟨#[]⟩) tMember e.sender) HQ3.out) hB3.size tMember e.key).mono ?_; rintro x W4 ⟨⟨v4, rfl, ho4⟩, hb4⟩; have hB4 := hB3.trans hb4; have HO4 := (show Hid _ from ho4); clear ho4 hb4)
       | (go_at_call 32; refine (rput11_any (l := (putT (putT [] tCreate ⟨#[]⟩) tPower ⟨#[]⟩)) HO2.out (put_len (by decide) (putT (putT [] tCreate ⟨#[]⟩) tPower ⟨#[]⟩) HQ2.out) hB2.size tMember e.sender).mono ?_; rintro x W3 ⟨⟨v3, rfl, ho3⟩, hb3⟩; have hB3 := hB2.trans hb3; have HO3 := (show Hid _ from ho3); clear ho3 hb3; have ctyp3 := (HV.out _ hB3).typ; have cisSt3 := (HV.out _ hB3).isSt; have ckey3 := (HV.out _ hB3).key; rw [hst] at cisSt3)
       | (go_at_call 32; refine (rput11_any (l := (putT [] tCreate ⟨#[]⟩)) HO1.out (put_len (by decide) (putT [] tCreate ⟨#[]⟩) HQ1.out) hB1.size tPower ⟨#[]⟩).mono ?_; rintro x W2 ⟨⟨v2, rfl, ho2⟩, hb2⟩; have hB2 := hB1.trans hb2; have HO2 := (show Hid _ from ho2); clear ho2 hb2; have csender2 := (HV.out _ hB2).sender)
       | (go_at_call 32; refine (rput11_any (l := []) HN0.out (put_len (by decide) [] HQ0.out) hB0.size tCreate ⟨#[]⟩).mono ?_; rintro x W1 ⟨⟨v1, rfl, ho1⟩, hb1⟩; have hB1 := hB0.trans hb1; have HO1 := (show Hid _ from ho1); clear ho1 hb1))
      go_ret
      exact HEND.out _ _ _ (by rw [HW.out, if_neg (by rw [hc]; decide), hm, hj, hi]; rfl) HO5.out hB5
     | false =>
      go_enter Tryz.func15, Tryz.ntmps15
      go_upto_region 1 with fail
      rw [← hW0]
      clear hW0
      go_wp2_with (first
       | (refine wpList_load_mid rfl 28 _ rfl w.heap.size 0 rfl (cellsE e p) _ (HV.out _ hB4).rangeE Tryz.underlying28 rfl infoE ?_)
       | (go_at_call 19; refine (HTx.out _ hB4).mono ?_; rintro x W6 ⟨rfl, hb6⟩; have hB6 := belowP hB4 hb6; have HO6 := (show Hid _ from ownE_kept HO4.out hb6); clear hb6)
       | (go_at_call 32; refine (rput11_any (l := (putT (putT (putT [] tCreate ⟨#[]⟩) tPower ⟨#[]⟩) tMember e.sender)) HO3.out (put_len (by decide) (putT (putT (putT [] tCreate ⟨#[]⟩) tPower ⟨#[]⟩) tMember e.sender) HQ3.out) hB3.size tMember e.key).mono ?_; rintro x W4 ⟨⟨v4, rfl, ho4⟩, hb4⟩; have hB4 := hB3.trans hb4; have HO4 := (show Hid _ from ho4); clear ho4 hb4)
       | (go_at_call 32; refine (rput11_any (l := (putT (putT [] tCreate ⟨#[]⟩) tPower ⟨#[]⟩)) HO2.out (put_len (by decide) (putT (putT [] tCreate ⟨#[]⟩) tPower ⟨#[]⟩) HQ2.out) hB2.size tMember e.sender).mono ?_; rintro x W3 ⟨⟨v3, rfl, ho3⟩, hb3⟩; have hB3 := hB2.trans hb3; have HO3 := (show Hid _ from ho3); clear ho3 hb3; have ctyp3 := (HV.out _ hB3).typ; have cisSt3 := (HV.out _ hB3).isSt; have ckey3 := (HV.out _ hB3).key; rw [hst] at cisSt3)
       | (go_at_call 32; refine (rput11_any (l := (putT [] tCreate ⟨#[]⟩)) HO1.out (put_len (by decide) (putT [] tCreate ⟨#[]⟩) HQ1.out) hB1.size tPower ⟨#[]⟩).mono ?_; rintro x W2 ⟨⟨v2, rfl, ho2⟩, hb2⟩; have hB2 := hB1.trans hb2; have HO2 := (show Hid _ from ho2); clear ho2 hb2; have csender2 := (HV.out _ hB2).sender)
       | (go_at_call 32; refine (rput11_any (l := []) HN0.out (put_len (by decide) [] HQ0.out) hB0.size tCreate ⟨#[]⟩).mono ?_; rintro x W1 ⟨⟨v1, rfl, ho1⟩, hb1⟩; have hB1 := hB0.trans hb1; have HO1 := (show Hid _ from ho1); clear ho1 hb1))
      go_ret
      exact HEND.out _ _ _ (by rw [HW.out, if_neg (by rw [hc]; decide), hm, hj, hi]; rfl) HO6.out hB6
end Go.Proofs.YtldegjjaknelgaaGreatDoor
namespace Go.Proofs.YtldegjjaknelgaaGreatDoor
open Go.RowKit Go.Maps
theorem run_makeMap_room {t k e : TypeId} (ht : Tryz.prog.underlying t = some (.map k e)) (n : Int) (w : World) : (Instr.makeMap t (some (.int .i64 n))).run Tryz.prog w = .ok (.map (some w.heap.size)) (w.alloc (.map #[] 0)) := by
 simp [Instr.makeMap, run_underlying ht, asInt, asIntOf, Result.andThen]
def SetOf (w : World) (M : Nat) (ks : List ByteArray) : Prop :=
 ∃ D : DataW Unit, w.ownsMap Tryz.prog 9 (unitElem (H := Unit)) M ks.length D ∧ (∀ s, okS s → Maps.has D (klS s) = hasK ks s) ∧ Maps.size D ≤ ks.length ∧ (Maps.size D = ks.length ↔ noKeyTwice ks = true)
theorem SetOf.made (w : World) : SetOf (w.alloc (.map #[] 0)) w.heap.size [] :=
 ⟨.map [], World.ownsMap_made _ _ _ _, fun _ _ => rfl, Nat.le_refl _, ⟨fun _ => rfl, fun _ => rfl⟩⟩
theorem hasK_mem {ks : List ByteArray} {s : ByteArray} : hasK ks s = true ↔ s ∈ ks := by
 unfold hasK
 rw [List.any_eq_true]
 constructor
 · rintro ⟨x, hx, h⟩
   have : x = s := by
    have h := of_decide_eq_true h
    cases x; cases s
    simp only at h
    rw [h]
   exact this ▸ hx
 · exact fun h => ⟨s, h, by simp⟩
theorem noTwice_snoc (ks : List ByteArray) (s : ByteArray) : noKeyTwice (ks ++ [s]) = true ↔ noKeyTwice ks = true ∧ hasK ks s = false := by
 constructor
 · intro h
   have h := List.pairwise_append.1 (noTwice_pair h)
   refine ⟨pair_noTwice h.1, ?_⟩
   cases e : hasK ks s with
   | false => rfl
   | true => exact absurd rfl (h.2.2 s (hasK_mem.1 e) s (by simp))
 · rintro ⟨h1, h2⟩
   refine pair_noTwice (List.pairwise_append.2 ⟨noTwice_pair h1, List.pairwise_singleton _ _, fun a ha b hb e => ?_⟩)
   rw [List.mem_singleton.1 hb] at e
   rw [hasK_mem.2 (e ▸ ha)] at h2
   cases h2
theorem SetOf.put {w w2 : World} {M : Nat} {ks : List ByteArray} {D : DataW Unit} {s : ByteArray} (h0 : w.ownsMap Tryz.prog 9 (unitElem (H := Unit)) M ks.length D) (hown : w2.ownsMap Tryz.prog 9 (unitElem (H := Unit)) M (ks.length + 1) (D.put (klS s) (.agg [])))
    (hh : ∀ s, okS s → Maps.has D (klS s) = hasK ks s) (h1 : Maps.size D ≤ ks.length) (h2 : Maps.size D = ks.length ↔ noKeyTwice ks = true) (hs : okS s) : SetOf w2 M (ks ++ [s]) := by
 have hm := h0.isMap
 have hsz := size_put (k := klS s) (h0.tidy law9) (.agg [])
 rw [hh s hs] at hsz
 refine ⟨D.put (klS s) (.agg []), by rw [List.length_append]; exact hown, fun x hx => ?_, ?_, ?_⟩
 · rw [hasK_snoc]
   by_cases e : x = s
   · subst e
     rw [has_put_same hm (show WideAt.IsKeyLit (klS x) from trivial)]
     simp
   · rw [has_put_other (fun h' => e (klS_inj h')), hh x hx]
     have : decide (s.data = x.data) = false := by
      apply decide_eq_false
      intro h'
      apply e
      cases x; cases s
      simp only at h'
      rw [h']
     rw [this, Bool.or_false]
 · rw [hsz, List.length_append]
   split <;> simp <;> omega
 · rw [hsz, List.length_append, noTwice_snoc, ← h2]
   cases e : hasK ks s with
   | true => simp; omega
   | false => simp
theorem once_any {O : Nat → Prop} {ks : List ByteArray} {p : Option Addr} {c : Nat} {w : World} (hrd : RdK O w p c ks) (hO : ∀ k, O k → k < w.heap.size) (hl : ks.length ≤ 100000) (hkz : ∀ k ∈ ks, k.size ≤ 1000000000) :
    Calls Tryz.prog 132 #[.slice p ks.length c] w fun x w' => x = .returned (.bool (noKeyTwice ks)) ∧ Below w.heap.size w w' := by
 obtain ⟨n, hn⟩ : ∃ n, ks.length = n := ⟨_, rfl⟩
 have HN : Hid (ks.length = n) := hn
 have hcc := hrd.1
 rw [hn] at hl hcc ⊢
 clear hn
 have hmm := run_makeMap_room Tryz.underlying171
 go_enter Tryz.func132, Tryz.ntmps132
 go_wp2
 clear hmm
 go_loopw [11] (fun i wr => ∃ k : Nat, i = .int .i64 k ∧ k ≤ n ∧ Below w.heap.size w wr ∧ SetOf wr w.heap.size (ks.take k)) (fun i _ => n - (intOf i).toNat)
 case atStart => exact ⟨0, rfl, Nat.zero_le _, (Below.refl _ _).alloc (Nat.le_refl _) _, SetOf.made w⟩
 case round =>
  obtain ⟨k, rfl, hk, hb, D, hown, hhas, hs1, hs2⟩ := hrel
  have HH : Hid (∀ s, okS s → Maps.has D (klS s) = hasK (ks.take k) s) := hhas
  have HS2 : Hid (Maps.size D = (ks.take k).length ↔ noKeyTwice (ks.take k) = true) := hs2
  have HS1 : Hid (Maps.size D ≤ (ks.take k).length) := hs1
  have HTL : Hid ((ks.take k).length = k) := by show _ = _; rw [List.length_take, HN.out]; omega
  clear hhas hs1 hs2
  by_cases hlt : k < n
  · have hki : (k : Int) < (n : Int) := by omega
    obtain ⟨a, hpa, hOa, hca⟩ := hrd.2 k (by rw [HN.out]; exact hlt)
    subst hpa
    have hcell : wr.cell? (a.add k) = some (.string (ks.getD k nix)) := (World.cell?_of_block (by rw [add_block]; exact hb.block _ (hO _ hOa))).trans hca
    have hTS : ks.take (k + 1) = ks.take k ++ [ks.getD k nix] := by
     have hkl : k < ks.length := by rw [HN.out]; exact hlt
     rw [List.take_add_one, List.getElem?_eq_getElem hkl, List.getD_eq_getElem?_getD, List.getElem?_eq_getElem hkl]; rfl
    have hus : (ks.getD k nix).size ≤ 1000000000 := hkz _ (by
     have hkl : k < ks.length := by rw [HN.out]; exact hlt
     rw [List.getD_eq_getElem?_getD, List.getElem?_eq_getElem hkl]; exact List.getElem_mem _)
    obtain ⟨u, hu⟩ : ∃ u, ks.getD k nix = u := ⟨_, rfl⟩
    rw [hu] at hcell hTS hus
    have HTS : Hid (ks.take (k + 1) = ks.take k ++ [u]) := hTS
    clear hTS hu hca
    have hok : okS u := by unfold okS maxLen; omega
    have hkey := keyS hok
    have HML : Hid ((ks.take k).length < maxLen) := by show _ < _; rw [HTL.out]; unfold maxLen; omega
    have HV : Hid (unitElem (H := Unit) (.agg #[]) = some (.agg [], [])) := unitElem_mk
    go_wp2_with (at_mapUpdate; refine wpList_mapUpdate_own _ rfl _ _ _ 171 rfl 9 172 law9 Tryz.underlying171 _ w.heap.size (ks.take k).length D rfl hown HML.out _ _ _ rfl rfl hkey (.agg []) [] HV.out ?_; intro w2 hown2 hg2)
    go_roundw
    case rel => exact ⟨k + 1, by go_num, hlt, hb.trans ((Keep.of_grown (S := fun k => k = w.heap.size) hg2 fun _ _ e => (Option.some.inj e).symm).below hb.size fun k hk => by omega), by rw [HTS.out]; exact SetOf.put hown hown2 HH.out HS1.out HS2.out hok⟩
    case measure => simp [intOf]; omega
  · obtain rfl : k = n := by omega
    have hTA : ks.take k = ks := List.take_of_length_le (by rw [HN.out]; omega)
    have hr : decide ((Maps.size D : Int) = (k : Int)) = noKeyTwice ks := by
     have h := HS2.out
     rw [hTA, HN.out] at h
     rw [Bool.eq_iff_iff, ← h, decide_eq_true_eq]
     omega
    have HR : Hid (decide ((Maps.size D : Int) = (k : Int)) = noKeyTwice ks) := hr
    clear hr hTA
    go_wp2_with (at_len; refine wpList_len_own _ rfl _ 171 rfl 9 172 Tryz.underlying171 _ w.heap.size (ks.take k).length D rfl hown ?_)
    go_ret
    exact ⟨ret_bool (by first | exact HR.out | simpa using HR.out), hb⟩
end Go.Proofs.YtldegjjaknelgaaGreatDoor
namespace Go.Proofs.YtldegjjaknelgaaGreatDoor
open Go.RowKit
def Els (O : Nat → Prop) (B : Nat) (vk vl : Value) (w : World) : Nat → Prop := fun k => O k ∨ (B ≤ k ∧ k < w.heap.size ∧ vk.ownBlock ≠ some k ∧ vl.ownBlock ≠ some k)
structure TI (O : Nat → Prop) (B g : Nat) (kd : Int) (WB : World) (ks : List ByteArray) (js : List J) (vk vl : Value) (w : World) : Prop where
 obj : w.heap[g]? = some (.cells #[.int .i64 kd, .int .i64 0, .string ⟨#[]⟩, vk, vl] 25 (0, 0))
 keys : w.ownsRow B 9 1 vk ks.length (ks.map Value.string)
 vals : ∃ xs, w.ownsRow B 25 5 vl js.length xs ∧ isRow (Els O B vk vl w) w js xs
 ne : ∀ i, vk.ownBlock = some i → vl.ownBlock ≠ some i
 keep : Keep (One g) WB w
 szB : WB.heap.size = B
 lt : g < B
 low : ∀ k, O k → k < B ∧ k ≠ g
theorem own_sl {w : World} {B e size n : Nat} {v : Value} {xs : List Value} (h : w.ownsRow B e size v n xs) : ∃ q c, v = .slice q n c := by
 rcases h.2 with ⟨h', h0⟩ | ⟨g', cap', cur, h', _⟩
 · exact ⟨none, 0, by rw [h', h0]⟩
 · exact ⟨_, _, h'⟩
section
variable {O : Nat → Prop} {B g : Nat} {kd : Int} {WB W W2 W5 : World} {ks : List ByteArray} {js : List J} {vk vl vk' vl' : Value}
theorem TI.size (h : TI O B g kd WB ks js vk vl W) : B ≤ W.heap.size := by have := h.keep.size; have := h.szB; omega
theorem TI.start (hsz : WB.heap.size = B) (hg : g < B) (hlow : ∀ k, O k → k < B ∧ k ≠ g) (hobj : WB.heap[g]? = some (.cells #[.int .i64 kd, .int .i64 0, .string ⟨#[]⟩, .slice none 0 0, .slice none 0 0] 25 (0, 0))) : TI O B g kd WB [] [] (.slice none 0 0) (.slice none 0 0) WB :=
 ⟨hobj, World.ownsRow_nil _ _ _ _, ⟨[], World.ownsRow_nil _ _ _ _, rfl⟩, (fun i h => by cases h), Keep.refl _ _, hsz, hg, hlow⟩
theorem TI.more (h : TI O B g kd WB ks js vk vl W) (hb : Below W.heap.size W W2) : TI O B g kd WB ks js vk vl W2 := by
 have hs := h.size
 have hlt := h.lt
 obtain ⟨xs, h1, h2⟩ := h.vals
 have kp : Keep (fun _ => False) W W2 := Keep.of_below hb
 refine ⟨(hb.block g (by omega)).trans h.obj, own_keep h.keys kp fun _ _ h => h, ⟨xs, own_keep h1 kp fun _ _ h => h, h2.carry fun k hk => ?_⟩, h.ne, h.keep.trans kp fun _ _ h => h.elim, h.szB, hlt, h.low⟩
 rcases hk with hk | hk
 · have := h.low k hk
   exact ⟨.inl hk, hb.block k (by omega)⟩
 · exact ⟨.inr ⟨hk.1, by have := hk.2.1; have := hb.size; omega, hk.2.2⟩, hb.block k hk.2.1⟩
theorem TI.drew (h : TI O B g kd WB ks js vk vl W) : TI O B g kd WB ks js vk vl W.drew := h.more ⟨rfl, rfl, rfl, Nat.le_refl _, fun _ _ => rfl⟩
theorem TI.alloc (h : TI O B g kd WB ks js vk vl W) (o : Obj) : TI O B g kd WB ks js vk vl (W.alloc o) := h.more ((Below.refl _ _).alloc (Nat.le_refl _) o)
theorem TI.fresh (h : TI O B g kd WB ks js vk vl W) (_hb : Below W.heap.size W W2) {y : J} {cs : List Value} (hy : isJ (fun k => O k ∨ New W W2 k) W2 y cs) : isJ (Els O B vk vl W2) W2 y cs := by
 have hs := h.size
 obtain ⟨xs, h1, _⟩ := h.vals
 refine hy.carry fun k hk => ⟨?_, rfl⟩
 rcases hk with hk | hk
 · exact .inl hk
 · have e1 := hk.1
   have e2 := hk.2
   exact .inr ⟨by omega, e2, fun e => by have := (own_ge h.keys k e).2; omega, fun e => by have := (own_ge h1 k e).2; omega⟩
theorem els_more (hb : Below W.heap.size W W2) (hO : ∀ k, O k → k < W.heap.size) {y : J} {cs : List Value} (hy : isJ (Els O B vk vl W) W y cs) : isJ (Els O B vk vl W2) W2 y cs := by
 refine hy.carry fun k hk => ?_
 rcases hk with hk | hk
 · exact ⟨.inl hk, hb.block k (hO k hk)⟩
 · exact ⟨.inr ⟨hk.1, by have := hk.2.1; have := hb.size; omega, hk.2.2⟩, hb.block k hk.2.1⟩
theorem TI.key (h : TI O B g kd WB ks js vk vl W) {x : ByteArray} (hown : W2.ownsRow B 9 1 vk' (ks.length + 1) (ks.map Value.string ++ [.string x])) (hg : W.grownBy W2 vk.ownBlock) (hat : vk'.ownBlock = vk.ownBlock ∨ vk'.ownBlock = some W.heap.size) :
    W2.cell? ⟨g, 3, none⟩ = some vk ∧ W2.frozen? ⟨g, 3, none⟩ = false ∧ TI O B g kd WB (ks ++ [x]) js vk' vl (W2.setCell ⟨g, 3, none⟩ vk') ∧ ∀ k, Els O B vk vl W k → Els O B vk' vl (W2.setCell ⟨g, 3, none⟩ vk') k ∧ (W2.setCell ⟨g, 3, none⟩ vk').heap[k]? = W.heap[k]? := by
 have hs := h.size
 have hlt := h.lt
 have hss := hg.size
 have hgk := own_ge h.keys
 obtain ⟨xs, hv1, hv2⟩ := h.vals
 have hgv := own_ge hv1
 have low : ∀ k, k < B → W2.heap[k]? = W.heap[k]? := fun k hk => hg.block k (by omega) fun e => by have := (hgk k e.symm).1; omega
 have ob : W2.heap[g]? = some (.cells #[.int .i64 kd, .int .i64 0, .string ⟨#[]⟩, vk, vl] 25 (0, 0)) := (low g hlt).trans h.obj
 have K3 : Keep (One g) W2 (W2.setCell ⟨g, 3, none⟩ vk') := Keep.setCell (Keep.refl _ _) (fun _ => (rfl : g = g)) _
 have hgk' := own_ge hown
 have carry : ∀ k, Els O B vk vl W k → Els O B vk' vl (W2.setCell ⟨g, 3, none⟩ vk') k ∧ (W2.setCell ⟨g, 3, none⟩ vk').heap[k]? = W.heap[k]? := fun k hk => by
  rcases hk with hk | hk
  · have := h.low k hk
    exact ⟨.inl hk, by rw [K3.block k (by omega) (by unfold One; omega), low k this.1]⟩
  · have e1 := hk.1
    have e2 := hk.2.1
    refine ⟨.inr ⟨e1, by have := K3.size; omega, fun e => ?_, hk.2.2.2⟩, by rw [K3.block k (by omega) (by unfold One; omega), hg.block k e2 fun e => hk.2.2.1 e.symm]⟩
    rcases hat with h' | h'
    · exact hk.2.2.1 (h' ▸ e)
    · rw [h'] at e
      have := Option.some.inj e
      omega
 refine ⟨five_c3 ob, five_fz ob 3, ⟨?_, ?_, ⟨xs, ?_, hv2.carry carry⟩, ?_, ?_, h.szB, hlt, h.low⟩, carry⟩
 · rw [heap_setCell_same _ g 3 _ _ _ ob]; rfl
 · rw [List.length_append, List.map_append]
   exact own_keep hown K3 fun k e => by have := (hgk' k e).1; unfold One; omega
 · refine own_keep (own_keep hv1 (S := fun k => vk.ownBlock = some k) (Keep.of_grown hg fun _ _ e => e) fun k e e' => h.ne k e' e) K3 fun k e => by have := (hgv k e).1; unfold One; omega
 · intro i e e'
   rcases hat with h1 | h1
   · exact h.ne i (h1 ▸ e) e'
   · rw [h1] at e
     have h2 := (hgv i e').2
     have h3 := Option.some.inj e
     omega
 · exact (h.keep.trans (S' := fun k => vk.ownBlock = some k) (Keep.of_grown hg fun _ _ e => e) fun k hk e => by have := (hgk k e).1; have := h.szB; omega).then K3
theorem TI.val (h : TI O B g kd WB ks js vk vl W) {y : J} {cs xs : List Value} (hv1 : W.ownsRow B 25 5 vl js.length xs) (hv2 : isRow (Els O B vk vl W) W js xs) (hy : isJ (Els O B vk vl W) W y cs) (hg : W.grownBy W2 vl.ownBlock) (hat : vl'.ownBlock = vl.ownBlock ∨ vl'.ownBlock = some W.heap.size)
    (hobj : W5.heap[g]? = some (.cells #[.int .i64 kd, .int .i64 0, .string ⟨#[]⟩, vk, vl'] 25 (0, 0))) (hown : W5.ownsRow B 25 5 vl' (js.length + 1) (xs ++ cs)) (hk5 : Keep (fun k => k = g ∨ vl'.ownBlock = some k) W2 W5) : TI O B g kd WB ks (js ++ [y]) vk vl' W5 := by
 have hs := h.size
 have hlt := h.lt
 have hss := hg.size
 have hgk := own_ge h.keys
 have hgv := own_ge hv1
 have hgv' := own_ge hown
 have carry : ∀ k, Els O B vk vl W k → Els O B vk vl' W5 k ∧ W5.heap[k]? = W.heap[k]? := by
  intro k hk
  rcases hk with hk | hk
  · have := h.low k hk
    exact ⟨.inl hk, by rw [hk5.block k (by omega) (fun e => e.elim (fun e => this.2 e) fun e => by have := (hgv' k e).1; omega), hg.block k (by omega) fun e => by have := (hgv k e.symm).1; omega]⟩
  · have e1 := hk.1
    have e2 := hk.2.1
    have e3 : vl'.ownBlock ≠ some k := fun e => by
     rcases hat with h' | h'
     · exact hk.2.2.2 (h' ▸ e)
     · rw [h'] at e
       have := Option.some.inj e
       omega
    exact ⟨.inr ⟨e1, by have := hk5.size; omega, hk.2.2.1, e3⟩, by rw [hk5.block k (by omega) (fun e => e.elim (fun e => by omega) e3), hg.block k e2 fun e => hk.2.2.2 e.symm]⟩
 refine ⟨hobj, ?_, ⟨xs ++ cs, by rw [List.length_append]; exact hown, isRow.snoc hy.five (hy.carry carry) js xs (hv2.carry carry)⟩, ?_, ?_, h.szB, hlt, h.low⟩
 · refine own_keep (own_keep h.keys (S := fun k => vl.ownBlock = some k) (Keep.of_grown hg fun _ _ e => e) fun k e e' => h.ne k e e') hk5 fun k e e' => ?_
   rcases e' with e' | e'
   · have := (hgk k e).1; omega
   · rcases hat with h' | h'
     · exact h.ne k e (h' ▸ e')
     · rw [h'] at e'
       have := Option.some.inj e'
       have := (hgk k e).2
       omega
 · intro i e e'
   rcases hat with h' | h'
   · exact h.ne i e (h' ▸ e')
   · rw [h'] at e'
     have := Option.some.inj e'
     have := (hgk i e).2
     omega
 · refine (h.keep.trans (S' := fun k => vl.ownBlock = some k) (Keep.of_grown hg fun _ _ e => e) fun k hk e => by have := (hgv k e).1; have := h.szB; omega).trans hk5 fun k hk e => ?_
   rcases e with e | e
   · exact e
   · have := (hgv' k e).1
     have := h.szB
     omega
end
def st5 (w : World) (b o : Nat) (v0 v1 v2 v3 v4 : Value) : World := ((((w.setCell ⟨b, o, none⟩ v0).setCell ⟨b, o + 1, none⟩ v1).setCell ⟨b, o + 2, none⟩ v2).setCell ⟨b, o + 3, none⟩ v3).setCell ⟨b, o + 4, none⟩ v4
theorem st5_keep (w : World) (b o : Nat) (v0 v1 v2 v3 v4 : Value) : Keep (One b) w (st5 w b o v0 v1 v2 v3 v4) := by
 have K : ∀ (W : World) (o : Nat) (v : Value), Keep (One b) W (W.setCell ⟨b, o, none⟩ v) := fun W o v => Keep.setCell (Keep.refl _ _) (fun _ => (rfl : b = b)) _
 exact ((((K _ _ _).then (K _ _ _)).then (K _ _ _)).then (K _ _ _)).then (K _ _ _)
theorem st5_own {w : World} {B e b m cap : Nat} {xs : List Value} {z0 z1 z2 z3 z4 : Value} (h : w.ownsRow B e 5 (.slice (some ⟨b, 0, none⟩) (m + 1) cap) (m + 1) (xs ++ [z0, z1, z2, z3, z4])) (hx : xs.length = m * 5) (v0 v1 v2 v3 v4 : Value) :
    (st5 w b (m * 5) v0 v1 v2 v3 v4).ownsRow B e 5 (.slice (some ⟨b, 0, none⟩) (m + 1) cap) (m + 1) (xs ++ [v0, v1, v2, v3, v4]) := by
 have h1 := (((((h.stored (m * 5) v0).1.stored (m * 5 + 1) v1).1.stored (m * 5 + 2) v2).1.stored (m * 5 + 3) v3).1.stored (m * 5 + 4) v4).1
 have e : (((((xs ++ [z0, z1, z2, z3, z4]).set (m * 5) v0).set (m * 5 + 1) v1).set (m * 5 + 2) v2).set (m * 5 + 3) v3).set (m * 5 + 4) v4 = xs ++ [v0, v1, v2, v3, v4] := by
  rw [← hx]
  simp
 rw [e] at h1
 exact h1
end Go.Proofs.YtldegjjaknelgaaGreatDoor

/-
  Keys that stood already, and a key read: by a contract.
  A list that is being read.
  What is written as a number is read as it was.
  What is written as JSON is read as it was.
-/
import Derived.Test.YtegcgbjjpgjnmaaGreatDoorC06
import Derived.Maps.OwnSet
set_option maxRecDepth 100000
set_option maxHeartbeats 16000000
namespace Go.Proofs.YtegcgbjjpgjnmaaGreatDoor
open Go.RowKit Go.Maps
def klS (s : ByteArray) : Lit := .string s.data.toList
def okS (s : ByteArray) : Prop := s.size ≤ maxLen
theorem klS_inj {s t : ByteArray} (h : klS s = klS t) : s = t := by
 unfold klS at h
 cases s; cases t
 simp only [Lit.string.injEq] at h
 rw [Array.toList_inj.1 h]
theorem keyS {s : ByteArray} (h : okS s) : keyOf Tryz.prog 9 (.string s) = some (klS s) := WideMaps.keyOf_string_mk Tryz.underlying9 h
theorem law9 : Keyed Tryz.prog 9 := string_keyed Tryz.underlying9
theorem zeroU (w : World) : (zeroValue 139).run Tryz.prog w = .ok (.agg #[]) w := by kernel_rfl
def hasK (ks : List ByteArray) (s : ByteArray) : Bool := ks.any (fun k => decide (k.data = s.data))
def Stood (w : World) (M : Nat) (ks : List ByteArray) : Prop :=
 ∃ D : DataW Unit, w.ownsMap Tryz.prog 9 (unitElem (H := Unit)) M ks.length D ∧ IsMap D ∧ ∀ s, okS s → Maps.has D (klS s) = hasK ks s
theorem Stood.keep {S : Nat → Prop} {w w' : World} {M : Nat} {ks : List ByteArray} (h : Stood w M ks) (hk : Keep S w w') (hS : ¬ S M) : Stood w' M ks := by
 obtain ⟨D, ⟨es, clock, hb, F, hs, hD⟩, hm, hh⟩ := h
 exact ⟨D, ⟨es, clock, (hk.block M (Array.getElem?_eq_some_iff.1 hb).1 hS).trans hb, F, hs, hD⟩, hm, hh⟩
theorem Stood.lt {w : World} {M : Nat} {ks : List ByteArray} (h : Stood w M ks) : M < w.heap.size := by
 obtain ⟨D, ⟨es, clock, hb, _⟩, _⟩ := h
 exact (Array.getElem?_eq_some_iff.1 hb).1
theorem Stood.made (w : World) : Stood (w.alloc (.map #[] 0)) w.heap.size [] :=
 ⟨.map [], World.ownsMap_made _ _ _ _, ⟨[], rfl⟩, fun _ _ => rfl⟩
theorem hasK_snoc (ks : List ByteArray) (k s : ByteArray) : hasK (ks ++ [k]) s = (hasK ks s || decide (k.data = s.data)) := by
 unfold hasK
 rw [List.any_append]
 simp
theorem Stood.put {w : World} {M : Nat} {ks : List ByteArray} {D : DataW Unit} {s : ByteArray} (hown : w.ownsMap Tryz.prog 9 (unitElem (H := Unit)) M (ks.length + 1) (D.put (klS s) (.agg []))) (hm : IsMap D) (hh : ∀ s, okS s → Maps.has D (klS s) = hasK ks s) (hs : okS s) : Stood w M (ks ++ [s]) := by
 refine ⟨D.put (klS s) (.agg []), by rw [List.length_append]; exact hown, ?_, fun x hx => ?_⟩
 · obtain ⟨es, rfl⟩ := hm
   exact ⟨_, rfl⟩
 · rw [hasK_snoc]
   by_cases e : x = s
   · subst e
     rw [has_put_same hm (show WideAt.IsKeyLit (klS x) from trivial)]
     simp
   · rw [has_put_other (fun h' => e (klS_inj h')), hh x hx]
     have : decide (s.data = x.data) = false := by
      apply decide_eq_false
      intro h'
      apply e
      cases x; cases s
      simp only at h'
      rw [h']
     rw [this, Bool.or_false]
def Two (R M : Nat) : Nat → Prop := fun k => k = R ∨ k = M
def keyTold (w w' : World) (R M : Nat) (s : ByteArray) (ks : List ByteArray) (r : Res ByteArray) (x : Ending) : Prop := match r with
 | .ok c q => x = .returned (.tuple #[.string c, .bool true]) ∧ (∃ e l, Rdr w' R s q e l) ∧ Stood w' M (ks ++ [c]) ∧ Keep (Two R M) w w'
 | .bad e l => x = .returned (.tuple #[.string nix, .bool false]) ∧ (∃ q, Rdr w' R s q e l) ∧ Keep (Two R M) w w'
theorem Keep.one_two {R M : Nat} {w w' : World} (h : Keep (One R) w w') : Keep (Two R M) w w' := h.mono fun _ _ h => .inl h
theorem key_any {w : World} {R M p : Nat} {s : ByteArray} {e l : Int} {ks : List ByteArray} (hr : Rdr w R s p e l) (hs : short s) (hst : Stood w M ks) (hRM : R ≠ M) (hkl : ks.length ≤ 100000) :
    Calls Tryz.prog 168 #[.pointer (some ⟨R, 0, none⟩), .map (some M)] w fun x w' => keyTold w w' R M s ks (keyAt (ints s) ks p) x := by
 have hsz := hs
 unfold short at hsz
 have c1 := hr.c1
 have pk := peek_any hr
 by_cases h34 : byteAt (ints s) p = 34
 · have hlt : p < s.size := by
     have := byteAt_lt (t := ints s) (p := p) (by rw [h34]; decide)
     rw [ints_length] at this; exact this
   rw [h34] at pk
   have qt := quoted_any hr hs hlt
   have hadv := quoted_adv (t := ints s) (p := p) (by rw [ints_length]; exact hlt)
   cases hq : quoted (ints s) p with
   | bad e' l' =>
    have HK : Hid (keyAt (ints s) ks p = .bad e' l') := by unfold keyAt; rw [if_pos h34, hq]; rfl
    rw [hq] at qt
    go_enter Tryz.func168, Tryz.ntmps168
    go_wp2_with (first
     | (go_at_call 138; refine pk.mono ?_; rintro x w' ⟨rfl, rfl⟩)
     | (go_at_call 141; refine qt.mono ?_; rintro x w1 ⟨rfl, hk1⟩))
    go_ret2
    rw [HK.out]
    exact ⟨rfl, hk1.1, hk1.2.one_two⟩
   | ok c q =>
    rw [hq] at qt hadv
    have hqb : p < q ∧ q ≤ s.size := by have h : p < q ∧ q ≤ (ints s).length := hadv; rw [ints_length] at h; exact h
    have hlen := (quoL_out _ _ _ _ _ _ hq).1
    have hok : okS (strOfNums c) := by
     unfold okS
     rw [str_size]
     simp only [List.length_nil] at hlen
     unfold maxLen
     omega
    have hkey := keyS hok
    have HK : Hid (keyAt (ints s) ks p = if hasK ks (strOfNums c) = true then .bad 14 p else (must (ints s) 58 (blanks (ints s) q)).bind fun _ r => .ok (strOfNums c) (blanks (ints s) r)) := by unfold keyAt; rw [if_pos h34, hq]; rfl
    obtain ⟨u, hu⟩ : ∃ u, strOfNums c = u := ⟨_, rfl⟩
    rw [hu] at hok hkey HK
    have qt' : Calls Tryz.prog 141 #[.pointer (some ⟨R, 0, none⟩)] w fun x w' => x = .returned (.tuple #[.string u, .bool true]) ∧ OkAt w w' R s q := by rw [← hu]; exact qt
    clear qt hu hlen
    obtain ⟨D, hown, hmap, hhas⟩ := hst
    have hMlt := hown.lt
    have HH : Hid (∀ s, okS s → Maps.has D (klS s) = hasK ks s) := hhas
    have HM : Hid (IsMap D) := hmap
    have hhu := hhas u hok
    have HML : Hid (ks.length < maxLen) := by show _ < _; unfold maxLen; omega
    have HV : Hid (unitElem (H := Unit) (.agg #[]) = some (.agg [], [])) := unitElem_mk
    clear hhas hmap
    have blk : ∀ w1 : World, Keep (One R) w w1 → w1.ownsMap Tryz.prog 9 (unitElem (H := Unit)) M ks.length D := by
     intro w1 hk1
     obtain ⟨es, clock, hb, F, hs', hD⟩ := hown
     exact ⟨es, clock, (hk1.block M (Array.getElem?_eq_some_iff.1 hb).1 (fun h => hRM h.symm)).trans hb, F, hs', hD⟩
    cases hhk : hasK ks u with
    | true =>
     rw [hhk] at hhu
     have HB : Hid (keyAt (ints s) ks p = .bad 14 p) := by rw [HK.out, if_pos hhk]; rfl
     go_enter Tryz.func168, Tryz.ntmps168
     go_wp2_with (first
      | (go_at_call 138; refine pk.mono ?_; rintro x w' ⟨rfl, rfl⟩)
      | (go_at_call 141; refine qt'.mono ?_; rintro x w1 ⟨rfl, ⟨⟨e1, l1, hr1⟩, hk1⟩⟩; have hown1 := blk w1 hk1; have hr1a := hr1.keep (S := fun _ => False) ((Keep.refl _ _).alloc (.cells #[] 139)) (fun h => h))
      | (at_lookup; refine wpList_lookup_own_unit _ rfl _ _ 138 rfl 9 139 law9 Tryz.underlying138 (zeroU _) M ks.length D rfl hown1 _ _ rfl hkey ?_; rw [hhu])
      | (go_at_call 116; refine (fail_any hr1a 14 (p : Int)).mono ?_; rintro x w3 ⟨rfl, hr3, hk3⟩))
     go_ret2
     rw [HB.out]
     exact ⟨rfl, ⟨_, hr3⟩, ((hk1.alloc _).then hk3).one_two⟩
    | false =>
     rw [hhk] at hhu
     have hbl := blanks_le (t := ints s) (p := q) (by rw [ints_length]; exact hqb.2)
     rw [ints_length] at hbl
     by_cases hm : byteAt (ints s) (blanks (ints s) q) = 58
     · have hlt2 : blanks (ints s) q < s.size := by
         have := byteAt_lt (t := ints s) (p := blanks (ints s) q) (by rw [hm]; decide)
         rw [ints_length] at this; exact this
       have HB : Hid (keyAt (ints s) ks p = .ok u (blanks (ints s) (blanks (ints s) q + 1))) := by rw [HK.out, if_neg (by simp [hhk])]; unfold must; rw [if_pos hm]; rfl
       go_enter Tryz.func168, Tryz.ntmps168
       go_wp2_with (first
        | (go_at_call 138; refine pk.mono ?_; rintro x w' ⟨rfl, rfl⟩)
        | (go_at_call 141; refine qt'.mono ?_; rintro x w1 ⟨rfl, ⟨⟨e1, l1, hr1⟩, hk1⟩⟩; have hown1 := blk w1 hk1; have hown1a := hown1.alloc (.cells #[] 139))
        | (at_lookup; refine wpList_lookup_own_unit _ rfl _ _ 138 rfl 9 139 law9 Tryz.underlying138 (zeroU _) M ks.length D rfl hown1 _ _ rfl hkey ?_; rw [hhu])
        | (at_mapUpdate; refine wpList_mapUpdate_own _ rfl _ _ _ 138 rfl 9 139 law9 Tryz.underlying138 _ M ks.length D rfl hown1a HML.out _ _ _ rfl rfl hkey (.agg []) [] HV.out ?_; intro w2 hown2 hg2
           have hr2 : Rdr w2 R s q e1 l1 := (hr1.keep (S := fun _ => False) ((Keep.refl _ _).alloc (.cells #[] 139)) (fun h => h)).keep (S := fun k => k = M) (Keep.of_grown hg2 fun _ _ e => (Option.some.inj e).symm) hRM
           have hk2 : Keep (Two R M) w w2 := ((hk1.alloc (.cells #[] 139)).one_two (M := M)).trans (S' := fun k => k = M) (Keep.of_grown hg2 fun _ _ e => (Option.some.inj e).symm) fun _ _ h => .inr h)
        | (go_at_call 114; have _h := hr4; refine (blanks_any hr4 hs hlt2).mono ?_; rintro x w5 ⟨rfl, ⟨⟨e5, l5, hr5⟩, hk5⟩⟩)
        | (go_at_call 114; refine (blanks_any hr2 hs hqb.2).mono ?_; rintro x w3 ⟨rfl, ⟨⟨e3, l3, hr3⟩, hk3⟩⟩)
        | (go_at_call 164; refine (must_yes hr3 (by omega) 58 hm).mono ?_; rintro x w4 ⟨rfl, ⟨⟨e4, l4, hr4⟩, hk4⟩⟩))
       go_ret2
       rw [HB.out]
       have hstood := Stood.put hown2 HM.out HH.out hok
       exact ⟨rfl, ⟨_, _, hr5⟩, ((hstood.keep hk3 fun h => hRM h.symm).keep hk4 fun h => hRM h.symm).keep hk5 fun h => hRM h.symm, ((hk2.then hk3.one_two).then hk4.one_two).then hk5.one_two⟩
     · have HB : Hid (keyAt (ints s) ks p = .bad 11 (blanks (ints s) q)) := by rw [HK.out, if_neg (by simp [hhk])]; unfold must; rw [if_neg hm]; rfl
       go_enter Tryz.func168, Tryz.ntmps168
       go_wp2_with (first
        | (go_at_call 138; refine pk.mono ?_; rintro x w' ⟨rfl, rfl⟩)
        | (go_at_call 141; refine qt'.mono ?_; rintro x w1 ⟨rfl, ⟨⟨e1, l1, hr1⟩, hk1⟩⟩; have hown1 := blk w1 hk1; have hown1a := hown1.alloc (.cells #[] 139))
        | (at_lookup; refine wpList_lookup_own_unit _ rfl _ _ 138 rfl 9 139 law9 Tryz.underlying138 (zeroU _) M ks.length D rfl hown1 _ _ rfl hkey ?_; rw [hhu])
        | (at_mapUpdate; refine wpList_mapUpdate_own _ rfl _ _ _ 138 rfl 9 139 law9 Tryz.underlying138 _ M ks.length D rfl hown1a HML.out _ _ _ rfl rfl hkey (.agg []) [] HV.out ?_; intro w2 hown2 hg2
           have hr2 : Rdr w2 R s q e1 l1 := (hr1.keep (S := fun _ => False) ((Keep.refl _ _).alloc (.cells #[] 139)) (fun h => h)).keep (S := fun k => k = M) (Keep.of_grown hg2 fun _ _ e => (Option.some.inj e).symm) hRM
           have hk2 : Keep (Two R M) w w2 := ((hk1.alloc (.cells #[] 139)).one_two (M := M)).trans (S' := fun k => k = M) (Keep.of_grown hg2 fun _ _ e => (Option.some.inj e).symm) fun _ _ h => .inr h)
        | (go_at_call 114; refine (blanks_any hr2 hs hqb.2).mono ?_; rintro x w3 ⟨rfl, ⟨⟨e3, l3, hr3⟩, hk3⟩⟩)
        | (go_at_call 164; refine (must_no hr3 58 hm).mono ?_; rintro x w4 ⟨rfl, ⟨⟨q4, hr4⟩, hk4⟩⟩))
       go_ret2
       rw [HB.out]
       exact ⟨rfl, ⟨_, hr4⟩, (hk2.then hk3.one_two).then hk4.one_two⟩
 · have hb : (byteAt (ints s) p != 34) = true := by simp [h34]
   have HK : Hid (keyAt (ints s) ks p = .bad 11 p) := by unfold keyAt; rw [if_neg h34]; rfl
   go_enter Tryz.func168, Tryz.ntmps168
   go_wp2_with (first
    | (go_at_call 138; refine pk.mono ?_; rintro x w' ⟨rfl, rfl⟩)
    | (go_at_call 116; refine (fail_any hr 11 (p : Int)).mono ?_; rintro x w3 ⟨rfl, hr3, hk3⟩))
   go_ret2
   rw [HK.out]
   exact ⟨rfl, ⟨_, hr3⟩, hk3.one_two⟩
end Go.Proofs.YtegcgbjjpgjnmaaGreatDoor
namespace Go.Proofs.YtegcgbjjpgjnmaaGreatDoor
open Go.RowKit
def Elt (B : Nat) (v : Value) (w : World) : Nat → Prop := fun k => B ≤ k ∧ k < w.heap.size ∧ v.ownBlock ≠ some k
def Vals (B : Nat) (w : World) (v : Value) (acc : List J) : Prop := ∃ xs, w.ownsRow B 25 5 v acc.length xs ∧ isRow (Elt B v w) w acc xs
theorem Vals.nil (B : Nat) (w : World) : Vals B w (.slice none 0 0) [] := ⟨[], World.ownsRow_nil _ _ _ _, rfl⟩
theorem Vals.keep {B : Nat} {S : Nat → Prop} {w w' : World} {v : Value} {acc : List J} (h : Vals B w v acc) (hk : Keep S w w') (hS : ∀ k, B ≤ k → ¬ S k) : Vals B w' v acc := by
 obtain ⟨xs, h1, h2⟩ := h
 have hs := hk.size
 refine ⟨xs, own_keep h1 hk fun k e => hS k (own_ge h1 k e).1, h2.carry fun k hk' => ⟨⟨hk'.1, by have := hk'.2.1; omega, hk'.2.2⟩, hk.block k hk'.2.1 (hS k hk'.1)⟩⟩
theorem Vals.push {B : Nat} {W W2 : World} {v v' : Value} {acc : List J} {y : J} {cs xs : List Value} {o : Obj} (h2 : isRow (Elt B v W) W acc xs) (hy : isJ (Elt B v W) W y cs)
    (hown : W2.ownsRow B 25 5 v' (acc.length + 1) (xs ++ cs)) (hg : (W.alloc o).grownBy W2 v.ownBlock) (hat : v'.ownBlock = v.ownBlock ∨ v'.ownBlock = some (W.alloc o).heap.size) : Vals B W2 v' (acc ++ [y]) := by
 have hs := hg.size
 simp at hs
 have carry : ∀ k, Elt B v W k → Elt B v' W2 k ∧ W2.heap[k]? = W.heap[k]? := by
  intro k hk
  refine ⟨⟨hk.1, by have := hk.2.1; omega, fun e => ?_⟩, grown_at hg hk.2.1 hk.2.2⟩
  rcases hat with h | h
  · exact hk.2.2 (h ▸ e)
  · rw [h] at e
    have h3 : (W.alloc o).heap.size = k := Option.some.inj e
    simp at h3
    have := hk.2.1
    omega
 exact ⟨xs ++ cs, by rw [List.length_append]; exact hown, isRow.snoc hy.five (hy.carry carry) acc xs (h2.carry carry)⟩
structure LI (B R b : Nat) (WA : World) (acc : List J) (vl : Value) (wr : World) : Prop where
 obj : wr.heap[b + 1]? = some (.cells #[.int .i64 4, .int .i64 0, .string ⟨#[]⟩, .slice none 0 0, vl] 25 (0, 0))
 res : wr.heap[b]? = some (.cells #[.int .i64 0, .int .i64 0, .string ⟨#[]⟩, .slice none 0 0, .slice none 0 0] 25 (0, 0))
 vals : Vals B wr vl acc
 keep : Keep (Two R (b + 1)) WA wr
 szA : WA.heap.size = B
 lt : b + 1 < B
 rb : R < b
section
variable {B R b : Nat} {WA W W2 : World} {acc : List J} {vl vl' : Value}
theorem LI.size (h : LI B R b WA acc vl W) : B ≤ W.heap.size := by have := h.keep.size; have := h.szA; omega
theorem LI.one (h : LI B R b WA acc vl W) (hk : Keep (One R) W W2) : LI B R b WA acc vl W2 := by
 have h1 := h.size
 have h2 := h.lt
 have h3 := h.rb
 exact ⟨(hk.block _ (by omega) (by unfold One; omega)).trans h.obj, (hk.block _ (by omega) (by unfold One; omega)).trans h.res, h.vals.keep hk fun k hB => by unfold One; omega, h.keep.then hk.one_two, h.szA, h2, h3⟩
theorem LI.alloc (h : LI B R b WA acc vl W) (o : Obj) : LI B R b WA acc vl (W.alloc o) := h.one ((Keep.refl _ _).alloc o)
theorem LI.c4 (h : LI B R b WA acc vl W) : W.cell? ⟨b + 1, 4, none⟩ = some vl := five_c4 h.obj
theorem LI.push (h : LI B R b WA acc vl W) {y : J} {cs xs : List Value} {o : Obj} (h1 : W.ownsRow B 25 5 vl acc.length xs) (h2 : isRow (Elt B vl W) W acc xs) (hy : isJ (Elt B vl W) W y cs)
    (hown : W2.ownsRow B 25 5 vl' (acc.length + 1) (xs ++ cs)) (hg : (W.alloc o).grownBy W2 vl.ownBlock) (hat : vl'.ownBlock = vl.ownBlock ∨ vl'.ownBlock = some (W.alloc o).heap.size) :
    W2.cell? ⟨b + 1, 4, none⟩ = some vl ∧ W2.frozen? ⟨b + 1, 4, none⟩ = false ∧ LI B R b WA (acc ++ [y]) vl' (W2.setCell ⟨b + 1, 4, none⟩ vl') := by
 have hsz := h.size
 have hlt := h.lt
 have hrb := h.rb
 have hgv := own_ge h1
 have ob : W2.heap[b + 1]? = some (.cells #[.int .i64 4, .int .i64 0, .string ⟨#[]⟩, .slice none 0 0, vl] 25 (0, 0)) := by
  rw [grown_at hg (by omega) (fun e => by have := hgv _ e; omega)]; exact h.obj
 have rs : W2.heap[b]? = some (.cells #[.int .i64 0, .int .i64 0, .string ⟨#[]⟩, .slice none 0 0, .slice none 0 0] 25 (0, 0)) := by
  rw [grown_at hg (by omega) (fun e => by have := hgv _ e; omega)]; exact h.res
 have K3 : Keep (One (b + 1)) W2 (W2.setCell ⟨b + 1, 4, none⟩ vl') := Keep.setCell (Keep.refl _ _) (fun _ => (rfl : b + 1 = b + 1)) _
 refine ⟨five_c4 ob, five_fz ob 4, ⟨?_, ?_, ?_, ?_, h.szA, hlt, hrb⟩⟩
 · rw [heap_setCell_same _ (b + 1) 4 _ _ _ ob]; rfl
 · rw [K3.block b (by have := (Array.getElem?_eq_some_iff.1 rs).1; omega) (by unfold One; omega)]; exact rs
 · exact (Vals.push h2 hy hown hg hat).keep K3 fun k hB => by unfold One; omega
 · have k1 : Keep (Two R (b + 1)) WA (W.alloc o) := h.keep.alloc o
   have k2 : Keep (Two R (b + 1)) WA W2 := k1.grown hg fun k e => by have := (hgv k e).1; have := h.szA; omega
   exact k2.then (K3.mono fun i _ hi => .inr hi)
end
theorem wpList_app {w : World} {ops : Array Oper} {rest : List Oper} {o : Oper} {a : Act} {Q : Exit → Act → World → Prop} (hgd : o.guard = none) (s x : Operand) (t : TypeId)
    (ho : o.op = .call { callee := .builtin .append, args := #[s, x], argTypes := #[t, t] })
    (base : Nat) (e : TypeId) (z : Value) (size bytes : Nat) (ht : Tryz.prog.underlying t = some (.slice e)) (hinfo : (Tryz.prog.info? e).map (fun i => (i.zero, i.size, i.bytes)) = some (some z, size, bytes))
    (hzs : z.cells.size = size) (hsz : 0 < size) (hby : bytes ≤ 100)
    (v : Value) (n : Nat) (xs : List Value) (hs : a.eval s = v) (hown : w.ownsRow base e size v n xs)
    (ad : Addr) (news : List Value) (hx : a.eval x = .slice (some ad) 1 1) (hl : news.length = size) (hnews : ∀ j u, news[j]? = some u → w.cell? (ad.add j) = some u) (h1 : ∀ u ∈ news, u.oneCell' = true)
    (hn : n ≤ 1000000) (hbase : base ≤ w.heap.size)
    (h : ∀ v' w', w'.ownsRow base e size v' (n + 1) (xs ++ news) → w.grownBy w' v.ownBlock → (v'.ownBlock = v.ownBlock ∨ v'.ownBlock = some w.heap.size) → wpList Tryz.prog ops Q rest (a.put o.dst v') w') : wpList Tryz.prog ops Q (o :: rest) a w :=
 wpList_plain hgd fun _ hK => wp_append_at s x t ho base e z size bytes ht hinfo hzs hsz hby v n xs hs hown ad news hx hl hnews h1 hn hbase fun v' w' h2 h3 h4 => hK _ _ (h v' w' h2 h3 h4)
end Go.Proofs.YtegcgbjjpgjnmaaGreatDoor
namespace Go.Proofs.YtegcgbjjpgjnmaaGreatDoor
def ten (u : Nat) : List Int := (Lib.decDigits u).map fun c => (c.toNat : Int)
theorem ten_small (u : Nat) (h : u < 10) : ten u = [48 + (u : Int)] := by
 unfold ten
 rw [Lib.decDigits, dif_pos h]
 simp
 omega
theorem ten_big (u : Nat) (h : ¬ u < 10) : ten u = ten (u / 10) ++ [48 + ((u % 10 : Nat) : Int)] := by
 unfold ten
 rw [Lib.decDigits, dif_neg h, List.map_append]
 simp
 omega
theorem ten_dig (u : Nat) : ∀ c ∈ ten u, isDig c = true := by
 induction u using Nat.strongRecOn with
 | _ u ih =>
  intro c hc
  by_cases h : u < 10
  · rw [ten_small u h] at hc
    simp at hc
    unfold isDig; simp; omega
  · rw [ten_big u h] at hc
    rcases List.mem_append.1 hc with h1 | h1
    · exact ih (u / 10) (by omega) c h1
    · simp at h1
      unfold isDig; simp; omega
theorem digs_snoc (l : List Int) (c : Int) : digs (l ++ [c]) = if digs l ≤ maxInt then digs l * 10 + (c - 48) else digs l := by
 unfold digs
 rw [List.foldl_append]
 rfl
theorem ten_val (u : Nat) (hu : (u : Int) ≤ maxInt) : digs (ten u) = u := by
 induction u using Nat.strongRecOn with
 | _ u ih =>
  by_cases h : u < 10
  · rw [ten_small u h]
    unfold digs maxInt
    simp
    omega
  · unfold maxInt at hu
    rw [ten_big u h, digs_snoc, ih (u / 10) (by omega) (by unfold maxInt; omega), if_pos (by unfold maxInt; omega)]
    omega
theorem ten_ne (u : Nat) : ten u ≠ [] := by
 by_cases h : u < 10
 · rw [ten_small u h]; simp
 · rw [ten_big u h]; simp
theorem ten_head (u : Nat) (h1 : 1 ≤ u) : ∃ c r, ten u = c :: r ∧ c ≠ 48 ∧ isDig c = true := by
 induction u using Nat.strongRecOn with
 | _ u ih =>
  by_cases h : u < 10
  · exact ⟨48 + u, [], ten_small u h, by omega, by unfold isDig; simp; omega⟩
  · obtain ⟨c, r, e, hc⟩ := ih (u / 10) (by omega) (by omega)
    exact ⟨c, r ++ [48 + ((u % 10 : Nat) : Int)], by rw [ten_big u h, e]; rfl, hc⟩
def noDig (r : List Int) : Prop := ∀ c, r.head? = some c → isDig c = false
theorem take_digs (x r : List Int) (hx : ∀ c ∈ x, isDig c = true) (hr : noDig r) : (x ++ r).takeWhile isDig = x := by
 induction x with
 | nil =>
  cases r with
  | nil => rfl
  | cons c r => rw [List.nil_append, List.takeWhile_cons, hr c rfl]; rfl
 | cons c x ih =>
  rw [List.cons_append, List.takeWhile_cons, hx c (by simp)]
  simp only [if_true]
  rw [ih fun d hd => hx d (by simp [hd])]
theorem digits_back {t r : List Int} {p u : Nat} (hu : (u : Int) ≤ maxInt) (hr : noDig r) (hd : t.drop p = ten u ++ r) : digits t p = ((u : Int), p + (ten u).length) := by
 unfold digits
 by_cases h0 : u = 0
 · subst h0
   have e : ten 0 = [48] := ten_small 0 (by omega)
   rw [e] at hd ⊢
   rw [if_pos (byte_head hd)]
   rfl
 · obtain ⟨c, x, e, hc, _⟩ := ten_head u (by omega)
   have hb : byteAt t p = c := byte_head (r := x ++ r) (by rw [hd, e]; rfl)
   rw [if_neg (by rw [hb]; exact hc), hd, take_digs _ _ (ten_dig u) hr, ten_val u hu]
theorem number_back {t r : List Int} {p : Nat} {i : Int} (h0 : -maxInt ≤ i) (h1 : i ≤ maxInt) (hr : noDig r) (hn : ∀ c, r.head? = some c → c ≠ 46 ∧ c ≠ 101 ∧ c ≠ 69) (hd : t.drop p = numB i ++ r) :
    number t p = .ok (.mk 2 i nix [] []) (p + (numB i).length) ∧ (byteAt t p = 45 ∨ isDig (byteAt t p) = true) := by
 have hend : ∀ q, t.drop q = r → ¬ (byteAt t q = 46 ∨ byteAt t q = 101 ∨ byteAt t q = 69) := by
  intro q hq
  cases r with
  | nil => rw [byte_end hq]; decide
  | cons c r =>
   rw [byte_head hq]
   have := hn c rfl
   omega
 unfold numB Lib.itoa at hd ⊢
 by_cases hi : i < 0
 · rw [if_pos hi] at hd ⊢
   obtain ⟨u, hu⟩ : ∃ u : Nat, i = -(u : Int) := ⟨i.natAbs, by omega⟩
   have hab : i.natAbs = u := by omega
   rw [hab] at hd ⊢
   have hd1 : t.drop p = 45 :: (ten u ++ r) := by rw [hd]; rfl
   have b0 := byte_head hd1
   have hd2 := drop_tail hd1
   have hu1 : 1 ≤ u := by omega
   obtain ⟨c, x, e, _, hc⟩ := ten_head u hu1
   have b1 : byteAt t (p + 1) = c := byte_head (r := x ++ r) (by rw [hd2, e]; rfl)
   have hdg := digits_back (t := t) (p := p + 1) (u := u) (by omega) hr hd2
   refine ⟨?_, .inl b0⟩
   unfold number
   rw [if_pos b0, b1, if_pos hc]
   simp only [hdg]
   have hq := hend (p + 1 + (ten u).length) (drop_app hd2)
   rw [if_neg (by intro h; rcases h with h | h; · omega
                  · exact hq h), if_pos b0]
   congr 1
   · rw [hu]
   · simp only [List.map_cons, List.length_cons]
     unfold ten
     omega
 · rw [if_neg hi] at hd ⊢
   obtain ⟨u, rfl⟩ : ∃ u : Nat, i = (u : Int) := ⟨i.toNat, by omega⟩
   rw [Int.toNat_natCast] at hd ⊢
   have hd1 : t.drop p = ten u ++ r := hd
   have hhead : ∃ c x, ten u = c :: x ∧ isDig c = true := by
    cases he : ten u with
    | nil => exact absurd he (ten_ne u)
    | cons c x => exact ⟨c, x, rfl, ten_dig u c (by rw [he]; simp)⟩
   obtain ⟨c, x, e, hc⟩ := hhead
   have b0 : byteAt t p = c := byte_head (r := x ++ r) (by rw [hd1, e]; rfl)
   have h45 : c ≠ 45 := by intro h; rw [h] at hc; revert hc; decide
   have hdg := digits_back (t := t) (p := p) (u := u) h1 hr hd1
   refine ⟨?_, .inr (by rw [b0]; exact hc)⟩
   unfold number
   have e45 : ¬ byteAt t p = 45 := by rw [b0]; exact h45
   have e46 : (if byteAt t p = 45 then p + 1 else p) = p := if_neg e45
   rw [e46, if_pos (by rw [b0]; exact hc)]
   simp only [hdg]
   have hq := hend (p + (ten u).length) (drop_app hd1)
   rw [if_neg (by intro h; rcases h with h | h; · omega
                  · exact hq h), if_neg e45]
   rfl
def Stop (r : List Int) : Prop := ∀ c, r.head? = some c → c = 44 ∨ c = 93 ∨ c = 125
theorem stop_dig {r : List Int} (h : Stop r) : noDig r := fun c hc => by
 rcases h c hc with rfl | rfl | rfl <;> decide
theorem stop_sign {r : List Int} (h : Stop r) : ∀ c, r.head? = some c → c ≠ 46 ∧ c ≠ 101 ∧ c ≠ 69 := fun c hc => by
 rcases h c hc with rfl | rfl | rfl <;> decide
theorem blanks_none {t r : List Int} {p : Nat} {c : Int} (hd : t.drop p = c :: r) (hc : isBlank c = false) : blanks t p = p := by
 unfold blanks
 rw [hd, List.takeWhile_cons, hc]
 rfl
theorem blanks_end {t : List Int} {p : Nat} (hd : t.drop p = []) : blanks t p = p := by
 unfold blanks
 rw [hd]
 rfl
theorem must_back {t r : List Int} {p : Nat} {c : Int} (hd : t.drop p = c :: r) : must t c p = .ok () (p + 1) := by
 unfold must
 rw [if_pos (byte_head hd)]
theorem word_back {t : List Int} : ∀ (l r : List Int) (p : Nat), t.drop p = l ++ r → word t l p = .ok () (p + l.length)
 | [], _, _, _ => rfl
 | c :: l, r, p, hd => by
  unfold word
  rw [must_back (r := l ++ r) hd]
  simp only [Res.bind]
  rw [word_back l r (p + 1) (drop_tail hd)]
  simp only [List.length_cons]
  congr 1
  omega
theorem enc_head (d : Nat) (j : J) (hg : goodJ d j = true) : ∃ c r, enc' j = c :: r ∧ isBlank c = false ∧ begins c = true ∧ c ≠ 93 ∧ c ≠ 125 := by
 cases j with
 | mk k i t ks l =>
  cases d with
  | zero => cases hg
  | succ d =>
   unfold goodJ at hg
   simp only [Bool.and_eq_true] at hg
   have h := hg.2
   unfold enc'
   split
   · exact ⟨110, _, rfl, by decide, by decide, by decide, by decide⟩
   split
   · split
     · exact ⟨116, _, rfl, by decide, by decide, by decide, by decide⟩
     · exact ⟨102, _, rfl, by decide, by decide, by decide, by decide⟩
   split
   · unfold numB Lib.itoa
     split
     · exact ⟨45, _, rfl, by decide, by decide, by decide, by decide⟩
     · have hn := ten_ne i.toNat
       have hd := ten_dig i.toNat
       unfold ten at hn hd
       cases he : (Lib.decDigits i.toNat).map fun c => (c.toNat : Int) with
       | nil => exact absurd he hn
       | cons c r =>
        have hc := hd c (by rw [he]; simp)
        refine ⟨c, r, rfl, ?_, by unfold begins; rw [hc]; simp, ?_, ?_⟩
        · unfold isDig at hc; unfold isBlank; simp at hc ⊢; omega
        · unfold isDig at hc; simp at hc; omega
        · unfold isDig at hc; simp at hc; omega
   split
   · exact ⟨34, _, rfl, by decide, by decide, by decide, by decide⟩
   split
   · exact ⟨91, _, rfl, by decide, by decide, by decide, by decide⟩
   split
   · exact ⟨123, _, rfl, by decide, by decide, by decide, by decide⟩
   · rename_i h0 h1 h2 h3 h4 h5
     rw [if_neg h0, if_neg h1, if_neg h2, if_neg h3, if_neg h4, if_neg h5] at h
     cases h
theorem encL_cons (b : Bool) (j : J) (r : List J) : encL b (j :: r) = (if b then [] else [44]) ++ (enc' j ++ encL false r) := by rw [encL]
theorem encP_cons (b : Bool) (ks : List ByteArray) (j : J) (r : List J) : encP b ks (j :: r) = (if b then [] else [44]) ++ (quote (ints (ks.headD nix)) ++ (58 :: (enc' j ++ encP false ks.tail r))) := by rw [encP]
theorem listL_succ (t : List Int) (f : Nat → Res J) (m p : Nat) (acc : List J) : listL t f (m + 1) p acc = (f (blanks t p)).bind fun v q =>
    if byteAt t (blanks t q) = 93 then .ok (.mk 4 0 nix [] (acc ++ [v])) (blanks t q + 1)
    else if byteAt t (blanks t q) = 44 then listL t f m (blanks t q + 1) (acc ++ [v])
    else .bad 11 (blanks t q) := rfl
theorem pairsL_succ (t : List Int) (f : Nat → Res J) (m p : Nat) (ks : List ByteArray) (acc : List J) : pairsL t f (m + 1) p ks acc = (keyAt t ks (blanks t p)).bind fun s q => (f q).bind fun v r =>
    if byteAt t (blanks t r) = 125 then .ok (mapOf (ks ++ [s]) (acc ++ [v])) (blanks t r + 1)
    else if byteAt t (blanks t r) = 44 then pairsL t f m (blanks t r + 1) (ks ++ [s]) (acc ++ [v])
    else .bad 11 (blanks t r) := rfl
theorem list_back {t : List Int} {d : Nat} {f : Nat → Res J} (hf : ∀ (j : J) (p : Nat) (r : List Int), goodJ d j = true → inOrd j = true → t.drop p = enc' j ++ r → Stop r → f p = .ok j (p + (enc' j).length)) :
    ∀ (l : List J) (m p : Nat) (acc : List J) (r : List Int), l ≠ [] → l.all (goodJ d) = true → inOrdL l = true → l.length < m → t.drop p = encL true l ++ 93 :: r →
     listL t f m p acc = .ok (.mk 4 0 nix [] (acc ++ l)) (p + (encL true l).length + 1)
 | [], _, _, _, _, h, _, _, _, _ => absurd rfl h
 | j :: l, 0, _, _, _, _, _, _, hm, _ => by omega
 | j :: l, m + 1, p, acc, r, _, hg, ho, hm, hd => by
  simp only [List.all_cons, Bool.and_eq_true] at hg
  have ho' : inOrd j = true ∧ inOrdL l = true := by unfold inOrdL at ho; simpa using ho
  have e0 : encL true (j :: l) = enc' j ++ encL false l := by rw [encL_cons]; simp
  rw [e0, List.append_assoc] at hd
  obtain ⟨c, x, hh, hbl, _⟩ := enc_head d j hg.1
  have hd0 : t.drop p = c :: (x ++ (encL false l ++ 93 :: r)) := by rw [hd, hh]; rfl
  have hb0 := blanks_none hd0 hbl
  have hnext := drop_app hd
  have hstop : Stop (encL false l ++ 93 :: r) := by
   intro y hy
   cases l with
   | nil => unfold encL at hy; simp at hy; omega
   | cons j2 l2 => unfold encL at hy; simp at hy; omega
  rw [listL_succ, hb0, hf j p _ hg.1 ho'.1 hd hstop]
  simp only [Res.bind]
  cases l with
  | nil =>
   have hd1 : t.drop (p + (enc' j).length) = 93 :: r := by rw [hnext]; unfold encL; rfl
   rw [blanks_none hd1 (by decide), if_pos (byte_head hd1), e0]
   unfold encL
   simp
  | cons j2 l2 =>
   have e1 : encL false (j2 :: l2) = 44 :: encL true (j2 :: l2) := by rw [encL_cons, encL_cons]; simp
   have hd1 : t.drop (p + (enc' j).length) = 44 :: (encL true (j2 :: l2) ++ 93 :: r) := by rw [hnext, e1]; rfl
   rw [blanks_none hd1 (by decide), if_neg (by rw [byte_head hd1]; decide), if_pos (byte_head hd1)]
   rw [list_back hf (j2 :: l2) m (p + (enc' j).length + 1) (acc ++ [j]) r (by simp) hg.2 ho'.2 (by simp at hm ⊢; omega) (drop_tail hd1), e0, e1]
   simp only [List.append_assoc, List.singleton_append, List.length_append, List.length_cons]
   congr 1
   omega
theorem key_back {t r : List Int} {p : Nat} {ks : List ByteArray} {k : ByteArray} {c : Int} (hn : ∀ x ∈ ks, x ≠ k) (hc : isBlank c = false) (hd : t.drop p = quote (ints k) ++ 58 :: c :: r) :
    keyAt t ks p = .ok k (p + (quote (ints k)).length + 1) := by
 obtain ⟨hq, hb⟩ := quoted_back (ints_bd k) hd
 have hd1 := drop_app hd
 have hd2 := drop_tail hd1
 unfold keyAt
 rw [if_pos hb, hq]
 simp only [Res.bind, str_ints]
 rw [if_neg, blanks_none hd1 (by decide), must_back hd1]
 · simp only
   rw [blanks_none hd2 hc]
 · intro h
   obtain ⟨x, hx, hxe⟩ := List.any_eq_true.1 h
   refine hn x hx ?_
   cases x; cases k
   simp at hxe
   rw [hxe]
theorem pairs_back {t : List Int} {d : Nat} {f : Nat → Res J} (hf : ∀ (j : J) (p : Nat) (r : List Int), goodJ d j = true → inOrd j = true → t.drop p = enc' j ++ r → Stop r → f p = .ok j (p + (enc' j).length)) :
    ∀ (l : List J) (ks ks0 : List ByteArray) (m p : Nat) (acc : List J) (r : List Int), l ≠ [] → ks.length = l.length → rises (ks0 ++ ks) = true → l.all (goodJ d) = true → inOrdL l = true → l.length < m → t.drop p = encP true ks l ++ 125 :: r →
     pairsL t f m p ks0 acc = .ok (mapOf (ks0 ++ ks) (acc ++ l)) (p + (encP true ks l).length + 1)
 | [], _, _, _, _, _, _, h, _, _, _, _, _, _ => absurd rfl h
 | j :: l, [], _, _, _, _, _, _, h, _, _, _, _, _ => by simp at h
 | j :: l, k :: ks, _, 0, _, _, _, _, _, _, _, _, hm, _ => by omega
 | j :: l, k :: ks, ks0, m + 1, p, acc, r, _, hl, hr, hg, ho, hm, hd => by
  simp only [List.all_cons, Bool.and_eq_true] at hg
  have ho' : inOrd j = true ∧ inOrdL l = true := by unfold inOrdL at ho; simpa using ho
  have e0 : encP true (k :: ks) (j :: l) = quote (ints k) ++ (58 :: (enc' j ++ encP false ks l)) := by rw [encP_cons]; simp
  rw [e0] at hd
  obtain ⟨c, x, hh, hbl, _⟩ := enc_head d j hg.1
  have hd0 : t.drop p = quote (ints k) ++ 58 :: c :: (x ++ (encP false ks l ++ 125 :: r)) := by rw [hd, hh]; simp
  have hq0 : t.drop p = 34 :: ((ints k).flatMap escByte ++ [34] ++ 58 :: c :: (x ++ (encP false ks l ++ 125 :: r))) := by rw [hd0]; unfold quote; simp
  have hb0 := blanks_none hq0 (by decide)
  have hkey := key_back (rises_app hr) hbl hd0
  have hd1 : t.drop (p + (quote (ints k)).length + 1) = enc' j ++ (encP false ks l ++ 125 :: r) := by
   have := drop_tail (drop_app hd0)
   rw [this, hh]; rfl
  have hstop : Stop (encP false ks l ++ 125 :: r) := by
   intro y hy
   cases l with
   | nil => unfold encP at hy; simp at hy; omega
   | cons j2 l2 => unfold encP at hy; simp at hy; omega
  rw [pairsL_succ, hb0, hkey]
  simp only [Res.bind]
  rw [hf j _ _ hg.1 ho'.1 hd1 hstop]
  simp only
  have hnext := drop_app hd1
  cases l with
  | nil =>
   have hk0 : ks = [] := List.eq_nil_of_length_eq_zero (by simpa using hl)
   subst hk0
   have hd2 : t.drop (p + (quote (ints k)).length + 1 + (enc' j).length) = 125 :: r := by rw [hnext]; unfold encP; rfl
   rw [blanks_none hd2 (by decide), if_pos (byte_head hd2), e0]
   unfold encP
   simp only [List.length_append, List.length_cons, List.length_nil]
   congr 1
   omega
  | cons j2 l2 =>
   have e1 : encP false ks (j2 :: l2) = 44 :: encP true ks (j2 :: l2) := by rw [encP_cons, encP_cons]; simp
   have hd2 : t.drop (p + (quote (ints k)).length + 1 + (enc' j).length) = 44 :: (encP true ks (j2 :: l2) ++ 125 :: r) := by rw [hnext, e1]; rfl
   rw [blanks_none hd2 (by decide), if_neg (by rw [byte_head hd2]; decide), if_pos (byte_head hd2)]
   rw [pairs_back hf (j2 :: l2) ks (ks0 ++ [k]) m _ (acc ++ [j]) r (by simp) (by simpa using hl) (by rw [List.append_assoc]; exact hr) hg.2 ho'.2 (by simp at hm ⊢; omega) (drop_tail hd2), e0, e1]
   simp only [List.append_assoc, List.singleton_append, List.length_append, List.length_cons]
   congr 1
   omega
theorem nix_of {t : ByteArray} (h : t.size = 0) : t = nix := by
 cases t with
 | mk a =>
  have : a = #[] := Array.eq_empty_of_size_eq_zero h
  rw [this]; rfl
theorem encL_len (l : List J) : ∀ b, (∀ j ∈ l, 1 ≤ (enc' j).length) → l.length ≤ (encL b l).length := by
 induction l with
 | nil => intro b _; simp
 | cons j l ih =>
  intro b h
  have h1 := h j (by simp)
  have h2 := ih false fun x hx => h x (by simp [hx])
  unfold encL
  simp only [List.length_append, List.length_cons]
  omega
theorem encP_len (l : List J) : ∀ b ks, l.length ≤ (encP b ks l).length := by
 induction l with
 | nil => intro b ks; simp
 | cons j l ih =>
  intro b ks
  have h2 := ih false ks.tail
  unfold encP
  simp only [List.length_append, List.length_cons]
  omega
theorem drop_len {t x r : List Int} {p : Nat} (h : t.drop p = x ++ r) : x.length ≤ t.length := by
 have := congrArg List.length h
 rw [List.length_drop, List.length_append] at this
 omega
theorem value_back (t : List Int) : ∀ (d : Nat) (j : J) (p : Nat) (r : List Int), goodJ d j = true → inOrd j = true → t.drop p = enc' j ++ r → Stop r → value t d p = .ok j (p + (enc' j).length)
 | 0, _, _, _, h, _, _, _ => by cases h
 | d + 1, .mk k i s ks l, p, r, hg, ho, hd, hs => by
  have hgood := hg
  obtain ⟨c0, x0, hh, _, hbeg, _, _⟩ := enc_head (d + 1) _ hg
  unfold goodJ bare at hg
  simp only [Bool.and_eq_true, Bool.or_eq_true, decide_eq_true_eq] at hg
  obtain ⟨⟨⟨⟨hi, ht⟩, hk⟩, hl⟩, h⟩ := hg
  have ho' : rises ks = true ∧ inOrdL l = true := by unfold inOrd at ho; simpa using ho
  have b0 : byteAt t p = c0 := byte_head (r := x0 ++ r) (by rw [hd, hh]; rfl)
  unfold value
  rw [if_pos (by rw [b0]; exact hbeg)]
  by_cases k0 : k = 0
  · subst k0
    have hi0 : i = 0 := by omega
    have ht0 := nix_of (by omega : s.size = 0)
    have hk0 : ks = [] := List.eq_nil_of_length_eq_zero (by omega)
    have hl0 : l = [] := List.eq_nil_of_length_eq_zero (by omega)
    subst hi0 ht0 hk0 hl0
    have e : enc' (.mk 0 0 nix [] []) = [110, 117, 108, 108] := by unfold enc'; rfl
    rw [e] at hd ⊢
    rw [if_pos (byte_head hd), word_back _ _ _ hd]
    rfl
  by_cases k1 : k = 1
  · subst k1
    have ht0 := nix_of (by omega : s.size = 0)
    have hk0 : ks = [] := List.eq_nil_of_length_eq_zero (by omega)
    have hl0 : l = [] := List.eq_nil_of_length_eq_zero (by omega)
    subst ht0 hk0 hl0
    rw [if_neg k0, if_pos rfl] at h
    simp only [Bool.or_eq_true, decide_eq_true_eq] at h
    rcases h with rfl | rfl
    · have e : enc' (.mk 1 0 nix [] []) = [102, 97, 108, 115, 101] := by unfold enc'; rfl
      rw [e] at hd ⊢
      have hb := byte_head hd
      rw [if_neg (by rw [hb]; decide), if_neg (by rw [hb]; decide), if_pos hb, word_back _ _ _ hd]
      rfl
    · have e : enc' (.mk 1 1 nix [] []) = [116, 114, 117, 101] := by unfold enc'; rfl
      rw [e] at hd ⊢
      have hb := byte_head hd
      rw [if_neg (by rw [hb]; decide), if_pos hb, word_back _ _ _ hd]
      rfl
  by_cases k2 : k = 2
  · subst k2
    have ht0 := nix_of (by omega : s.size = 0)
    have hk0 : ks = [] := List.eq_nil_of_length_eq_zero (by omega)
    have hl0 : l = [] := List.eq_nil_of_length_eq_zero (by omega)
    subst ht0 hk0 hl0
    rw [if_neg k0, if_neg k1, if_pos rfl] at h
    simp only [Bool.and_eq_true, decide_eq_true_eq] at h
    have e : enc' (.mk 2 i nix [] []) = numB i := by unfold enc'; rfl
    rw [e] at hd ⊢
    obtain ⟨hn, hb⟩ := number_back h.1 h.2 (stop_dig hs) (stop_sign hs) hd
    have hbb : ∀ y : Int, isDig y = false → y ≠ 45 → byteAt t p ≠ y := by
     intro y h1 h2 h3
     rw [h3] at hb
     rcases hb with hb | hb
     · exact h2 hb
     · rw [h1] at hb; cases hb
    rw [if_neg (hbb 110 (by decide) (by decide)), if_neg (hbb 116 (by decide) (by decide)), if_neg (hbb 102 (by decide) (by decide)), if_neg (hbb 34 (by decide) (by decide)), if_neg (hbb 91 (by decide) (by decide)), if_neg (hbb 123 (by decide) (by decide))]
    exact hn
  by_cases k3 : k = 3
  · subst k3
    have hi0 : i = 0 := by omega
    have hk0 : ks = [] := List.eq_nil_of_length_eq_zero (by omega)
    have hl0 : l = [] := List.eq_nil_of_length_eq_zero (by omega)
    subst hi0 hk0 hl0
    have e : enc' (.mk 3 0 s [] []) = quote (ints s) := by unfold enc'; rfl
    rw [e] at hd ⊢
    obtain ⟨hq, hb⟩ := quoted_back (ints_bd s) hd
    rw [if_neg (by rw [hb]; decide), if_neg (by rw [hb]; decide), if_neg (by rw [hb]; decide), if_pos hb, hq]
    simp only [Res.bind, str_ints]
  by_cases k4 : k = 4
  · subst k4
    have hi0 : i = 0 := by omega
    have ht0 := nix_of (by omega : s.size = 0)
    have hk0 : ks = [] := List.eq_nil_of_length_eq_zero (by omega)
    subst hi0 ht0 hk0
    rw [if_neg k0, if_neg k1, if_neg k2, if_neg k3, if_pos rfl] at h
    have e : enc' (.mk 4 0 nix [] l) = 91 :: (encL true l ++ [93]) := by unfold enc'; rfl
    rw [e] at hd ⊢
    have hd0 : t.drop p = 91 :: (encL true l ++ 93 :: r) := by rw [hd]; simp
    have hb := byte_head hd0
    have hd1 := drop_tail hd0
    rw [if_neg (by rw [hb]; decide), if_neg (by rw [hb]; decide), if_neg (by rw [hb]; decide), if_neg (by rw [hb]; decide), if_pos hb]
    unfold listAt
    cases l with
    | nil =>
     have hd2 : t.drop (p + 1) = 93 :: r := by rw [hd1]; unfold encL; rfl
     rw [blanks_none hd2 (by decide), if_pos (byte_head hd2)]
     unfold encL
     simp
    | cons j2 l2 =>
     have hg2 : goodJ d j2 = true := by simp only [List.all_cons, Bool.and_eq_true] at h; exact h.1
     obtain ⟨c, x, hh2, hbl, _, hc93, _⟩ := enc_head d j2 hg2
     have hd2 : t.drop (p + 1) = c :: (x ++ (encL false l2 ++ 93 :: r)) := by rw [hd1, encL_cons, hh2]; simp
     have hlen : (j2 :: l2).length < t.length + 1 := by
      have h1 := encL_len (j2 :: l2) true fun y hy => by
       obtain ⟨c', x', hh', _⟩ := enc_head d y (List.all_eq_true.1 h y hy)
       rw [hh']; simp
      have h2 := drop_len hd1
      omega
     rw [blanks_none hd2 hbl, if_neg (by rw [byte_head hd2]; exact hc93)]
     rw [list_back (fun j p r h1 h2 h3 h4 => value_back t d j p r h1 h2 h3 h4) (j2 :: l2) (t.length + 1) (p + 1) [] r (by simp) h ho'.2 hlen hd1]
     simp only [List.nil_append, List.length_cons, List.length_append, List.length_nil]
     congr 1
     omega
  by_cases k5 : k = 5
  · subst k5
    have hi0 : i = 0 := by omega
    have ht0 := nix_of (by omega : s.size = 0)
    subst hi0 ht0
    rw [if_neg k0, if_neg k1, if_neg k2, if_neg k3, if_neg k4, if_pos rfl] at h
    simp only [Bool.and_eq_true, decide_eq_true_eq] at h
    have e : enc' (.mk 5 0 nix ks l) = 123 :: (encP true ks l ++ [125]) := by unfold enc'; rfl
    rw [e] at hd ⊢
    have hd0 : t.drop p = 123 :: (encP true ks l ++ 125 :: r) := by rw [hd]; simp
    have hb := byte_head hd0
    have hd1 := drop_tail hd0
    rw [if_neg (by rw [hb]; decide), if_neg (by rw [hb]; decide), if_neg (by rw [hb]; decide), if_neg (by rw [hb]; decide), if_neg (by rw [hb]; decide), if_pos hb]
    unfold pairsAt
    cases l with
    | nil =>
     have hk0 : ks = [] := List.eq_nil_of_length_eq_zero (by simpa using h.1.1)
     subst hk0
     have hd2 : t.drop (p + 1) = 125 :: r := by rw [hd1]; unfold encP; rfl
     rw [blanks_none hd2 (by decide), if_pos (byte_head hd2)]
     unfold encP
     simp
    | cons j2 l2 =>
     have hlen : (j2 :: l2).length < t.length + 1 := by
      have h1 := encP_len (j2 :: l2) true ks
      have h2 := drop_len hd1
      omega
     have hd2 : ∃ y, t.drop (p + 1) = 34 :: y := by
      rw [hd1]
      unfold encP quote
      simp
     obtain ⟨y, hd2⟩ := hd2
     rw [blanks_none hd2 (by decide), if_neg (by rw [byte_head hd2]; decide)]
     rw [pairs_back (fun j p r h1 h2 h3 h4 => value_back t d j p r h1 h2 h3 h4) (j2 :: l2) ks [] (t.length + 1) (p + 1) [] r (by simp) h.1.1 ho'.1 h.2 ho'.2 hlen hd1]
     rw [List.nil_append, List.nil_append, mapOf_rises h.1.1 ho'.1]
     simp only [List.length_cons, List.length_append, List.length_nil]
     congr 1
     omega
  · rw [if_neg k0, if_neg k1, if_neg k2, if_neg k3, if_neg k4, if_neg k5] at h
    cases h
theorem whole_back (j : J) (hg : goodJ 12 j = true) (ho : inOrd j = true) : whole (enc' j) = .ok j (enc' j).length := by
 obtain ⟨c, x, hh, hbl, _⟩ := enc_head 12 j hg
 have hd : (enc' j).drop 0 = enc' j ++ [] := by simp
 have hd0 : (enc' j).drop 0 = c :: x := by rw [hh]; rfl
 unfold whole
 rw [blanks_none hd0 hbl, value_back (enc' j) 12 j 0 [] hg ho hd (fun c hc => by cases hc)]
 simp only [Res.bind, Nat.zero_add]
 rw [blanks_end (by simp), if_neg (by omega)]
end Go.Proofs.YtegcgbjjpgjnmaaGreatDoor

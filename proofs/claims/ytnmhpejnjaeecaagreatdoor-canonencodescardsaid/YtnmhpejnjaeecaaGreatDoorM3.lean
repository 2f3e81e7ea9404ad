/-
  A text between its signs, read: by a contract.
  Keys that stood already, and a key read: by a contract.
  The places of keys in the order in which the keys rise, by a contract.
  Keys in order stand in one way alone.
  A map of keys and values, in order: by a contract.
  A map of keys and values, in order: by a contract.
  A list that is being read.
  A list read, by a contract: given how a value within it is read.
-/
import Derived.Test.YtnmhpejnjaeecaaGreatDoorM2
import Derived.Test.YtnmhpejnjaeecaaGreatDoorShelf
import Derived.Test.YtnmhpejnjaeecaaGreatDoorM1
import Derived.Maps.OwnSet
import Derived.BigQuiet
namespace Go.Proofs.YtnmhpejnjaeecaaGreatDoor
open Go.RowKit

theorem coded_bd {t : List Int} {p q : Nat} {c : Int} (h : coded t p = .ok c q) : 0 ≤ c ∧ c ≤ 1114111 := by
  have hx := hexAt_bd t (p + 2)
  unfold coded at h
  split at h
  · cases h
  split at h
  · cases h; omega
  split at h
  · cases h
  split at h
  · cases h
  · rename_i l hl
    have := lowAt_bd hl
    cases h; omega
theorem escape_bd {t : List Int} {p q : Nat} {c : Int} (h : escape t p = .ok c q) : 0 ≤ c ∧ c ≤ 1114111 := by
  unfold escape at h
  simp only at h
  split at h
  · rename_i h1; cases h; omega
  split at h
  · cases h; omega
  split at h
  · cases h; omega
  split at h
  · cases h; omega
  split at h
  · cases h; omega
  split at h
  · cases h; omega
  split at h
  · exact coded_bd h
  · cases h
theorem quoL_out (t : List Int) : ∀ (m p : Nat) (out r : List Int) (q : Nat), quoL t m p out = .ok r q → r.length ≤ out.length + 4 * (q - p) ∧ p ≤ q
  | 0, _, _, _, _, h => by cases h
  | m + 1, p, out, r, q, h => by
    rw [quoL_succ] at h
    split at h
    · cases h; omega
    split at h
    · cases he : escape t p with
      | bad e a => rw [he] at h; cases h
      | ok c p' =>
        rw [he] at h
        simp only [Res.bind] at h
        have h1 := quoL_out t m p' _ r q h
        have hadv : p < p' := by
          rename_i h92
          have := escape_adv (t := t) (p := p) (byteAt_lt (by rw [h92]; decide))
          rw [he] at this
          exact this.1
        have hl : (Lib.encodeRuneZ c).length ≤ 4 := by
          unfold Lib.encodeRuneZ
          repeat' split
          all_goals simp
        rw [List.length_append] at h1
        omega
    split at h
    · cases h
    · have h1 := quoL_out t m (p + 1) _ r q h
      rw [List.length_append] at h1
      simp only [List.length_cons, List.length_nil] at h1
      omega
/-- What a reader of a text returns. -/
def textTold (w w' : World) (R : Nat) (s : ByteArray) (r : Res (List Int)) (x : Ending) : Prop := match r with
  | .ok c q => x = .returned (.tuple #[.string (strOfNums c), .bool true]) ∧ OkAt w w' R s q
  | .bad e l => x = .returned (.tuple #[.string nix, .bool false]) ∧ BadAt w w' R s e l
set_option maxHeartbeats 2000000 in
theorem quoted_any {w : World} {R p : Nat} {s : ByteArray} {e l : Int} (hr : Rdr w R s p e l) (hs : short s) (hp : p < s.size) :
    Calls Tryz.prog 61 #[.pointer (some ⟨R, 0, none⟩)] w fun x w' => textTold w w' R s (quoted (ints s) p) x := by
  unfold short at hs
  have c1 := hr.c1
  have f1 := hr.fz 1
  have hRw := hr.lt
  have HR0 : Rdr (w.setCell ⟨R, 1, none⟩ (.int .i64 ((p : Int) + 1))) R s (p + 1) e l := hr.at (p + 1)
  have HK0 : Keep (One R) w (w.setCell ⟨R, 1, none⟩ (.int .i64 ((p : Int) + 1))) := Rdr.setAt w R (p + 1)
  go_enter Tryz.func61, Tryz.ntmps61
  go_wp2
  clear c1 f1
  go_loopw [4] (fun v wr => ∃ (q m : Nat) (out : List Int), q ≤ s.size ∧ s.size < q + m ∧ out.length ≤ 4 * q ∧ quoL (ints s) m q out = quoted (ints s) p ∧ wr.ownsRow w.heap.size 5 1 v out.length (out.map (Value.int .u8)) ∧ (∃ e l, Rdr wr R s q e l) ∧ Keep (One R) w wr) (fun _ wr => s.size - posOf R wr)
  case atStart =>
    refine ⟨p + 1, s.size + 1, [], hp, by omega, by simp, ?_, World.ownsRow_nil _ _ _ _, ⟨e, l, HR0⟩, HK0⟩
    unfold quoted
    rw [ints_length]
  case round =>
    clear HR0 HK0 hr
    obtain ⟨q, m, out, hq, hm, hol, hx, hown, ⟨e1, l1, hrq⟩, hk⟩ := hrel
    obtain ⟨m', rfl⟩ : ∃ m', m = m' + 1 := ⟨m - 1, by omega⟩
    rw [quoL_succ] at hx
    have HX : Hid ((if byteAt (ints s) q = 34 then .ok out (q + 1) else if byteAt (ints s) q = 92 then (escape (ints s) q).bind fun l q => quoL (ints s) m' q (out ++ Lib.encodeRuneZ l) else if byteAt (ints s) q < 32 then .bad 11 q else quoL (ints s) m' (q + 1) (out ++ [byteAt (ints s) q])) = quoted (ints s) p) := hx
    clear hx
    have c1 := hrq.c1
    have f1 := hrq.fz 1
    have hsz := hk.size
    have hbb := byte_bd s q
    have hge := own_ge hown
    have HR : Rdr (wr.setCell ⟨R, 1, none⟩ (.int .i64 ((q : Int) + 1))) R s (q + 1) e1 l1 := hrq.at (q + 1)
    have HKs : Keep (One R) wr (wr.setCell ⟨R, 1, none⟩ (.int .i64 ((q : Int) + 1))) := Rdr.setAt wr R (q + 1)
    have HP0 := posOf_rdr hrq
    by_cases h34 : byteAt (ints s) q = 34
    · have HQ : Hid (quoted (ints s) p = .ok out (q + 1)) := by rw [← HX.out, if_pos h34]; rfl
      have hcv := own_string (own_keep hown HKs fun k hk' => by have := hge k hk'; unfold One; omega)
      have pk := peek_any hrq
      rw [h34] at pk
      go_wp2_with (go_at_call 58; refine pk.mono ?_; rintro x w' ⟨rfl, rfl⟩)
      go_ret2
      rw [HQ.out]
      exact ⟨rfl, ⟨_, _, HR⟩, hk.then HKs⟩
    by_cases h92 : byteAt (ints s) q = 92
    · have pk := peek_any hrq
      rw [h92] at pk
      have es := escape_any hrq (by omega)
      have hadv := escape_adv (t := ints s) (p := q) (byteAt_lt (by rw [h92]; decide))
      cases he : escape (ints s) q with
      | bad e' l' =>
        have HQ : Hid (quoted (ints s) p = .bad e' l') := by rw [← HX.out, if_neg h34, if_pos h92, he]; rfl
        rw [he] at es
        go_wp2_with (first
          | (go_at_call 58; refine pk.mono ?_; rintro x w' ⟨rfl, rfl⟩)
          | (go_at_call 77; refine es.mono ?_; rintro x w1 ⟨rfl, hk1⟩))
        go_ret2
        rw [HQ.out]
        exact ⟨rfl, hk1.1, hk.then hk1.2⟩
      | ok c q' =>
        have HQ : Hid (quoL (ints s) m' q' (out ++ Lib.encodeRuneZ c) = quoted (ints s) p) := by rw [← HX.out, if_neg h34, if_pos h92, he]; rfl
        have hcb := escape_bd he
        rw [he] at es hadv
        have hqq : q < q' ∧ q' ≤ (ints s).length := hadv
        rw [ints_length] at hqq
        have hl4 : (Lib.encodeRuneZ c).length ≤ 4 := by
          unfold Lib.encodeRuneZ
          repeat' split
          all_goals simp
        have HL4 : Hid ((Lib.encodeRuneZ c).length ≤ 4) := hl4
        clear hl4 hadv
        go_wp2_with (first
          | (go_at_call 58; refine pk.mono ?_; rintro x w' ⟨rfl, rfl⟩)
          | (go_at_call 77; refine es.mono ?_; rintro x w1 ⟨rfl, ⟨⟨e2, l2, hr2⟩, hk2⟩⟩; have hown2 := own_keep hown hk2 fun k hk' => by have := hge k hk'; unfold One; omega)
          | (go_at_call 78; refine (Tryz.utf8_AppendRune_plain w.heap.size _ out.length _ c (by omega) (by omega) _ hown2 (by omega) (by have := hk2.size; omega)).mono ?_; rintro x w3 ⟨v', rfl, hown3, o, hg3⟩))
        have hge2 := own_ge hown2
        have hk2s := hk2.size
        have hkA : Keep (One R) w (w1.alloc o) := (hk.then hk2).alloc o
        have hk3 : Keep (One R) w w3 := hkA.grown hg3 fun k hk' => (hge2 k hk').1
        have hr3 : Rdr w3 R s q' e2 l2 := by
          have hr2a : Rdr (w1.alloc o) R s q' e2 l2 := hr2.keep (S := fun _ => False) ((Keep.refl _ _).alloc o) (fun h => h)
          refine hr2a.keep (S := fun k => some k = Value.ownBlock _) (Keep.of_grown hg3 fun _ _ e => e.symm) fun e => ?_
          have := (hge2 R e.symm).1
          omega
        have HP3 := posOf_rdr hr3
        go_roundw
        case rel =>
          refine ⟨q', m', out ++ Lib.encodeRuneZ c, hqq.2, by omega, ?_, HQ.out, ?_, ⟨e2, l2, hr3⟩, hk3⟩
          · rw [List.length_append]; have := HL4.out; omega
          · have e : (out ++ Lib.encodeRuneZ c).map (Value.int .u8) = out.map (Value.int .u8) ++ Lib.runeCells c := by rw [List.map_append]; rfl
            have e' : (out ++ Lib.encodeRuneZ c).length = out.length + (Lib.runeCells c).length := by rw [List.length_append]; simp [Lib.runeCells]
            rw [e, e']
            exact hown3
        case measure => rw [HP3, HP0]; omega
    have pk := peek_any hrq
    by_cases h32 : byteAt (ints s) q < 32
    · have HQ : Hid (quoted (ints s) p = .bad 11 q) := by rw [← HX.out, if_neg h34, if_neg h92, if_pos h32]; rfl
      go_wp2_with (first
        | (go_at_call 58; refine pk.mono ?_; rintro x w' ⟨rfl, rfl⟩)
        | (go_at_call 48; refine (fail_any hrq 11 (q : Int)).mono ?_; rintro x w1 ⟨rfl, hr1, hk1⟩))
      go_ret2
      rw [HQ.out]
      exact ⟨rfl, ⟨_, hr1⟩, hk.then hk1⟩
    · have HQ : Hid (quoL (ints s) m' (q + 1) (out ++ [byteAt (ints s) q]) = quoted (ints s) p) := by rw [← HX.out, if_neg h34, if_neg h92, if_neg h32]; rfl
      have hlt : q < s.size := by
        have := byteAt_lt (t := ints s) (p := q) (by omega)
        rw [ints_length] at this; exact this
      obtain ⟨y, hy⟩ : ∃ y, byteAt (ints s) q = y := ⟨_, rfl⟩
      have HY : Hid (byteAt (ints s) q = y) := hy
      rw [hy] at pk h34 h92 h32 hbb
      clear hy HR HKs f1
      go_wp2_with (first
        | (go_at_call 58; refine pk.mono ?_; rintro x w' ⟨rfl, rfl⟩)
        | (at_builtin; refine wpList_push rfl (.tmp 17) (.tmp 19) 27 5 .u8 1 rfl Tryz.underlying27 Tryz.info5 (by decide) w.heap.size _ out rfl ?a0 _ y rfl ?a1 ?a2 ?a3 ?_))
      case a0 => exact hown.alloc _
      case a1 => exact cell_row (cur := [_]) (heap_alloc_new _ _) 0 _ rfl
      case a2 => omega
      case a3 => simp; omega
      intro v' w1 hown1 hg1
      have hk1 : Keep (One R) w w1 := (hk.alloc _).grown hg1 fun k hk' => (hge k hk').1
      have hr1 : Rdr w1 R s q e1 l1 := by
        refine (hrq.keep (S := fun _ => False) ((Keep.refl _ _).alloc _) (fun h => h)).keep (S := fun k => some k = Value.ownBlock _) (Keep.of_grown hg1 fun _ _ e => e.symm) fun e => ?_
        have := (hge R e.symm).1
        omega
      have d1 := hr1.c1
      have g1 := hr1.fz 1
      have HR : Rdr (w1.setCell ⟨R, 1, none⟩ (.int .i64 ((q : Int) + 1))) R s (q + 1) e1 l1 := hr1.at (q + 1)
      have HKs : Keep (One R) w1 (w1.setCell ⟨R, 1, none⟩ (.int .i64 ((q : Int) + 1))) := Rdr.setAt w1 R (q + 1)
      have HP3 := posOf_rdr HR
      have hge1 := own_ge hown1
      have hown2 := own_keep hown1 HKs fun k hk' => (by have := hge1 k hk'; unfold One; omega)
      clear hown c1
      have HO2 : Hid ((w1.setCell ⟨R, 1, none⟩ (.int .i64 ((q : Int) + 1))).ownsRow w.heap.size 5 1 v' (out ++ [y]).length ((out ++ [y]).map (Value.int .u8))) := by rw [List.length_append, List.map_append]; exact hown2
      clear hown2 hown1
      go_wp2
      go_roundw
      case rel => exact ⟨q + 1, m', out ++ [y], hlt, by omega, by rw [List.length_append]; simp only [List.length_cons, List.length_nil]; omega, by rw [← HY.out]; exact HQ.out, HO2.out, ⟨e1, l1, HR⟩, hk1.then HKs⟩
      case measure => rw [HP3, HP0]; omega
end Go.Proofs.YtnmhpejnjaeecaaGreatDoor
namespace Go.Proofs.YtnmhpejnjaeecaaGreatDoor
open Go.RowKit Go.Maps

def klS (s : ByteArray) : Lit := .string s.data.toList
def okS (s : ByteArray) : Prop := s.size ≤ maxLen
theorem klS_inj {s t : ByteArray} (h : klS s = klS t) : s = t := by
  unfold klS at h
  cases s; cases t
  simp only [Lit.string.injEq] at h
  rw [Array.toList_inj.1 h]
theorem keyS {s : ByteArray} (h : okS s) : keyOf Tryz.prog 9 (.string s) = some (klS s) := WideMaps.keyOf_string_mk Tryz.underlying9 h
theorem law9 : Keyed Tryz.prog 9 := string_keyed Tryz.underlying9
theorem zeroU (w : World) : (zeroValue 110).run Tryz.prog w = .ok (.agg #[]) w := by kernel_rfl
def hasK (ks : List ByteArray) (s : ByteArray) : Bool := ks.any (fun k => decide (k.data = s.data))
/-- Block M is the set of the keys ks. -/
def Stood (w : World) (M : Nat) (ks : List ByteArray) : Prop :=
  ∃ D : DataW Unit, w.ownsMap Tryz.prog 9 (unitElem (H := Unit)) M ks.length D ∧ IsMap D ∧ ∀ s, okS s → Maps.has D (klS s) = hasK ks s
theorem Stood.keep {S : Nat → Prop} {w w' : World} {M : Nat} {ks : List ByteArray} (h : Stood w M ks) (hk : Keep S w w') (hS : ¬ S M) : Stood w' M ks := by
  obtain ⟨D, ⟨es, clock, hb, F, hs, hD⟩, hm, hh⟩ := h
  exact ⟨D, ⟨es, clock, (hk.block M (Array.getElem?_eq_some_iff.1 hb).1 hS).trans hb, F, hs, hD⟩, hm, hh⟩
theorem Stood.lt {w : World} {M : Nat} {ks : List ByteArray} (h : Stood w M ks) : M < w.heap.size := by
  obtain ⟨D, ⟨es, clock, hb, _⟩, _⟩ := h
  exact (Array.getElem?_eq_some_iff.1 hb).1
theorem Stood.made (w : World) : Stood (w.alloc (.map #[] 0)) w.heap.size [] :=
  ⟨.map [], World.ownsMap_made _ _ _ _, ⟨[], rfl⟩, fun _ _ => rfl⟩
theorem hasK_snoc (ks : List ByteArray) (k s : ByteArray) : hasK (ks ++ [k]) s = (hasK ks s || decide (k.data = s.data)) := by
  unfold hasK
  rw [List.any_append]
  simp
theorem Stood.put {w : World} {M : Nat} {ks : List ByteArray} {D : DataW Unit} {s : ByteArray} (hown : w.ownsMap Tryz.prog 9 (unitElem (H := Unit)) M (ks.length + 1) (D.put (klS s) (.agg []))) (hm : IsMap D) (hh : ∀ s, okS s → Maps.has D (klS s) = hasK ks s) (hs : okS s) : Stood w M (ks ++ [s]) := by
  refine ⟨D.put (klS s) (.agg []), by rw [List.length_append]; exact hown, ?_, fun x hx => ?_⟩
  · obtain ⟨es, rfl⟩ := hm
    exact ⟨_, rfl⟩
  · rw [hasK_snoc]
    by_cases e : x = s
    · subst e
      rw [has_put_same hm (show WideAt.IsKeyLit (klS x) from trivial)]
      simp
    · rw [has_put_other (fun h' => e (klS_inj h')), hh x hx]
      have : decide (s.data = x.data) = false := by
        apply decide_eq_false
        intro h'
        apply e
        cases x; cases s
        simp only at h'
        rw [h']
      rw [this, Bool.or_false]
/-- The blocks R and M. -/
def Two (R M : Nat) : Nat → Prop := fun k => k = R ∨ k = M
/-- What a reader of a key returns. -/
def keyTold (w w' : World) (R M : Nat) (s : ByteArray) (ks : List ByteArray) (r : Res ByteArray) (x : Ending) : Prop := match r with
  | .ok c q => x = .returned (.tuple #[.string c, .bool true]) ∧ (∃ e l, Rdr w' R s q e l) ∧ Stood w' M (ks ++ [c]) ∧ Keep (Two R M) w w'
  | .bad e l => x = .returned (.tuple #[.string nix, .bool false]) ∧ (∃ q, Rdr w' R s q e l) ∧ Keep (Two R M) w w'
theorem Keep.one_two {R M : Nat} {w w' : World} (h : Keep (One R) w w') : Keep (Two R M) w w' := h.mono fun _ _ h => .inl h
set_option maxHeartbeats 2000000 in
theorem key_any {w : World} {R M p : Nat} {s : ByteArray} {e l : Int} {ks : List ByteArray} (hr : Rdr w R s p e l) (hs : short s) (hst : Stood w M ks) (hRM : R ≠ M) (hkl : ks.length ≤ 100000) :
    Calls Tryz.prog 80 #[.pointer (some ⟨R, 0, none⟩), .map (some M)] w fun x w' => keyTold w w' R M s ks (keyAt (ints s) ks p) x := by
  have hsz := hs
  unfold short at hsz
  have c1 := hr.c1
  have pk := peek_any hr
  by_cases h34 : byteAt (ints s) p = 34
  · have hlt : p < s.size := by
      have := byteAt_lt (t := ints s) (p := p) (by rw [h34]; decide)
      rw [ints_length] at this; exact this
    rw [h34] at pk
    have qt := quoted_any hr hs hlt
    have hadv := quoted_adv (t := ints s) (p := p) (by rw [ints_length]; exact hlt)
    cases hq : quoted (ints s) p with
    | bad e' l' =>
      have HK : Hid (keyAt (ints s) ks p = .bad e' l') := by unfold keyAt; rw [if_pos h34, hq]; rfl
      rw [hq] at qt
      go_enter Tryz.func80, Tryz.ntmps80
      go_wp2_with (first
        | (go_at_call 58; refine pk.mono ?_; rintro x w' ⟨rfl, rfl⟩)
        | (go_at_call 61; refine qt.mono ?_; rintro x w1 ⟨rfl, hk1⟩))
      go_ret2
      rw [HK.out]
      exact ⟨rfl, hk1.1, hk1.2.one_two⟩
    | ok c q =>
      rw [hq] at qt hadv
      have hqb : p < q ∧ q ≤ s.size := by have h : p < q ∧ q ≤ (ints s).length := hadv; rw [ints_length] at h; exact h
      have hlen := (quoL_out _ _ _ _ _ _ hq).1
      have hok : okS (strOfNums c) := by
        unfold okS
        rw [str_size]
        simp only [List.length_nil] at hlen
        unfold maxLen
        omega
      have hkey := keyS hok
      have HK : Hid (keyAt (ints s) ks p = if hasK ks (strOfNums c) = true then .bad 14 p else (must (ints s) 58 (blanks (ints s) q)).bind fun _ r => .ok (strOfNums c) (blanks (ints s) r)) := by unfold keyAt; rw [if_pos h34, hq]; rfl
      obtain ⟨u, hu⟩ : ∃ u, strOfNums c = u := ⟨_, rfl⟩
      rw [hu] at hok hkey HK
      have qt' : Calls Tryz.prog 61 #[.pointer (some ⟨R, 0, none⟩)] w fun x w' => x = .returned (.tuple #[.string u, .bool true]) ∧ OkAt w w' R s q := by rw [← hu]; exact qt
      clear qt hu hlen
      obtain ⟨D, hown, hmap, hhas⟩ := hst
      have hMlt := hown.lt
      have HH : Hid (∀ s, okS s → Maps.has D (klS s) = hasK ks s) := hhas
      have HM : Hid (IsMap D) := hmap
      have hhu := hhas u hok
      have HML : Hid (ks.length < maxLen) := by show _ < _; unfold maxLen; omega
      have HV : Hid (unitElem (H := Unit) (.agg #[]) = some (.agg [], [])) := unitElem_mk
      clear hhas hmap
      have blk : ∀ w1 : World, Keep (One R) w w1 → w1.ownsMap Tryz.prog 9 (unitElem (H := Unit)) M ks.length D := by
        intro w1 hk1
        obtain ⟨es, clock, hb, F, hs', hD⟩ := hown
        exact ⟨es, clock, (hk1.block M (Array.getElem?_eq_some_iff.1 hb).1 (fun h => hRM h.symm)).trans hb, F, hs', hD⟩
      cases hhk : hasK ks u with
      | true =>
        rw [hhk] at hhu
        have HB : Hid (keyAt (ints s) ks p = .bad 14 p) := by rw [HK.out, if_pos hhk]; rfl
        go_enter Tryz.func80, Tryz.ntmps80
        go_wp2_with (first
          | (go_at_call 58; refine pk.mono ?_; rintro x w' ⟨rfl, rfl⟩)
          | (go_at_call 61; refine qt'.mono ?_; rintro x w1 ⟨rfl, ⟨⟨e1, l1, hr1⟩, hk1⟩⟩; have hown1 := blk w1 hk1; have hr1a := hr1.keep (S := fun _ => False) ((Keep.refl _ _).alloc (.cells #[] 110)) (fun h => h))
          | (at_lookup; refine wpList_lookup_own_unit _ rfl _ _ 99 rfl 9 110 law9 Tryz.underlying99 (zeroU _) M ks.length D rfl hown1 _ _ rfl hkey ?_; rw [hhu])
          | (go_at_call 48; refine (fail_any hr1a 14 (p : Int)).mono ?_; rintro x w3 ⟨rfl, hr3, hk3⟩))
        go_ret2
        rw [HB.out]
        exact ⟨rfl, ⟨_, hr3⟩, ((hk1.alloc _).then hk3).one_two⟩
      | false =>
        rw [hhk] at hhu
        have hbl := blanks_le (t := ints s) (p := q) (by rw [ints_length]; exact hqb.2)
        rw [ints_length] at hbl
        by_cases hm : byteAt (ints s) (blanks (ints s) q) = 58
        · have hlt2 : blanks (ints s) q < s.size := by
            have := byteAt_lt (t := ints s) (p := blanks (ints s) q) (by rw [hm]; decide)
            rw [ints_length] at this; exact this
          have HB : Hid (keyAt (ints s) ks p = .ok u (blanks (ints s) (blanks (ints s) q + 1))) := by rw [HK.out, if_neg (by simp [hhk])]; unfold must; rw [if_pos hm]; rfl
          go_enter Tryz.func80, Tryz.ntmps80
          go_wp2_with (first
            | (go_at_call 58; refine pk.mono ?_; rintro x w' ⟨rfl, rfl⟩)
            | (go_at_call 61; refine qt'.mono ?_; rintro x w1 ⟨rfl, ⟨⟨e1, l1, hr1⟩, hk1⟩⟩; have hown1 := blk w1 hk1; have hown1a := hown1.alloc (.cells #[] 110))
            | (at_lookup; refine wpList_lookup_own_unit _ rfl _ _ 99 rfl 9 110 law9 Tryz.underlying99 (zeroU _) M ks.length D rfl hown1 _ _ rfl hkey ?_; rw [hhu])
            | (at_mapUpdate; refine wpList_mapUpdate_own _ rfl _ _ _ 99 rfl 9 110 law9 Tryz.underlying99 _ M ks.length D rfl hown1a HML.out _ _ _ rfl rfl hkey (.agg []) [] HV.out ?_; intro w2 hown2 hg2
               have hr2 : Rdr w2 R s q e1 l1 := (hr1.keep (S := fun _ => False) ((Keep.refl _ _).alloc (.cells #[] 110)) (fun h => h)).keep (S := fun k => k = M) (Keep.of_grown hg2 fun _ _ e => (Option.some.inj e).symm) hRM
               have hk2 : Keep (Two R M) w w2 := ((hk1.alloc (.cells #[] 110)).one_two (M := M)).trans (S' := fun k => k = M) (Keep.of_grown hg2 fun _ _ e => (Option.some.inj e).symm) fun _ _ h => .inr h)
            | (go_at_call 46; have _h := hr4; refine (blanks_any hr4 hs hlt2).mono ?_; rintro x w5 ⟨rfl, ⟨⟨e5, l5, hr5⟩, hk5⟩⟩)
            | (go_at_call 46; refine (blanks_any hr2 hs hqb.2).mono ?_; rintro x w3 ⟨rfl, ⟨⟨e3, l3, hr3⟩, hk3⟩⟩)
            | (go_at_call 76; refine (must_yes hr3 (by omega) 58 hm).mono ?_; rintro x w4 ⟨rfl, ⟨⟨e4, l4, hr4⟩, hk4⟩⟩))
          go_ret2
          rw [HB.out]
          have hstood := Stood.put hown2 HM.out HH.out hok
          exact ⟨rfl, ⟨_, _, hr5⟩, ((hstood.keep hk3 fun h => hRM h.symm).keep hk4 fun h => hRM h.symm).keep hk5 fun h => hRM h.symm, ((hk2.then hk3.one_two).then hk4.one_two).then hk5.one_two⟩
        · have HB : Hid (keyAt (ints s) ks p = .bad 11 (blanks (ints s) q)) := by rw [HK.out, if_neg (by simp [hhk])]; unfold must; rw [if_neg hm]; rfl
          go_enter Tryz.func80, Tryz.ntmps80
          go_wp2_with (first
            | (go_at_call 58; refine pk.mono ?_; rintro x w' ⟨rfl, rfl⟩)
            | (go_at_call 61; refine qt'.mono ?_; rintro x w1 ⟨rfl, ⟨⟨e1, l1, hr1⟩, hk1⟩⟩; have hown1 := blk w1 hk1; have hown1a := hown1.alloc (.cells #[] 110))
            | (at_lookup; refine wpList_lookup_own_unit _ rfl _ _ 99 rfl 9 110 law9 Tryz.underlying99 (zeroU _) M ks.length D rfl hown1 _ _ rfl hkey ?_; rw [hhu])
            | (at_mapUpdate; refine wpList_mapUpdate_own _ rfl _ _ _ 99 rfl 9 110 law9 Tryz.underlying99 _ M ks.length D rfl hown1a HML.out _ _ _ rfl rfl hkey (.agg []) [] HV.out ?_; intro w2 hown2 hg2
               have hr2 : Rdr w2 R s q e1 l1 := (hr1.keep (S := fun _ => False) ((Keep.refl _ _).alloc (.cells #[] 110)) (fun h => h)).keep (S := fun k => k = M) (Keep.of_grown hg2 fun _ _ e => (Option.some.inj e).symm) hRM
               have hk2 : Keep (Two R M) w w2 := ((hk1.alloc (.cells #[] 110)).one_two (M := M)).trans (S' := fun k => k = M) (Keep.of_grown hg2 fun _ _ e => (Option.some.inj e).symm) fun _ _ h => .inr h)
            | (go_at_call 46; refine (blanks_any hr2 hs hqb.2).mono ?_; rintro x w3 ⟨rfl, ⟨⟨e3, l3, hr3⟩, hk3⟩⟩)
            | (go_at_call 76; refine (must_no hr3 58 hm).mono ?_; rintro x w4 ⟨rfl, ⟨⟨q4, hr4⟩, hk4⟩⟩))
          go_ret2
          rw [HB.out]
          exact ⟨rfl, ⟨_, hr4⟩, (hk2.then hk3.one_two).then hk4.one_two⟩
  · have hb : (byteAt (ints s) p != 34) = true := by simp [h34]
    have HK : Hid (keyAt (ints s) ks p = .bad 11 p) := by unfold keyAt; rw [if_neg h34]; rfl
    go_enter Tryz.func80, Tryz.ntmps80
    go_wp2_with (first
      | (go_at_call 58; refine pk.mono ?_; rintro x w' ⟨rfl, rfl⟩)
      | (go_at_call 48; refine (fail_any hr 11 (p : Int)).mono ?_; rintro x w3 ⟨rfl, hr3, hk3⟩))
    go_ret2
    rw [HK.out]
    exact ⟨rfl, ⟨_, hr3⟩, hk3.one_two⟩
end Go.Proofs.YtnmhpejnjaeecaaGreatDoor
namespace Go.Proofs.YtnmhpejnjaeecaaGreatDoor
open Go.RowKit Go.Lib Go.Sort

theorem cmp_less : ∀ x y : List UInt8, decide (Lib.compareBytes x y < 0) = lessB x y
  | [], [] => rfl
  | [], _ :: _ => rfl
  | _ :: _, [] => rfl
  | a :: x, b :: y => by
    unfold Lib.compareBytes lessB
    by_cases h1 : a < b
    · simp [h1]
    · by_cases h2 : b < a
      · have h3 : ¬ a = b := fun h => by subst h; exact h1 h2
        simp [h1, h2, h3]
      · have h3 : a = b := Classical.byContradiction fun h => (UInt8.lt_or_lt_of_ne h).elim h1 h2
        rw [if_neg h1, if_neg h2, cmp_less x y]
        simp [h3]
def keyAtK (ks : List ByteArray) (i : Nat) : ByteArray := ks.getD i nix
set_option maxHeartbeats 1000000 in
theorem rising_clo {O : Nat → Prop} {ks : List ByteArray} {p : Option Addr} {c Bx : Nat} {W : World} (hrd : RdK O W p c ks) (hbx : W.cell? ⟨Bx, 0, none⟩ = some (.slice p ks.length c)) (a b : Nat) (ha : a < ks.length) (hb : b < ks.length) :
    Calls Tryz.prog 54 #[.int .i64 a, .int .i64 b, .pointer (some ⟨Bx, 0, none⟩)] W fun e w' => e = .returned (.int .i64 (Lib.compareBytes (keyAtK ks a).data.toList (keyAtK ks b).data.toList)) ∧ ∃ q, w' = W.drewN q := by
  obtain ⟨ad, rfl, _, hca⟩ := hrd.2 a ha
  obtain ⟨ad', he, _, hcb⟩ := hrd.2 b hb
  cases he
  change W.cell? (ad.add a) = some (.string (keyAtK ks a)) at hca
  change W.cell? (ad.add b) = some (.string (keyAtK ks b)) at hcb
  have hcon := fun wx : World => Tryz.strings_Compare (keyAtK ks a) (keyAtK ks b) wx
  generalize Lib.compareBytes (keyAtK ks a).data.toList (keyAtK ks b).data.toList = r at hcon ⊢
  generalize keyAtK ks a = x at *
  generalize keyAtK ks b = y at *
  go_enter Tryz.func54, Tryz.ntmps54
  go_wp2
  go_quiet (first | (go_at_call 55; exact Calls.quiet_of_same (hcon _)))
  go_wp2
  go_ret
  exact ⟨rfl, nq, rfl⟩
theorem keep_sort {α : Type} [Inhabited α] (enc : α → Value) (w : World) (g m : Nat) (d : Array α) (os : Array Obj) : Keep (fun k => k = g) w (sortWorld enc w g 0 m d os) := by
  refine ⟨rfl, rfl, rfl, ?_, fun k hk hn => ?_⟩
  · unfold sortWorld grow putRow mapBlock Sort.ahead
    simp
  · unfold sortWorld
    rw [heap_grow_old _ _ (by unfold putRow mapBlock Sort.ahead; simpa using hk)]
    unfold putRow mapBlock Sort.ahead
    simp only [Array.getElem?_modify]
    rw [if_neg (fun h => hn h.symm)]
def encP' (m : Nat) (x : Fin (m + 1)) : Value := .int .i64 (x.val : Int)
def cfK (ks : List ByteArray) (m : Nat) (x y : Fin (m + 1)) : Int := Lib.compareBytes (keyAtK ks x.val).data.toList (keyAtK ks y.val).data.toList
theorem cfK_lt (ks : List ByteArray) (m : Nat) (x y : Fin (m + 1)) : ltOf (cfK ks m) x y = ltK (keyAtK ks x.val) (keyAtK ks y.val) := cmp_less _ _
theorem lessB_asymm {x y : List UInt8} (h : lessB x y = true) : lessB y x = false := by
  cases h' : lessB y x with
  | false => rfl
  | true => rw [lessB_trans _ _ _ h h' |> fun e => (lessB_irrefl x ▸ e : false = true)] at *
theorem ltK_ntrans {a b c : ByteArray} (h : ltK a b = false) (h' : ltK b c = false) : ltK a c = false := by
  cases hac : ltK a c with
  | false => rfl
  | true =>
    by_cases hab : a = b
    · subst hab; rw [h'] at hac; cases hac
    · rcases ltK_total hab with h1 | h1
      · rw [h1] at h; cases h
      · have := ltK_trans h1 hac
        rw [h'] at this; cases this
theorem swoK (ks : List ByteArray) (m : Nat) : SWO (ltOf (cfK ks m)) where
  irrefl x := by rw [cfK_lt]; exact ltK_irrefl _
  trans x y z h1 h2 := by rw [cfK_lt] at *; exact ltK_trans h1 h2
  ntrans x y z h1 h2 := by rw [cfK_lt] at *; exact ltK_ntrans h1 h2
/-- In block g lie the places L, in the order in which the keys rise. -/
def Places (w : World) (g : Nat) (L : List Nat) (ks : List ByteArray) : Prop :=
  L.Perm (List.range ks.length) ∧ (∀ i j, i < j → j < L.length → ltK (keyAtK ks (L.getD j 0)) (keyAtK ks (L.getD i 0)) = false) ∧ ∀ j, j < L.length → w.cell? ⟨g, j, none⟩ = some (.int .i64 ((L.getD j 0 : Nat) : Int))
def fillC (k n : Nat) : Array Value := ((List.range n).map fun i => Value.int .i64 ((if i < k then i else 0 : Nat) : Int)).toArray
theorem fillC_at (k n i : Nat) (h : i < n) : (fillC k n)[i]? = some (.int .i64 ((if i < k then i else 0 : Nat) : Int)) := by
  unfold fillC
  simp [h]
theorem fillC_set (k n : Nat) (h : k < n) : (fillC k n).setIfInBounds k (.int .i64 (k : Int)) = fillC (k + 1) n := by
  apply Array.ext_getElem?
  intro i
  rw [Array.getElem?_setIfInBounds]
  by_cases hi : k = i
  · subst hi
    rw [if_pos rfl, if_pos (by unfold fillC; simpa using h), fillC_at _ _ _ h, if_pos (by omega)]
  · rw [if_neg hi]
    by_cases hn : i < n
    · rw [fillC_at _ _ _ hn, fillC_at _ _ _ hn]
      by_cases h1 : i < k
      · rw [if_pos h1, if_pos (by omega)]
      · rw [if_neg h1, if_neg (by omega)]
    · unfold fillC
      rw [List.getElem?_toArray, List.getElem?_toArray, List.getElem?_eq_none (by simp; omega), List.getElem?_eq_none (by simp; omega)]
def fins (m : Nat) : Array (Fin (m + 1)) := (List.finRange (m + 1)).toArray
theorem fins_size (m : Nat) : (fins m).size = m + 1 := by unfold fins; simp
theorem fins_at (m j : Nat) (h : j < m + 1) : (fins m)[j]! = ⟨j, h⟩ := by
  unfold fins
  rw [getElem!_pos _ j (by simpa using h)]
  simp
theorem Tryz.info3 : (Tryz.prog.info? 3).map (fun i => (i.zero, i.size, i.bytes)) = some (some (.int .i64 0), 1, 8) := by kernel_rfl
theorem places_of {m : Nat} {ks : List ByteArray} (hm : ks.length = m + 1) {d' : Array (Fin (m + 1))} (hp : PermIn 0 (fins m).size (fins m) d') (hs : SortedIn (ltOf (cfK ks m)) 0 (fins m).size d') {w : World} {g : Nat} (hH : Holds (encP' m) w g 0 d') :
    Places w g (d'.toList.map (·.val)) ks := by
  obtain ⟨h1, _, h3⟩ := hp
  have hsz : d'.size = m + 1 := by rw [h1, fins_size]
  have e1 : (d'.extract 0 (fins m).size).toList = d'.toList := by rw [← h1, Array.extract_size]
  have e2 : ((fins m).extract 0 (fins m).size).toList = List.finRange (m + 1) := by rw [Array.extract_size]; unfold fins; simp
  rw [e1, e2] at h3
  have hget : ∀ j, j < m + 1 → (d'.toList.map (·.val)).getD j 0 = d'[j]!.val := by
    intro j hj
    rw [List.getD_eq_getElem?_getD, List.getElem?_map, List.getElem?_eq_getElem (by simpa [hsz] using hj), getElem!_pos d' j (by omega)]
    simp
  refine ⟨?_, fun i j hij hj => ?_, fun j hj => ?_⟩
  · have := h3.map (fun x : Fin (m + 1) => x.val)
    have e3 : (List.finRange (m + 1)).map (fun x : Fin (m + 1) => x.val) = List.range (m + 1) := by
      apply List.ext_getElem
      · simp
      · intro n h1 h2; simp
    rw [e3] at this
    rw [hm]
    exact this
  · have hj' : j < m + 1 := by simpa [hsz] using hj
    rw [hget j hj', hget i (by omega)]
    have := hs i j (Nat.zero_le _) hij (by rw [fins_size]; exact hj')
    rw [cfK_lt] at this
    exact this
  · have hj' : j < m + 1 := by simpa [hsz] using hj
    have := (hH j (by omega)).1
    rw [Nat.zero_add] at this
    rw [this, hget j hj']
    rfl
theorem row_own {w : World} {B e g n : Nat} {xs : List Value} (h : w.ownsRow B e 1 (.slice (some ⟨g, 0, none⟩) n n) n xs) : w.heap[g]? = some (.cells xs.toArray e (0, 0)) := by
  rcases h.2 with ⟨h', _⟩ | ⟨g', cap, cur, he, hg, hgg, h1, h2, h3, h4⟩
  · cases h'
  · cases he
    rw [hgg]
    have e : xs = cur.toList := by rw [← h4, List.take_of_length_le (by simp; omega)]
    rw [e]
theorem fillC_zero (n : Nat) : (madeCells #[Value.int .i64 0] n).toList.toArray = fillC 0 n := by
  rw [toList_madeCells_one]
  unfold fillC
  congr 1
  apply List.ext_getElem
  · simp
  · intro i h1 h2; simp
theorem eg65 : ∀ args w, (callFunc 54 args).run Tryz.prog w = .ok (.enter 54 args) w := enters_of Tryz.func54 (by kernel_rfl) rfl
set_option maxHeartbeats 2000000 in
theorem rising_some {O : Nat → Prop} {ks : List ByteArray} {p : Option Addr} {c m : Nat} {w : World} (hrd : RdK O w p c ks) (hO : ∀ k, O k → k < w.heap.size) (hm : ks.length = m + 1) (hl : ks.length ≤ 1000000) :
    Calls Tryz.prog 42 #[.slice p ks.length c] w fun e w' => ∃ g L, e = .returned (.slice (some ⟨g, 0, none⟩) ks.length ks.length) ∧ Places w' g L ks ∧ w.heap.size ≤ g ∧ g < w'.heap.size ∧ Below w.heap.size w w' := by
  obtain ⟨i0, hi, hz0, hz1, hz2⟩ := info_parts Tryz.info3
  have HM : Hid (ks.length = m + 1) := hm
  clear hm
  have hbx : (w.alloc (.cells #[.slice p ks.length c] 22)).cell? ⟨w.heap.size, 0, none⟩ = some (.slice p ks.length c) := cell_row (cur := [_]) (heap_alloc_new _ _) 0 _ rfl
  have hb0 : Below w.heap.size w (w.alloc (.cells #[.slice p ks.length c] 22)) := (Below.refl _ _).alloc (Nat.le_refl _) _
  go_enter Tryz.func42, Tryz.ntmps42
  go_wp2_with (first
    | (at_make; refine wpList_make_full _ rfl _ _ 63 rfl (w.heap.size + 1) 3 i0 (.int .i64 0) 1 Tryz.underlying63 hi hz0 hz1 _ _ _ _ ks.length rfl rfl rfl rfl ?b2 ?b3 ?b4 ?_))
  case b2 => rw [hz2]; omega
  case b3 => unfold maxLen; omega
  case b4 => simp
  intro w1 hown hgrow
  have hsz1 : (w.alloc (.cells #[.slice p ks.length c] 22)).heap.size = w.heap.size + 1 := by simp
  have hrow := row_own hown
  rw [fillC_zero] at hrow
  have hb1 : RowKit.Below (w.heap.size + 1) (w.alloc (.cells #[.slice p ks.length c] 22)) w1 := (RowKit.Below.refl _ _).grown hgrow (by rw [hsz1]; exact Nat.le_refl _) (by simp)
  clear hown hgrow
  go_wp2
  go_loopw [10] (fun i wr => ∃ k : Nat, i = .int .i64 k ∧ k ≤ ks.length ∧ wr.heap[w.heap.size + 1]? = some (.cells (fillC k ks.length) 3 (0, 0)) ∧ RowKit.Below (w.heap.size + 1) (w.alloc (.cells #[.slice p ks.length c] 22)) wr) (fun i _ => ks.length - (intOf i).toNat)
  case atStart => exact ⟨0, rfl, Nat.zero_le _, hrow, hb1⟩
  case round =>
    clear hrow hb1
    obtain ⟨k, rfl, hk, hrow, hb⟩ := hrel
    by_cases hlt : k < ks.length
    · have hcell : wr.cell? ⟨w.heap.size + 1, k, none⟩ = some (.int .i64 ((if k < k then k else 0 : Nat) : Int)) := by
        simp only [World.cell?, hrow]
        exact fillC_at k ks.length k hlt
      have hfz : wr.frozen? ⟨w.heap.size + 1, k, none⟩ = false := frozen_of_row wr _ k _ _ hrow
      have HROW : Hid ((wr.setCell ⟨w.heap.size + 1, k, none⟩ (.int .i64 (k : Int))).heap[w.heap.size + 1]? = some (.cells (fillC (k + 1) ks.length) 3 (0, 0))) := by
        rw [heap_setCell_same wr _ k _ _ _ hrow, fillC_set k _ hlt]; rfl
      have HB := hb.setCell (p := ⟨w.heap.size + 1, k, none⟩) (Nat.le_refl _) (.int .i64 (k : Int))
      go_wp2
      go_roundw
      case rel => exact ⟨k + 1, by go_num, hlt, HROW.out, HB⟩
      case measure => simp [intOf]; omega
    · obtain rfl : k = ks.length := by omega
      have hm := HM.out
      have hsz := hb.size
      rw [hsz1] at hsz
      have hglt : w.heap.size + 1 < wr.heap.size := (Array.getElem?_eq_some_iff.1 hrow).1
      have hH : Holds (encP' m) wr (w.heap.size + 1) 0 (fins m) := by
        intro j hj
        rw [fins_size] at hj
        rw [Nat.zero_add]
        refine ⟨?_, frozen_of_row wr _ j _ _ hrow⟩
        have hfc := fillC_at ks.length ks.length j (by omega)
        rw [if_pos (show j < ks.length by omega)] at hfc
        rw [fins_at m j hj]
        simp only [World.cell?, hrow]
        exact hfc
      have hbw : RowKit.Below w.heap.size w wr := ((RowKit.Below.refl _ _).alloc (Nat.le_refl _) _).trans (hb.mono (by omega))
      have hcmp : CmpReads Tryz.prog 54 #[.pointer (some ⟨w.heap.size, 0, none⟩)] (encP' m) (cfK ks m) (w.heap.size + 1) 0 (fins m).size wr := by
        intro n os dk hdk x y
        have hks := keep_sort (encP' m) wr (w.heap.size + 1) n dk os
        have hbox : (sortWorld (encP' m) wr (w.heap.size + 1) 0 n dk os).cell? ⟨w.heap.size, 0, none⟩ = some (.slice p ks.length c) := by
          rw [hks.cell (p := ⟨w.heap.size, 0, none⟩) (by simp only; omega) (by simp only; omega), hb.cell (p := ⟨w.heap.size, 0, none⟩) (by simp only; omega)]
          exact hbx
        have hrd' : RdK O (sortWorld (encP' m) wr (w.heap.size + 1) 0 n dk os) p c ks := hrd.carry fun k hk => ⟨hk, by
          have hkl := hO k hk
          rw [hks.block k (by omega) (by omega), hbw.block k hkl]⟩
        exact rising_clo hrd' hbox x.val y.val (by omega) (by omega)
      have hcon : Calls Tryz.prog 53 #[.slice (some ⟨w.heap.size + 1, 0, none⟩) ks.length ks.length, .func (.func 54) #[] #[.pointer (some ⟨w.heap.size, 0, none⟩)]] wr fun e w' => e = .returned (.tuple #[]) ∧ (∃ L, Places w' (w.heap.size + 1) L ks) ∧ Keep (fun k => k = w.heap.size + 1) wr w' := by
        have harg : (Value.slice (some ⟨w.heap.size + 1, 0, none⟩) ks.length ks.length) = Value.slice (some ⟨w.heap.size + 1, 0, none⟩) (fins m).size ks.length := by rw [fins_size, hm]
        rw [harg]
        refine (Tryz.slices_SortFunc (encP' m) (fun _ => rfl) (cfK ks m) (swoK ks m) 54 #[.pointer (some ⟨w.heap.size, 0, none⟩)] (w.heap.size + 1) 0 ks.length (fins m) wr eg65 hcmp.lays hH hglt (by rw [fins_size]; omega)).mono fun e w' ⟨h1, d', n, os, hp, hs, hw⟩ => ?_
        subst hw
        exact ⟨h1, ⟨_, places_of hm hp hs (holds_sortWorld (encP' m) wr (w.heap.size + 1) 0 n (fins m) d' os hglt hH hp.1)⟩, keep_sort _ _ _ _ _ _⟩
      clear hm hcmp hH hrow
      go_wp2_with (first
        | (go_at_call 53; refine hcon.mono ?_; rintro e w2 ⟨rfl, ⟨L, hL⟩, hk2⟩))
      go_ret
      refine ⟨w.heap.size + 1, L, rfl, hL, by omega, by have := hk2.size; omega, ?_⟩
      exact hbw.trans (hk2.below (by omega) fun k hk => by omega)
set_option maxHeartbeats 2000000 in
theorem rising_none (p : Option Addr) (c : Nat) (w : World) :
    Calls Tryz.prog 42 #[.slice p 0 c] w fun e w' => ∃ g, e = .returned (.slice (some ⟨g, 0, none⟩) 0 0) ∧ w.heap.size ≤ g ∧ g < w'.heap.size ∧ Below w.heap.size w w' := by
  obtain ⟨i0, hi, hz0, hz1, hz2⟩ := info_parts Tryz.info3
  have hbx : (w.alloc (.cells #[.slice p 0 c] 22)).cell? ⟨w.heap.size, 0, none⟩ = some (.slice p 0 c) := cell_row (cur := [_]) (heap_alloc_new _ _) 0 _ rfl
  go_enter Tryz.func42, Tryz.ntmps42
  go_wp2_with (first
    | (at_make; refine wpList_make_full _ rfl _ _ 63 rfl (w.heap.size + 1) 3 i0 (.int .i64 0) 1 Tryz.underlying63 hi hz0 hz1 _ _ _ _ 0 rfl rfl rfl rfl ?b2 ?b3 ?b4 ?_))
  case b2 => omega
  case b3 => unfold maxLen; omega
  case b4 => simp
  intro w1 hown hgrow
  have hsz1 : (w.alloc (.cells #[.slice p 0 c] 22)).heap.size = w.heap.size + 1 := by simp
  have hrow := row_own hown
  have hglt : w.heap.size + 1 < w1.heap.size := (Array.getElem?_eq_some_iff.1 hrow).1
  have hb1 : RowKit.Below w.heap.size (w.alloc (.cells #[.slice p 0 c] 22)) w1 := (RowKit.Below.refl _ _).grown hgrow (by rw [hsz1]; omega) (by simp)
  have hb : RowKit.Below w.heap.size w w1 := ((RowKit.Below.refl _ _).alloc (Nat.le_refl _) _).trans hb1
  have hnone : ∀ wx : World, Calls Tryz.prog 53 #[.slice (some ⟨w.heap.size + 1, 0, none⟩) 0 0, .func (.func 54) #[] #[.pointer (some ⟨w.heap.size, 0, none⟩)]] wx fun e w' => e = .returned (.tuple #[]) ∧ wx = w' :=
    fun wx => (Tryz.slices_SortFunc_none (α := Nat) (some ⟨w.heap.size + 1, 0, none⟩) 0 _ wx).mono fun _ _ h => ⟨h.1, h.2.symm⟩
  clear hown hgrow hrow hb1
  go_wp2
  refine wp_loop_rounds 1 ?_
  rw [rounds_succ]
  go_wp2_with (first
    | (go_at_call 53; refine (hnone _).mono ?_; rintro e w' ⟨rfl, rfl⟩))
  go_ret
  exact ⟨w.heap.size + 1, rfl, by omega, hglt, hb⟩
/-- For keys whatever they are. -/
theorem rising_any {O : Nat → Prop} {ks : List ByteArray} {p : Option Addr} {c : Nat} {w : World} (hrd : RdK O w p c ks) (hO : ∀ k, O k → k < w.heap.size) (hl : ks.length ≤ 1000000) :
    Calls Tryz.prog 42 #[.slice p ks.length c] w fun e w' => ∃ g L, e = .returned (.slice (some ⟨g, 0, none⟩) ks.length ks.length) ∧ Places w' g L ks ∧ w.heap.size ≤ g ∧ g < w'.heap.size ∧ Below w.heap.size w w' := by
  cases ks with
  | nil =>
    refine (rising_none p c w).mono fun e w' ⟨g, h1, h2, h3, h4⟩ => ⟨g, [], h1, ⟨List.Perm.refl _, fun i j _ hj => absurd hj (by simp), fun j hj => absurd hj (by simp)⟩, h2, h3, h4⟩
  | cons k r => exact rising_some hrd hO rfl hl
end Go.Proofs.YtnmhpejnjaeecaaGreatDoor
namespace Go.Proofs.YtnmhpejnjaeecaaGreatDoor

theorem putK_perm (k : ByteArray) (v : J) : ∀ (q : List (ByteArray × J)), (putK k v q).Perm ((k, v) :: q)
  | [] => List.Perm.refl _
  | y :: q => by
    unfold putK
    split
    · exact List.Perm.refl _
    · exact ((putK_perm k v q).cons y).trans (List.Perm.swap _ _ _)
theorem sortK_perm : ∀ (q : List (ByteArray × J)), (sortK q).Perm q
  | [] => List.Perm.refl _
  | y :: q => by
    unfold sortK
    exact (putK_perm y.1 y.2 _).trans ((sortK_perm q).cons y)
theorem ltK_asymm {a b : ByteArray} (h : ltK a b = true) : ltK b a = false := by
  cases h' : ltK b a with
  | false => rfl
  | true => have := ltK_trans h h'; rw [ltK_irrefl] at this; cases this
theorem rises_eq : ∀ (a b : List (ByteArray × J)), rises (a.map (·.1)) = true → rises (b.map (·.1)) = true → a.Perm b → a = b
  | [], b, _, _, h => (List.nil_perm.1 h).symm ▸ rfl
  | x :: a, [], _, _, h => by have := h.length_eq; simp at this
  | x :: a, y :: b, ha, hb, h => by
    simp only [List.map_cons, rises, Bool.and_eq_true] at ha hb
    have hx : x ∈ y :: b := h.subset (by simp)
    have hy : y ∈ x :: a := h.symm.subset (by simp)
    have hxy : x = y := by
      rcases List.mem_cons.1 hx with h1 | h1
      · exact h1
      · rcases List.mem_cons.1 hy with h2 | h2
        · exact h2.symm
        · have g1 := List.all_eq_true.1 hb.1 x.1 (List.mem_map.2 ⟨x, h1, rfl⟩)
          have g2 := List.all_eq_true.1 ha.1 y.1 (List.mem_map.2 ⟨y, h2, rfl⟩)
          rw [ltK_asymm g1] at g2; cases g2
    subst hxy
    rw [rises_eq a b ha.2 hb.2 ((List.perm_cons x).1 h)]
/-- No key stands twice, in the words of the good ones. -/
theorem noTwice_pair : ∀ {ks : List ByteArray}, noKeyTwice ks = true → ks.Pairwise (· ≠ ·)
  | [], _ => List.Pairwise.nil
  | k :: r, h => by
    simp only [noKeyTwice, Bool.and_eq_true, Bool.not_eq_true', List.any_eq_false, decide_eq_true_eq] at h
    refine List.pairwise_cons.2 ⟨fun x hx e => h.1 x hx (by rw [e]), noTwice_pair h.2⟩
theorem pair_noTwice : ∀ {ks : List ByteArray}, ks.Pairwise (· ≠ ·) → noKeyTwice ks = true
  | [], _ => rfl
  | k :: r, h => by
    have h' := List.pairwise_cons.1 h
    simp only [noKeyTwice, Bool.and_eq_true, Bool.not_eq_true', List.any_eq_false, decide_eq_true_eq]
    refine ⟨fun x hx e => h'.1 x hx ?_, pair_noTwice h'.2⟩
    cases x; cases k
    simp only at e
    rw [e]
def valAt (l : List J) (i : Nat) : J := l.getD i J.zero
/-- The keys and values at places. -/
def sel (ks : List ByteArray) (l : List J) (L : List Nat) : List (ByteArray × J) := L.map fun i => (keyAtK ks i, valAt l i)
theorem sel_range : ∀ (ks : List ByteArray) (l : List J), ks.length = l.length → sel ks l (List.range ks.length) = ks.zip l
  | ks, l, h => by
    unfold sel
    apply List.ext_getElem
    · simp; omega
    · intro i h1 h2
      have hi : i < ks.length := by simpa using h1
      simp only [List.getElem_map, List.getElem_range, List.getElem_zip, keyAtK, valAt]
      rw [List.getD_eq_getElem?_getD, List.getD_eq_getElem?_getD, List.getElem?_eq_getElem hi, List.getElem?_eq_getElem (by omega)]
      rfl
theorem rises_of {α : Type} (f : α → ByteArray) : ∀ (l : List α), l.Pairwise (fun x y => ltK (f x) (f y) = true) → rises (l.map f) = true
  | [], _ => rfl
  | x :: l, h => by
    have h' := List.pairwise_cons.1 h
    simp only [List.map_cons, rises, Bool.and_eq_true]
    refine ⟨List.all_eq_true.2 fun z hz => ?_, rises_of f l h'.2⟩
    obtain ⟨y, hy, rfl⟩ := List.mem_map.1 hz
    exact h'.1 y hy
theorem places_sort {w : World} {g : Nat} {L : List Nat} {ks : List ByteArray} {l : List J} (hP : Places w g L ks) (hd : ks.Pairwise (· ≠ ·)) (hl : ks.length = l.length) : sel ks l L = sortK (ks.zip l) := by
  obtain ⟨hp, hs, _⟩ := hP
  have hlen : L.length = ks.length := by rw [hp.length_eq]; simp
  have hperm : (sel ks l L).Perm (ks.zip l) := by
    rw [← sel_range ks l hl]
    exact hp.map _
  have hpw : (ks.zip l).Pairwise fun x y => x.1 ≠ y.1 := by
    have : ((ks.zip l).map (·.1)).Pairwise (· ≠ ·) := by rw [List.map_fst_zip (by omega)]; exact hd
    exact List.pairwise_map.1 this
  refine rises_eq _ _ ?_ (sortK_rises' _ hpw) (hperm.trans (sortK_perm _).symm)
  unfold sel
  rw [List.map_map]
  refine rises_of _ L ?_
  rw [List.pairwise_iff_getElem]
  intro i j hi hj hij
  have h1 := hs i j hij hj
  have gi : L.getD i 0 = L[i] := by rw [List.getD_eq_getElem?_getD, List.getElem?_eq_getElem hi]; rfl
  have gj : L.getD j 0 = L[j] := by rw [List.getD_eq_getElem?_getD, List.getElem?_eq_getElem hj]; rfl
  rw [gi, gj] at h1
  have hnd : L.Nodup := hp.nodup_iff.2 List.nodup_range
  have hne : L[i] ≠ L[j] := List.pairwise_iff_getElem.1 hnd i j hi hj hij
  have mi : L[i] < ks.length := by have := hp.subset (List.getElem_mem hi); simpa using this
  have mj : L[j] < ks.length := by have := hp.subset (List.getElem_mem hj); simpa using this
  have hkne : keyAtK ks L[i] ≠ keyAtK ks L[j] := by
    unfold keyAtK
    rw [List.getD_eq_getElem?_getD, List.getD_eq_getElem?_getD, List.getElem?_eq_getElem mi, List.getElem?_eq_getElem mj]
    simp only [Option.getD_some]
    intro e
    rcases Nat.lt_or_gt_of_ne hne with h | h
    · exact List.pairwise_iff_getElem.1 hd _ _ mi mj h e
    · exact List.pairwise_iff_getElem.1 hd _ _ mj mi h e.symm
  rcases ltK_total hkne with h | h
  · exact h
  · rw [h] at h1; cases h1
end Go.Proofs.YtnmhpejnjaeecaaGreatDoor
namespace Go.Proofs.YtnmhpejnjaeecaaGreatDoor
open Go.RowKit

theorem RdK.below {O : Nat → Prop} {w w' : World} {p : Option Addr} {c : Nat} {ks : List ByteArray} (h : RdK O w p c ks) (hO : ∀ k, O k → k < w.heap.size) (hb : Below w.heap.size w w') : RdK O w' p c ks :=
  h.carry fun k hk => ⟨hk, hb.block k (hO k hk)⟩
theorem isJ_one {O : Nat → Prop} {w : World} {j : J} {cs : List Value} (h : isJ O w j cs) : ∀ u ∈ cs, u.oneCell' = true := by
  cases j
  unfold isJ at h
  obtain ⟨_, _, _, _, rfl, _⟩ := h
  intro u hu
  simp at hu
  rcases hu with rfl | rfl | rfl | rfl | rfl <;> rfl
theorem own_rdK {w : World} {B : Nat} {v : Value} {S : List ByteArray} (h : w.ownsRow B 9 1 v S.length (S.map Value.string)) : ∃ q cq, v = .slice q S.length cq ∧ RdK (fun k => B ≤ k ∧ k < w.heap.size) w q cq S := by
  rcases h.2 with ⟨rfl, hn⟩ | ⟨g, cap, cur, rfl, hg, hgg, h1, h2, h3, h4⟩
  · obtain rfl : S = [] := List.eq_nil_of_length_eq_zero hn
    exact ⟨none, 0, rfl, RdK.nil _ _⟩
  · refine ⟨_, cap, rfl, ⟨h1, fun j hj => ⟨_, rfl, ⟨hg, (Array.getElem?_eq_some_iff.1 hgg).1⟩, ?_⟩⟩⟩
    have := h.cells (g := g) rfl j (.string (S.getD j nix)) (by rw [List.getElem?_map, List.getD_eq_getElem?_getD, List.getElem?_eq_getElem hj]; rfl)
    exact this
theorem own_js {O : Nat → Prop} {w : World} {B : Nat} {v : Value} {l : List J} {xs : List Value} (h : w.ownsRow B 25 5 v l.length xs) (hr : isRow O w l xs) : ∃ q cq, v = .slice q l.length cq ∧ l.length ≤ cq ∧ isJs (fun k => O k ∨ (B ≤ k ∧ k < w.heap.size)) w q 0 l := by
  rcases h.2 with ⟨rfl, hn⟩ | ⟨g, cap, cur, rfl, hg, hgg, h1, h2, h3, h4⟩
  · obtain rfl : l = [] := List.eq_nil_of_length_eq_zero hn
    exact ⟨none, 0, rfl, Nat.le_refl _, by unfold isJs; trivial⟩
  · refine ⟨_, cap, rfl, h1, ?_⟩
    refine isRow.isJs (O := fun k => O k ∨ (B ≤ k ∧ k < w.heap.size)) (.inr ⟨hg, (Array.getElem?_eq_some_iff.1 hgg).1⟩) l xs 0 (hr.carry fun k hk => ⟨.inl hk, rfl⟩) fun i u hi => ?_
    have hc : cur[i]? = some u := by
      rw [← h4] at hi
      rw [List.getElem?_take] at hi
      split at hi
      · simpa using hi
      · cases hi
    rw [Nat.zero_mul, Nat.add_zero, Nat.zero_add]
    simp only [World.cell?, hgg]
    exact hc
/-- The map that is being made: its object behind block b, the keys Sk and values Sv that it has so far. -/
structure MI (O : Nat → Prop) (wB : World) (b : Nat) (Sk : List ByteArray) (Sv : List J) (vk vl : Value) (wr : World) : Prop where
  obj : wr.heap[b + 1]? = some (.cells #[.int .i64 5, .int .i64 0, .string ⟨#[]⟩, vk, vl] 25 (0, 0))
  res : wr.heap[b]? = some (.cells #[.int .i64 0, .int .i64 0, .string ⟨#[]⟩, .slice none 0 0, .slice none 0 0] 25 (0, 0))
  keys : wr.ownsRow wB.heap.size 9 1 vk Sk.length (Sk.map Value.string)
  vals : ∃ xs, wr.ownsRow wB.heap.size 25 5 vl Sv.length xs ∧ isRow O wr Sv xs
  ne : ∀ i, vk.ownBlock = some i → vl.ownBlock ≠ some i
  keep : Keep (One (b + 1)) wB wr
  lt : b + 1 < wB.heap.size
  low : ∀ k, O k → k < b
section
variable {O : Nat → Prop} {wB W W2 : World} {b : Nat} {Sk : List ByteArray} {Sv : List J} {vk vl vk' vl' : Value}
theorem MI.drew (h : MI O wB b Sk Sv vk vl W) : MI O wB b Sk Sv vk vl W.drew := ⟨h.obj, h.res, h.keys, by
  obtain ⟨xs, h1, h2⟩ := h.vals
  exact ⟨xs, h1, isRow.carry (w := W) (w' := W.drew) (fun k hk => ⟨hk, rfl⟩) Sv xs h2⟩, h.ne, h.keep.drew, h.lt, h.low⟩
theorem MI.c3 (h : MI O wB b Sk Sv vk vl W) : W.cell? ⟨b + 1, 3, none⟩ = some vk := five_c3 h.obj
theorem MI.c4 (h : MI O wB b Sk Sv vk vl W) : W.cell? ⟨b + 1, 4, none⟩ = some vl := five_c4 h.obj
theorem MI.size (h : MI O wB b Sk Sv vk vl W) : wB.heap.size ≤ W.heap.size := h.keep.size
/-- A block that is not among the rows stays where a row grows. -/
theorem grown_at {o : Obj} {row : Option Nat} {k : Nat} (hg : (W.alloc o).grownBy W2 row) (hk : k < W.heap.size) (hr : row ≠ some k) : W2.heap[k]? = W.heap[k]? := by
  rw [hg.block k (by simp; omega) (fun e => hr e.symm), Below.heap_alloc W o k hk]
theorem MI.key (h : MI O wB b Sk Sv vk vl W) {x : ByteArray} {o : Obj} (hown : W2.ownsRow wB.heap.size 9 1 vk' (Sk.length + 1) (Sk.map Value.string ++ [.string x])) (hg : (W.alloc o).grownBy W2 vk.ownBlock) (hat : vk'.ownBlock = vk.ownBlock ∨ vk'.ownBlock = some (W.alloc o).heap.size) :
    W2.cell? ⟨b + 1, 3, none⟩ = some vk ∧ W2.frozen? ⟨b + 1, 3, none⟩ = false ∧ MI O wB b (Sk ++ [x]) Sv vk' vl (W2.setCell ⟨b + 1, 3, none⟩ vk') := by
  have hsz := h.size
  have hlt := h.lt
  have hgk := own_ge h.keys
  obtain ⟨xs, hv1, hv2⟩ := h.vals
  have hgv := own_ge hv1
  have ob : W2.heap[b + 1]? = some (.cells #[.int .i64 5, .int .i64 0, .string ⟨#[]⟩, vk, vl] 25 (0, 0)) := by
    rw [grown_at hg (by omega) (fun e => by have := hgk _ e; omega)]; exact h.obj
  have rs : W2.heap[b]? = some (.cells #[.int .i64 0, .int .i64 0, .string ⟨#[]⟩, .slice none 0 0, .slice none 0 0] 25 (0, 0)) := by
    rw [grown_at hg (by omega) (fun e => by have := hgk _ e; omega)]; exact h.res
  have K3 : Keep (One (b + 1)) W2 (W2.setCell ⟨b + 1, 3, none⟩ vk') := Keep.setCell (Keep.refl _ _) (fun _ => (rfl : b + 1 = b + 1)) _
  have hgk' := own_ge hown
  refine ⟨five_c3 ob, five_fz ob 3, ⟨?_, ?_, ?_, ⟨xs, ?_, ?_⟩, ?_, ?_, hlt, h.low⟩⟩
  · rw [heap_setCell_same _ (b + 1) 3 _ _ _ ob]; rfl
  · rw [K3.block b (by have := (Array.getElem?_eq_some_iff.1 rs).1; omega) (by unfold One; omega)]; exact rs
  · rw [List.length_append, List.map_append]
    exact own_keep hown K3 fun k e => by have := hgk' k e; unfold One; omega
  · refine own_keep (own_keep (hv1.alloc o) (S := fun k => vk.ownBlock = some k) (Keep.of_grown hg fun _ _ e => e) fun k e e' => h.ne k e' e) K3 fun k e => by have := hgv k e; unfold One; omega
  · refine hv2.carry fun k hk => ⟨hk, ?_⟩
    have := h.low k hk
    rw [K3.block k (by have := hg.size; simp at this; omega) (by unfold One; omega), grown_at hg (by omega) (fun e => by have := hgk _ e; omega)]
  · intro i e e'
    rcases hat with h1 | h1
    · exact h.ne i (h1 ▸ e) e'
    · rw [h1] at e
      have h2 := (hgv i e').2
      have h3 : (W.alloc o).heap.size = i := Option.some.inj e
      simp at h3
      omega
  · have k1 : Keep (One (b + 1)) wB (W.alloc o) := h.keep.alloc o
    exact (k1.grown hg fun k e => (hgk k e).1).then K3
theorem MI.val (h : MI O wB b Sk Sv vk vl W) {y : J} {cs xs : List Value} {o : Obj} (hv1 : W.ownsRow wB.heap.size 25 5 vl Sv.length xs) (hv2 : isRow O W Sv xs) (hy : isJ O W y cs) (hown : W2.ownsRow wB.heap.size 25 5 vl' (Sv.length + 1) (xs ++ cs)) (hg : (W.alloc o).grownBy W2 vl.ownBlock) (hat : vl'.ownBlock = vl.ownBlock ∨ vl'.ownBlock = some (W.alloc o).heap.size) :
    W2.cell? ⟨b + 1, 4, none⟩ = some vl ∧ W2.frozen? ⟨b + 1, 4, none⟩ = false ∧ MI O wB b Sk (Sv ++ [y]) vk vl' (W2.setCell ⟨b + 1, 4, none⟩ vl') := by
  have hsz := h.size
  have hlt := h.lt
  have hgk := own_ge h.keys
  have hgv := own_ge hv1
  have ob : W2.heap[b + 1]? = some (.cells #[.int .i64 5, .int .i64 0, .string ⟨#[]⟩, vk, vl] 25 (0, 0)) := by
    rw [grown_at hg (by omega) (fun e => by have := hgv _ e; omega)]; exact h.obj
  have rs : W2.heap[b]? = some (.cells #[.int .i64 0, .int .i64 0, .string ⟨#[]⟩, .slice none 0 0, .slice none 0 0] 25 (0, 0)) := by
    rw [grown_at hg (by omega) (fun e => by have := hgv _ e; omega)]; exact h.res
  have K3 : Keep (One (b + 1)) W2 (W2.setCell ⟨b + 1, 4, none⟩ vl') := Keep.setCell (Keep.refl _ _) (fun _ => (rfl : b + 1 = b + 1)) _
  have hgv' := own_ge hown
  have carry : ∀ k, O k → O k ∧ (W2.setCell ⟨b + 1, 4, none⟩ vl').heap[k]? = W.heap[k]? := fun k hk => by
    have := h.low k hk
    exact ⟨hk, by rw [K3.block k (by have := hg.size; simp at this; omega) (by unfold One; omega), grown_at hg (by omega) (fun e => by have := hgv _ e; omega)]⟩
  refine ⟨five_c4 ob, five_fz ob 4, ⟨?_, ?_, ?_, ⟨xs ++ cs, ?_, ?_⟩, ?_, ?_, hlt, h.low⟩⟩
  · rw [heap_setCell_same _ (b + 1) 4 _ _ _ ob]; rfl
  · rw [K3.block b (by have := (Array.getElem?_eq_some_iff.1 rs).1; omega) (by unfold One; omega)]; exact rs
  · exact own_keep (own_keep (h.keys.alloc o) (S := fun k => vl.ownBlock = some k) (Keep.of_grown hg fun _ _ e => e) fun k e e' => h.ne k e e') K3 fun k e => by have := hgk k e; unfold One; omega
  · rw [List.length_append]
    exact own_keep hown K3 fun k e => by have := hgv' k e; unfold One; omega
  · exact isRow.snoc hy.five (hy.carry carry) Sv xs (hv2.carry carry)
  · intro i e e'
    rcases hat with h1 | h1
    · exact h.ne i e (h1 ▸ e')
    · rw [h1] at e'
      have h2 := (hgk i e).2
      have h3 : (W.alloc o).heap.size = i := Option.some.inj e'
      simp at h3
      omega
  · have k1 : Keep (One (b + 1)) wB (W.alloc o) := h.keep.alloc o
    exact (k1.grown hg fun k e => (hgv k e).1).then K3
end
theorem map_end {O : Nat → Prop} {w wB wr W5 : World} {q1 q2 : Option Addr} {c1 c2 : Nat} {ks : List ByteArray} {l : List J} (hO : ∀ k, O k → k < w.heap.size) (hbw : Below w.heap.size w wB) (hkeep : Keep (One (w.heap.size + 1)) wB wr) (HK5 : Keep (One w.heap.size) wr W5)
    (hrk : RdK (fun k => wB.heap.size ≤ k ∧ k < wr.heap.size) wr q1 c1 ks) (hrj : isJs (fun k => O k ∨ (wB.heap.size ≤ k ∧ k < wr.heap.size)) wr q2 0 l) (hc : l.length ≤ c2) (hsz : w.heap.size + 2 ≤ wB.heap.size) :
    isJ (fun k => O k ∨ New w W5 k) W5 (.mk 5 0 nix ks l) [.int .i64 5, .int .i64 0, .string nix, .slice q1 ks.length c1, .slice q2 l.length c2] ∧ Below w.heap.size w W5 := by
  have s1 := hkeep.size
  have s2 := HK5.size
  have carry : ∀ i, (O i ∨ (wB.heap.size ≤ i ∧ i < wr.heap.size)) → (O i ∨ New w W5 i) ∧ W5.heap[i]? = wr.heap[i]? := by
    intro i hi
    rcases hi with hi | hi
    · have := hO i hi
      exact ⟨.inl hi, HK5.block i (by omega) (by unfold One; omega)⟩
    · exact ⟨.inr ⟨by omega, by omega⟩, HK5.block i (by omega) (by unfold One; omega)⟩
  refine ⟨?_, ?_⟩
  · unfold isJ
    exact ⟨q1, c1, q2, c2, rfl, hrk.carry fun i hi => carry i (.inr hi), hc, hrj.carry carry⟩
  · exact (hbw.trans (hkeep.below (by omega) fun k hk => by unfold One; omega)).trans (HK5.below (by omega) fun k hk => by unfold One; omega)
end Go.Proofs.YtnmhpejnjaeecaaGreatDoor
namespace Go.Proofs.YtnmhpejnjaeecaaGreatDoor
open Go.RowKit

theorem cell_one_new (w : World) (v : Value) (t : Nat) : ∀ j u, [v][j]? = some u → (w.alloc (.cells #[v] t)).cell? ((⟨w.heap.size, 0, none⟩ : Addr).add j) = some u := by
  intro j u hj
  match j, hj with
  | 0, hj => simp at hj; subst hj; exact cell_row (cur := [_]) (heap_alloc_new _ _) 0 _ rfl
theorem str_one (x : ByteArray) : ∀ u ∈ [Value.string x], u.oneCell' = true := by
  intro u hu; simp at hu; subst hu; rfl
theorem cells_new5 (w : World) (t : Nat) (y0 y1 y2 y3 y4 : Value) : ∀ j u, [y0, y1, y2, y3, y4][j]? = some u → (w.alloc (.cells #[y0, y1, y2, y3, y4] t)).cell? ((⟨w.heap.size, 0, none⟩ : Addr).add j) = some u := by
  intro j u hj
  have e : (⟨w.heap.size, 0, none⟩ : Addr).add j = ⟨w.heap.size, j, none⟩ := by unfold Addr.add; split <;> simp_all
  rw [e]
  exact cell_row (cur := [_, _, _, _, _]) (heap_alloc_new _ _) j u hj
set_option maxRecDepth 100000 in
set_option maxHeartbeats 8000000 in
theorem mapOf_any {O : Nat → Prop} {w : World} {ks : List ByteArray} {l : List J} {pk pl : Option Addr} {ck cl : Nat} (hk : RdK O w pk ck ks) (hj : isJs O w pl 0 l) (hll : ks.length = l.length) (hO : ∀ k, O k → k < w.heap.size) (hn : ks.length ≤ 100000) (hd : ks.Pairwise (· ≠ ·)) :
    Calls Tryz.prog 28 #[.slice pk ks.length ck, .slice pl l.length cl] w fun e w' => ∃ cs, e = .returned (.agg cs) ∧ isJ (fun k => O k ∨ New w w' k) w' (mapOf ks l) cs.toList ∧ Below w.heap.size w w' := by
  have HLL : Hid (ks.length = l.length) := hll
  clear hll
  have hbA : Below w.heap.size w ((w.alloc (.cells #[.int .i64 0, .int .i64 0, .string ⟨#[]⟩, .slice none 0 0, .slice none 0 0] 25)).alloc (.cells #[.int .i64 5, .int .i64 0, .string ⟨#[]⟩, .slice none 0 0, .slice none 0 0] 25)) := ((Below.refl _ _).alloc (Nat.le_refl _) _).alloc (by simp) _
  have hkA := hk.below hO hbA
  have hszA : ((w.alloc (.cells #[.int .i64 0, .int .i64 0, .string ⟨#[]⟩, .slice none 0 0, .slice none 0 0] 25)).alloc (.cells #[.int .i64 5, .int .i64 0, .string ⟨#[]⟩, .slice none 0 0, .slice none 0 0] 25)).heap.size = w.heap.size + 2 := by simp
  have hob : ((w.alloc (.cells #[.int .i64 0, .int .i64 0, .string ⟨#[]⟩, .slice none 0 0, .slice none 0 0] 25)).alloc (.cells #[.int .i64 5, .int .i64 0, .string ⟨#[]⟩, .slice none 0 0, .slice none 0 0] 25)).heap[w.heap.size + 1]? = some (.cells #[.int .i64 5, .int .i64 0, .string ⟨#[]⟩, .slice none 0 0, .slice none 0 0] 25 (0, 0)) := by
    have := heap_alloc_new (w.alloc (.cells #[.int .i64 0, .int .i64 0, .string ⟨#[]⟩, .slice none 0 0, .slice none 0 0] 25)) (.cells #[.int .i64 5, .int .i64 0, .string ⟨#[]⟩, .slice none 0 0, .slice none 0 0] 25)
    rw [show (w.alloc (.cells #[.int .i64 0, .int .i64 0, .string ⟨#[]⟩, .slice none 0 0, .slice none 0 0] 25)).heap.size = w.heap.size + 1 by simp] at this
    exact this
  have hres : ((w.alloc (.cells #[.int .i64 0, .int .i64 0, .string ⟨#[]⟩, .slice none 0 0, .slice none 0 0] 25)).alloc (.cells #[.int .i64 5, .int .i64 0, .string ⟨#[]⟩, .slice none 0 0, .slice none 0 0] 25)).heap[w.heap.size]? = some (.cells #[.int .i64 0, .int .i64 0, .string ⟨#[]⟩, .slice none 0 0, .slice none 0 0] 25 (0, 0)) := by
    rw [Below.heap_alloc _ _ _ (by simp)]; exact heap_alloc_new _ _
  go_enter Tryz.func28, Tryz.ntmps28
  go_wp2_with (first
    | (go_at_call 42; refine (rising_any hkA (fun k hk => by have := hO k hk; rw [hszA]; omega) (by omega)).mono ?_; rintro e wB ⟨g, L, rfl, hP, hg1, hg2, hbB⟩))
  rw [hszA] at hg1 hbB
  have hszB := hbB.size
  rw [hszA] at hszB
  have hlen : L.length = ks.length := by rw [hP.1.length_eq]; simp
  have hbw : Below w.heap.size w wB := hbA.trans (hbB.mono (by omega))
  have hmi0 : MI O wB w.heap.size [] [] (.slice none 0 0) (.slice none 0 0) wB := ⟨(hbB.block _ (by omega)).trans hob, (hbB.block _ (by omega)).trans hres, World.ownsRow_nil _ _ _ _, ⟨[], World.ownsRow_nil _ _ _ _, rfl⟩, (fun i h => by cases h), Keep.refl _ _, by omega, hO⟩
  clear hob hres hkA
  go_loopw [12] (fun i wr => ∃ (k : Nat) (vk vl : Value), i = .int .i64 k ∧ k ≤ ks.length ∧ MI O wB w.heap.size ((sel ks l (L.take k)).map (·.1)) ((sel ks l (L.take k)).map (·.2)) vk vl wr) (fun i _ => ks.length - (intOf i).toNat)
  case atStart => exact ⟨0, _, _, rfl, Nat.zero_le _, hmi0⟩
  case round =>
    clear hmi0
    obtain ⟨k, vk, vl, rfl, hkn, hmi⟩ := hrel
    by_cases hlt : k < ks.length
    · obtain ⟨a, ha⟩ : ∃ a, L.getD k 0 = a := ⟨_, rfl⟩
      have hpl : wr.cell? ⟨g, k, none⟩ = some (.int .i64 (a : Int)) := by
        rw [hmi.keep.cell (p := ⟨g, k, none⟩) hg2 (by unfold One; simp only; omega), hP.2.2 k (by omega), ha]
      have hal : a < ks.length := by
        have hm : L.getD k 0 ∈ L := by rw [List.getD_eq_getElem?_getD, List.getElem?_eq_getElem (by omega)]; exact List.getElem_mem _
        have := hP.1.subset hm
        rw [ha] at this
        simpa using this
      have HSEL : Hid (sel ks l (L.take (k + 1)) = sel ks l (L.take k) ++ [(keyAtK ks a, valAt l a)]) := by
        unfold sel
        rw [List.take_add_one, List.getElem?_eq_getElem (by omega : k < L.length), List.map_append]
        rw [List.getD_eq_getElem?_getD, List.getElem?_eq_getElem (by omega : k < L.length)] at ha
        simp only [Option.getD_some] at ha
        rw [ha]; rfl
      obtain ⟨x, hx⟩ : ∃ x, keyAtK ks a = x := ⟨_, rfl⟩
      obtain ⟨y, hy⟩ : ∃ y, valAt l a = y := ⟨_, rfl⟩
      rw [hx, hy] at HSEL
      obtain ⟨adk, rfl, hadk, hck⟩ := hk.2 a hal
      change w.cell? (adk.add a) = some (.string (keyAtK ks a)) at hck
      rw [hx] at hck
      obtain ⟨lb, lo, cs, rfl, hadl, hcl', hyj⟩ := isJs.at l 0 a hj (by rw [← HLL.out]; exact hal)
      change isJ O w (valAt l a) cs at hyj
      rw [hy] at hyj
      rw [Nat.zero_add] at hcl'
      obtain ⟨y0, y1, y2, y3, y4, rfl⟩ : ∃ y0 y1 y2 y3 y4, cs = [y0, y1, y2, y3, y4] := by
        match cs, hyj.five with
        | [y0, y1, y2, y3, y4], _ => exact ⟨y0, y1, y2, y3, y4, rfl⟩
      have hone5 : ∀ u ∈ [y0, y1, y2, y3, y4], u.oneCell' = true := isJ_one hyj
      have hsel : (sel ks l (L.take k)).length = k := by unfold sel; simp; omega
      have hSkl : ((sel ks l (L.take k)).map (·.1)).length = k := by simp [hsel]
      have hSvl : ((sel ks l (L.take k)).map (·.2)).length = k := by simp [hsel]
      obtain ⟨Sk, hSk⟩ : ∃ Sk, (sel ks l (L.take k)).map (·.1) = Sk := ⟨_, rfl⟩
      obtain ⟨Sv, hSv⟩ : ∃ Sv, (sel ks l (L.take k)).map (·.2) = Sv := ⟨_, rfl⟩
      rw [hSk] at hSkl hmi
      rw [hSv] at hSvl hmi
      have HSk : Hid ((sel ks l (L.take (k + 1))).map (·.1) = Sk ++ [x]) := by rw [HSEL.out, List.map_append, hSk]; rfl
      have HSv : Hid ((sel ks l (L.take (k + 1))).map (·.2) = Sv ++ [y]) := by rw [HSEL.out, List.map_append, hSv]; rfl
      have hkeepO : ∀ {Sk' : List ByteArray} {Sv' : List J} {vk' vl' : Value} {W : World}, MI O wB w.heap.size Sk' Sv' vk' vl' W → ∀ i, O i → W.heap[i]? = w.heap[i]? := by
        intro Sk' Sv' vk' vl' W h i hi
        have := hO i hi
        rw [h.keep.block i (by omega) (by unfold One; omega), hbw.block i this]
      have hcx : ∀ {Sk' : List ByteArray} {Sv' : List J} {vk' vl' : Value} (W : World), MI O wB w.heap.size Sk' Sv' vk' vl' W → W.cell? (adk.add a) = some (.string x) := fun W h => (World.cell?_of_block (by rw [add_block]; exact hkeepO h _ hadk)).trans hck
      have hcl5 : ∀ i u, [y0, y1, y2, y3, y4][i]? = some u → w.cell? ⟨lb, lo + a * 5 + i, none⟩ = some u := hcl'
      have hcy : ∀ {Sk' : List ByteArray} {Sv' : List J} {vk' vl' : Value} (W : World), MI O wB w.heap.size Sk' Sv' vk' vl' W → W.cell? ⟨lb, lo + a * 5, none⟩ = some y0 ∧ W.cell? ⟨lb, lo + a * 5 + 1, none⟩ = some y1 ∧ W.cell? ⟨lb, lo + a * 5 + 2, none⟩ = some y2 ∧ W.cell? ⟨lb, lo + a * 5 + 3, none⟩ = some y3 ∧ W.cell? ⟨lb, lo + a * 5 + 4, none⟩ = some y4 := by
        intro Sk' Sv' vk' vl' W h
        have hh := hkeepO h _ hadl
        exact ⟨(World.cell?_of_block hh).trans (hcl5 0 _ rfl), (World.cell?_of_block hh).trans (hcl5 1 _ rfl), (World.cell?_of_block hh).trans (hcl5 2 _ rfl), (World.cell?_of_block hh).trans (hcl5 3 _ rfl), (World.cell?_of_block hh).trans (hcl5 4 _ rfl)⟩
      have hyJ : ∀ {Sk' : List ByteArray} {Sv' : List J} {vk' vl' : Value} (W : World), MI O wB w.heap.size Sk' Sv' vk' vl' W → isJ O W y [y0, y1, y2, y3, y4] := fun W h => hyj.carry fun i hi => ⟨hi, hkeepO h i hi⟩
      have hcx2 : ∀ {Sk' : List ByteArray} {Sv' : List J} {vk' vl' : Value} {W : World} {o : Obj} (W2 : World), (W.alloc o).grownBy W2 vk'.ownBlock → MI O wB w.heap.size Sk' Sv' vk' vl' W → W2.cell? (adk.add a) = some (.string x) := by
        intro Sk' Sv' vk' vl' W o W2 hg h
        have h1 := h.low _ hadk
        have h2 := h.size
        have h3 := h.lt
        have hgk := own_ge h.keys
        rw [World.cell?_of_block (w := W) (by rw [add_block]; exact grown_at hg (by omega) (fun e => by have := hgk _ e; omega))]
        exact hcx W h
      have hcyA : ∀ {Sk' : List ByteArray} {Sv' : List J} {vk' vl' : Value} (W : World), MI O wB w.heap.size Sk' Sv' vk' vl' W → (W.alloc (.cells #[y0, y1, y2, y3, y4] 25)).drew.cell? ⟨lb, lo + a * 5, none⟩ = some y0 ∧ (W.alloc (.cells #[y0, y1, y2, y3, y4] 25)).drew.cell? ⟨lb, lo + a * 5 + 1, none⟩ = some y1 ∧ (W.alloc (.cells #[y0, y1, y2, y3, y4] 25)).drew.cell? ⟨lb, lo + a * 5 + 2, none⟩ = some y2 ∧ (W.alloc (.cells #[y0, y1, y2, y3, y4] 25)).drew.cell? ⟨lb, lo + a * 5 + 3, none⟩ = some y3 ∧ (W.alloc (.cells #[y0, y1, y2, y3, y4] 25)).drew.cell? ⟨lb, lo + a * 5 + 4, none⟩ = some y4 := by
        intro Sk' Sv' vk' vl' W h
        have h1 := h.low _ hadl
        have h2 := h.size
        have h3 := h.lt
        have hh : (W.alloc (.cells #[y0, y1, y2, y3, y4] 25)).drew.heap[lb]? = W.heap[lb]? := Below.heap_alloc W _ _ (by omega)
        obtain ⟨g0, g1, g2, g3, g4⟩ := hcy W h
        exact ⟨(World.cell?_of_block hh).trans g0, (World.cell?_of_block hh).trans g1, (World.cell?_of_block hh).trans g2, (World.cell?_of_block hh).trans g3, (World.cell?_of_block hh).trans g4⟩
      have hcyB : ∀ {Sk' : List ByteArray} {Sv' : List J} {vk' vl' : Value} {W : World} {o : Obj} (W2 : World), (W.alloc o).grownBy W2 vl'.ownBlock → MI O wB w.heap.size Sk' Sv' vk' vl' W → W2.cell? ⟨lb, lo + a * 5, none⟩ = some y0 ∧ W2.cell? ⟨lb, lo + a * 5 + 1, none⟩ = some y1 ∧ W2.cell? ⟨lb, lo + a * 5 + 2, none⟩ = some y2 ∧ W2.cell? ⟨lb, lo + a * 5 + 3, none⟩ = some y3 ∧ W2.cell? ⟨lb, lo + a * 5 + 4, none⟩ = some y4 := by
        intro Sk' Sv' vk' vl' W o W2 hg h
        have h1 := h.low _ hadl
        have h2 := h.size
        have h3 := h.lt
        obtain ⟨xs, hv1, _⟩ := h.vals
        have hgv := own_ge hv1
        have hh : W2.heap[lb]? = W.heap[lb]? := grown_at hg (by omega) (fun e => by have := hgv _ e; omega)
        obtain ⟨g0, g1, g2, g3, g4⟩ := hcy W h
        exact ⟨(World.cell?_of_block hh).trans g0, (World.cell?_of_block hh).trans g1, (World.cell?_of_block hh).trans g2, (World.cell?_of_block hh).trans g3, (World.cell?_of_block hh).trans g4⟩
      have hal' : (a : Int) < (ks.length : Int) := by omega
      have hal2 : (a : Int) < (l.length : Int) := by have := HLL.out; omega
      have hSkb : Sk.length ≤ 100000 := by omega
      have hSvb : Sv.length ≤ 100000 := by omega
      clear hx hy hck hcl' hcl5 hSk hSv hsel hP hj hk hyj ha hSkl hSvl
      go_wp2
      have hmd := hmi.drew
      have hC0 : wr.drew.cell? (adk.add a) = some (.string x) := hcx wr hmi
      have hC1 : (wr.alloc (.cells #[.string x] 9)).drew.cell? (adk.add a) = some (.string x) := by
        have hh := World.cell?_of_block (a := adk.add a) (Below.heap_alloc wr (.cells #[.string x] 9) (adk.add a).block (by rw [add_block]; have := hmi.size; have := hmi.low _ hadk; have := hmi.lt; omega))
        exact hh.trans (hcx wr hmi)
      have d3 := hmd.c3
      have d3a : (wr.alloc (.cells #[.string x] 9)).drew.cell? ⟨w.heap.size + 1, 3, none⟩ = some vk := by
        have hh := World.cell?_of_block (a := ⟨w.heap.size + 1, 3, none⟩) (Below.heap_alloc wr (.cells #[.string x] 9) (w.heap.size + 1) (by have := hmi.size; have := hmi.lt; omega))
        exact hh.trans hmi.c3
      refine wp_region_in (by kernel_rfl) (fun w' => w'.cell? (adk.add a) = some (.string x)) ?_
      change wpIn _ _ _ _ _ _ _ _ (World.drew _)
      refine wpIn_take (i := 0) (d := (some 16)) (v := ?vqk0) (a' := ?aqk0) rfl rfl (by kernel_rfl) (by kernel_rfl) (by kernel_rfl) (fun _ _ _ h => h) (Or.inl ⟨by rfl, ?yqk0⟩) ?fqk0 ?_
      case yqk0 => (intro wq hq; go_simp; first | done | with_reducible rfl)
      case fqk0 => (go_frame; rfl)
      refine wpIn_take (i := 2) (d := (some 18)) (v := ?vqk2) (a' := ?aqk2) rfl rfl (by kernel_rfl) (by kernel_rfl) (by kernel_rfl) (fun _ _ _ h => h) (Or.inl ⟨by rfl, ?yqk2⟩) ?fqk2 ?_
      case yqk2 => (intro wq hq; go_simp; first | done | with_reducible rfl)
      case fqk2 => (go_frame; rfl)
      refine wpIn_take (i := 3) (d := (some 19)) (v := ?vqk3) (a' := ?aqk3) rfl rfl (by kernel_rfl) (by kernel_rfl) (by kernel_rfl) (fun _ _ _ h => h) (Or.inl ⟨by rfl, ?yqk3⟩) ?fqk3 ?_
      case yqk3 => (intro wq hq; go_simp; first | done | with_reducible rfl)
      case fqk3 => (go_frame; rfl)
      refine wpIn_take (i := 4) (d := (some 20)) (v := ?vqk4) (a' := ?aqk4) rfl rfl (by kernel_rfl) (by kernel_rfl) (by kernel_rfl) (fun _ _ _ h => h) (Or.inl ⟨by rfl, ?yqk4⟩) ?fqk4 ?_
      case yqk4 => (intro wq hq; go_simp; first | done | with_reducible rfl)
      case fqk4 => (go_frame; rfl)
      refine wpIn_take (i := 5) (d := (some 21)) (v := ?vqk5) (a' := ?aqk5) rfl rfl (by kernel_rfl) (by kernel_rfl) (by kernel_rfl) (fun _ _ _ h => h) (Or.inl ⟨by rfl, ?yqk5⟩) ?fqk5 ?_
      case yqk5 => (intro wq hq; go_simp; first | done | with_reducible rfl)
      case fqk5 => (go_frame; rfl)
      refine wpIn_pair (i := 1) (j := 6) hC0 (by kernel_rfl) rfl rfl (by rfl) (by rfl) ?_ ?_
      · intro K hK
        go_simp
        refine hK _ _ ?_
        clear hK K
        refine wpIn_do (i := 6) hC0 (by kernel_rfl) rfl (by rfl) ?_
        intro K hK
        go_simp
        refine hK _ _ ?_
        clear hK K
        refine wpIn_do (i := 7) hC1 (by kernel_rfl) rfl (by rfl) ?_
        intro K hK
        refine wp_append_at (.tmp 17) (.tmp 22) 22 rfl wB.heap.size 9 (.string ⟨#[]⟩) 1 16 Tryz.underlying22 Tryz.info9 rfl (by decide) (by decide) _ Sk.length (Sk.map Value.string) rfl (hmd.keys.alloc _) _ [.string x] rfl rfl (cell_one_new _ _ _) (str_one x) (by omega) (by have := hmi.size; simp; omega) ?_
        intro vk2 W2 hown2 hg2 hat2
        refine hK _ _ ?_
        clear hK K
        obtain ⟨q2, c2, hv2⟩ : ∃ q c, vk2 = .slice q (Sk.length + 1) c := by
          rcases hown2.2 with ⟨h', h0⟩ | ⟨g', cap', cur, h', _⟩
          · omega
          · exact ⟨_, _, h'⟩
        subst hv2
        have hg2' : (wr.drew.alloc (.cells #[.string x] 9)).grownBy W2 vk.ownBlock := hg2
        have hat2' : (Value.slice q2 (Sk.length + 1) c2).ownBlock = vk.ownBlock ∨ (Value.slice q2 (Sk.length + 1) c2).ownBlock = some (wr.drew.alloc (.cells #[.string x] 9)).heap.size := hat2
        obtain ⟨e3, f3, hmi3⟩ := hmd.key hown2 hg2' hat2'
        have hC2 := hcx2 W2 hg2' hmd
        have hC3 := hcx _ hmi3
        clear hown2 hg2 hat2 hg2' hat2' d3 d3a hC1 hC0
        refine wpIn_take (i := 8) (d := (some 24)) (v := ?vqm08) (a' := ?aqm08) rfl rfl (by kernel_rfl) (by kernel_rfl) (by kernel_rfl) (fun _ _ _ h => h) (Or.inl ⟨by rfl, ?yqm08⟩) ?fqm08 ?_
        case yqm08 => (intro wq hq; go_simp; first | done | with_reducible rfl)
        case fqm08 => (go_frame; rfl)
        refine wpIn_do (i := 9) hC2 (by kernel_rfl) rfl (by rfl) ?_
        intro K hK
        go_simp
        refine hK _ _ ?_
        clear hK K
        refine wpIn_done hC3 (by kernel_rfl) ?_ _
        clear hC2 hC3 e3 f3 hmd hmi
        go_wp2
        obtain ⟨wk, hwk⟩ : ∃ wk, wk = W2.setCell ⟨w.heap.size + 1, 3, none⟩ (.slice q2 (Sk.length + 1) c2) := ⟨_, rfl⟩
        rw [← hwk] at hmi3 ⊢
        clear hwk
        have hmd := hmi3.drew
        obtain ⟨xs, hv1, hv2⟩ := hmd.vals
        have hC0 := hcy wk.drew hmd
        have hC1 := hcyA wk hmi3
        have d4 := hmd.c4
        have d4a : (wk.alloc (.cells #[y0, y1, y2, y3, y4] 25)).drew.cell? ⟨w.heap.size + 1, 4, none⟩ = some vl := by
          have hh := World.cell?_of_block (a := ⟨w.heap.size + 1, 4, none⟩) (Below.heap_alloc wk (.cells #[y0, y1, y2, y3, y4] 25) (w.heap.size + 1) (by have := hmi3.size; have := hmi3.lt; omega))
          exact hh.trans hmi3.c4
        refine wp_region_in (by kernel_rfl) (fun w' => w'.cell? ⟨lb, lo + a * 5, none⟩ = some y0 ∧ w'.cell? ⟨lb, lo + a * 5 + 1, none⟩ = some y1 ∧ w'.cell? ⟨lb, lo + a * 5 + 2, none⟩ = some y2 ∧ w'.cell? ⟨lb, lo + a * 5 + 3, none⟩ = some y3 ∧ w'.cell? ⟨lb, lo + a * 5 + 4, none⟩ = some y4) ?_
        change wpIn _ _ _ _ _ _ _ _ (World.drew _)
        refine wpIn_take (i := 0) (d := (some 25)) (v := ?vqv00) (a' := ?aqv00) rfl rfl (by kernel_rfl) (by kernel_rfl) (by kernel_rfl) (fun _ _ _ h => h) (Or.inl ⟨by rfl, ?yqv00⟩) ?fqv00 ?_
        case yqv00 => (intro wq hq; go_simp; first | done | with_reducible rfl)
        case fqv00 => (go_frame; rfl)
        refine wpIn_take (i := 2) (d := (some 27)) (v := ?vqv02) (a' := ?aqv02) rfl rfl (by kernel_rfl) (by kernel_rfl) (by kernel_rfl) (fun _ _ _ h => h) (Or.inl ⟨by rfl, ?yqv02⟩) ?fqv02 ?_
        case yqv02 => (intro wq hq; go_simp; first | done | with_reducible rfl)
        case fqv02 => (go_frame; rfl)
        refine wpIn_take (i := 3) (d := (some 28)) (v := ?vqv03) (a' := ?aqv03) rfl rfl (by kernel_rfl) (by kernel_rfl) (by kernel_rfl) (fun _ _ _ h => h) (Or.inl ⟨by rfl, ?yqv03⟩) ?fqv03 ?_
        case yqv03 => (intro wq hq; go_simp; first | done | with_reducible rfl)
        case fqv03 => (go_frame; rfl)
        refine wpIn_take (i := 4) (d := (some 29)) (v := ?vqv04) (a' := ?aqv04) rfl rfl (by kernel_rfl) (by kernel_rfl) (by kernel_rfl) (fun _ _ _ h => h) (Or.inl ⟨by rfl, ?yqv04⟩) ?fqv04 ?_
        case yqv04 => (intro wq hq; go_simp; first | done | with_reducible rfl)
        case fqv04 => (go_frame; rfl)
        refine wpIn_take (i := 5) (d := (some 30)) (v := ?vqv05) (a' := ?aqv05) rfl rfl (by kernel_rfl) (by kernel_rfl) (by kernel_rfl) (fun _ _ _ h => h) (Or.inl ⟨by rfl, ?yqv05⟩) ?fqv05 ?_
        case yqv05 => (intro wq hq; obtain ⟨q0, q1, q2, q3, q4⟩ := hq; go_simp; first | done | with_reducible rfl)
        case fqv05 => (go_frame; rfl)
        refine wpIn_pair (i := 1) (j := 6) hC0 (by kernel_rfl) rfl rfl (by rfl) (by rfl) ?_ ?_
        · intro K hK
          go_simp
          refine hK _ _ ?_
          clear hK K
          refine wpIn_do (i := 6) hC0 (by kernel_rfl) rfl (by rfl) ?_
          intro K hK
          go_simp
          refine hK _ _ ?_
          clear hK K
          refine wpIn_do (i := 7) hC1 (by kernel_rfl) rfl (by rfl) ?_
          intro K hK
          refine wp_append_at (.tmp 26) (.tmp 31) 23 rfl wB.heap.size 25 (.agg #[.int .i64 0, .int .i64 0, .string ⟨#[]⟩, .slice none 0 0, .slice none 0 0]) 5 80 Tryz.underlying23 Tryz.info25 rfl (by decide) (by decide) _ Sv.length xs rfl (hv1.alloc _) _ [y0, y1, y2, y3, y4] rfl rfl (cells_new5 _ _ _ _ _ _ _) hone5 (by omega) (by have := hmi3.size; simp; omega) ?_
          intro vl2 W4 hown4 hg4 hat4
          refine hK _ _ ?_
          clear hK K
          obtain ⟨q4, c4, hv4⟩ : ∃ q c, vl2 = .slice q (Sv.length + 1) c := by
            rcases hown4.2 with ⟨h', h0⟩ | ⟨g', cap', cur, h', _⟩
            · omega
            · exact ⟨_, _, h'⟩
          subst hv4
          have hg4' : (wk.drew.alloc (.cells #[y0, y1, y2, y3, y4] 25)).grownBy W4 vl.ownBlock := hg4
          have hat4' : (Value.slice q4 (Sv.length + 1) c4).ownBlock = vl.ownBlock ∨ (Value.slice q4 (Sv.length + 1) c4).ownBlock = some (wk.drew.alloc (.cells #[y0, y1, y2, y3, y4] 25)).heap.size := hat4
          obtain ⟨e4, f4, hmi5⟩ := hmd.val hv1 hv2 (hyJ wk.drew hmd) hown4 hg4' hat4'
          have hC2 := hcyB W4 hg4' hmd
          have hC3 := hcy _ hmi5
          clear hown4 hg4 hat4 hg4' hat4' d4 d4a hC1 hC0 hv1 hv2
          refine wpIn_take (i := 8) (d := (some 33)) (v := ?vqn008) (a' := ?aqn008) rfl rfl (by kernel_rfl) (by kernel_rfl) (by kernel_rfl) (fun _ _ _ h => h) (Or.inl ⟨by rfl, ?yqn008⟩) ?fqn008 ?_
          case yqn008 => (intro wq hq; go_simp; first | done | with_reducible rfl)
          case fqn008 => (go_frame; rfl)
          refine wpIn_do (i := 9) hC2 (by kernel_rfl) rfl (by rfl) ?_
          intro K hK
          go_simp
          refine hK _ _ ?_
          clear hK K
          refine wpIn_done hC3 (by kernel_rfl) ?_ _
          clear hC2 hC3 e4 f4 hmd hmi3
          go_wp2
          go_roundw
          case rel => exact ⟨k + 1, _, _, by go_num, by omega, by rw [HSk.out, HSv.out]; exact hmi5⟩
          case measure => simp [intOf]; omega
        · intro K hK
          go_simp
          refine hK _ _ ?_
          clear hK K
          refine wpIn_do (i := 1) hC1 (by kernel_rfl) rfl (by rfl) ?_
          intro K hK
          go_simp
          refine hK _ _ ?_
          clear hK K
          refine wpIn_do (i := 7) hC1 (by kernel_rfl) rfl (by rfl) ?_
          intro K hK
          refine wp_append_at (.tmp 26) (.tmp 31) 23 rfl wB.heap.size 25 (.agg #[.int .i64 0, .int .i64 0, .string ⟨#[]⟩, .slice none 0 0, .slice none 0 0]) 5 80 Tryz.underlying23 Tryz.info25 rfl (by decide) (by decide) _ Sv.length xs rfl (hv1.alloc _) _ [y0, y1, y2, y3, y4] rfl rfl (cells_new5 _ _ _ _ _ _ _) hone5 (by omega) (by have := hmi3.size; simp; omega) ?_
          intro vl2 W4 hown4 hg4 hat4
          refine hK _ _ ?_
          clear hK K
          obtain ⟨q4, c4, hv4⟩ : ∃ q c, vl2 = .slice q (Sv.length + 1) c := by
            rcases hown4.2 with ⟨h', h0⟩ | ⟨g', cap', cur, h', _⟩
            · omega
            · exact ⟨_, _, h'⟩
          subst hv4
          have hg4' : (wk.drew.alloc (.cells #[y0, y1, y2, y3, y4] 25)).grownBy W4 vl.ownBlock := hg4
          have hat4' : (Value.slice q4 (Sv.length + 1) c4).ownBlock = vl.ownBlock ∨ (Value.slice q4 (Sv.length + 1) c4).ownBlock = some (wk.drew.alloc (.cells #[y0, y1, y2, y3, y4] 25)).heap.size := hat4
          obtain ⟨e4, f4, hmi5⟩ := hmd.val hv1 hv2 (hyJ wk.drew hmd) hown4 hg4' hat4'
          have hC2 := hcyB W4 hg4' hmd
          have hC3 := hcy _ hmi5
          clear hown4 hg4 hat4 hg4' hat4' d4 d4a hC1 hC0 hv1 hv2
          refine wpIn_take (i := 8) (d := (some 33)) (v := ?vqn018) (a' := ?aqn018) rfl rfl (by kernel_rfl) (by kernel_rfl) (by kernel_rfl) (fun _ _ _ h => h) (Or.inl ⟨by rfl, ?yqn018⟩) ?fqn018 ?_
          case yqn018 => (intro wq hq; go_simp; first | done | with_reducible rfl)
          case fqn018 => (go_frame; rfl)
          refine wpIn_do (i := 9) hC2 (by kernel_rfl) rfl (by rfl) ?_
          intro K hK
          go_simp
          refine hK _ _ ?_
          clear hK K
          refine wpIn_done hC3 (by kernel_rfl) ?_ _
          clear hC2 hC3 e4 f4 hmd hmi3
          go_wp2
          go_roundw
          case rel => exact ⟨k + 1, _, _, by go_num, by omega, by rw [HSk.out, HSv.out]; exact hmi5⟩
          case measure => simp [intOf]; omega
      · intro K hK
        go_simp
        refine hK _ _ ?_
        clear hK K
        refine wpIn_do (i := 1) hC1 (by kernel_rfl) rfl (by rfl) ?_
        intro K hK
        go_simp
        refine hK _ _ ?_
        clear hK K
        refine wpIn_do (i := 7) hC1 (by kernel_rfl) rfl (by rfl) ?_
        intro K hK
        refine wp_append_at (.tmp 17) (.tmp 22) 22 rfl wB.heap.size 9 (.string ⟨#[]⟩) 1 16 Tryz.underlying22 Tryz.info9 rfl (by decide) (by decide) _ Sk.length (Sk.map Value.string) rfl (hmd.keys.alloc _) _ [.string x] rfl rfl (cell_one_new _ _ _) (str_one x) (by omega) (by have := hmi.size; simp; omega) ?_
        intro vk2 W2 hown2 hg2 hat2
        refine hK _ _ ?_
        clear hK K
        obtain ⟨q2, c2, hv2⟩ : ∃ q c, vk2 = .slice q (Sk.length + 1) c := by
          rcases hown2.2 with ⟨h', h0⟩ | ⟨g', cap', cur, h', _⟩
          · omega
          · exact ⟨_, _, h'⟩
        subst hv2
        have hg2' : (wr.drew.alloc (.cells #[.string x] 9)).grownBy W2 vk.ownBlock := hg2
        have hat2' : (Value.slice q2 (Sk.length + 1) c2).ownBlock = vk.ownBlock ∨ (Value.slice q2 (Sk.length + 1) c2).ownBlock = some (wr.drew.alloc (.cells #[.string x] 9)).heap.size := hat2
        obtain ⟨e3, f3, hmi3⟩ := hmd.key hown2 hg2' hat2'
        have hC2 := hcx2 W2 hg2' hmd
        have hC3 := hcx _ hmi3
        clear hown2 hg2 hat2 hg2' hat2' d3 d3a hC1 hC0
        refine wpIn_take (i := 8) (d := (some 24)) (v := ?vqm18) (a' := ?aqm18) rfl rfl (by kernel_rfl) (by kernel_rfl) (by kernel_rfl) (fun _ _ _ h => h) (Or.inl ⟨by rfl, ?yqm18⟩) ?fqm18 ?_
        case yqm18 => (intro wq hq; go_simp; first | done | with_reducible rfl)
        case fqm18 => (go_frame; rfl)
        refine wpIn_do (i := 9) hC2 (by kernel_rfl) rfl (by rfl) ?_
        intro K hK
        go_simp
        refine hK _ _ ?_
        clear hK K
        refine wpIn_done hC3 (by kernel_rfl) ?_ _
        clear hC2 hC3 e3 f3 hmd hmi
        go_wp2
        obtain ⟨wk, hwk⟩ : ∃ wk, wk = W2.setCell ⟨w.heap.size + 1, 3, none⟩ (.slice q2 (Sk.length + 1) c2) := ⟨_, rfl⟩
        rw [← hwk] at hmi3 ⊢
        clear hwk
        have hmd := hmi3.drew
        obtain ⟨xs, hv1, hv2⟩ := hmd.vals
        have hC0 := hcy wk.drew hmd
        have hC1 := hcyA wk hmi3
        have d4 := hmd.c4
        have d4a : (wk.alloc (.cells #[y0, y1, y2, y3, y4] 25)).drew.cell? ⟨w.heap.size + 1, 4, none⟩ = some vl := by
          have hh := World.cell?_of_block (a := ⟨w.heap.size + 1, 4, none⟩) (Below.heap_alloc wk (.cells #[y0, y1, y2, y3, y4] 25) (w.heap.size + 1) (by have := hmi3.size; have := hmi3.lt; omega))
          exact hh.trans hmi3.c4
        refine wp_region_in (by kernel_rfl) (fun w' => w'.cell? ⟨lb, lo + a * 5, none⟩ = some y0 ∧ w'.cell? ⟨lb, lo + a * 5 + 1, none⟩ = some y1 ∧ w'.cell? ⟨lb, lo + a * 5 + 2, none⟩ = some y2 ∧ w'.cell? ⟨lb, lo + a * 5 + 3, none⟩ = some y3 ∧ w'.cell? ⟨lb, lo + a * 5 + 4, none⟩ = some y4) ?_
        change wpIn _ _ _ _ _ _ _ _ (World.drew _)
        refine wpIn_take (i := 0) (d := (some 25)) (v := ?vqv10) (a' := ?aqv10) rfl rfl (by kernel_rfl) (by kernel_rfl) (by kernel_rfl) (fun _ _ _ h => h) (Or.inl ⟨by rfl, ?yqv10⟩) ?fqv10 ?_
        case yqv10 => (intro wq hq; go_simp; first | done | with_reducible rfl)
        case fqv10 => (go_frame; rfl)
        refine wpIn_take (i := 2) (d := (some 27)) (v := ?vqv12) (a' := ?aqv12) rfl rfl (by kernel_rfl) (by kernel_rfl) (by kernel_rfl) (fun _ _ _ h => h) (Or.inl ⟨by rfl, ?yqv12⟩) ?fqv12 ?_
        case yqv12 => (intro wq hq; go_simp; first | done | with_reducible rfl)
        case fqv12 => (go_frame; rfl)
        refine wpIn_take (i := 3) (d := (some 28)) (v := ?vqv13) (a' := ?aqv13) rfl rfl (by kernel_rfl) (by kernel_rfl) (by kernel_rfl) (fun _ _ _ h => h) (Or.inl ⟨by rfl, ?yqv13⟩) ?fqv13 ?_
        case yqv13 => (intro wq hq; go_simp; first | done | with_reducible rfl)
        case fqv13 => (go_frame; rfl)
        refine wpIn_take (i := 4) (d := (some 29)) (v := ?vqv14) (a' := ?aqv14) rfl rfl (by kernel_rfl) (by kernel_rfl) (by kernel_rfl) (fun _ _ _ h => h) (Or.inl ⟨by rfl, ?yqv14⟩) ?fqv14 ?_
        case yqv14 => (intro wq hq; go_simp; first | done | with_reducible rfl)
        case fqv14 => (go_frame; rfl)
        refine wpIn_take (i := 5) (d := (some 30)) (v := ?vqv15) (a' := ?aqv15) rfl rfl (by kernel_rfl) (by kernel_rfl) (by kernel_rfl) (fun _ _ _ h => h) (Or.inl ⟨by rfl, ?yqv15⟩) ?fqv15 ?_
        case yqv15 => (intro wq hq; obtain ⟨q0, q1, q2, q3, q4⟩ := hq; go_simp; first | done | with_reducible rfl)
        case fqv15 => (go_frame; rfl)
        refine wpIn_pair (i := 1) (j := 6) hC0 (by kernel_rfl) rfl rfl (by rfl) (by rfl) ?_ ?_
        · intro K hK
          go_simp
          refine hK _ _ ?_
          clear hK K
          refine wpIn_do (i := 6) hC0 (by kernel_rfl) rfl (by rfl) ?_
          intro K hK
          go_simp
          refine hK _ _ ?_
          clear hK K
          refine wpIn_do (i := 7) hC1 (by kernel_rfl) rfl (by rfl) ?_
          intro K hK
          refine wp_append_at (.tmp 26) (.tmp 31) 23 rfl wB.heap.size 25 (.agg #[.int .i64 0, .int .i64 0, .string ⟨#[]⟩, .slice none 0 0, .slice none 0 0]) 5 80 Tryz.underlying23 Tryz.info25 rfl (by decide) (by decide) _ Sv.length xs rfl (hv1.alloc _) _ [y0, y1, y2, y3, y4] rfl rfl (cells_new5 _ _ _ _ _ _ _) hone5 (by omega) (by have := hmi3.size; simp; omega) ?_
          intro vl2 W4 hown4 hg4 hat4
          refine hK _ _ ?_
          clear hK K
          obtain ⟨q4, c4, hv4⟩ : ∃ q c, vl2 = .slice q (Sv.length + 1) c := by
            rcases hown4.2 with ⟨h', h0⟩ | ⟨g', cap', cur, h', _⟩
            · omega
            · exact ⟨_, _, h'⟩
          subst hv4
          have hg4' : (wk.drew.alloc (.cells #[y0, y1, y2, y3, y4] 25)).grownBy W4 vl.ownBlock := hg4
          have hat4' : (Value.slice q4 (Sv.length + 1) c4).ownBlock = vl.ownBlock ∨ (Value.slice q4 (Sv.length + 1) c4).ownBlock = some (wk.drew.alloc (.cells #[y0, y1, y2, y3, y4] 25)).heap.size := hat4
          obtain ⟨e4, f4, hmi5⟩ := hmd.val hv1 hv2 (hyJ wk.drew hmd) hown4 hg4' hat4'
          have hC2 := hcyB W4 hg4' hmd
          have hC3 := hcy _ hmi5
          clear hown4 hg4 hat4 hg4' hat4' d4 d4a hC1 hC0 hv1 hv2
          refine wpIn_take (i := 8) (d := (some 33)) (v := ?vqn108) (a' := ?aqn108) rfl rfl (by kernel_rfl) (by kernel_rfl) (by kernel_rfl) (fun _ _ _ h => h) (Or.inl ⟨by rfl, ?yqn108⟩) ?fqn108 ?_
          case yqn108 => (intro wq hq; go_simp; first | done | with_reducible rfl)
          case fqn108 => (go_frame; rfl)
          refine wpIn_do (i := 9) hC2 (by kernel_rfl) rfl (by rfl) ?_
          intro K hK
          go_simp
          refine hK _ _ ?_
          clear hK K
          refine wpIn_done hC3 (by kernel_rfl) ?_ _
          clear hC2 hC3 e4 f4 hmd hmi3
          go_wp2
          go_roundw
          case rel => exact ⟨k + 1, _, _, by go_num, by omega, by rw [HSk.out, HSv.out]; exact hmi5⟩
          case measure => simp [intOf]; omega
        · intro K hK
          go_simp
          refine hK _ _ ?_
          clear hK K
          refine wpIn_do (i := 1) hC1 (by kernel_rfl) rfl (by rfl) ?_
          intro K hK
          go_simp
          refine hK _ _ ?_
          clear hK K
          refine wpIn_do (i := 7) hC1 (by kernel_rfl) rfl (by rfl) ?_
          intro K hK
          refine wp_append_at (.tmp 26) (.tmp 31) 23 rfl wB.heap.size 25 (.agg #[.int .i64 0, .int .i64 0, .string ⟨#[]⟩, .slice none 0 0, .slice none 0 0]) 5 80 Tryz.underlying23 Tryz.info25 rfl (by decide) (by decide) _ Sv.length xs rfl (hv1.alloc _) _ [y0, y1, y2, y3, y4] rfl rfl (cells_new5 _ _ _ _ _ _ _) hone5 (by omega) (by have := hmi3.size; simp; omega) ?_
          intro vl2 W4 hown4 hg4 hat4
          refine hK _ _ ?_
          clear hK K
          obtain ⟨q4, c4, hv4⟩ : ∃ q c, vl2 = .slice q (Sv.length + 1) c := by
            rcases hown4.2 with ⟨h', h0⟩ | ⟨g', cap', cur, h', _⟩
            · omega
            · exact ⟨_, _, h'⟩
          subst hv4
          have hg4' : (wk.drew.alloc (.cells #[y0, y1, y2, y3, y4] 25)).grownBy W4 vl.ownBlock := hg4
          have hat4' : (Value.slice q4 (Sv.length + 1) c4).ownBlock = vl.ownBlock ∨ (Value.slice q4 (Sv.length + 1) c4).ownBlock = some (wk.drew.alloc (.cells #[y0, y1, y2, y3, y4] 25)).heap.size := hat4
          obtain ⟨e4, f4, hmi5⟩ := hmd.val hv1 hv2 (hyJ wk.drew hmd) hown4 hg4' hat4'
          have hC2 := hcyB W4 hg4' hmd
          have hC3 := hcy _ hmi5
          clear hown4 hg4 hat4 hg4' hat4' d4 d4a hC1 hC0 hv1 hv2
          refine wpIn_take (i := 8) (d := (some 33)) (v := ?vqn118) (a' := ?aqn118) rfl rfl (by kernel_rfl) (by kernel_rfl) (by kernel_rfl) (fun _ _ _ h => h) (Or.inl ⟨by rfl, ?yqn118⟩) ?fqn118 ?_
          case yqn118 => (intro wq hq; go_simp; first | done | with_reducible rfl)
          case fqn118 => (go_frame; rfl)
          refine wpIn_do (i := 9) hC2 (by kernel_rfl) rfl (by rfl) ?_
          intro K hK
          go_simp
          refine hK _ _ ?_
          clear hK K
          refine wpIn_done hC3 (by kernel_rfl) ?_ _
          clear hC2 hC3 e4 f4 hmd hmi3
          go_wp2
          go_roundw
          case rel => exact ⟨k + 1, _, _, by go_num, by omega, by rw [HSk.out, HSv.out]; exact hmi5⟩
          case measure => simp [intOf]; omega
    · obtain rfl : k = ks.length := by omega
      have hLt : L.take ks.length = L := List.take_of_length_le (by omega)
      rw [hLt, places_sort hP hd HLL.out] at hmi
      obtain ⟨xs, hv1, hv2⟩ := hmi.vals
      have hkl : ((sortK (ks.zip l)).map (·.1)).length = ks.length := by rw [List.length_map, sortK_length]; simp; have := HLL.out; omega
      have hvl : ((sortK (ks.zip l)).map (·.2)).length = ks.length := by rw [List.length_map, sortK_length]; simp; have := HLL.out; omega
      obtain ⟨q1, c1, hvk, hrk⟩ := own_rdK hmi.keys
      obtain ⟨q2, c2, hvl2, hc2, hrj⟩ := own_js hv1 hv2
      subst hvk hvl2
      have j0 := five_c0 hmi.obj; have j1 := five_c1 hmi.obj; have j2 := five_c2 hmi.obj; have j3 := five_c3 hmi.obj; have j4 := five_c4 hmi.obj
      have i0 := five_c0 hmi.res; have i1 := five_c1 hmi.res; have i2 := five_c2 hmi.res; have i3 := five_c3 hmi.res; have i4 := five_c4 hmi.res
      have z0 := five_fz hmi.res 0; have z1 := five_fz hmi.res 1; have z2 := five_fz hmi.res 2; have z3 := five_fz hmi.res 3; have z4 := five_fz hmi.res 4
      have h5 := set5_heap hmi.res (.int .i64 5) (.int .i64 0) (.string ⟨#[]⟩) (.slice q1 ((sortK (ks.zip l)).map (·.1)).length c1) (.slice q2 ((sortK (ks.zip l)).map (·.2)).length c2)
      have HK5 : Keep (One w.heap.size) wr _ := set5_keep wr w.heap.size (.int .i64 5) (.int .i64 0) (.string ⟨#[]⟩) (.slice q1 ((sortK (ks.zip l)).map (·.1)).length c1) (.slice q2 ((sortK (ks.zip l)).map (·.2)).length c2)
      have hsz := hmi.size
      have hkeep := hmi.keep
      unfold set5 at h5 HK5
      have HRK : Hid (RdK (fun k => wB.heap.size ≤ k ∧ k < wr.heap.size) wr q1 c1 ((sortK (ks.zip l)).map (·.1))) := hrk
      have HRJ : Hid (isJs (fun k => O k ∨ (wB.heap.size ≤ k ∧ k < wr.heap.size)) wr q2 0 ((sortK (ks.zip l)).map (·.2))) := hrj
      have k0 := five_c0 h5; have k1 := five_c1 h5; have k2 := five_c2 h5; have k3 := five_c3 h5; have k4 := five_c4 h5
      obtain ⟨n1, hn1⟩ : ∃ n1, ((sortK (ks.zip l)).map (·.1)).length = n1 := ⟨_, rfl⟩
      obtain ⟨n2, hn2⟩ : ∃ n2, ((sortK (ks.zip l)).map (·.2)).length = n2 := ⟨_, rfl⟩
      rw [hn1, hn2] at h5 HK5 k3 k4
      rw [hn1] at j3 k0 k1 k2
      rw [hn2] at j4 k0 k1 k2
      clear hrk hrj hv1 hv2 hmi hP hkl hvl hk hj
      go_wp2
      refine bodyPost_ret (v := .agg #[.int .i64 5, .int .i64 0, .string ⟨#[]⟩, .slice q1 n1 c1, .slice q2 n2 c2]) (by simp [results, Tryz.results28, go_sem, k0, k1, k2, k3, k4]) rfl ?_
      obtain ⟨r1, r2⟩ := map_end hO hbw hkeep HK5 HRK.out HRJ.out hc2 (by omega)
      rw [hn1, hn2] at r1
      exact ⟨_, rfl, r1, r2⟩
end Go.Proofs.YtnmhpejnjaeecaaGreatDoor
namespace Go.Proofs.YtnmhpejnjaeecaaGreatDoor
open Go.RowKit

/-- The blocks in which the values of a row of the call's own may lie. -/
def Elt (B : Nat) (v : Value) (w : World) : Nat → Prop := fun k => B ≤ k ∧ k < w.heap.size ∧ v.ownBlock ≠ some k
/-- The values acc lie in a row of the call's own. -/
def Vals (B : Nat) (w : World) (v : Value) (acc : List J) : Prop := ∃ xs, w.ownsRow B 25 5 v acc.length xs ∧ isRow (Elt B v w) w acc xs
theorem Vals.nil (B : Nat) (w : World) : Vals B w (.slice none 0 0) [] := ⟨[], World.ownsRow_nil _ _ _ _, rfl⟩
theorem Vals.keep {B : Nat} {S : Nat → Prop} {w w' : World} {v : Value} {acc : List J} (h : Vals B w v acc) (hk : Keep S w w') (hS : ∀ k, B ≤ k → ¬ S k) : Vals B w' v acc := by
  obtain ⟨xs, h1, h2⟩ := h
  have hs := hk.size
  refine ⟨xs, own_keep h1 hk fun k e => hS k (own_ge h1 k e).1, h2.carry fun k hk' => ⟨⟨hk'.1, by have := hk'.2.1; omega, hk'.2.2⟩, hk.block k hk'.2.1 (hS k hk'.1)⟩⟩
/-- One value more. -/
theorem Vals.push {B : Nat} {W W2 : World} {v v' : Value} {acc : List J} {y : J} {cs xs : List Value} {o : Obj} (h2 : isRow (Elt B v W) W acc xs) (hy : isJ (Elt B v W) W y cs)
    (hown : W2.ownsRow B 25 5 v' (acc.length + 1) (xs ++ cs)) (hg : (W.alloc o).grownBy W2 v.ownBlock) (hat : v'.ownBlock = v.ownBlock ∨ v'.ownBlock = some (W.alloc o).heap.size) : Vals B W2 v' (acc ++ [y]) := by
  have hs := hg.size
  simp at hs
  have carry : ∀ k, Elt B v W k → Elt B v' W2 k ∧ W2.heap[k]? = W.heap[k]? := by
    intro k hk
    refine ⟨⟨hk.1, by have := hk.2.1; omega, fun e => ?_⟩, grown_at hg hk.2.1 hk.2.2⟩
    rcases hat with h | h
    · exact hk.2.2 (h ▸ e)
    · rw [h] at e
      have h3 : (W.alloc o).heap.size = k := Option.some.inj e
      simp at h3
      have := hk.2.1
      omega
  exact ⟨xs ++ cs, by rw [List.length_append]; exact hown, isRow.snoc hy.five (hy.carry carry) acc xs (h2.carry carry)⟩
/-- The list that is being read: its object behind block b, the values that it has so far. -/
structure LI (B R b : Nat) (WA : World) (acc : List J) (vl : Value) (wr : World) : Prop where
  obj : wr.heap[b + 1]? = some (.cells #[.int .i64 4, .int .i64 0, .string ⟨#[]⟩, .slice none 0 0, vl] 25 (0, 0))
  res : wr.heap[b]? = some (.cells #[.int .i64 0, .int .i64 0, .string ⟨#[]⟩, .slice none 0 0, .slice none 0 0] 25 (0, 0))
  vals : Vals B wr vl acc
  keep : Keep (Two R (b + 1)) WA wr
  szA : WA.heap.size = B
  lt : b + 1 < B
  rb : R < b
section
variable {B R b : Nat} {WA W W2 : World} {acc : List J} {vl vl' : Value}
theorem LI.size (h : LI B R b WA acc vl W) : B ≤ W.heap.size := by have := h.keep.size; have := h.szA; omega
theorem LI.one (h : LI B R b WA acc vl W) (hk : Keep (One R) W W2) : LI B R b WA acc vl W2 := by
  have h1 := h.size
  have h2 := h.lt
  have h3 := h.rb
  exact ⟨(hk.block _ (by omega) (by unfold One; omega)).trans h.obj, (hk.block _ (by omega) (by unfold One; omega)).trans h.res, h.vals.keep hk fun k hB => by unfold One; omega, h.keep.then hk.one_two, h.szA, h2, h3⟩
theorem LI.alloc (h : LI B R b WA acc vl W) (o : Obj) : LI B R b WA acc vl (W.alloc o) := h.one ((Keep.refl _ _).alloc o)
theorem LI.c4 (h : LI B R b WA acc vl W) : W.cell? ⟨b + 1, 4, none⟩ = some vl := five_c4 h.obj
theorem LI.push (h : LI B R b WA acc vl W) {y : J} {cs xs : List Value} {o : Obj} (h1 : W.ownsRow B 25 5 vl acc.length xs) (h2 : isRow (Elt B vl W) W acc xs) (hy : isJ (Elt B vl W) W y cs)
    (hown : W2.ownsRow B 25 5 vl' (acc.length + 1) (xs ++ cs)) (hg : (W.alloc o).grownBy W2 vl.ownBlock) (hat : vl'.ownBlock = vl.ownBlock ∨ vl'.ownBlock = some (W.alloc o).heap.size) :
    W2.cell? ⟨b + 1, 4, none⟩ = some vl ∧ W2.frozen? ⟨b + 1, 4, none⟩ = false ∧ LI B R b WA (acc ++ [y]) vl' (W2.setCell ⟨b + 1, 4, none⟩ vl') := by
  have hsz := h.size
  have hlt := h.lt
  have hrb := h.rb
  have hgv := own_ge h1
  have ob : W2.heap[b + 1]? = some (.cells #[.int .i64 4, .int .i64 0, .string ⟨#[]⟩, .slice none 0 0, vl] 25 (0, 0)) := by
    rw [grown_at hg (by omega) (fun e => by have := hgv _ e; omega)]; exact h.obj
  have rs : W2.heap[b]? = some (.cells #[.int .i64 0, .int .i64 0, .string ⟨#[]⟩, .slice none 0 0, .slice none 0 0] 25 (0, 0)) := by
    rw [grown_at hg (by omega) (fun e => by have := hgv _ e; omega)]; exact h.res
  have K3 : Keep (One (b + 1)) W2 (W2.setCell ⟨b + 1, 4, none⟩ vl') := Keep.setCell (Keep.refl _ _) (fun _ => (rfl : b + 1 = b + 1)) _
  refine ⟨five_c4 ob, five_fz ob 4, ⟨?_, ?_, ?_, ?_, h.szA, hlt, hrb⟩⟩
  · rw [heap_setCell_same _ (b + 1) 4 _ _ _ ob]; rfl
  · rw [K3.block b (by have := (Array.getElem?_eq_some_iff.1 rs).1; omega) (by unfold One; omega)]; exact rs
  · exact (Vals.push h2 hy hown hg hat).keep K3 fun k hB => by unfold One; omega
  · have k1 : Keep (Two R (b + 1)) WA (W.alloc o) := h.keep.alloc o
    have k2 : Keep (Two R (b + 1)) WA W2 := k1.grown hg fun k e => by have := (hgv k e).1; have := h.szA; omega
    exact k2.then (K3.mono fun i _ hi => .inr hi)
end
/-- An append of one element, outside a region that draws. -/
theorem wpList_app {w : World} {ops : Array Oper} {rest : List Oper} {o : Oper} {a : Act} {Q : Exit → Act → World → Prop} (hgd : o.guard = none) (s x : Operand) (t : TypeId)
    (ho : o.op = .call { callee := .builtin .append, args := #[s, x], argTypes := #[t, t] })
    (base : Nat) (e : TypeId) (z : Value) (size bytes : Nat) (ht : Tryz.prog.underlying t = some (.slice e)) (hinfo : (Tryz.prog.info? e).map (fun i => (i.zero, i.size, i.bytes)) = some (some z, size, bytes))
    (hzs : z.cells.size = size) (hsz : 0 < size) (hby : bytes ≤ 100)
    (v : Value) (n : Nat) (xs : List Value) (hs : a.eval s = v) (hown : w.ownsRow base e size v n xs)
    (ad : Addr) (news : List Value) (hx : a.eval x = .slice (some ad) 1 1) (hl : news.length = size) (hnews : ∀ j u, news[j]? = some u → w.cell? (ad.add j) = some u) (h1 : ∀ u ∈ news, u.oneCell' = true)
    (hn : n ≤ 1000000) (hbase : base ≤ w.heap.size)
    (h : ∀ v' w', w'.ownsRow base e size v' (n + 1) (xs ++ news) → w.grownBy w' v.ownBlock → (v'.ownBlock = v.ownBlock ∨ v'.ownBlock = some w.heap.size) → wpList Tryz.prog ops Q rest (a.put o.dst v') w') : wpList Tryz.prog ops Q (o :: rest) a w :=
  wpList_plain hgd fun _ hK => wp_append_at s x t ho base e z size bytes ht hinfo hzs hsz hby v n xs hs hown ad news hx hl hnews h1 hn hbase fun v' w' h2 h3 h4 => hK _ _ (h v' w' h2 h3 h4)
end Go.Proofs.YtnmhpejnjaeecaaGreatDoor
namespace Go.Proofs.YtnmhpejnjaeecaaGreatDoor
open Go.RowKit

/-- How values that may be d deep are read. -/
def Reads (d : Nat) : Prop := ∀ (w : World) (R p : Nat) (s : ByteArray) (e l deep : Int), Rdr w R s p e l → short s → p ≤ s.size → deep = 13 - (d : Int) →
  Calls Tryz.prog 47 #[.pointer (some ⟨R, 0, none⟩), .int .i64 deep] w fun x w' => valTold w w' R s (value (ints s) d p) x
abbrev zJ : Obj := .cells #[.int .i64 0, .int .i64 0, .string ⟨#[]⟩, .slice none 0 0, .slice none 0 0] 25
abbrev lJ : Obj := .cells #[.int .i64 4, .int .i64 0, .string ⟨#[]⟩, .slice none 0 0, .slice none 0 0] 25
/-- The world in which the loop begins. -/
abbrev atL (w : World) (R p : Nat) : World := ((w.setCell ⟨R, 1, none⟩ (.int .i64 ((p : Int) + 1))).alloc zJ).alloc lJ
theorem atL_keep (w : World) (R p : Nat) : Keep (One R) w (atL w R p) := ((Rdr.setAt w R (p + 1)).alloc _).alloc _
theorem LI.start (w : World) (R p : Nat) (hR : R < w.heap.size) : LI (w.heap.size + 2) R w.heap.size (atL w R p) [] (.slice none 0 0) (atL w R p) := by
  refine ⟨?_, ?_, Vals.nil _ _, Keep.refl _ _, by simp, by omega, hR⟩
  · have := heap_alloc_new ((w.setCell ⟨R, 1, none⟩ (.int .i64 ((p : Int) + 1))).alloc zJ) lJ
    rw [show ((w.setCell ⟨R, 1, none⟩ (.int .i64 ((p : Int) + 1))).alloc zJ).heap.size = w.heap.size + 1 by simp] at this
    exact this
  · rw [Below.heap_alloc _ _ _ (by simp)]
    have := heap_alloc_new (w.setCell ⟨R, 1, none⟩ (.int .i64 ((p : Int) + 1))) zJ
    rw [show (w.setCell ⟨R, 1, none⟩ (.int .i64 ((p : Int) + 1))).heap.size = w.heap.size by simp] at this
    exact this
theorem LI.end {w W5 wr : World} {R p : Nat} {acc : List J} {vl : Value} (h : LI (w.heap.size + 2) R w.heap.size (atL w R p) acc vl wr) (hk : Keep (One w.heap.size) wr W5) : Keep (One R) w W5 := by
  have k1 : Keep (One R) w wr := (atL_keep w R p).trans h.keep fun i hi h' => by
    rcases h' with h' | h'
    · exact h'
    · omega
  exact k1.trans hk fun i hi h' => by unfold One at h'; omega
theorem LI.ok {w W5 wr : World} {R p : Nat} {acc : List J} {vl : Value} (h : LI (w.heap.size + 2) R w.heap.size (atL w R p) acc vl wr) (hk : Keep (One w.heap.size) wr W5) :
    ∃ q c, vl = .slice q acc.length c ∧ isJ (New w W5) W5 (.mk 4 0 nix [] acc) [.int .i64 4, .int .i64 0, .string nix, .slice none 0 0, .slice q acc.length c] := by
  obtain ⟨xs, h1, h2⟩ := h.vals
  obtain ⟨q, c, e, hc, hj⟩ := own_js h1 h2
  refine ⟨q, c, e, ?_⟩
  unfold isJ
  refine ⟨none, 0, q, c, rfl, RdK.nil _ _, hc, hj.carry fun k hk' => ?_⟩
  have hs := hk.size
  rcases hk' with hk' | hk'
  · exact ⟨⟨by have := hk'.1; omega, by have := hk'.2.1; omega⟩, hk.block k hk'.2.1 (by unfold One; have := hk'.1; omega)⟩
  · exact ⟨⟨by omega, by omega⟩, hk.block k hk'.2 (by unfold One; omega)⟩
theorem own_slice {w : World} {B e size n : Nat} {v : Value} {xs : List Value} (h : w.ownsRow B e size v n xs) : ∃ q n c, v = .slice q n c := by
  rcases h.2 with ⟨h', h0⟩ | ⟨g', cap', cur, h', _⟩
  · exact ⟨_, _, _, h'⟩
  · exact ⟨_, _, _, h'⟩
theorem cells_at5 {W : World} {n : Nat} (h : W.heap.size = n) {t : TypeId} {y0 y1 y2 y3 y4 : Value} : ∀ j u, [y0, y1, y2, y3, y4][j]? = some u → (W.alloc (.cells #[y0, y1, y2, y3, y4] t)).cell? ((⟨n, 0, none⟩ : Addr).add j) = some u := by
  subst h
  exact cells_new5 _ _ _ _ _ _ _
theorem elt_new {B R b : Nat} {WA w3 w4 : World} {acc : List J} {vl : Value} {y : J} {cs : List Value} (h : LI B R b WA acc vl w3) (hj : isJ (New w3 w4) w4 y cs) (o : Obj) : isJ (Elt B vl (w4.alloc o)) (w4.alloc o) y cs := by
  have hs := h.size
  obtain ⟨xs, h1, h2⟩ := h.vals
  refine hj.carry fun k hk' => ⟨⟨by have := hk'.1; omega, by have := hk'.2; simp; omega, fun e => ?_⟩, Below.heap_alloc _ _ _ hk'.2⟩
  have := (own_ge h1 k e).2
  have := hk'.1
  omega
theorem rdr_push {B R b p : Nat} {WA W W2 : World} {acc : List J} {vl : Value} {s : ByteArray} {e l : Int} {n : Nat} {xs : List Value} {o : Obj} (h : LI B R b WA acc vl W) (hr : Rdr W R s p e l) (h1 : W.ownsRow B 25 5 vl n xs)
    (hg : (W.alloc o).grownBy W2 vl.ownBlock) (vl' : Value) : Rdr (W2.setCell ⟨b + 1, 4, none⟩ vl') R s p e l := by
  have hlt := h.lt
  have hrb := h.rb
  have h2 : Rdr W2 R s p e l := (grown_at hg hr.lt fun e => by have := (own_ge h1 _ e).1; omega).trans hr
  exact h2.keep (Keep.setCell (S := One (b + 1)) (Keep.refl _ W2) (p := ⟨b + 1, 4, none⟩) (fun _ => (rfl : b + 1 = b + 1)) vl') (by unfold One; omega)
theorem one5 {k i : Int} {t : ByteArray} {pk pl : Option Addr} {nk ck nl cl : Nat} : ∀ u ∈ [Value.int .i64 k, .int .i64 i, .string t, .slice pk nk ck, .slice pl nl cl], u.oneCell' = true := by
  intro u hu
  simp only [List.mem_cons, List.not_mem_nil, or_false] at hu
  rcases hu with rfl | rfl | rfl | rfl | rfl <;> rfl
set_option maxRecDepth 100000 in
set_option maxHeartbeats 8000000 in
theorem list_any {d : Nat} (V : Reads d) {w : World} {R p : Nat} {s : ByteArray} {e l deep : Int} (hr : Rdr w R s p e l) (hs : short s) (hp : p < s.size) (hdeep : deep = 12 - (d : Int)) (hd : d ≤ 12) :
    Calls Tryz.prog 62 #[.pointer (some ⟨R, 0, none⟩), .int .i64 deep] w fun x w' => valTold w w' R s (listAt (ints s) (value (ints s) d) p) x := by
  have hsz := hs
  unfold short at hsz
  have hR := hr.lt
  have hd0 : 0 ≤ deep := by omega
  have hd1 : deep ≤ 12 := by omega
  have HD : Hid (deep = 12 - (d : Int)) := hdeep
  clear hdeep
  have c1 := hr.c1
  have f1 := hr.fz 1
  have HR1 : Rdr (atL w R p) R s (p + 1) e l := (hr.at (p + 1)).keep (S := fun _ => False) (((Keep.refl _ _).alloc _).alloc _) (fun h => h)
  have hli1 := LI.start w R p hR
  have hbl := blanks_le (t := ints s) (p := p + 1) (by rw [ints_length]; exact hp)
  rw [ints_length] at hbl
  unfold atL zJ lJ at HR1
  by_cases h93 : byteAt (ints s) (blanks (ints s) (p + 1)) = 93
  · have HL : Hid (listAt (ints s) (value (ints s) d) p = .ok (.mk 4 0 nix [] []) (blanks (ints s) (p + 1) + 1)) := by unfold listAt; rw [if_pos h93]; rfl
    go_enter Tryz.func62, Tryz.ntmps62
    go_wp2_with (first
      | (go_at_call 46; refine (blanks_any HR1 hs hp).mono ?_; rintro x w2 ⟨rfl, ⟨⟨e2, l2, hr2⟩, hk2⟩⟩)
      | (go_at_call 79; refine (take_yes hr2 (by omega) 93 h93).mono ?_; rintro x w3 ⟨rfl, ⟨⟨e3, l3, hr3⟩, hk3⟩⟩
         have hli3 := (hli1.one hk2).one hk3
         have j0 := five_c0 hli3.obj; have j1 := five_c1 hli3.obj; have j2 := five_c2 hli3.obj; have j3 := five_c3 hli3.obj; have j4 := five_c4 hli3.obj
         have i0 := five_c0 hli3.res; have i1 := five_c1 hli3.res; have i2 := five_c2 hli3.res; have i3 := five_c3 hli3.res; have i4 := five_c4 hli3.res
         have z0 := five_fz hli3.res 0; have z1 := five_fz hli3.res 1; have z2 := five_fz hli3.res 2; have z3 := five_fz hli3.res 3; have z4 := five_fz hli3.res 4))
    have h5 := set5_heap hli3.res (.int .i64 4) (.int .i64 0) (.string ⟨#[]⟩) (.slice none 0 0) (.slice none 0 0)
    have HK5 : Keep (One w.heap.size) w3 _ := set5_keep w3 w.heap.size (.int .i64 4) (.int .i64 0) (.string ⟨#[]⟩) (.slice none 0 0) (.slice none 0 0)
    unfold set5 at h5 HK5
    have k0 := five_c0 h5; have k1 := five_c1 h5; have k2 := five_c2 h5; have k3 := five_c3 h5; have k4 := five_c4 h5
    refine bodyPost_ret (v := .tuple #[.agg #[.int .i64 4, .int .i64 0, .string ⟨#[]⟩, .slice none 0 0, .slice none 0 0], .bool true]) (by simp [results, Tryz.results62, go_sem, k0, k1, k2, k3, k4]) rfl ?_
    rw [HL.out]
    exact ⟨⟨_, _, _, _, _, _, _, _, _, rfl, flat_isJ _ _ 4 0 nix⟩, ⟨_, _, hr3.keep HK5 (fun h => by unfold One at h; omega)⟩, hli3.end HK5⟩
  · have HL : Hid (listAt (ints s) (value (ints s) d) p = listL (ints s) (value (ints s) d) (s.size + 1) (blanks (ints s) (p + 1)) []) := by unfold listAt; rw [if_neg h93, ints_length]; rfl
    go_enter Tryz.func62, Tryz.ntmps62
    go_wp2_with (first
      | (go_at_call 46; refine (blanks_any HR1 hs hp).mono ?_; rintro x w2 ⟨rfl, ⟨⟨e2, l2, hr2⟩, hk2⟩⟩)
      | (go_at_call 79; refine (take_no hr2 93 h93).mono ?_; rintro x w' ⟨rfl, rfl⟩))
    have hli2 := hli1.one hk2
    go_loopw [8] (fun _ wr => ∃ (q m : Nat) (acc : List J) (vl : Value), q ≤ s.size ∧ s.size < q + m ∧ acc.length ≤ q ∧ listL (ints s) (value (ints s) d) m q acc = listAt (ints s) (value (ints s) d) p ∧ LI (w.heap.size + 2) R w.heap.size (atL w R p) acc vl wr ∧ ∃ e l, Rdr wr R s q e l) (fun _ wr => s.size - posOf R wr)
    case atStart => exact ⟨_, s.size + 1, [], _, hbl, by omega, by simp, HL.out.symm, hli2, _, _, hr2⟩
    case round =>
      clear hli2 hk2 hr2 HL hli1 HR1 c1 f1
      obtain ⟨q, m, acc, vl, hq, hm, hal, hx, hli, e1, l1, hr1⟩ := hrel
      have hb1 := blanks_le (t := ints s) (p := q) (by rw [ints_length]; exact hq)
      have hb0 := blanks_ge (ints s) q
      rw [ints_length] at hb1
      have hadv := value_adv (ints s) d (blanks (ints s) q) (by rw [ints_length]; exact hb1)
      have hV := fun (wv : World) (e l : Int) (h : Rdr wv R s (blanks (ints s) q) e l) => V wv R (blanks (ints s) q) s e l (deep + 1) h hs hb1 (by have := HD.out; omega)
      obtain ⟨m, rfl⟩ : ∃ m', m = m' + 1 := ⟨m - 1, by omega⟩
      have HX : Hid (listL (ints s) (value (ints s) d) (m + 1) q acc = listAt (ints s) (value (ints s) d) p) := hx
      clear hx
      unfold listL at HX
      have HP0 := posOf_rdr hr1
      cases hv : value (ints s) d (blanks (ints s) q) with
      | bad er la =>
        rw [hv] at HX hV
        go_wp2_with (first
          | (go_at_call 46; refine (blanks_any hr1 hs hq).mono ?_; rintro x w3 ⟨rfl, ⟨⟨e3, l3, hr3⟩, hk3⟩⟩)
          | (go_at_call 47; refine (hV _ _ _ hr3).mono ?_; rintro x w4 ⟨⟨kv, iv, tv, rfl⟩, ⟨q4, hr4⟩, hk4⟩
             unfold flat
             have hli4 := ((hli.one hk3).one hk4).alloc (.cells #[.int .i64 kv, .int .i64 iv, .string tv, .slice none 0 0, .slice none 0 0] 25)
             have hr4a : Rdr (w4.alloc (.cells #[.int .i64 kv, .int .i64 iv, .string tv, .slice none 0 0, .slice none 0 0] 25)) R s q4 er la := hr4.keep (S := fun _ => False) ((Keep.refl _ _).alloc _) (fun h => h)
             have i0 := five_c0 hli4.res; have i1 := five_c1 hli4.res; have i2 := five_c2 hli4.res; have i3 := five_c3 hli4.res; have i4 := five_c4 hli4.res
             have z0 := five_fz hli4.res 0; have z1 := five_fz hli4.res 1; have z2 := five_fz hli4.res 2; have z3 := five_fz hli4.res 3; have z4 := five_fz hli4.res 4))
        have h5 := set5_heap hli4.res (.int .i64 0) (.int .i64 0) (.string ⟨#[]⟩) (.slice none 0 0) (.slice none 0 0)
        have HK5 : Keep (One w.heap.size) (w4.alloc (.cells #[.int .i64 kv, .int .i64 iv, .string tv, .slice none 0 0, .slice none 0 0] 25)) _ := set5_keep (w4.alloc (.cells #[.int .i64 kv, .int .i64 iv, .string tv, .slice none 0 0, .slice none 0 0] 25)) w.heap.size (.int .i64 0) (.int .i64 0) (.string ⟨#[]⟩) (.slice none 0 0) (.slice none 0 0)
        unfold set5 at h5 HK5
        have k0 := five_c0 h5; have k1 := five_c1 h5; have k2 := five_c2 h5; have k3 := five_c3 h5; have k4 := five_c4 h5
        refine bodyPost_ret (v := .tuple #[.agg #[.int .i64 0, .int .i64 0, .string ⟨#[]⟩, .slice none 0 0, .slice none 0 0], .bool false]) (by simp [results, Tryz.results62, go_sem, k0, k1, k2, k3, k4]) rfl ?_
        rw [← HX.out]
        exact ⟨⟨0, 0, nix, rfl⟩, ⟨_, hr4a.keep HK5 (fun h => by unfold One at h; omega)⟩, hli4.end HK5⟩
      | ok y qy =>
        rw [hv] at HX hV hadv
        have HX : Hid ((if byteAt (ints s) (blanks (ints s) qy) = 93 then .ok (.mk 4 0 nix [] (acc ++ [y])) (blanks (ints s) qy + 1) else if byteAt (ints s) (blanks (ints s) qy) = 44 then listL (ints s) (value (ints s) d) m (blanks (ints s) qy + 1) (acc ++ [y]) else .bad 11 (blanks (ints s) qy)) = listAt (ints s) (value (ints s) d) p) := HX
        have hqy := hadv.2
        have hqy0 := hadv.1
        rw [ints_length] at hqy
        have hb2 := blanks_le (t := ints s) (p := qy) (by rw [ints_length]; exact hqy)
        rw [ints_length] at hb2
        have hb3 := blanks_ge (ints s) qy
        clear hadv
        by_cases h9 : byteAt (ints s) (blanks (ints s) qy) = 93
        · rw [if_pos h9] at HX
          go_wp2_with (first
            | (go_at_call 46; refine (blanks_any hr5 hs hqy).mono ?_; rintro x w6 ⟨rfl, ⟨⟨e6, l6, hr6⟩, hk6⟩⟩)
            | (go_at_call 46; refine (blanks_any hr1 hs hq).mono ?_; rintro x w3 ⟨rfl, ⟨⟨e3, l3, hr3⟩, hk3⟩⟩)
            | (go_at_call 47; refine (hV _ _ _ hr3).mono ?_; rintro x w4 ⟨⟨kv, iv, tv, pk, nk, ck, pl, nl, cl, rfl, hj⟩, ⟨e4, l4, hr4⟩, hk4⟩
               have hli3 := hli.one hk3
               have hyJ := elt_new hli3 hj (.cells #[.int .i64 kv, .int .i64 iv, .string tv, .slice pk nk ck, .slice pl nl cl] 25)
               have hli4 := (hli3.one hk4).alloc (.cells #[.int .i64 kv, .int .i64 iv, .string tv, .slice pk nk ck, .slice pl nl cl] 25)
               have hr4a : Rdr (w4.alloc (.cells #[.int .i64 kv, .int .i64 iv, .string tv, .slice pk nk ck, .slice pl nl cl] 25)) R s qy e4 l4 := hr4.keep (S := fun _ => False) ((Keep.refl _ _).alloc _) (fun h => h)
               have hc4 := hli4.c4
               obtain ⟨xs, hv1, hv2⟩ := hli4.vals)
            | (at_builtin; refine wpList_app rfl _ _ 23 rfl (w.heap.size + 2) 25 (.agg #[.int .i64 0, .int .i64 0, .string ⟨#[]⟩, .slice none 0 0, .slice none 0 0]) 5 80 Tryz.underlying23 Tryz.info25 rfl (by decide) (by decide) vl acc.length xs rfl (hv1.alloc _) _ [.int .i64 kv, .int .i64 iv, .string tv, .slice pk nk ck, .slice pl nl cl] rfl rfl (cells_at5 (by simp)) one5 (by omega) (by have := hli4.size; simp at this ⊢; omega) ?_
               intro vl2 W5 hown5 hg5 hat5
               obtain ⟨q5, n5, c5, hE5⟩ : ∃ q n c, vl2 = .slice q n c := own_slice hown5
               subst hE5
               have hg5' : ((w4.alloc (.cells #[.int .i64 kv, .int .i64 iv, .string tv, .slice pk nk ck, .slice pl nl cl] 25)).alloc (.cells #[.int .i64 kv, .int .i64 iv, .string tv, .slice pk nk ck, .slice pl nl cl] 25)).grownBy W5 vl.ownBlock := hg5
               have hat5' : (Value.slice q5 n5 c5).ownBlock = vl.ownBlock ∨ (Value.slice q5 n5 c5).ownBlock = some ((w4.alloc (.cells #[.int .i64 kv, .int .i64 iv, .string tv, .slice pk nk ck, .slice pl nl cl] 25)).alloc (.cells #[.int .i64 kv, .int .i64 iv, .string tv, .slice pk nk ck, .slice pl nl cl] 25)).heap.size := hat5
               obtain ⟨e5, f5, hli5⟩ := hli4.push hv1 hv2 hyJ hown5 hg5' hat5'
               have hr5 := rdr_push hli4 hr4a hv1 hg5' (.slice q5 n5 c5)
               clear hown5 hg5 hat5 hg5' hat5')
            | (go_at_call 79; refine (take_yes hr6 (by omega) 93 h9).mono ?_; rintro x w7 ⟨rfl, ⟨⟨e7, l7, hr7⟩, hk7⟩⟩
               have hli7 := (hli5.one hk6).one hk7
               have i0 := five_c0 hli7.res; have i1 := five_c1 hli7.res; have i2 := five_c2 hli7.res; have i3 := five_c3 hli7.res; have i4 := five_c4 hli7.res
               have z0 := five_fz hli7.res 0; have z1 := five_fz hli7.res 1; have z2 := five_fz hli7.res 2; have z3 := five_fz hli7.res 3; have z4 := five_fz hli7.res 4
               have j0 := five_c0 hli7.obj; have j1 := five_c1 hli7.obj; have j2 := five_c2 hli7.obj; have j3 := five_c3 hli7.obj; have j4 := five_c4 hli7.obj))
          have h5 := set5_heap hli7.res (.int .i64 4) (.int .i64 0) (.string ⟨#[]⟩) (.slice none 0 0) (.slice q5 n5 c5)
          have HK5 : Keep (One w.heap.size) w7 _ := set5_keep w7 w.heap.size (.int .i64 4) (.int .i64 0) (.string ⟨#[]⟩) (.slice none 0 0) (.slice q5 n5 c5)
          unfold set5 at h5 HK5
          have k0 := five_c0 h5; have k1 := five_c1 h5; have k2 := five_c2 h5; have k3 := five_c3 h5; have k4 := five_c4 h5
          refine bodyPost_ret (v := .tuple #[.agg #[.int .i64 4, .int .i64 0, .string ⟨#[]⟩, .slice none 0 0, .slice q5 n5 c5], .bool true]) (by simp [results, Tryz.results62, go_sem, k0, k1, k2, k3, k4]) rfl ?_
          rw [← HX.out]
          obtain ⟨qv, cv, hE, hJ⟩ := hli7.ok HK5
          cases hE
          exact ⟨⟨_, _, _, _, _, _, _, _, _, rfl, hJ⟩, ⟨_, _, hr7.keep HK5 (fun h => by unfold One at h; omega)⟩, hli7.end HK5⟩
        · rw [if_neg h9] at HX
          by_cases h44 : byteAt (ints s) (blanks (ints s) qy) = 44
          · rw [if_pos h44] at HX
            have hlt := byteAt_lt (t := ints s) (p := blanks (ints s) qy) (by rw [h44]; decide)
            rw [ints_length] at hlt
            go_wp2_with (first
              | (go_at_call 46; refine (blanks_any hr5 hs hqy).mono ?_; rintro x w6 ⟨rfl, ⟨⟨e6, l6, hr6⟩, hk6⟩⟩)
              | (go_at_call 46; refine (blanks_any hr1 hs hq).mono ?_; rintro x w3 ⟨rfl, ⟨⟨e3, l3, hr3⟩, hk3⟩⟩)
              | (go_at_call 47; refine (hV _ _ _ hr3).mono ?_; rintro x w4 ⟨⟨kv, iv, tv, pk, nk, ck, pl, nl, cl, rfl, hj⟩, ⟨e4, l4, hr4⟩, hk4⟩
                 have hli3 := hli.one hk3
                 have hyJ := elt_new hli3 hj (.cells #[.int .i64 kv, .int .i64 iv, .string tv, .slice pk nk ck, .slice pl nl cl] 25)
                 have hli4 := (hli3.one hk4).alloc (.cells #[.int .i64 kv, .int .i64 iv, .string tv, .slice pk nk ck, .slice pl nl cl] 25)
                 have hr4a : Rdr (w4.alloc (.cells #[.int .i64 kv, .int .i64 iv, .string tv, .slice pk nk ck, .slice pl nl cl] 25)) R s qy e4 l4 := hr4.keep (S := fun _ => False) ((Keep.refl _ _).alloc _) (fun h => h)
                 have hc4 := hli4.c4
                 obtain ⟨xs, hv1, hv2⟩ := hli4.vals)
              | (at_builtin; refine wpList_app rfl _ _ 23 rfl (w.heap.size + 2) 25 (.agg #[.int .i64 0, .int .i64 0, .string ⟨#[]⟩, .slice none 0 0, .slice none 0 0]) 5 80 Tryz.underlying23 Tryz.info25 rfl (by decide) (by decide) vl acc.length xs rfl (hv1.alloc _) _ [.int .i64 kv, .int .i64 iv, .string tv, .slice pk nk ck, .slice pl nl cl] rfl rfl (cells_at5 (by simp)) one5 (by omega) (by have := hli4.size; simp at this ⊢; omega) ?_
                 intro vl2 W5 hown5 hg5 hat5
                 obtain ⟨q5, n5, c5, hE5⟩ : ∃ q n c, vl2 = .slice q n c := own_slice hown5
                 subst hE5
                 have hg5' : ((w4.alloc (.cells #[.int .i64 kv, .int .i64 iv, .string tv, .slice pk nk ck, .slice pl nl cl] 25)).alloc (.cells #[.int .i64 kv, .int .i64 iv, .string tv, .slice pk nk ck, .slice pl nl cl] 25)).grownBy W5 vl.ownBlock := hg5
                 have hat5' : (Value.slice q5 n5 c5).ownBlock = vl.ownBlock ∨ (Value.slice q5 n5 c5).ownBlock = some ((w4.alloc (.cells #[.int .i64 kv, .int .i64 iv, .string tv, .slice pk nk ck, .slice pl nl cl] 25)).alloc (.cells #[.int .i64 kv, .int .i64 iv, .string tv, .slice pk nk ck, .slice pl nl cl] 25)).heap.size := hat5
                 obtain ⟨e5, f5, hli5⟩ := hli4.push hv1 hv2 hyJ hown5 hg5' hat5'
                 have hr5 := rdr_push hli4 hr4a hv1 hg5' (.slice q5 n5 c5)
                 clear hown5 hg5 hat5 hg5' hat5')
              | (go_at_call 79; refine (take_no hr6 93 h9).mono ?_; rintro x w' ⟨rfl, rfl⟩)
              | (go_at_call 76; refine (must_yes hr6 (by omega) 44 h44).mono ?_; rintro x w7 ⟨rfl, ⟨⟨e7, l7, hr7⟩, hk7⟩⟩
                 have hli7 := (hli5.one hk6).one hk7))
            have HP := posOf_rdr hr7
            go_roundw
            case rel => exact ⟨_, m, acc ++ [y], _, hlt, by omega, by simp; omega, HX.out, hli7, _, _, hr7⟩
            case measure => rw [HP, HP0]; omega
          · rw [if_neg h44] at HX
            go_wp2_with (first
              | (go_at_call 46; refine (blanks_any hr5 hs hqy).mono ?_; rintro x w6 ⟨rfl, ⟨⟨e6, l6, hr6⟩, hk6⟩⟩)
              | (go_at_call 46; refine (blanks_any hr1 hs hq).mono ?_; rintro x w3 ⟨rfl, ⟨⟨e3, l3, hr3⟩, hk3⟩⟩)
              | (go_at_call 47; refine (hV _ _ _ hr3).mono ?_; rintro x w4 ⟨⟨kv, iv, tv, pk, nk, ck, pl, nl, cl, rfl, hj⟩, ⟨e4, l4, hr4⟩, hk4⟩
                 have hli3 := hli.one hk3
                 have hyJ := elt_new hli3 hj (.cells #[.int .i64 kv, .int .i64 iv, .string tv, .slice pk nk ck, .slice pl nl cl] 25)
                 have hli4 := (hli3.one hk4).alloc (.cells #[.int .i64 kv, .int .i64 iv, .string tv, .slice pk nk ck, .slice pl nl cl] 25)
                 have hr4a : Rdr (w4.alloc (.cells #[.int .i64 kv, .int .i64 iv, .string tv, .slice pk nk ck, .slice pl nl cl] 25)) R s qy e4 l4 := hr4.keep (S := fun _ => False) ((Keep.refl _ _).alloc _) (fun h => h)
                 have hc4 := hli4.c4
                 obtain ⟨xs, hv1, hv2⟩ := hli4.vals)
              | (at_builtin; refine wpList_app rfl _ _ 23 rfl (w.heap.size + 2) 25 (.agg #[.int .i64 0, .int .i64 0, .string ⟨#[]⟩, .slice none 0 0, .slice none 0 0]) 5 80 Tryz.underlying23 Tryz.info25 rfl (by decide) (by decide) vl acc.length xs rfl (hv1.alloc _) _ [.int .i64 kv, .int .i64 iv, .string tv, .slice pk nk ck, .slice pl nl cl] rfl rfl (cells_at5 (by simp)) one5 (by omega) (by have := hli4.size; simp at this ⊢; omega) ?_
                 intro vl2 W5 hown5 hg5 hat5
                 obtain ⟨q5, n5, c5, hE5⟩ : ∃ q n c, vl2 = .slice q n c := own_slice hown5
                 subst hE5
                 have hg5' : ((w4.alloc (.cells #[.int .i64 kv, .int .i64 iv, .string tv, .slice pk nk ck, .slice pl nl cl] 25)).alloc (.cells #[.int .i64 kv, .int .i64 iv, .string tv, .slice pk nk ck, .slice pl nl cl] 25)).grownBy W5 vl.ownBlock := hg5
                 have hat5' : (Value.slice q5 n5 c5).ownBlock = vl.ownBlock ∨ (Value.slice q5 n5 c5).ownBlock = some ((w4.alloc (.cells #[.int .i64 kv, .int .i64 iv, .string tv, .slice pk nk ck, .slice pl nl cl] 25)).alloc (.cells #[.int .i64 kv, .int .i64 iv, .string tv, .slice pk nk ck, .slice pl nl cl] 25)).heap.size := hat5
                 obtain ⟨e5, f5, hli5⟩ := hli4.push hv1 hv2 hyJ hown5 hg5' hat5'
                 have hr5 := rdr_push hli4 hr4a hv1 hg5' (.slice q5 n5 c5)
                 clear hown5 hg5 hat5 hg5' hat5')
              | (go_at_call 79; refine (take_no hr6 93 h9).mono ?_; rintro x w' ⟨rfl, rfl⟩)
              | (go_at_call 76; refine (must_no hr6 44 h44).mono ?_; rintro x w7 ⟨rfl, ⟨⟨q7, hr7⟩, hk7⟩⟩
                 have hli7 := (hli5.one hk6).one hk7
                 have i0 := five_c0 hli7.res; have i1 := five_c1 hli7.res; have i2 := five_c2 hli7.res; have i3 := five_c3 hli7.res; have i4 := five_c4 hli7.res
                 have z0 := five_fz hli7.res 0; have z1 := five_fz hli7.res 1; have z2 := five_fz hli7.res 2; have z3 := five_fz hli7.res 3; have z4 := five_fz hli7.res 4))
            have h5 := set5_heap hli7.res (.int .i64 0) (.int .i64 0) (.string ⟨#[]⟩) (.slice none 0 0) (.slice none 0 0)
            have HK5 : Keep (One w.heap.size) w7 _ := set5_keep w7 w.heap.size (.int .i64 0) (.int .i64 0) (.string ⟨#[]⟩) (.slice none 0 0) (.slice none 0 0)
            unfold set5 at h5 HK5
            have k0 := five_c0 h5; have k1 := five_c1 h5; have k2 := five_c2 h5; have k3 := five_c3 h5; have k4 := five_c4 h5
            refine bodyPost_ret (v := .tuple #[.agg #[.int .i64 0, .int .i64 0, .string ⟨#[]⟩, .slice none 0 0, .slice none 0 0], .bool false]) (by simp [results, Tryz.results62, go_sem, k0, k1, k2, k3, k4]) rfl ?_
            rw [← HX.out]
            exact ⟨⟨0, 0, nix, rfl⟩, ⟨_, hr7.keep HK5 (fun h => by unfold One at h; omega)⟩, hli7.end HK5⟩
end Go.Proofs.YtnmhpejnjaeecaaGreatDoor

/-
  Missing, by a contract.
-/
import Derived.Test.YtbjeaogblpjpeaaGDown
namespace Go.Proofs.Ytbjeaogblpjpeaa
open Go.RowKit Go.Maps

theorem zeroU (w : World) : (zeroValue 60).run Try.prog w = .ok (.agg #[]) w := by kernel_rfl
/-- Block M is the set of the names ks. -/
def Stood (w : World) (M : Nat) (ks : List ByteArray) : Prop :=
  ∃ D : DataW Unit, w.ownsMap Try.prog 9 (unitElem (H := Unit)) M ks.length D ∧ IsMap D ∧ ∀ s : ByteArray, s.size ≤ maxLen → Maps.has D (klS s) = inn ks s
theorem Stood.same {w w' : World} {M : Nat} {ks : List ByteArray} (h : Stood w M ks) (hs : w'.heap[M]? = w.heap[M]?) : Stood w' M ks := by
  obtain ⟨D, ⟨es, clock, hb, F, hs', hD⟩, hm, hh⟩ := h
  exact ⟨D, ⟨es, clock, hs.trans hb, F, hs', hD⟩, hm, hh⟩
theorem Stood.lt {w : World} {M : Nat} {ks : List ByteArray} (h : Stood w M ks) : M < w.heap.size := by
  obtain ⟨D, ⟨es, clock, hb, _⟩, _⟩ := h
  exact (Array.getElem?_eq_some_iff.1 hb).1
theorem Stood.below {w w' : World} {M : Nat} {ks : List ByteArray} (h : Stood w M ks) (hb : Below w.heap.size w w') : Stood w' M ks := h.same (hb.block M h.lt)
theorem Stood.made (w : World) : Stood (w.alloc (.map #[] 0)) w.heap.size [] :=
  ⟨.map [], World.ownsMap_made _ _ _ _, ⟨[], rfl⟩, fun _ _ => by simp [has_eq, inn]⟩
theorem Stood.put {w : World} {M : Nat} {ks : List ByteArray} {D : DataW Unit} {s : ByteArray} (hown : w.ownsMap Try.prog 9 (unitElem (H := Unit)) M (ks.length + 1) (D.put (klS s) (.agg []))) (hm : IsMap D) (hh : ∀ s : ByteArray, s.size ≤ maxLen → Maps.has D (klS s) = inn ks s) : Stood w M (ks ++ [s]) := by
  refine ⟨D.put (klS s) (.agg []), by rw [List.length_append]; exact hown, ?_, fun x hx => ?_⟩
  · obtain ⟨es, rfl⟩ := hm
    exact ⟨_, rfl⟩
  · by_cases e : x = s
    · subst e
      rw [has_put_same hm (klS_key x)]
      exact (inn_iff.2 (by simp)).symm
    · rw [has_put_other (fun h' => e (klS_inj h')), hh x hx, Bool.eq_iff_iff, inn_iff, inn_iff]
      simp [e]
theorem Stood.row {w : World} {M : Nat} {ks : List ByteArray} (h : Stood w M ks) {B e size n : Nat} {v : Value} {xs : List Value} (hr : w.ownsRow B e size v n xs) : v.ownBlock ≠ some M := by
  obtain ⟨D, ⟨es, clock, hb, _⟩, _⟩ := h
  rcases hr.2 with ⟨rfl, _⟩ | ⟨g, cap, cur, rfl, hg, hgg, _⟩
  · intro e; cases e
  · intro e
    cases e
    rw [hb] at hgg
    cases hgg
/-- What Missing tells. -/
def MissP (N l : List ByteArray) (w : World) (e : Ending) (w' : World) : Prop :=
  ∃ v, e = .returned v ∧ w'.ownsRow w.heap.size 9 1 v (missTo N l l.length).length ((missTo N l l.length).map Value.string) ∧ Below w.heap.size w w'
theorem miss_no {N l : List ByteArray} {k : Nat} (h : ¬ (l.getD k ⟨#[]⟩ ∉ N ∧ l.getD k ⟨#[]⟩ ∉ l.take k)) : missTo N l (k + 1) = missTo N l k := by rw [missTo, if_neg (fun h' => h ⟨inn_not.1 h'.1, inn_not.1 h'.2⟩)]
theorem miss_yes {N l : List ByteArray} {k : Nat} (h : l.getD k ⟨#[]⟩ ∉ N) (h' : l.getD k ⟨#[]⟩ ∉ l.take k) : missTo N l (k + 1) = missTo N l k ++ [l.getD k ⟨#[]⟩] := by rw [missTo, if_pos ⟨inn_not.2 h, inn_not.2 h'⟩]

set_option maxRecDepth 100000 in
set_option maxHeartbeats 4000000 in
theorem missing_any {O : Nat → Prop} {g : Option Addr} {T : List Th} (l : List ByteArray) (p : Option Addr) (c : Nat) (w : World) (h : Gq O w g T) (r : RdS (· < w.heap.size) w p c l) (hl : l.length ≤ 10) (hs : ∀ s ∈ l, s.size ≤ 100) :
    Calls Try.prog 13 #[.pointer g, .slice p l.length c] w (MissP (nms T) l w) := by
  have HS : Hid (∀ s ∈ l, s.size ≤ 100) := hs
  have HQ : Hid (∀ wx, Below w.heap.size w wx → Gq O wx g T) := fun wx hb => h.below hb
  have HST : Hid (Stood (w.alloc (.map #[] 0)) w.heap.size []) := Stood.made w
  have hmm := @run_makeMap Try.prog
  clear hs h
  go_enter Try.func13, Try.ntmps13
  go_wp2
  go_loopw [5, 16] (fun v i wr => ∃ k : Nat, k ≤ l.length ∧ i = .int .i64 k ∧ Stood wr w.heap.size (missTo (nms T) l k) ∧ wr.ownsRow w.heap.size 9 1 v (missTo (nms T) l k).length ((missTo (nms T) l k).map Value.string) ∧ Below w.heap.size w wr) (fun _ i _ => l.length - (intOf i).toNat)
  case atStart => exact ⟨0, Nat.zero_le _, rfl, HST.out, World.ownsRow_nil _ _ _ _, (Below.refl _ _).alloc (Nat.le_refl _) _⟩
  case round =>
    clear HST
    obtain ⟨k, hk, rfl, hst, hown, hb⟩ := hrel
    have hsz := hb.size
    by_cases hlt : k < l.length
    · obtain ⟨ad, rfl, _, hcell⟩ := (r.below hb).at k ⟨#[]⟩ hlt
      have hx := HS.out _ (getD_inm (d := ⟨#[]⟩) hlt)
      have HNO : Hid (¬ (l.getD k ⟨#[]⟩ ∉ nms T ∧ l.getD k ⟨#[]⟩ ∉ l.take k) → missTo (nms T) l (k + 1) = missTo (nms T) l k) := fun h => miss_no h
      have HYES : Hid (l.getD k ⟨#[]⟩ ∉ nms T → l.getD k ⟨#[]⟩ ∉ l.take k → missTo (nms T) l (k + 1) = missTo (nms T) l k ++ [l.getD k ⟨#[]⟩]) := fun h h' => miss_yes h h'
      have hlen := missTo_len (nms T) l k
      have HMEM : Hid (∀ s, s ∈ missTo (nms T) l k ↔ s ∈ l.take k ∧ s ∉ nms T) := fun s => mem_missTo hk
      generalize l.getD k ⟨#[]⟩ = x at *
      generalize missTo (nms T) l k = ms at *
      have hq := HQ.out _ hb
      have hkey := keyS (s := x) (by unfold maxLen; omega)
      obtain ⟨D, hownD, hmap, hhas⟩ := hst
      have HST : Hid (Stood wr w.heap.size ms) := ⟨D, hownD, hmap, hhas⟩
      have HH : Hid (∀ s : ByteArray, s.size ≤ maxLen → Maps.has D (klS s) = inn ms s) := hhas
      have HM : Hid (IsMap D) := hmap
      have hhu := hhas x (by unfold maxLen; omega)
      have HML : Hid (ms.length < maxLen) := by show _ < _; unfold maxLen; omega
      have HV : Hid (unitElem (H := Unit) (.agg #[]) = some (.agg [], [])) := unitElem_mk
      have hownDa := hownD.alloc (.cells #[] 60)
      clear hhas hmap
      cases hi : inn (nms T) x with
      | true =>
        have hpl := place_in x _ hq (by omega) hi
        have HE := HNO.out (fun h => h.1 (inn_iff.1 hi))
        have HO := own_cast hown HE
        have HEE : Hid (missTo (nms T) l (k + 1) = ms) := HE
        clear hi HE
        generalize inn ms x = b at *
        go_wp2_with (first
          | (go_at_call 19; refine hpl.mono ?_; rintro e w' ⟨rfl, rfl⟩)
          | (at_lookup; refine wpList_lookup_own_unit _ rfl _ _ 59 rfl 9 60 law9 Try.underlying59 (zeroU _) w.heap.size ms.length D rfl hownD _ _ rfl hkey ?_; rw [hhu]))
        go_roundw
        case rel => exact ⟨k + 1, by omega, by go_num, by rw [HEE.out]; exact HST.out.below ((Below.refl _ _).alloc (Nat.le_refl _) _), HO.alloc _, hb.alloc hsz _⟩
        case measure => simp [intOf]; omega
      | false =>
        have hpl := place_out x _ hq (by omega) hi
        cases hm : inn ms x with
        | true =>
          have HE := HNO.out (fun h => h.2 ((HMEM.out x).1 (inn_iff.1 hm)).1)
          have HO := own_cast hown HE
          have HEE : Hid (missTo (nms T) l (k + 1) = ms) := HE
          rw [hm] at hhu
          clear hi hm HE
          go_wp2_with (first
            | (go_at_call 19; refine hpl.mono ?_; rintro e w' ⟨rfl, rfl⟩)
            | (at_lookup; refine wpList_lookup_own_unit _ rfl _ _ 59 rfl 9 60 law9 Try.underlying59 (zeroU _) w.heap.size ms.length D rfl hownD _ _ rfl hkey ?_; rw [hhu]))
          go_roundw
          case rel => exact ⟨k + 1, by omega, by go_num, by rw [HEE.out]; exact HST.out.below ((Below.refl _ _).alloc (Nat.le_refl _) _), HO.alloc _, hb.alloc hsz _⟩
          case measure => simp [intOf]; omega
        | false =>
          have hxN := inn_not.1 hi
          have HE : Hid (missTo (nms T) l (k + 1) = ms ++ [x]) := HYES.out hxN fun h => inn_not.1 hm ((HMEM.out x).2 ⟨h, hxN⟩)
          rw [hm] at hhu
          clear hi hm hxN
          have hrowa := hown.alloc (.cells #[] 60)
          have hba := hb.alloc hsz (.cells #[] 60)
          go_wp2_with (first
            | (go_at_call 19; refine hpl.mono ?_; rintro e w' ⟨rfl, rfl⟩)
            | (at_lookup; refine wpList_lookup_own_unit _ rfl _ _ 59 rfl 9 60 law9 Try.underlying59 (zeroU _) w.heap.size ms.length D rfl hownD _ _ rfl hkey ?_; rw [hhu])
            | (at_mapUpdate; refine wpList_mapUpdate_own _ rfl _ _ _ 59 rfl 9 60 law9 Try.underlying59 _ w.heap.size ms.length D rfl hownDa HML.out _ _ _ rfl rfl hkey (.agg []) [] HV.out ?_; intro w2 hown2 hg2
               have hst2 : Stood w2 w.heap.size (ms ++ [x]) := Stood.put hown2 HM.out HH.out
               have hz2 := hg2.size
               simp at hz2
               have hrow2 := hrowa.kept hg2 (.inr (by have := (HST.out.below ((Below.refl _ _).alloc (Nat.le_refl _) (.cells #[] 60))).row hrowa; exact this))
               have hb2 : Below w.heap.size w w2 := hba.grown hg2 (by simp; omega) (fun j hj => by cases hj; exact Nat.le_refl _)
               clear hown2)
            | (at_builtin; refine wpList_push rfl (.tmp 41) (.tmp 43) 23 9 (.string ⟨#[]⟩) 16 rfl Try.underlying23 Try.info9 rfl (by decide) str_one w.heap.size _ ms rfl (hrow2.alloc _) _ x rfl (cell_row (cur := [_]) (heap_alloc_new _ _) 0 _ rfl) (by omega) (by simp; omega) ?_
               intro v' w3 hown3 hg3))
          have hst3 : Stood w3 w.heap.size (ms ++ [x]) := (hst2.below ((Below.refl _ _).alloc (Nat.le_refl _) _)).same (hg3.block _ (by simp; omega) (fun e => hst2.row hrow2 e.symm))
          have hb3 : Below w.heap.size w w3 := below_row (hb2.alloc (by omega) _) hg3 (hrow2.alloc _) (by simp; omega)
          have HO : Hid (w3.ownsRow w.heap.size 9 1 v' (missTo (nms T) l (k + 1)).length ((missTo (nms T) l (k + 1)).map Value.string)) := by show World.ownsRow _ _ _ _ _ _ _; rw [HE.out]; exact hown3
          clear hown3
          go_wp2
          go_roundw
          case rel => exact ⟨k + 1, by omega, by go_num, by rw [HE.out]; exact hst3, HO.out, hb3⟩
          case measure => simp [intOf]; omega
    · obtain rfl : k = l.length := by omega
      go_wp2
      go_ret
      exact ⟨_, rfl, hown, hb⟩
end Go.Proofs.Ytbjeaogblpjpeaa

/-
  The document's own functions, by contracts: In, Where, Place, places.
-/
import Derived.Test.YtbjeaogblpjpeaaGAddW
import Derived.Test.YtbjeaogblpjpeaaGHeads
import Derived.Test.YtbjeaogblpjpeaaGMiss
import Derived.Deep.QuietTactic
import Derived.BigQuiet
namespace Go.Proofs.Ytbjeaogblpjpeaa
open Go.RowKit Go.Maps

set_option maxHeartbeats 1000000 in
theorem in_any {O : Nat → Prop} (n : Int) (l : List Int) (p : Option Addr) (c : Nat) (w : World) (r : RdI O w p c l) (hl : l.length ≤ 1000000) :
    Calls Try.prog 30 #[.int .i64 n, .slice p l.length c] w fun e w' => e = .returned (.bool (decide (n ∈ l))) ∧ w = w' := by
  go_enter Try.func30, Try.ntmps30
  go_wp2
  go_loop [5] (fun i => ∃ k : Nat, k ≤ l.length ∧ i = .int .i64 k ∧ n ∉ l.take k) (fun i => l.length - (intOf i).toNat)
  case atStart => exact ⟨0, Nat.zero_le _, rfl, by simp⟩
  case round =>
    obtain ⟨k, hk, rfl, hall⟩ := hrel
    have HA : Hid (n ∉ l.take k) := hall
    clear hall
    by_cases hlt : k < l.length
    · obtain ⟨ad, rfl, _, hcell⟩ := r.at k 0 hlt
      have HM : Hid (l.getD k 0 ∈ l) := getD_inm hlt
      have HT : Hid (l.take (k + 1) = l.take k ++ [l.getD k 0]) := take_next l k _ hlt
      generalize l.getD k 0 = x at *
      by_cases hb : x = n
      · have HX : Hid (n ∈ l) := by rw [← hb]; exact HM.out
        go_wp2
        go_ret
        exact ⟨ret_bool (decide_eq_true HX.out).symm, rfl⟩
      · have HX : Hid (n ∉ l.take (k + 1)) := by
          show n ∉ l.take (k + 1)
          rw [HT.out, List.mem_append, List.mem_singleton]
          rintro (h | h)
          · exact HA.out h
          · exact hb h.symm
        go_wp2
        go_round
        case rel => exact ⟨k + 1, by omega, by go_num, HX.out⟩
        case measure => simp [intOf]; omega
    · obtain rfl : k = l.length := by omega
      have HX : Hid (n ∉ l) := by have := HA.out; rw [List.take_length] at this; exact this
      go_wp2
      go_ret
      exact ⟨ret_bool (decide_eq_false HX.out).symm, rfl⟩

/-- The places of what is true. -/
def wh (L : List Bool) : List Nat := (List.range L.length).filter fun i => L.getD i false
def whTo (L : List Bool) (k : Nat) : List Nat := (List.range k).filter fun i => L.getD i false
theorem whTo_next (L : List Bool) (k : Nat) : whTo L (k + 1) = whTo L k ++ (if L.getD k false = true then [k] else []) := by
  unfold whTo
  rw [List.range_succ, List.filter_append]
  congr 1
  cases h : L.getD k false with
  | true => rw [if_pos rfl, List.filter_cons_of_pos (p := fun i => L.getD i false) h]; rfl
  | false => rw [if_neg Bool.false_ne_true, List.filter_cons_of_neg (p := fun i => L.getD i false) (by rw [h]; exact Bool.false_ne_true)]; rfl
theorem whTo_len (L : List Bool) (k : Nat) : (zs (whTo L k)).length ≤ k := by
  rw [zs_len]
  unfold whTo
  exact Nat.le_trans (List.length_filter_le _ _) (by simp)
theorem wh_eq {L : List Bool} {n : Nat} {a : List Nat} (hL : L.length = n) (ha : a.Pairwise (· < ·)) (h : ∀ x, x ∈ a ↔ x < n ∧ L.getD x false = true) : wh L = a := by
  refine rise_ext (rise_filter _ _) ha fun x => ?_
  unfold wh
  rw [h, List.mem_filter, List.mem_range, hL]
set_option maxHeartbeats 1000000 in
theorem where_any (L : List Bool) (bk c : Nat) (w : World) (h : Bk w bk L) (hL : L.length ≤ 1000) (_hc : L.length ≤ c) :
    Calls Try.prog 38 #[.slice (some ⟨bk, 0, none⟩) L.length c] w fun e w' => ∃ v, e = .returned v ∧ w'.ownsRow w.heap.size 3 1 v (zs (wh L)).length ((zs (wh L)).map (Value.int .i64)) ∧ Below w.heap.size w w' := by
  have HB : Hid (∀ wx, Below w.heap.size w wx → Bk wx bk L) := fun wx hb => bk_below h hb
  clear h
  go_enter Try.func38, Try.ntmps38
  go_wp2
  go_loopw [3, 4] (fun v i wr => ∃ k : Nat, k ≤ L.length ∧ i = .int .i64 k ∧ wr.ownsRow w.heap.size 3 1 v (zs (whTo L k)).length ((zs (whTo L k)).map (Value.int .i64)) ∧ Below w.heap.size w wr) (fun _ i _ => L.length - (intOf i).toNat)
  case atStart => exact ⟨0, Nat.zero_le _, rfl, World.ownsRow_nil _ _ _ _, Below.refl _ _⟩
  case round =>
    obtain ⟨k, hk, rfl, hown, hb⟩ := hrel
    have hsz := hb.size
    by_cases hlt : k < L.length
    · have hcell := (HB.out wr hb).cell k hlt
      have hlen := whTo_len L k
      have hnx := whTo_next L k
      cases hx : L.getD k false with
      | true =>
        rw [hx] at hcell
        have HZ : Hid (zs (whTo L (k + 1)) = zs (whTo L k) ++ [(k : Int)]) := by show _ = _; rw [hnx, if_pos hx]; simp [zs]
        clear hnx hx
        generalize zs (whTo L k) = D at *
        go_wp2_with (first
          | (at_builtin; refine wpList_push rfl (.tmp 15) (.tmp 17) 35 3 (.int .i64 0) 8 rfl Try.underlying35 Try.info3 rfl (by decide) int_one w.heap.size _ D rfl (hown.alloc _) _ (k : Int) rfl (cell_row (cur := [_]) (heap_alloc_new _ _) 0 _ rfl) (by omega) (by simp; omega) ?_
             intro v' w1 hown1 hg1))
        have HC1 : Hid (w1.ownsRow w.heap.size 3 1 v' (zs (whTo L (k + 1))).length ((zs (whTo L (k + 1))).map (Value.int .i64))) := by show World.ownsRow _ _ _ _ _ _ _; rw [HZ.out]; exact hown1
        have hb1 : Below w.heap.size w w1 := below_row (hb.alloc hsz _) hg1 (hown.alloc _) (by simp; omega)
        clear hown1 hown
        go_wp2
        go_roundw
        case rel => exact ⟨k + 1, by omega, by go_num, HC1.out, hb1⟩
        case measure => simp [intOf]; omega
      | false =>
        rw [hx] at hcell
        have HO := own_cast hown (show zs (whTo L (k + 1)) = zs (whTo L k) by rw [hnx, hx]; simp)
        clear hnx hx hown
        go_wp2
        go_roundw
        case rel => exact ⟨k + 1, by omega, by go_num, HO, hb⟩
        case measure => simp [intOf]; omega
    · obtain rfl : k = L.length := by omega
      go_wp2
      go_ret
      exact ⟨_, rfl, hown, hb⟩

/-- The document's graph of T at hb, in blocks of O. -/
def Rp (O : Nat → Prop) (w : World) (hb : Nat) (T : List Th) : Prop := ∃ v xs, RG O w hb v xs T
theorem Rp.lt {O : Nat → Prop} {w : World} {hb : Nat} {T : List Th} (h : Rp O w hb T) : ∀ k, O k → k < w.heap.size := by
  obtain ⟨v, xs, h⟩ := h
  exact h.lt
theorem Rp.same {O : Nat → Prop} {w w' : World} {hb : Nat} {T : List Th} (h : Rp O w hb T) (hs : Same O w w') (hz : w.heap.size ≤ w'.heap.size) : Rp O w' hb T := by
  obtain ⟨v, xs, h⟩ := h
  exact ⟨v, xs, h.same hs hz⟩
theorem Rp.below {O : Nat → Prop} {w w' : World} {hb : Nat} {T : List Th} (h : Rp O w hb T) (hb' : Below w.heap.size w w') : Rp O w' hb T := h.same (Same.of_below hb' h.lt) hb'.size
/-- As it is read. -/
theorem Rp.rd {O : Nat → Prop} {w : World} {hb : Nat} {T : List Th} (h : Rp O w hb T) : ∃ q cq, w.cell? ⟨hb, 0, none⟩ = some (.slice q T.length cq) ∧ T.length ≤ cq ∧ ∀ k, k < T.length → ∃ ab ao p1 c1 p2 c2, q = some ⟨ab, ao, none⟩ ∧ w.cell? ⟨ab, ao + k * 3, none⟩ = some (.string (T.getD k noTh).name) ∧ w.cell? ⟨ab, ao + k * 3 + 1, none⟩ = some (.slice p1 (zs (prevs T k)).length c1) ∧ w.cell? ⟨ab, ao + k * 3 + 2, none⟩ = some (.slice p2 (zs (auths T k)).length c2) ∧ RdI O w p1 c1 (zs (prevs T k)) ∧ RdI O w p2 c2 (zs (auths T k)) := by
  obtain ⟨v, xs, h⟩ := h
  obtain ⟨q, cq, rfl, hcq, hall⟩ := th_at h.row h.cellsO
  refine ⟨q, cq, cell_row (cur := [_]) h.obj 0 _ rfl, hcq, fun k hk => ?_⟩
  obtain ⟨a, p1, c1, p2, c2, rfl, ha, k1, k2, k3, r1, r2, hsp⟩ := hall k hk
  obtain ⟨ab, ao, sp⟩ := a
  simp only at hsp
  subst hsp
  rw [add_flat] at k1 k2 k3
  exact ⟨ab, ao, p1, c1, p2, c2, rfl, k1, k2, k3, r1, r2⟩

set_option maxHeartbeats 1000000 in
theorem rplace_any {O : Nat → Prop} {hb : Nat} {T : List Th} (s : ByteArray) (w : World) (h : Rp O w hb T) (hT : T.length ≤ 100) :
    Calls Try.prog 20 #[.pointer (some ⟨hb, 0, none⟩), .string s] w fun e w' => e = .returned (.tuple #[.int .i64 (plZ T s), .bool (inn (nms T) s)]) ∧ w = w' := by
  obtain ⟨q, cq, hc, hcq, hall⟩ := h.rd
  clear h
  go_enter Try.func20, Try.ntmps20
  go_wp2
  go_loop [6] (fun i => ∃ k : Nat, k ≤ T.length ∧ i = .int .i64 k ∧ s ∉ (nms T).take k) (fun i => T.length - (intOf i).toNat)
  case atStart => exact ⟨0, Nat.zero_le _, rfl, by simp⟩
  case round =>
    obtain ⟨k, hk, rfl, hn⟩ := hrel
    have HA : Hid (s ∉ (nms T).take k) := hn
    clear hn
    by_cases hlt : k < T.length
    · obtain ⟨ab, ao, p1, c1, p2, c2, rfl, k1, k2, k3, r1, r2⟩ := hall k hlt
      have hkn : k < (nms T).length := by rw [nms_len]; exact hlt
      have HT : Hid ((nms T).take (k + 1) = (nms T).take k ++ [(nms T).getD k ⟨#[]⟩]) := take_next _ k _ hkn
      have HM : Hid ((nms T).getD k ⟨#[]⟩ ∈ nms T) := getD_inm hkn
      have HP : Hid ((nms T).getD k ⟨#[]⟩ ∉ (nms T).take k → plc (nms T) ((nms T).getD k ⟨#[]⟩) = k) := fun h => plc_here hkn h
      rw [← nms_getD] at k1
      generalize (nms T).getD k ⟨#[]⟩ = x at *
      clear hkn hall k2 k3 r1 r2
      by_cases hb : x = s
      · have hb' : (x.toList == s.toList) = true := by rw [beqS]; simpa using hb
        have HI : Hid (inn (nms T) s = true) := by rw [← hb]; exact inn_iff.2 HM.out
        have HPL : Hid (plZ T s = (k : Int)) := by
          show plZ T s = (k : Int)
          unfold plZ pl
          rw [HI.out, ← hb, HP.out (by rw [hb]; exact HA.out)]
          rfl
        go_wp2
        go_ret2
        exact ⟨ret_place HPL.out.symm HI.out.symm, rfl⟩
      · have hb' : (x.toList == s.toList) = false := by rw [beqS]; simpa using hb
        have HX : Hid (s ∉ (nms T).take (k + 1)) := by
          show s ∉ (nms T).take (k + 1)
          rw [HT.out, List.mem_append, List.mem_singleton]
          rintro (h | h)
          · exact HA.out h
          · exact hb h.symm
        go_wp2
        go_round
        case rel => exact ⟨k + 1, by omega, by go_num, HX.out⟩
        case measure => simp [intOf]; omega
    · obtain rfl : k = T.length := by omega
      have HI : Hid (inn (nms T) s = false) := by
        have := HA.out
        rw [← nms_len, List.take_length] at this
        exact inn_not.2 this
      have HPL : Hid (plZ T s = 0) := by show plZ T s = 0; unfold plZ; rw [HI.out]; rfl
      go_wp2
      go_ret2
      exact ⟨ret_place HPL.out.symm HI.out.symm, rfl⟩
theorem rplace_in {O : Nat → Prop} {hb : Nat} {T : List Th} (s : ByteArray) (w : World) (h : Rp O w hb T) (hT : T.length ≤ 100) (hi : inn (nms T) s = true) :
    Calls Try.prog 20 #[.pointer (some ⟨hb, 0, none⟩), .string s] w fun e w' => e = .returned (.tuple #[.int .i64 (pl T s : Int), .bool true]) ∧ w = w' := by
  have := rplace_any s w h hT
  unfold plZ at this
  rw [hi] at this
  exact this
theorem rplace_out {O : Nat → Prop} {hb : Nat} {T : List Th} (s : ByteArray) (w : World) (h : Rp O w hb T) (hT : T.length ≤ 100) (hi : inn (nms T) s = false) :
    Calls Try.prog 20 #[.pointer (some ⟨hb, 0, none⟩), .string s] w fun e w' => e = .returned (.tuple #[.int .i64 0, .bool false]) ∧ w = w' := by
  have := rplace_any s w h hT
  unfold plZ at this
  rw [hi] at this
  exact this
end Go.Proofs.Ytbjeaogblpjpeaa

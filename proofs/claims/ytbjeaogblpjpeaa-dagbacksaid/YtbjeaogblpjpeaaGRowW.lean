/-
  The places of names, by a contract; what is marked.
-/
import Derived.Test.YtbjeaogblpjpeaaGMark
namespace Go.Proofs.Ytbjeaogblpjpeaa
open Go.RowKit Go.Maps

theorem ret_pair {u v : Value} {a b : Bool} (h : u = v) (h' : a = b) : Ending.returned (.tuple #[u, .bool a]) = .returned (.tuple #[v, .bool b]) := by rw [h, h']
/-- What row tells. -/
def RowP (T : List Th) (ns : List ByteArray) (w : World) (e : Ending) (w' : World) : Prop :=
  Below w.heap.size w w' ∧ ∃ v, e = .returned (.tuple #[v, .bool (allIn T ns)]) ∧ (allIn T ns = true → w'.ownsRow w.heap.size 3 1 v (zs (plsOf T ns)).length ((zs (plsOf T ns)).map (Value.int .i64)))
theorem place_in {O : Nat → Prop} {g : Option Addr} {T : List Th} (s : ByteArray) (w : World) (h : Gq O w g T) (hs : s.size ≤ 1000) (hi : inn (nms T) s = true) :
    Calls Try.prog 19 #[.pointer g, .string s] w fun e w' => e = .returned (.tuple #[.int .i64 (pl T s : Int), .bool true]) ∧ w = w' := by
  have := place_any s w h hs
  unfold plZ at this
  rw [hi] at this
  exact this
theorem place_out {O : Nat → Prop} {g : Option Addr} {T : List Th} (s : ByteArray) (w : World) (h : Gq O w g T) (hs : s.size ≤ 1000) (hi : inn (nms T) s = false) :
    Calls Try.prog 19 #[.pointer g, .string s] w fun e w' => e = .returned (.tuple #[.int .i64 0, .bool false]) ∧ w = w' := by
  have := place_any s w h hs
  unfold plZ at this
  rw [hi] at this
  exact this
theorem take_next {α : Type} (l : List α) (k : Nat) (d : α) (hk : k < l.length) : l.take (k + 1) = l.take k ++ [l.getD k d] := by
  rw [List.take_succ_eq_append_getElem hk, getD_in hk]
theorem below_row {B : Nat} {w wr w' : World} {v : Value} {e size n : Nat} {xs : List Value} (hb : Below B w wr) (hg : wr.grownBy w' v.ownBlock) (ho : wr.ownsRow B e size v n xs) (hB : B ≤ wr.heap.size) : Below B w w' :=
  hb.grown hg hB fun k hk => (ho.lt k hk).1

set_option maxHeartbeats 2000000 in
theorem row_any {O : Nat → Prop} {g : Option Addr} {T : List Th} (ns : List ByteArray) (p : Option Addr) (c : Nat) (w : World) (h : Gq O w g T) (r : RdS (· < w.heap.size) w p c ns) (_hT : T.length ≤ 100) (hn : ns.length ≤ 10) (hs : ∀ s ∈ ns, s.size ≤ 100) :
    Calls Try.prog 40 #[.pointer g, .slice p ns.length c] w (RowP T ns w) := by
  have HS : Hid (∀ s ∈ ns, s.size ≤ 100) := hs
  have HQ : Hid (∀ wx, Below w.heap.size w wx → Gq O wx g T) := fun wx hb => h.below hb
  clear hs h
  go_enter Try.func40, Try.ntmps40
  go_wp2
  go_loopw [6, 13] (fun v i wr => ∃ k : Nat, k ≤ ns.length ∧ i = .int .i64 k ∧ (∀ s ∈ ns.take k, s ∈ nms T) ∧ wr.ownsRow w.heap.size 3 1 v (zs ((ns.take k).map (pl T))).length ((zs ((ns.take k).map (pl T))).map (Value.int .i64)) ∧ Below w.heap.size w wr) (fun _ i _ => ns.length - (intOf i).toNat)
  case atStart => exact ⟨0, Nat.zero_le _, rfl, by simp, World.ownsRow_nil _ _ _ _, Below.refl _ _⟩
  case round =>
    obtain ⟨k, hk, rfl, hall, hown, hb⟩ := hrel
    have HA : Hid (∀ s ∈ ns.take k, s ∈ nms T) := hall
    clear hall
    by_cases hlt : k < ns.length
    · obtain ⟨ad, rfl, _, hcell⟩ := (r.below hb).at k ⟨#[]⟩ hlt
      have hx := HS.out _ (getD_inm (d := ⟨#[]⟩) hlt)
      have HM : Hid (ns.getD k ⟨#[]⟩ ∈ ns) := getD_inm hlt
      have HT : Hid (ns.take (k + 1) = ns.take k ++ [ns.getD k ⟨#[]⟩]) := take_next ns k _ hlt
      generalize ns.getD k ⟨#[]⟩ = x at *
      have hq := HQ.out _ hb
      have hsz := hb.size
      cases hi : inn (nms T) x with
      | true =>
        have hpl := place_in x _ hq (by omega) hi
        have hlen : (zs ((ns.take k).map (pl T))).length ≤ 10 := by rw [zs_len, List.length_map, List.length_take]; omega
        have HZ : Hid (zs ((ns.take (k + 1)).map (pl T)) = zs ((ns.take k).map (pl T)) ++ [(pl T x : Int)]) := by show _ = _; rw [HT.out]; simp [zs]
        have HI : Hid (x ∈ nms T) := inn_iff.1 hi
        generalize zs ((ns.take k).map (pl T)) = L at *
        generalize pl T x = y at *
        clear hq hi
        go_wp2_with (first
          | (go_at_call 19; refine hpl.mono ?_; rintro e w' ⟨rfl, rfl⟩)
          | (at_builtin; refine wpList_push rfl (.tmp 25) (.tmp 27) 35 3 (.int .i64 0) 8 rfl Try.underlying35 Try.info3 rfl (by decide) int_one w.heap.size _ L rfl ?a0 _ (y : Int) rfl ?a1 ?a2 ?a3 ?_))
        case a0 => exact hown.alloc _
        case a1 => exact cell_row (cur := [_]) (heap_alloc_new _ _) 0 _ rfl
        case a2 => omega
        case a3 => simp; omega
        intro v' w1 hown1 hg1
        have HO : Hid (w1.ownsRow w.heap.size 3 1 v' (zs ((ns.take (k + 1)).map (pl T))).length ((zs ((ns.take (k + 1)).map (pl T))).map (Value.int .i64))) := by show World.ownsRow _ _ _ _ _ _ _; rw [HZ.out, List.length_append, List.map_append]; exact hown1
        have HB : Below w.heap.size w w1 := below_row (hb.alloc hsz _) hg1 (hown.alloc _) (by simp; omega)
        clear hown1 hown
        go_wp2
        go_roundw
        case rel =>
          refine ⟨k + 1, by omega, by go_num, fun s hs => ?_, HO.out, HB⟩
          rw [HT.out, List.mem_append, List.mem_singleton] at hs
          rcases hs with hs | rfl
          · exact HA.out s hs
          · exact HI.out
        case measure => simp [intOf]; omega
      | false =>
        have hpl := place_out x _ hq (by omega) hi
        have HE : Hid (allIn T ns = false) := by
          show allIn T ns = false
          cases h' : allIn T ns with
          | false => rfl
          | true => have := allIn_iff.1 h' x HM.out; rw [inn_not] at hi; exact absurd this hi
        clear hq hi
        go_wp2_with (first
          | (go_at_call 19; refine hpl.mono ?_; rintro e w' ⟨rfl, rfl⟩))
        go_ret2
        exact ⟨hb, _, ret_pair rfl HE.out.symm, fun h => by rw [HE.out] at h; cases h⟩
    · obtain rfl : k = ns.length := by omega
      rw [List.take_length] at hown HA
      have HE : Hid (allIn T ns = true) := allIn_iff.2 HA.out
      have hlen : (zs (ns.map (pl T))).length ≤ 10 := by rw [zs_len, List.length_map]; exact hn
      have HC : Hid (Lib.compact ((zs (ns.map (pl T))).mergeSort fun x y => decide (x ≤ y)) = zs (plsOf T ns)) := compact_up fun x hx => by
        obtain ⟨s, hs, rfl⟩ := List.mem_map.1 hx
        exact pl_lt (HA.out s hs)
      generalize zs (ns.map (pl T)) = L at *
      have hsz := hb.size
      have so := sort_own _ hown (by omega)
      obtain ⟨LS, hLS⟩ : ∃ LS, LS = L.mergeSort fun x y => decide (x ≤ y) := ⟨_, rfl⟩
      have HLL : Hid (LS.length = L.length) := by rw [hLS]; exact List.length_mergeSort L
      rw [← hLS] at so
      have HC' : Hid (Lib.compact LS = zs (plsOf T ns)) := by rw [hLS]; exact HC.out
      clear hLS HC
      go_wp2_with (first
        | (go_at_call 43; refine so.mono ?_; rintro e w1 ⟨rfl, ho1, hg1⟩
           have hb1 := below_row hb hg1 hown hsz
           have hz1 := hg1.size
           have co := compact_own (l := LS) w1 (by rw [HLL.out]; exact ho1) (by rw [HLL.out]; omega)
           rw [HC'.out] at co)
        | (go_at_call 44; refine co.mono ?_; rintro e w2 ⟨v2, rfl, ho2, hg2, he2⟩
           have hb2 := below_row hb1 hg2 ho1 (by omega)
           have hz2 := hg2.size
           obtain ⟨q2, cq2, rfl, r2⟩ := own_rd ho2
           have hcl := clone_any w2 r2 (by rw [← HC'.out]; have := Lib.compact_length_le LS; rw [HLL.out] at this; omega))
        | (go_at_call 33; refine hcl.mono ?_; rintro e w3 ⟨v3, rfl, ho3, hb3⟩))
      go_ret2
      exact ⟨hb2.trans (hb3.mono (by omega)), _, ret_pair rfl HE.out.symm, fun _ => own_le ho3 (by omega)⟩
end Go.Proofs.Ytbjeaogblpjpeaa

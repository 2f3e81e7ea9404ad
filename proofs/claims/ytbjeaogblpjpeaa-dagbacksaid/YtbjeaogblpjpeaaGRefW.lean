/-
  The document's places, Add, Missing, by contracts.
-/
import Derived.Test.YtbjeaogblpjpeaaGRef
namespace Go.Proofs.Ytbjeaogblpjpeaa
open Go.RowKit Go.Maps

set_option maxHeartbeats 2000000 in
theorem rplaces_any {O : Nat → Prop} {hb : Nat} {T : List Th} (ns : List ByteArray) (p : Option Addr) (c : Nat) (w : World) (h : Rp O w hb T) (r : RdS (· < w.heap.size) w p c ns) (hT : T.length ≤ 100) (hn : ns.length ≤ 10) :
    Calls Try.prog 41 #[.pointer (some ⟨hb, 0, none⟩), .slice p ns.length c] w (RowP T ns w) := by
  have HQ : Hid (∀ wx, Below w.heap.size w wx → Rp O wx hb T) := fun wx hb => h.below hb
  obtain ⟨q, cq, hc, hcq, _⟩ := h.rd
  clear h
  go_enter Try.func41, Try.ntmps41
  go_wp2_with (first
    | (at_make; refine wpList_bools rfl (.tmp 14) (.tmp 14) rfl T.length (by omega) rfl rfl ?_))
  intro w1 hsz1 hb1 hbk1
  have HB1 : Hid (Bk w1 w.heap.size (List.replicate T.length false)) := hbk1
  have HBb1 : Hid (Below w.heap.size w w1) := hb1
  clear hbk1 hb1
  go_wp2
  go_loopw [7] (fun i wr => ∃ k : Nat, ∃ L : List Bool, k ≤ ns.length ∧ i = .int .i64 k ∧ Bk wr w.heap.size L ∧ L.length = T.length ∧ (∀ s ∈ ns.take k, s ∈ nms T) ∧ (∀ j, j < T.length → L.getD j false = decide (j ∈ (ns.take k).map (pl T))) ∧ Below w.heap.size w wr) (fun i _ => ns.length - (intOf i).toNat)
  case atStart => exact ⟨0, _, Nat.zero_le _, rfl, HB1.out, by simp, by simp, fun j _ => by rw [rep_at]; simp, HBb1.out⟩
  case round =>
    clear HB1 HBb1 hsz1
    obtain ⟨k, L, hk, rfl, hL, hLn, hall, hat, hb'⟩ := hrel
    have HA : Hid (∀ s ∈ ns.take k, s ∈ nms T) := hall
    have HL : Hid (L.length = T.length) := hLn
    have HAT : Hid (∀ j, j < T.length → L.getD j false = decide (j ∈ (ns.take k).map (pl T))) := hat
    have hsz := hb'.size
    clear hall hLn hat
    by_cases hlt : k < ns.length
    · obtain ⟨ad, rfl, _, hcell⟩ := (r.below hb').at k ⟨#[]⟩ hlt
      have HM : Hid (ns.getD k ⟨#[]⟩ ∈ ns) := getD_inm hlt
      have HT : Hid (ns.take (k + 1) = ns.take k ++ [ns.getD k ⟨#[]⟩]) := take_next ns k _ hlt
      generalize ns.getD k ⟨#[]⟩ = x at *
      have hq := HQ.out _ hb'
      cases hi : inn (nms T) x with
      | true =>
        have hpl := rplace_in x _ hq hT hi
        have HI : Hid (x ∈ nms T) := inn_iff.1 hi
        have hy : pl T x < T.length := pl_lt HI.out
        have HN : Hid (∀ j, j < T.length → (L.set (pl T x) true).getD j false = decide (j ∈ (ns.take (k + 1)).map (pl T))) := by
          intro j hj
          rw [getD_setB L _ j (by rw [HL.out]; exact hj), HAT.out j hj, HT.out, List.map_append]
          by_cases e : j = pl T x
          · simp [e]
          · simp [e]
        generalize pl T x = y at *
        have c1 := hL.cell y (by rw [HL.out]; exact hy)
        have f1 := hL.fz y
        have HB : Hid (Bk (wr.setCell ⟨w.heap.size, y, none⟩ (.bool true)) w.heap.size (L.set y true)) := hL.set y
        have hbb : Below w.heap.size w (wr.setCell ⟨w.heap.size, y, none⟩ (.bool true)) := hb'.setCell (Nat.le_refl _) _
        clear hq hi hL
        go_wp2_with (first
          | (go_at_call 20; refine hpl.mono ?_; rintro e w' ⟨rfl, rfl⟩))
        go_roundw
        case rel =>
          refine ⟨k + 1, _, by omega, by go_num, HB.out, by rw [List.length_set]; exact HL.out, fun s hs => ?_, HN.out, hbb⟩
          rw [HT.out, List.mem_append, List.mem_singleton] at hs
          rcases hs with hs | rfl
          · exact HA.out s hs
          · exact HI.out
        case measure => simp [intOf]; omega
      | false =>
        have hpl := rplace_out x _ hq hT hi
        have HE : Hid (allIn T ns = false) := by
          show allIn T ns = false
          cases h' : allIn T ns with
          | false => rfl
          | true => have := allIn_iff.1 h' x HM.out; rw [inn_not] at hi; exact absurd this hi
        clear hq hi
        go_wp2_with (first
          | (go_at_call 20; refine hpl.mono ?_; rintro e w' ⟨rfl, rfl⟩))
        go_ret2
        exact ⟨hb', _, ret_pair rfl HE.out.symm, fun h => by rw [HE.out] at h; cases h⟩
    · obtain rfl : k = ns.length := by omega
      have HA' := HA.out
      have HAT' := HAT.out
      rw [List.take_length] at HA' HAT'
      have HE : Hid (allIn T ns = true) := allIn_iff.2 HA'
      have HW : Hid (wh L = plsOf T ns) := wh_eq HL.out (up_rise _ _) fun x => by
        unfold plsOf
        rw [mem_up]
        constructor
        · rintro ⟨h1, h2⟩; exact ⟨h1, by rw [HAT' x h1]; exact decide_eq_true h2⟩
        · rintro ⟨h1, h2⟩; exact ⟨h1, by rw [HAT' x h1] at h2; exact of_decide_eq_true h2⟩
      have hwh := where_any L w.heap.size L.length wr hL (by rw [HL.out]; omega) (Nat.le_refl _)
      rw [HW.out, HL.out] at hwh
      clear HA' HAT' HAT HA
      go_wp2_with (first
        | (go_at_call 38; refine hwh.mono ?_; rintro e w2 ⟨v, rfl, ho, hb2⟩))
      go_ret2
      exact ⟨hb'.trans (hb2.mono hsz), _, ret_pair rfl HE.out.symm, fun _ => own_le ho hsz⟩

/-- What the document's Add leaves. -/
def RAddP (O : Nat → Prop) (hb : Nat) (T : List Th) (d : Dd) (w : World) (e : Ending) (w' : World) : Prop :=
  e = .returned (.int .i64 (errOf T d)) ∧ Keep O w w' ∧ Rp (More O w w') w' hb (addT T d)
theorem Rp.more {O : Nat → Prop} {w w' : World} {hb : Nat} {T : List Th} (h : Rp O w hb T) (hb' : Below w.heap.size w w') : Rp (More O w w') w' hb T := by
  obtain ⟨v, xs, h⟩ := h.below hb'
  exact ⟨v, xs, h.obj, h.row, h.cells.carry (fun _ _ => rfl) (fun _ h => ⟨.inl h.1, h.2⟩), .inl h.og, fun k hk => .inl (h.ov k hk), fun k hk => by
    rcases hk with hk | hk
    · exact h.lt k hk
    · exact hk.2⟩
theorem radd_end {O : Nat → Prop} {hb : Nat} {v v' : Value} {xs : List Value} {T : List Th} {d : Dd} {w w2 w4 : World} {p1 p2 : Option Addr} {c1 c2 : Nat} {ob : Obj}
    (h : RG O w hb v xs T) (he : errOf T d = 0 ∧ addT T d = T ++ [thOf T d]) (hb2 : Below w.heap.size w w2)
    (r1 : RdI (fun k => w.heap.size ≤ k ∧ k < w2.heap.size) w2 p1 c1 (zs (plsOf T d.prev))) (r2 : RdI (fun k => w.heap.size ≤ k ∧ k < w2.heap.size) w2 p2 c2 (zs (plsOf T d.auth)))
    (hown4 : w4.ownsRow 0 37 3 v' (T.length + 1) (xs ++ [.string d.name, .slice p1 (zs (plsOf T d.prev)).length c1, .slice p2 (zs (plsOf T d.auth)).length c2])) (hg4 : (w2.alloc ob).grownBy w4 v.ownBlock)
    (hat : v'.ownBlock = v.ownBlock ∨ v'.ownBlock = some (w2.alloc ob).heap.size) : RAddP O hb T d w (.returned (.int .i64 0)) (w4.setCell ⟨hb, 0, none⟩ v') := by
  have hz2 := hb2.size
  have hz4 := hg4.size
  have hza : (w2.alloc ob).heap.size = w2.heap.size + 1 := by simp
  have hgl := h.lt hb h.og
  have hvg : v.ownBlock ≠ some hb := by
    rcases h.row.2 with ⟨rfl, _⟩ | ⟨g, cap, cur, rfl, _, hg, _⟩
    · intro e; cases e
    · intro e
      cases e
      rw [h.obj] at hg
      cases hg
  have s4 : ∀ k, k < w2.heap.size → v.ownBlock ≠ some k → w4.heap[k]? = w2.heap[k]? := fun k hk hn => (hg4.block k (by omega) (fun e => hn e.symm)).trans (((Below.refl _ _).alloc (Nat.le_refl _) ob).block k hk)
  have s5 : ∀ k, k ≠ hb → (w4.setCell ⟨hb, 0, none⟩ v').heap[k]? = w4.heap[k]? := fun k hk => heap_setCell_other w4 _ k _ hk
  have sz5 : (w4.setCell ⟨hb, 0, none⟩ v').heap.size = w4.heap.size := by simp
  have all : ∀ k, k < w2.heap.size → k ≠ hb → v.ownBlock ≠ some k → (w4.setCell ⟨hb, 0, none⟩ v').heap[k]? = w2.heap[k]? := fun k hk h1 h3 => (s5 k h1).trans (s4 k (by omega) h3)
  have ov' : ∀ k, v'.ownBlock = some k → More O w (w4.setCell ⟨hb, 0, none⟩ v') k ∧ k ≠ hb := by
    intro k hk
    rcases hat with e | e
    · rw [e] at hk; exact ⟨.inl (h.ov k hk), fun e' => hvg (by rw [hk, e'])⟩
    · have hl := (hown4.lt k hk).2
      rw [e] at hk
      cases hk
      exact ⟨.inr ⟨by omega, by omega⟩, by omega⟩
  have nv' : ∀ k, k < w2.heap.size → v.ownBlock ≠ some k → v'.ownBlock ≠ some k := by
    intro k hk hn e
    rcases hat with e' | e'
    · exact hn (e' ▸ e)
    · rw [e'] at e
      cases e
      omega
  refine ⟨by rw [he.1], ⟨hg4.os.trans hb2.os, hg4.tape.trans hb2.tape, hg4.output.trans hb2.output, by omega, fun k hk hn => ?_⟩, v', xs ++ [.string d.name, .slice p1 (zs (plsOf T d.prev)).length c1, .slice p2 (zs (plsOf T d.auth)).length c2], ?_⟩
  · exact (all k (by omega) (fun e => hn (e ▸ h.og)) (fun e => hn (h.ov k e))).trans (hb2.block k hk)
  · rw [he.2]
    refine ⟨?_, ?_, ?_, .inl h.og, fun k hk => (ov' k hk).1, fun k hk => ?_⟩
    · have o4 : w4.heap[hb]? = some (.cells #[v] 34) := (s4 hb (by omega) hvg).trans ((hb2.block hb hgl).trans h.obj)
      rw [heap_setCell_same w4 hb 0 _ _ _ o4]
      rfl
    · rw [List.length_append]
      exact ownsRow_setCell_other hown4 (fun e => (ov' hb e).2 rfl) _
    · refine Thx.snoc ?_ h.row.1 ?_ ?_
      · refine h.cells.carry (fun k hk => ?_) fun k hk => ⟨.inl hk.1, hk.2.1, nv' k (by have := h.lt k hk.1; omega) hk.2.2⟩
        have := h.lt k hk.1
        exact (all k (by omega) hk.2.1 hk.2.2).trans (hb2.block k this)
      · refine r1.carry (fun k hk => ?_) fun k hk => ?_
        · exact all k hk.2 (by omega) (fun e => by have := h.lt k (h.ov k e); omega)
        · exact ⟨.inr ⟨hk.1, by omega⟩, by omega, nv' k (by omega) (fun e => by have := h.lt k (h.ov k e); omega)⟩
      · refine r2.carry (fun k hk => ?_) fun k hk => ?_
        · exact all k hk.2 (by omega) (fun e => by have := h.lt k (h.ov k e); omega)
        · exact ⟨.inr ⟨hk.1, by omega⟩, by omega, nv' k (by omega) (fun e => by have := h.lt k (h.ov k e); omega)⟩
    · rcases hk with hk | hk
      · have := h.lt k hk; omega
      · exact hk.2
theorem Try.infoR : (Try.prog.info? 37).map (fun i => (i.zero, i.size, i.bytes)) = some (some (.agg #[.string ⟨#[]⟩, .slice none 0 0, .slice none 0 0]), 3, 64) := by kernel_rfl
set_option maxRecDepth 100000 in
set_option maxHeartbeats 2000000 in
theorem radd_any {O : Nat → Prop} {hb : Nat} {T : List Th} (d : Dd) (p2 p3 : Option Addr) (k2 k3 : Nat) (w : World) (h : Rp O w hb T) (hT : T.length ≤ 100) (hd : fitD d)
    (r2 : RdS (· < w.heap.size) w p2 k2 d.prev) (r3 : RdS (· < w.heap.size) w p3 k3 d.auth) :
    Calls Try.prog 31 #[.pointer (some ⟨hb, 0, none⟩), .string d.name, .slice p2 d.prev.length k2, .slice p3 d.auth.length k3] w (RAddP O hb T d w) := by
  obtain ⟨hs, ⟨l2, s2⟩, l3, s3⟩ := hd
  by_cases h0 : d.name = ⟨#[]⟩
  · have HE := err_arg (T := T) h0
    have HP : Hid (RAddP O hb T d w (.returned (.int .i64 1)) w) := ⟨by rw [HE.1], Keep.refl _ _, by rw [HE.2]; exact h.more (Below.refl _ _)⟩
    rw [h0]
    clear h HE h0 r2 r3 s2 s3
    go_enter Try.func31, Try.ntmps31
    go_wp2
    go_ret
    exact HP.out
  · have he : d.name.toList.isEmpty = false := by rw [empty_iff]; simpa using h0
    by_cases h1 : d.name ∈ nms T
    · have HE := err_have h0 h1
      have HP : Hid (RAddP O hb T d w (.returned (.int .i64 4)) w) := ⟨by rw [HE.1], Keep.refl _ _, by rw [HE.2]; exact h.more (Below.refl _ _)⟩
      have hpl := rplace_in d.name w h hT (inn_iff.2 h1)
      clear h HE h0 h1 r2 r3 s2 s3
      go_enter Try.func31, Try.ntmps31
      go_wp2_with (first
        | (go_at_call 20; refine hpl.mono ?_; rintro e w' ⟨rfl, rfl⟩))
      go_ret
      exact HP.out
    · have hpl := rplace_out d.name w h hT (inn_not.2 h1)
      have ra := rplaces_any d.prev p2 k2 w h r2 hT l2
      have HR : Hid (∀ w1, Below w.heap.size w w1 → Calls Try.prog 41 #[.pointer (some ⟨hb, 0, none⟩), .slice p3 d.auth.length k3] w1 (RowP T d.auth w1)) := fun w1 hb => rplaces_any d.auth p3 k3 w1 (h.below hb) (((r3.below hb)).carry (fun _ _ => rfl) fun k hk => by have := hb.size; omega) hT l3
      cases ha : allIn T d.prev with
      | false =>
        have HE := err_missing h0 h1 (by rw [ha]; rfl)
        have HP : Hid (∀ w', Below w.heap.size w w' → RAddP O hb T d w (.returned (.int .i64 80)) w') := fun w' hb => ⟨by rw [HE.1], Keep.of_below hb, by rw [HE.2]; exact h.more hb⟩
        clear h HE h0 h1 r2 r3 s2 s3
        go_enter Try.func31, Try.ntmps31
        go_wp2_with (first
          | (go_at_call 20; refine hpl.mono ?_; rintro e w' ⟨rfl, rfl⟩)
          | (go_at_call 41; have _h := rb; refine rb.mono ?_; rintro e w2 ⟨hb2, va, rfl, _⟩)
          | (go_at_call 41; refine ra.mono ?_; rintro e w1 ⟨hb1, vp, rfl, _⟩; rw [ha]; have rb := HR.out w1 hb1))
        go_ret
        exact HP.out _ (hb1.trans (hb2.mono hb1.size))
      | true =>
        cases hau : allIn T d.auth with
        | false =>
          have HE := err_missing h0 h1 (by rw [ha, hau]; rfl)
          have HP : Hid (∀ w', Below w.heap.size w w' → RAddP O hb T d w (.returned (.int .i64 80)) w') := fun w' hb => ⟨by rw [HE.1], Keep.of_below hb, by rw [HE.2]; exact h.more hb⟩
          clear h HE h0 h1 r2 r3 s2 s3
          go_enter Try.func31, Try.ntmps31
          go_wp2_with (first
            | (go_at_call 20; refine hpl.mono ?_; rintro e w' ⟨rfl, rfl⟩)
            | (go_at_call 41; have _h := rb; refine rb.mono ?_; rintro e w2 ⟨hb2, va, rfl, _⟩; rw [hau])
            | (go_at_call 41; refine ra.mono ?_; rintro e w1 ⟨hb1, vp, rfl, _⟩; rw [ha]; have rb := HR.out w1 hb1))
          go_ret
          exact HP.out _ (hb1.trans (hb2.mono hb1.size))
        | true =>
          have HE : Hid (errOf T d = 0 ∧ addT T d = T ++ [thOf T d]) := err_ok h0 h1 ha hau
          obtain ⟨v, xs, h⟩ := h
          have HH : Hid (RG O w hb v xs T) := h
          have hgl := h.lt hb h.og
          obtain ⟨qv, cv, hqv, _, _⟩ := th_at h.row h.cellsO
          have ha' : Hid (allIn T d.prev = true) := ha
          have hb' : Hid (allIn T d.auth = true) := hau
          clear h0 h1 r2 r3 s2 s3
          subst hqv
          have hvg : (Value.slice qv T.length cv).ownBlock ≠ some hb := by
            intro e
            rcases h.row.2 with ⟨e0, _⟩ | ⟨g, cap, cur, e0, _, hg, _⟩
            · rw [e0] at e; cases e
            · rw [e0] at e; cases e
              rw [h.obj] at hg
              cases hg
          go_enter Try.func31, Try.ntmps31
          go_wp2_with (first
            | (go_at_call 20; refine hpl.mono ?_; rintro e w' ⟨rfl, rfl⟩)
            | (go_at_call 41; have _h := rb; refine rb.mono ?_; rintro e w2 ⟨hb2, va, rfl, hoa⟩; rw [hb'.out]
               have hba := hb1.trans (hb2.mono hb1.size)
               have hz := hba.size
               have hf2 : w2.heap[hb]? = some (.cells #[.slice qv T.length cv] 34) := (hba.block hb hgl).trans h.obj
               have hcv : w2.cell? ⟨hb, 0, none⟩ = some (.slice qv T.length cv) := cell_row (cur := [_]) hf2 0 _ rfl
               have ro := own_below h.row hba
               obtain ⟨q1, c1, rfl, x1⟩ := own_rdO (hop ha'.out) hb2
               obtain ⟨q2, c2, rfl, x2⟩ := own_rdO (own_le (hoa hb'.out) hb1.size) (Below.refl _ _))
            | (go_at_call 41; refine ra.mono ?_; rintro e w1 ⟨hb1, vp, rfl, hop⟩; rw [ha'.out]; have rb := HR.out w1 hb1)
            | (at_builtin; refine wpList_append3 rfl (.tmp 46) (.tmp 51) 32 37 _ rfl Try.underlying32 Try.infoR rfl _ T.length xs rfl (ro.alloc _) _ _ _ _ rfl (heap_alloc_new _ _) rfl rfl rfl (by omega) ?_; intro v' w4 hown4 hg4 hat4
               obtain ⟨q4, cq4, rfl⟩ := own_slice hown4
               have hf4 := (hg4.block hb (by simp; omega) (fun e => hvg e.symm)).trans ((((Below.refl w2.heap.size w2).alloc (Nat.le_refl _) _).block hb (by omega)).trans hf2)
               have hc4 := cell_row (cur := [_]) hf4 0 _ rfl
               have hz4 := frozen_of_row w4 hb 0 _ _ hf4))
          go_ret
          exact radd_end HH.out HE.out hba x1 x2 hown4 hg4 hat4
end Go.Proofs.Ytbjeaogblpjpeaa

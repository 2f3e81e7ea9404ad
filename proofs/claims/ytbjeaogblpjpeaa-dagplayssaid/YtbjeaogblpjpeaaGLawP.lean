/-
  DagPlays, walked.
-/
import Derived.Test.YtbjeaogblpjpeaaGLawA
namespace Go.Proofs.Ytbjeaogblpjpeaa
open Go.RowKit Go.Maps

theorem cell_in {w : World} {a : Addr} {v : Value} (h : w.cell? a = some v) : a.block < w.heap.size := by
  rcases Nat.lt_or_ge a.block w.heap.size with h' | h'
  · exact h'
  · simp [World.cell?, Array.getElem?_eq_none h'] at h
theorem own_rdS {α : Type} {enc : α → Value} {w : World} {B e : Nat} {v : Value} {xs : List α} (h : w.ownsRow B e 1 v xs.length (xs.map enc)) : ∃ q c, v = .slice q xs.length c ∧ Rd enc (fun k => B ≤ k ∧ k < w.heap.size) w q c xs := by
  obtain ⟨q, c, e, r⟩ := own_rd h
  exact ⟨q, c, e, r.carry (fun _ _ => rfl) fun k hk => h.lt k hk⟩
theorem prev_rd {O : Nat → Prop} {g : Option Addr} {T : List Th} (i : Int) (w : World) (h : Gq O w g T) (hg : Good T) (hT : T.length ≤ 100) :
    Calls Try.prog 17 #[.pointer g, .int .i64 i] w fun e w' => ∃ q c, e = .returned (.slice q (zs (thAt T i).prev).length c) ∧ RdI (· < w'.heap.size) w' q c (zs (thAt T i).prev) ∧ Below w.heap.size w w' := by
  refine (prev_any i w h hg hT).mono ?_
  rintro e w' ⟨v, rfl, ho, hb⟩
  obtain ⟨q, c, rfl, r⟩ := own_rdS ho
  exact ⟨q, c, rfl, r.carry (fun _ _ => rfl) fun k hk => hk.2, hb⟩
theorem auth_rd {O : Nat → Prop} {g : Option Addr} {T : List Th} (i : Int) (w : World) (h : Gq O w g T) (hg : Good T) (hT : T.length ≤ 100) :
    Calls Try.prog 18 #[.pointer g, .int .i64 i] w fun e w' => ∃ q c, e = .returned (.slice q (zs (thAt T i).auth).length c) ∧ RdI (· < w'.heap.size) w' q c (zs (thAt T i).auth) ∧ Below w.heap.size w w' := by
  refine (auth_any i w h hg hT).mono ?_
  rintro e w' ⟨v, rfl, ho, hb⟩
  obtain ⟨q, c, rfl, r⟩ := own_rdS ho
  exact ⟨q, c, rfl, r.carry (fun _ _ => rfl) fun k hk => hk.2, hb⟩
theorem miss_rd {N l : List ByteArray} {w w' : World} {e : Ending} (h : MissP N l w e w') : ∃ q c, e = .returned (.slice q (missTo N l l.length).length c) ∧ RdS (fun k => w.heap.size ≤ k ∧ k < w'.heap.size) w' q c (missTo N l l.length) ∧ Below w.heap.size w w' := by
  obtain ⟨v, rfl, ho, hb⟩ := h
  obtain ⟨q, c, rfl, r⟩ := own_rdS ho
  exact ⟨q, c, rfl, r, hb⟩
theorem strs_same {O O' : Nat → Prop} (a : List ByteArray) (p q : Option Addr) (c c' : Nat) (w : World) (r : RdS O w p c a) (s : RdS O' w q c' a) (ha : a.length ≤ 1000) :
    Calls Try.prog 12 #[.slice p a.length c, .slice q a.length c'] w fun e w' => e = .returned (.bool true) ∧ Below w.heap.size w w' := by
  refine (strs_any a a p q c c' w r s ha ha).mono ?_
  rintro e w' ⟨rfl, n, rfl⟩
  exact ⟨by rw [decide_eq_true rfl], below_drewN _ _⟩

set_option maxRecDepth 100000 in
set_option maxHeartbeats 16000000 in
theorem dagPlays_any (l : List Dd) (p : Option Addr) (c : Nat) (f : List ByteArray) (p' : Option Addr) (c' : Nat) (w : World) (r : RdD (· < w.heap.size) w p c l) (hl : l.length ≤ 9223372036854775807) (hw : ∀ d ∈ l, wideD d) (r' : RdS (· < w.heap.size) w p' c' f) (hfl : f.length ≤ 9223372036854775807) (hfs : ∀ s ∈ f, s.size ≤ 9223372036854775807) :
    Calls Try.prog 3 #[.slice p l.length c, .slice p' f.length c'] w fun e w' => e = .returned (.bool true) ∧ Below w.heap.size w w' := by
  have hfew := few_any l p c w r hl hw
  have hsh := short_any f p' c' w r' hfl hfs
  cases hf : fewB l with
  | false =>
    rw [hf] at hfew
    clear r r' hw hfs hsh
    go_enter Try.func3, Try.ntmps3
    go_wp2_with (first
      | (go_at_call 9; refine hfew.mono ?_; rintro e w' ⟨rfl, rfl⟩))
    go_ret
    exact ⟨rfl, Below.refl _ _⟩
  | true =>
    rw [hf] at hfew
    cases hfb : shortB f with
    | false =>
      rw [hfb] at hsh
      clear r r' hw hfs
      go_enter Try.func3, Try.ntmps3
      go_wp2_with (first
        | (go_at_call 9; refine hfew.mono ?_; rintro e w' ⟨rfl, rfl⟩)
        | (go_at_call 10; refine hsh.mono ?_; rintro e w' ⟨rfl, rfl⟩))
      go_ret
      exact ⟨rfl, Below.refl _ _⟩
    | true =>
      rw [hfb] at hsh
      obtain ⟨hf10, hf100⟩ := short_iff.1 hfb
      have HFS : Hid (∀ s ∈ f, s.size ≤ 100) := hf100
      have hbo := both_any l p c w r hf
      have hTl := play_few hf
      have HG : Hid (Good (playT l)) := play_good hf
      have HR : Hid (RdS (· < w.heap.size) w p' c' f) := r'
      have hrc := r'.1
      have hml := missTo_len (nms (playT l)) f f.length
      unfold BothP at hbo
      generalize playT l = T at *
      clear r r' hw hf hfb hfs hf100
      go_enter Try.func3, Try.ntmps3
      go_wp2_with (first
        | (go_at_call 9; refine hfew.mono ?_; rintro e w' ⟨rfl, rfl⟩)
        | (go_at_call 10; refine hsh.mono ?_; rintro e w' ⟨rfl, rfl⟩)
        | (go_at_call 11; refine hbo.mono ?_; rintro e w1 ⟨gb, hb, rfl, bo1, hb1⟩
           have hz1 := hb1.size
           obtain ⟨O, q1⟩ := bo1.q
           have hmi := missing_any f p' c' w1 q1 ((HR.out.below hb1).lift hz1) hf10 HFS.out)
        | (go_at_call 13; refine hmi.mono ?_; intro e w2 hP; obtain ⟨q2, c2, rfl, r2, hb2⟩ := miss_rd hP
           have bo2 := bo1.below hb2
           have hw2 := hb1.trans (hb2.mono hz1)
           have hz2 := hw2.size
           obtain ⟨R2, qr2⟩ := bo2.r
           have hrm := rmissing_any f p' c' w2 qr2 ((HR.out.below hw2).lift hz2) hTl hf10
           clear hP)
        | (go_at_call 14; refine hrm.mono ?_; intro e w3 hP; obtain ⟨q3, c3, rfl, r3, hb3⟩ := miss_rd hP
           have bo3 := bo2.below hb3
           have hw3 := hw2.trans (hb3.mono hz2)
           have hz3 := hw3.size
           have hst := strs_same _ q2 q3 c2 c3 w3 (Rd.on r2 hb3) r3 (by omega)
           clear hP)
        | (go_at_call 12; refine hst.mono ?_; rintro e w4 ⟨rfl, hb4⟩
           have bo4 := bo3.below hb4
           have hw4 := hw3.trans (hb4.mono hz3)))
      clear hfew hsh hbo hmi hrm hst r2 r3 bo1 bo2 bo3 hb1 hb2 hb3 hb4 hw2 hw3 q1 qr2
      go_loopw [8] (fun i wr => ∃ k : Nat, k ≤ T.length + 2 ∧ i = .int .i64 ((k : Int) - 1) ∧ Bo w.heap.size wr gb hb T T ∧ Below w.heap.size w wr) (fun i _ => (T.length + 1 - intOf i).toNat)
      case atStart => exact ⟨0, by omega, rfl, bo4, hw4⟩
      case round =>
        clear bo4 hw4
        obtain ⟨k, hk, rfl, bo, hbw⟩ := hrel
        have hz := hbw.size
        obtain ⟨O1, gq⟩ := bo.q
        obtain ⟨R1, rq⟩ := bo.r
        obtain ⟨qv, cv, hcv, hcvl, hall⟩ := rq.rd
        have hrl := rq.lt
        have hhl : hb < wr.heap.size := cell_in hcv
        by_cases hlt : k < T.length + 2
        · by_cases hin : 1 ≤ k ∧ k ≤ T.length
          · obtain ⟨i, rfl⟩ : ∃ i, k = i + 1 := ⟨k - 1, by omega⟩
            have ei : ((i + 1 : Nat) : Int) - 1 = (i : Int) := by omega
            rw [ei]
            have hiT : i < T.length := by omega
            obtain ⟨ab, ao, p1, c1, p2, c2, rfl, k1, k2, k3, r1, r2⟩ := hall i hiT
            have hal : ab < wr.heap.size := cell_in k1
            clear hall hin hlt
            have hla := rise_few (HG.out.pr i) (HG.out.pl i)
            have hlb := rise_few (HG.out.ar i) (HG.out.al i)
            have hpv := fun wx (h : Below wr.heap.size wr wx) => prev_rd (i : Int) wx (gq.below h) HG.out hTl
            have hau := fun wx (h : Below wr.heap.size wr wx) => auth_rd (i : Int) wx (gq.below h) HG.out hTl
            have hnm := fun wx (h : Below wr.heap.size wr wx) => name_any (i : Int) wx (gq.below h) hTl
            rw [thAt_nat] at hpv hau hnm
            unfold prevs auths at *
            generalize T.getD i noTh = t at *
            obtain ⟨A, hA⟩ : ∃ A, A = zs t.prev := ⟨_, rfl⟩
            obtain ⟨BB, hB⟩ : ∃ B, B = zs t.auth := ⟨_, rfl⟩
            rw [← hA] at k2 r1 hla hpv
            rw [← hB] at k3 r2 hlb hau
            clear hA hB
            generalize t.name = nm at *
            obtain ⟨W, hW⟩ : ∃ W, W = wr.alloc (.cells #[.string nm, .slice p1 A.length c1, .slice p2 BB.length c2] 37) := ⟨_, rfl⟩
            have hWb : Below wr.heap.size wr W := by rw [hW]; exact (Below.refl _ _).alloc (Nat.le_refl _) _
            have hWl : wr.heap.size < W.heap.size := by rw [hW]; simp
            have hWo : W.heap[wr.heap.size]? = some (.cells #[.string nm, .slice p1 A.length c1, .slice p2 BB.length c2] 37) := by rw [hW]; exact heap_alloc_new _ _
            have hun : ∀ wx, Below W.heap.size W wx → Below wr.heap.size wr wx := fun wx h => hWb.trans (h.mono hWb.size)
            have HTC : Hid (∀ wx, Below W.heap.size W wx → wx.cell? ⟨wr.heap.size, 0, none⟩ = some (.string nm) ∧ wx.cell? ⟨wr.heap.size, 1, none⟩ = some (.slice p1 A.length c1) ∧ wx.cell? ⟨wr.heap.size, 2, none⟩ = some (.slice p2 BB.length c2)) := fun wx hx => by
              have ho := (hx.block wr.heap.size hWl).trans hWo
              exact ⟨cell_row (cur := [_, _, _]) ho 0 _ rfl, cell_row (cur := [_, _, _]) ho 1 _ rfl, cell_row (cur := [_, _, _]) ho 2 _ rfl⟩
            have HIA : Hid (∀ wx q c, Below W.heap.size W wx → RdI (· < wx.heap.size) wx q c A → Calls Try.prog 16 #[.slice q A.length c, .slice p1 A.length c1] wx fun e w' => e = .returned (.bool true) ∧ Below wx.heap.size wx w') := fun wx q c hx r => ints_same A q p1 c c1 wx r ((fun wx hx => r1.same (Same.of_below (hun wx hx) hrl)) wx hx) (by first | omega | simp)
            have HIB : Hid (∀ wx q c, Below W.heap.size W wx → RdI (· < wx.heap.size) wx q c BB → Calls Try.prog 16 #[.slice q BB.length c, .slice p2 BB.length c2] wx fun e w' => e = .returned (.bool true) ∧ Below wx.heap.size wx w') := fun wx q c hx r => ints_same BB q p2 c c2 wx r ((fun wx hx => r2.same (Same.of_below (hun wx hx) hrl)) wx hx) (by first | omega | simp)
            have HNM : Hid (∀ wx, Below W.heap.size W wx → Calls Try.prog 15 #[.pointer (some ⟨gb, 0, none⟩), .int .i64 i] wx fun e w' => e = .returned (.string nm) ∧ Below wx.heap.size wx w') := fun wx h => hnm wx (hun wx h)
            have HPV : Hid (∀ wx, Below W.heap.size W wx → Calls Try.prog 17 #[.pointer (some ⟨gb, 0, none⟩), .int .i64 i] wx fun e w' => ∃ q c, e = .returned (.slice q A.length c) ∧ RdI (· < w'.heap.size) w' q c A ∧ Below wx.heap.size wx w') := fun wx h => hpv wx (hun wx h)
            have HAU : Hid (∀ wx, Below W.heap.size W wx → Calls Try.prog 18 #[.pointer (some ⟨gb, 0, none⟩), .int .i64 i] wx fun e w' => ∃ q c, e = .returned (.slice q BB.length c) ∧ RdI (· < w'.heap.size) w' q c BB ∧ Below wx.heap.size wx w') := fun wx h => hau wx (hun wx h)
            have hbe : (nm.toList == nm.toList) = true := by simp
            have hbd : Below W.heap.size W W.drew := (Below.refl _ _).drew
            have HUN : Hid (∀ wx, Below W.heap.size W wx → Below wr.heap.size wr wx) := hun
            clear hpv hau hnm r1 r2 hWo hun gq rq
            go_wp2
            rw [← hW]
            clear hW
            refine wp_region_in (by kernel_rfl) (fun w' => Below W.heap.size W w') ?_
            change wpIn _ _ _ _ _ _ _ _ (World.drew _)
            refine wpIn_take (i := 0) (d := (some 68)) (v := ?vqr0) (a' := ?aqr0) rfl rfl (by kernel_rfl) (by kernel_rfl) (by kernel_rfl) (fun _ _ _ h => h) (Or.inl ⟨by rfl, ?yqr0⟩) ?fqr0 ?_
            case yqr0 => (intro wq hq; go_simp; first | done | with_reducible rfl)
            case fqr0 => (go_frame; rfl)
            refine wpIn_take (i := 1) (d := (some 69)) (v := ?vqr1) (a' := ?aqr1) rfl rfl (by kernel_rfl) (by kernel_rfl) (by kernel_rfl) (fun _ _ _ h => h) (Or.inl ⟨by rfl, ?yqr1⟩) ?fqr1 ?_
            case yqr1 => (intro wq hq; go_simp; first | done | with_reducible rfl)
            case fqr1 => (go_frame; rfl)
            refine wpIn_take (i := 3) (d := (some 71)) (v := ?vqr3) (a' := ?aqr3) rfl rfl (by kernel_rfl) (by kernel_rfl) (by kernel_rfl) (fun _ _ _ h => h) (Or.inl ⟨by rfl, ?yqr3⟩) ?fqr3 ?_
            case yqr3 => (intro wq hq; go_simp; first | done | with_reducible rfl)
            case fqr3 => (go_frame; rfl)
            refine wpIn_take (i := 4) (d := (some 72)) (v := ?vqr4) (a' := ?aqr4) rfl rfl (by kernel_rfl) (by kernel_rfl) (by kernel_rfl) (fun _ _ _ h => h) (Or.inl ⟨by rfl, ?yqr4⟩) ?fqr4 ?_
            case yqr4 => (intro wq hq; obtain ⟨z1, z2, z3⟩ := HTC.out wq hq; go_simp; first | done | with_reducible rfl)
            case fqr4 => (go_frame; rfl)
            refine wpIn_do (i := 2) hbd (by kernel_rfl) rfl (by rfl) ?_
            intro K hK
            go_simp
            go_wp2_with (go_at_call 15; refine (HNM.out _ hbd).mono ?_; rintro e x1 ⟨rfl, y1⟩; have hx1 := hbd.trans (y1.mono hbd.size))
            refine wpIn_take (i := 5) (d := (some 73)) (v := ?vqr5) (a' := ?aqr5) rfl rfl (by kernel_rfl) (by kernel_rfl) (by kernel_rfl) (fun _ _ _ h => h) (Or.inl ⟨by rfl, ?yqr5⟩) ?fqr5 ?_
            case yqr5 => (intro wq hq; go_simp; first | done | with_reducible rfl)
            case fqr5 => (go_frame; rfl)
            refine wpIn_take (i := 6) (d := (some 74)) (v := ?vqr6) (a' := ?aqr6) rfl rfl (by kernel_rfl) (by kernel_rfl) (by kernel_rfl) (fun _ _ _ h => h) (Or.inl ⟨by rfl, ?yqr6⟩) ?fqr6 ?_
            case yqr6 => (intro wq hq; go_simp; first | done | with_reducible rfl)
            case fqr6 => (go_frame; rfl)
            refine wpIn_take (i := 7) (d := (some 75)) (v := ?vqr7) (a' := ?aqr7) rfl rfl (by kernel_rfl) (by kernel_rfl) (by kernel_rfl) (fun _ _ _ h => h) (Or.inl ⟨by rfl, ?yqr7⟩) ?fqr7 ?_
            case yqr7 => (intro wq hq; go_simp; first | done | with_reducible rfl)
            case fqr7 => (go_frame; rfl)
            refine wpIn_take (i := 8) (d := (some 76)) (v := ?vqr8) (a' := ?aqr8) rfl rfl (by kernel_rfl) (by kernel_rfl) (by kernel_rfl) (fun _ _ _ h => h) (Or.inl ⟨by rfl, ?yqr8⟩) ?fqr8 ?_
            case yqr8 => (intro wq hq; go_simp; first | done | with_reducible rfl)
            case fqr8 => (go_frame; rfl)
            refine wpIn_take (i := 10) (d := (some 78)) (v := ?vqr10) (a' := ?aqr10) rfl rfl (by kernel_rfl) (by kernel_rfl) (by kernel_rfl) (fun _ _ _ h => h) (Or.inl ⟨by rfl, ?yqr10⟩) ?fqr10 ?_
            case yqr10 => (intro wq hq; go_simp; first | done | with_reducible rfl)
            case fqr10 => (go_frame; rfl)
            refine wpIn_take (i := 11) (d := (some 79)) (v := ?vqr11) (a' := ?aqr11) rfl rfl (by kernel_rfl) (by kernel_rfl) (by kernel_rfl) (fun _ _ _ h => h) (Or.inl ⟨by rfl, ?yqr11⟩) ?fqr11 ?_
            case yqr11 => (intro wq hq; obtain ⟨z1, z2, z3⟩ := HTC.out wq hq; go_simp; first | done | with_reducible rfl)
            case fqr11 => (go_frame; rfl)
            refine wpIn_do (i := 9) hx1 (by kernel_rfl) rfl (by rfl) ?_
            intro K hK
            go_simp
            go_wp2_with (go_at_call 17; refine (HPV.out _ hx1).mono ?_; rintro e x2 ⟨q2, c2, rfl, s2, y2⟩; have hx2 := hx1.trans (y2.mono hx1.size))
            refine wpIn_do (i := 12) hx2 (by kernel_rfl) rfl (by rfl) ?_
            intro K hK
            go_simp
            go_wp2_with (go_at_call 16; refine (HIA.out _ q2 c2 hx2 s2).mono ?_; rintro e x3 ⟨rfl, y3⟩; have hx3 := hx2.trans (y3.mono hx2.size))
            refine wpIn_take (i := 13) (d := (some 81)) (v := ?vqr13) (a' := ?aqr13) rfl rfl (by kernel_rfl) (by kernel_rfl) (by kernel_rfl) (fun _ _ _ h => h) (Or.inl ⟨by rfl, ?yqr13⟩) ?fqr13 ?_
            case yqr13 => (intro wq hq; go_simp; first | done | with_reducible rfl)
            case fqr13 => (go_frame; rfl)
            refine wpIn_take (i := 14) (d := (some 82)) (v := ?vqr14) (a' := ?aqr14) rfl rfl (by kernel_rfl) (by kernel_rfl) (by kernel_rfl) (fun _ _ _ h => h) (Or.inl ⟨by rfl, ?yqr14⟩) ?fqr14 ?_
            case yqr14 => (intro wq hq; go_simp; first | done | with_reducible rfl)
            case fqr14 => (go_frame; rfl)
            refine wpIn_take (i := 15) (d := (some 83)) (v := ?vqr15) (a' := ?aqr15) rfl rfl (by kernel_rfl) (by kernel_rfl) (by kernel_rfl) (fun _ _ _ h => h) (Or.inl ⟨by rfl, ?yqr15⟩) ?fqr15 ?_
            case yqr15 => (intro wq hq; go_simp; first | done | with_reducible rfl)
            case fqr15 => (go_frame; rfl)
            refine wpIn_take (i := 16) (d := (some 84)) (v := ?vqr16) (a' := ?aqr16) rfl rfl (by kernel_rfl) (by kernel_rfl) (by kernel_rfl) (fun _ _ _ h => h) (Or.inl ⟨by rfl, ?yqr16⟩) ?fqr16 ?_
            case yqr16 => (intro wq hq; go_simp; first | done | with_reducible rfl)
            case fqr16 => (go_frame; rfl)
            refine wpIn_take (i := 17) (d := (some 85)) (v := ?vqr17) (a' := ?aqr17) rfl rfl (by kernel_rfl) (by kernel_rfl) (by kernel_rfl) (fun _ _ _ h => h) (Or.inl ⟨by rfl, ?yqr17⟩) ?fqr17 ?_
            case yqr17 => (intro wq hq; go_simp; first | done | with_reducible rfl)
            case fqr17 => (go_frame; rfl)
            refine wpIn_take (i := 19) (d := (some 87)) (v := ?vqr19) (a' := ?aqr19) rfl rfl (by kernel_rfl) (by kernel_rfl) (by kernel_rfl) (fun _ _ _ h => h) (Or.inl ⟨by rfl, ?yqr19⟩) ?fqr19 ?_
            case yqr19 => (intro wq hq; go_simp; first | done | with_reducible rfl)
            case fqr19 => (go_frame; rfl)
            refine wpIn_take (i := 20) (d := (some 88)) (v := ?vqr20) (a' := ?aqr20) rfl rfl (by kernel_rfl) (by kernel_rfl) (by kernel_rfl) (fun _ _ _ h => h) (Or.inl ⟨by rfl, ?yqr20⟩) ?fqr20 ?_
            case yqr20 => (intro wq hq; obtain ⟨z1, z2, z3⟩ := HTC.out wq hq; go_simp; first | done | with_reducible rfl)
            case fqr20 => (go_frame; rfl)
            refine wpIn_do (i := 18) hx3 (by kernel_rfl) rfl (by rfl) ?_
            intro K hK
            go_simp
            go_wp2_with (go_at_call 18; refine (HAU.out _ hx3).mono ?_; rintro e x4 ⟨q4, c4, rfl, s4, y4⟩; have hx4 := hx3.trans (y4.mono hx3.size))
            refine wpIn_do (i := 21) hx4 (by kernel_rfl) rfl (by rfl) ?_
            intro K hK
            go_simp
            go_wp2_with (go_at_call 16; refine (HIB.out _ q4 c4 hx4 s4).mono ?_; rintro e x5 ⟨rfl, y5⟩; have hx5 := hx4.trans (y5.mono hx4.size))
            refine wpIn_take (i := 22) (d := (some 90)) (v := ?vqr22) (a' := ?aqr22) rfl rfl (by kernel_rfl) (by kernel_rfl) (by kernel_rfl) (fun _ _ _ h => h) (Or.inl ⟨by rfl, ?yqr22⟩) ?fqr22 ?_
            case yqr22 => (intro wq hq; go_simp; first | done | with_reducible rfl)
            case fqr22 => (go_frame; rfl)
            refine wpIn_take (i := 23) (d := (some 91)) (v := ?vqr23) (a' := ?aqr23) rfl rfl (by kernel_rfl) (by kernel_rfl) (by kernel_rfl) (fun _ _ _ h => h) (Or.inl ⟨by rfl, ?yqr23⟩) ?fqr23 ?_
            case yqr23 => (intro wq hq; go_simp; first | done | with_reducible rfl)
            case fqr23 => (go_frame; rfl)
            refine wpIn_done hx5 (by kernel_rfl) ?_ _
            go_wp2
            go_roundw
            case rel => exact ⟨i + 1 + 1, by omega, congrArg (Value.int .i64) (by omega), bo.below (HUN.out _ hx5), hbw.trans ((HUN.out _ hx5).mono hz)⟩
            case measure => simp [intOf]; omega
          · rcases (by omega : k = 0 ∨ k = T.length + 1) with rfl | rfl
            · have ei : ((0 : Nat) : Int) - 1 = -1 := by omega
              rw [ei]
              clear ei
              have hpv := fun wx (h : Below wr.heap.size wr wx) => prev_rd (-1) wx (gq.below h) HG.out hTl
              have hau := fun wx (h : Below wr.heap.size wr wx) => auth_rd (-1) wx (gq.below h) HG.out hTl
              have hnm := fun wx (h : Below wr.heap.size wr wx) => name_any (-1) wx (gq.below h) hTl
              rw [thAt_out (by omega)] at hpv hau hnm
              clear hall hin hlt
              obtain ⟨W, hW⟩ : ∃ W, W = wr.alloc (.cells #[.string ⟨#[]⟩, .slice none 0 0, .slice none 0 0] 37) := ⟨_, rfl⟩
              have hWb : Below wr.heap.size wr W := by rw [hW]; exact (Below.refl _ _).alloc (Nat.le_refl _) _
              have hWl : wr.heap.size < W.heap.size := by rw [hW]; simp
              have hWo : W.heap[wr.heap.size]? = some (.cells #[.string ⟨#[]⟩, .slice none 0 0, .slice none 0 0] 37) := by rw [hW]; exact heap_alloc_new _ _
              have hun : ∀ wx, Below W.heap.size W wx → Below wr.heap.size wr wx := fun wx h => hWb.trans (h.mono hWb.size)
              have HTC : Hid (∀ wx, Below W.heap.size W wx → wx.cell? ⟨wr.heap.size, 0, none⟩ = some (.string ⟨#[]⟩) ∧ wx.cell? ⟨wr.heap.size, 1, none⟩ = some (.slice none 0 0) ∧ wx.cell? ⟨wr.heap.size, 2, none⟩ = some (.slice none 0 0)) := fun wx hx => by
                have ho := (hx.block wr.heap.size hWl).trans hWo
                exact ⟨cell_row (cur := [_, _, _]) ho 0 _ rfl, cell_row (cur := [_, _, _]) ho 1 _ rfl, cell_row (cur := [_, _, _]) ho 2 _ rfl⟩
              have HIA : Hid (∀ wx q c, Below W.heap.size W wx → RdI (· < wx.heap.size) wx q c [] → Calls Try.prog 16 #[.slice q 0 c, .slice none 0 0] wx fun e w' => e = .returned (.bool true) ∧ Below wx.heap.size wx w') := fun wx q c hx r => ints_same [] q none c 0 wx r ((fun wx _ => Rd.nil (Value.int .i64) (· < wx.heap.size) wx none 0) wx hx) (by first | omega | simp)
              have HIB : Hid (∀ wx q c, Below W.heap.size W wx → RdI (· < wx.heap.size) wx q c [] → Calls Try.prog 16 #[.slice q 0 c, .slice none 0 0] wx fun e w' => e = .returned (.bool true) ∧ Below wx.heap.size wx w') := fun wx q c hx r => ints_same [] q none c 0 wx r ((fun wx _ => Rd.nil (Value.int .i64) (· < wx.heap.size) wx none 0) wx hx) (by first | omega | simp)
              have HNM : Hid (∀ wx, Below W.heap.size W wx → Calls Try.prog 15 #[.pointer (some ⟨gb, 0, none⟩), .int .i64 (-1)] wx fun e w' => e = .returned (.string ⟨#[]⟩) ∧ Below wx.heap.size wx w') := fun wx h => hnm wx (hun wx h)
              have HPV : Hid (∀ wx, Below W.heap.size W wx → Calls Try.prog 17 #[.pointer (some ⟨gb, 0, none⟩), .int .i64 (-1)] wx fun e w' => ∃ q c, e = .returned (.slice q 0 c) ∧ RdI (· < w'.heap.size) w' q c [] ∧ Below wx.heap.size wx w') := fun wx h => hpv wx (hun wx h)
              have HAU : Hid (∀ wx, Below W.heap.size W wx → Calls Try.prog 18 #[.pointer (some ⟨gb, 0, none⟩), .int .i64 (-1)] wx fun e w' => ∃ q c, e = .returned (.slice q 0 c) ∧ RdI (· < w'.heap.size) w' q c [] ∧ Below wx.heap.size wx w') := fun wx h => hau wx (hun wx h)
              have hbd : Below W.heap.size W W.drew := (Below.refl _ _).drew
              have HUN : Hid (∀ wx, Below W.heap.size W wx → Below wr.heap.size wr wx) := hun
              clear hpv hau hnm hWo hun gq rq
              go_wp2
              rw [← hW]
              clear hW
              refine wp_region_in (by kernel_rfl) (fun w' => Below W.heap.size W w') ?_
              change wpIn _ _ _ _ _ _ _ _ (World.drew _)
              refine wpIn_take (i := 0) (d := (some 68)) (v := ?vqs0) (a' := ?aqs0) rfl rfl (by kernel_rfl) (by kernel_rfl) (by kernel_rfl) (fun _ _ _ h => h) (Or.inl ⟨by rfl, ?yqs0⟩) ?fqs0 ?_
              case yqs0 => (intro wq hq; go_simp; first | done | with_reducible rfl)
              case fqs0 => (go_frame; rfl)
              refine wpIn_take (i := 1) (d := (some 69)) (v := ?vqs1) (a' := ?aqs1) rfl rfl (by kernel_rfl) (by kernel_rfl) (by kernel_rfl) (fun _ _ _ h => h) (Or.inl ⟨by rfl, ?yqs1⟩) ?fqs1 ?_
              case yqs1 => (intro wq hq; go_simp; first | done | with_reducible rfl)
              case fqs1 => (go_frame; rfl)
              refine wpIn_take (i := 3) (d := (some 71)) (v := ?vqs3) (a' := ?aqs3) rfl rfl (by kernel_rfl) (by kernel_rfl) (by kernel_rfl) (fun _ _ _ h => h) (Or.inl ⟨by rfl, ?yqs3⟩) ?fqs3 ?_
              case yqs3 => (intro wq hq; go_simp; first | done | with_reducible rfl)
              case fqs3 => (go_frame; rfl)
              refine wpIn_take (i := 4) (d := (some 72)) (v := ?vqs4) (a' := ?aqs4) rfl rfl (by kernel_rfl) (by kernel_rfl) (by kernel_rfl) (fun _ _ _ h => h) (Or.inl ⟨by rfl, ?yqs4⟩) ?fqs4 ?_
              case yqs4 => (intro wq hq; obtain ⟨z1, z2, z3⟩ := HTC.out wq hq; go_simp; first | done | with_reducible rfl)
              case fqs4 => (go_frame; rfl)
              refine wpIn_do (i := 2) hbd (by kernel_rfl) rfl (by rfl) ?_
              intro K hK
              go_simp
              go_wp2_with (go_at_call 15; refine (HNM.out _ hbd).mono ?_; rintro e x1 ⟨rfl, y1⟩; have hx1 := hbd.trans (y1.mono hbd.size))
              refine wpIn_take (i := 5) (d := (some 73)) (v := ?vqs5) (a' := ?aqs5) rfl rfl (by kernel_rfl) (by kernel_rfl) (by kernel_rfl) (fun _ _ _ h => h) (Or.inl ⟨by rfl, ?yqs5⟩) ?fqs5 ?_
              case yqs5 => (intro wq hq; go_simp; first | done | with_reducible rfl)
              case fqs5 => (go_frame; rfl)
              refine wpIn_take (i := 6) (d := (some 74)) (v := ?vqs6) (a' := ?aqs6) rfl rfl (by kernel_rfl) (by kernel_rfl) (by kernel_rfl) (fun _ _ _ h => h) (Or.inl ⟨by rfl, ?yqs6⟩) ?fqs6 ?_
              case yqs6 => (intro wq hq; go_simp; first | done | with_reducible rfl)
              case fqs6 => (go_frame; rfl)
              refine wpIn_take (i := 7) (d := (some 75)) (v := ?vqs7) (a' := ?aqs7) rfl rfl (by kernel_rfl) (by kernel_rfl) (by kernel_rfl) (fun _ _ _ h => h) (Or.inl ⟨by rfl, ?yqs7⟩) ?fqs7 ?_
              case yqs7 => (intro wq hq; go_simp; first | done | with_reducible rfl)
              case fqs7 => (go_frame; rfl)
              refine wpIn_take (i := 8) (d := (some 76)) (v := ?vqs8) (a' := ?aqs8) rfl rfl (by kernel_rfl) (by kernel_rfl) (by kernel_rfl) (fun _ _ _ h => h) (Or.inl ⟨by rfl, ?yqs8⟩) ?fqs8 ?_
              case yqs8 => (intro wq hq; go_simp; first | done | with_reducible rfl)
              case fqs8 => (go_frame; rfl)
              refine wpIn_take (i := 10) (d := (some 78)) (v := ?vqs10) (a' := ?aqs10) rfl rfl (by kernel_rfl) (by kernel_rfl) (by kernel_rfl) (fun _ _ _ h => h) (Or.inl ⟨by rfl, ?yqs10⟩) ?fqs10 ?_
              case yqs10 => (intro wq hq; go_simp; first | done | with_reducible rfl)
              case fqs10 => (go_frame; rfl)
              refine wpIn_take (i := 11) (d := (some 79)) (v := ?vqs11) (a' := ?aqs11) rfl rfl (by kernel_rfl) (by kernel_rfl) (by kernel_rfl) (fun _ _ _ h => h) (Or.inl ⟨by rfl, ?yqs11⟩) ?fqs11 ?_
              case yqs11 => (intro wq hq; obtain ⟨z1, z2, z3⟩ := HTC.out wq hq; go_simp; first | done | with_reducible rfl)
              case fqs11 => (go_frame; rfl)
              refine wpIn_do (i := 9) hx1 (by kernel_rfl) rfl (by rfl) ?_
              intro K hK
              go_simp
              go_wp2_with (go_at_call 17; refine (HPV.out _ hx1).mono ?_; rintro e x2 ⟨q2, c2, rfl, s2, y2⟩; have hx2 := hx1.trans (y2.mono hx1.size))
              refine wpIn_do (i := 12) hx2 (by kernel_rfl) rfl (by rfl) ?_
              intro K hK
              go_simp
              go_wp2_with (go_at_call 16; refine (HIA.out _ q2 c2 hx2 s2).mono ?_; rintro e x3 ⟨rfl, y3⟩; have hx3 := hx2.trans (y3.mono hx2.size))
              refine wpIn_take (i := 13) (d := (some 81)) (v := ?vqs13) (a' := ?aqs13) rfl rfl (by kernel_rfl) (by kernel_rfl) (by kernel_rfl) (fun _ _ _ h => h) (Or.inl ⟨by rfl, ?yqs13⟩) ?fqs13 ?_
              case yqs13 => (intro wq hq; go_simp; first | done | with_reducible rfl)
              case fqs13 => (go_frame; rfl)
              refine wpIn_take (i := 14) (d := (some 82)) (v := ?vqs14) (a' := ?aqs14) rfl rfl (by kernel_rfl) (by kernel_rfl) (by kernel_rfl) (fun _ _ _ h => h) (Or.inl ⟨by rfl, ?yqs14⟩) ?fqs14 ?_
              case yqs14 => (intro wq hq; go_simp; first | done | with_reducible rfl)
              case fqs14 => (go_frame; rfl)
              refine wpIn_take (i := 15) (d := (some 83)) (v := ?vqs15) (a' := ?aqs15) rfl rfl (by kernel_rfl) (by kernel_rfl) (by kernel_rfl) (fun _ _ _ h => h) (Or.inl ⟨by rfl, ?yqs15⟩) ?fqs15 ?_
              case yqs15 => (intro wq hq; go_simp; first | done | with_reducible rfl)
              case fqs15 => (go_frame; rfl)
              refine wpIn_take (i := 16) (d := (some 84)) (v := ?vqs16) (a' := ?aqs16) rfl rfl (by kernel_rfl) (by kernel_rfl) (by kernel_rfl) (fun _ _ _ h => h) (Or.inl ⟨by rfl, ?yqs16⟩) ?fqs16 ?_
              case yqs16 => (intro wq hq; go_simp; first | done | with_reducible rfl)
              case fqs16 => (go_frame; rfl)
              refine wpIn_take (i := 17) (d := (some 85)) (v := ?vqs17) (a' := ?aqs17) rfl rfl (by kernel_rfl) (by kernel_rfl) (by kernel_rfl) (fun _ _ _ h => h) (Or.inl ⟨by rfl, ?yqs17⟩) ?fqs17 ?_
              case yqs17 => (intro wq hq; go_simp; first | done | with_reducible rfl)
              case fqs17 => (go_frame; rfl)
              refine wpIn_take (i := 19) (d := (some 87)) (v := ?vqs19) (a' := ?aqs19) rfl rfl (by kernel_rfl) (by kernel_rfl) (by kernel_rfl) (fun _ _ _ h => h) (Or.inl ⟨by rfl, ?yqs19⟩) ?fqs19 ?_
              case yqs19 => (intro wq hq; go_simp; first | done | with_reducible rfl)
              case fqs19 => (go_frame; rfl)
              refine wpIn_take (i := 20) (d := (some 88)) (v := ?vqs20) (a' := ?aqs20) rfl rfl (by kernel_rfl) (by kernel_rfl) (by kernel_rfl) (fun _ _ _ h => h) (Or.inl ⟨by rfl, ?yqs20⟩) ?fqs20 ?_
              case yqs20 => (intro wq hq; obtain ⟨z1, z2, z3⟩ := HTC.out wq hq; go_simp; first | done | with_reducible rfl)
              case fqs20 => (go_frame; rfl)
              refine wpIn_do (i := 18) hx3 (by kernel_rfl) rfl (by rfl) ?_
              intro K hK
              go_simp
              go_wp2_with (go_at_call 18; refine (HAU.out _ hx3).mono ?_; rintro e x4 ⟨q4, c4, rfl, s4, y4⟩; have hx4 := hx3.trans (y4.mono hx3.size))
              refine wpIn_do (i := 21) hx4 (by kernel_rfl) rfl (by rfl) ?_
              intro K hK
              go_simp
              go_wp2_with (go_at_call 16; refine (HIB.out _ q4 c4 hx4 s4).mono ?_; rintro e x5 ⟨rfl, y5⟩; have hx5 := hx4.trans (y5.mono hx4.size))
              refine wpIn_take (i := 22) (d := (some 90)) (v := ?vqs22) (a' := ?aqs22) rfl rfl (by kernel_rfl) (by kernel_rfl) (by kernel_rfl) (fun _ _ _ h => h) (Or.inl ⟨by rfl, ?yqs22⟩) ?fqs22 ?_
              case yqs22 => (intro wq hq; go_simp; first | done | with_reducible rfl)
              case fqs22 => (go_frame; rfl)
              refine wpIn_take (i := 23) (d := (some 91)) (v := ?vqs23) (a' := ?aqs23) rfl rfl (by kernel_rfl) (by kernel_rfl) (by kernel_rfl) (fun _ _ _ h => h) (Or.inl ⟨by rfl, ?yqs23⟩) ?fqs23 ?_
              case yqs23 => (intro wq hq; go_simp; first | done | with_reducible rfl)
              case fqs23 => (go_frame; rfl)
              refine wpIn_done hx5 (by kernel_rfl) ?_ _
              go_wp2
              go_roundw
              case rel => exact ⟨0 + 1, by omega, congrArg (Value.int .i64) (by omega), bo.below (HUN.out _ hx5), hbw.trans ((HUN.out _ hx5).mono hz)⟩
              case measure => simp [intOf]; try omega
            · have ei : ((T.length + 1 : Nat) : Int) - 1 = (T.length : Int) := by omega
              rw [ei]
              clear ei
              have hpv := fun wx (h : Below wr.heap.size wr wx) => prev_rd (T.length : Int) wx (gq.below h) HG.out hTl
              have hau := fun wx (h : Below wr.heap.size wr wx) => auth_rd (T.length : Int) wx (gq.below h) HG.out hTl
              have hnm := fun wx (h : Below wr.heap.size wr wx) => name_any (T.length : Int) wx (gq.below h) hTl
              rw [thAt_out (by omega)] at hpv hau hnm
              clear hall hin hlt
              obtain ⟨W, hW⟩ : ∃ W, W = wr.alloc (.cells #[.string ⟨#[]⟩, .slice none 0 0, .slice none 0 0] 37) := ⟨_, rfl⟩
              have hWb : Below wr.heap.size wr W := by rw [hW]; exact (Below.refl _ _).alloc (Nat.le_refl _) _
              have hWl : wr.heap.size < W.heap.size := by rw [hW]; simp
              have hWo : W.heap[wr.heap.size]? = some (.cells #[.string ⟨#[]⟩, .slice none 0 0, .slice none 0 0] 37) := by rw [hW]; exact heap_alloc_new _ _
              have hun : ∀ wx, Below W.heap.size W wx → Below wr.heap.size wr wx := fun wx h => hWb.trans (h.mono hWb.size)
              have HTC : Hid (∀ wx, Below W.heap.size W wx → wx.cell? ⟨wr.heap.size, 0, none⟩ = some (.string ⟨#[]⟩) ∧ wx.cell? ⟨wr.heap.size, 1, none⟩ = some (.slice none 0 0) ∧ wx.cell? ⟨wr.heap.size, 2, none⟩ = some (.slice none 0 0)) := fun wx hx => by
                have ho := (hx.block wr.heap.size hWl).trans hWo
                exact ⟨cell_row (cur := [_, _, _]) ho 0 _ rfl, cell_row (cur := [_, _, _]) ho 1 _ rfl, cell_row (cur := [_, _, _]) ho 2 _ rfl⟩
              have HIA : Hid (∀ wx q c, Below W.heap.size W wx → RdI (· < wx.heap.size) wx q c [] → Calls Try.prog 16 #[.slice q 0 c, .slice none 0 0] wx fun e w' => e = .returned (.bool true) ∧ Below wx.heap.size wx w') := fun wx q c hx r => ints_same [] q none c 0 wx r ((fun wx _ => Rd.nil (Value.int .i64) (· < wx.heap.size) wx none 0) wx hx) (by first | omega | simp)
              have HIB : Hid (∀ wx q c, Below W.heap.size W wx → RdI (· < wx.heap.size) wx q c [] → Calls Try.prog 16 #[.slice q 0 c, .slice none 0 0] wx fun e w' => e = .returned (.bool true) ∧ Below wx.heap.size wx w') := fun wx q c hx r => ints_same [] q none c 0 wx r ((fun wx _ => Rd.nil (Value.int .i64) (· < wx.heap.size) wx none 0) wx hx) (by first | omega | simp)
              have HNM : Hid (∀ wx, Below W.heap.size W wx → Calls Try.prog 15 #[.pointer (some ⟨gb, 0, none⟩), .int .i64 (T.length : Int)] wx fun e w' => e = .returned (.string ⟨#[]⟩) ∧ Below wx.heap.size wx w') := fun wx h => hnm wx (hun wx h)
              have HPV : Hid (∀ wx, Below W.heap.size W wx → Calls Try.prog 17 #[.pointer (some ⟨gb, 0, none⟩), .int .i64 (T.length : Int)] wx fun e w' => ∃ q c, e = .returned (.slice q 0 c) ∧ RdI (· < w'.heap.size) w' q c [] ∧ Below wx.heap.size wx w') := fun wx h => hpv wx (hun wx h)
              have HAU : Hid (∀ wx, Below W.heap.size W wx → Calls Try.prog 18 #[.pointer (some ⟨gb, 0, none⟩), .int .i64 (T.length : Int)] wx fun e w' => ∃ q c, e = .returned (.slice q 0 c) ∧ RdI (· < w'.heap.size) w' q c [] ∧ Below wx.heap.size wx w') := fun wx h => hau wx (hun wx h)
              have hbd : Below W.heap.size W W.drew := (Below.refl _ _).drew
              have HUN : Hid (∀ wx, Below W.heap.size W wx → Below wr.heap.size wr wx) := hun
              clear hpv hau hnm hWo hun gq rq
              go_wp2
              rw [← hW]
              clear hW
              refine wp_region_in (by kernel_rfl) (fun w' => Below W.heap.size W w') ?_
              change wpIn _ _ _ _ _ _ _ _ (World.drew _)
              refine wpIn_take (i := 0) (d := (some 68)) (v := ?vqu0) (a' := ?aqu0) rfl rfl (by kernel_rfl) (by kernel_rfl) (by kernel_rfl) (fun _ _ _ h => h) (Or.inl ⟨by rfl, ?yqu0⟩) ?fqu0 ?_
              case yqu0 => (intro wq hq; go_simp; first | done | with_reducible rfl)
              case fqu0 => (go_frame; rfl)
              refine wpIn_take (i := 1) (d := (some 69)) (v := ?vqu1) (a' := ?aqu1) rfl rfl (by kernel_rfl) (by kernel_rfl) (by kernel_rfl) (fun _ _ _ h => h) (Or.inl ⟨by rfl, ?yqu1⟩) ?fqu1 ?_
              case yqu1 => (intro wq hq; go_simp; first | done | with_reducible rfl)
              case fqu1 => (go_frame; rfl)
              refine wpIn_take (i := 3) (d := (some 71)) (v := ?vqu3) (a' := ?aqu3) rfl rfl (by kernel_rfl) (by kernel_rfl) (by kernel_rfl) (fun _ _ _ h => h) (Or.inl ⟨by rfl, ?yqu3⟩) ?fqu3 ?_
              case yqu3 => (intro wq hq; go_simp; first | done | with_reducible rfl)
              case fqu3 => (go_frame; rfl)
              refine wpIn_take (i := 4) (d := (some 72)) (v := ?vqu4) (a' := ?aqu4) rfl rfl (by kernel_rfl) (by kernel_rfl) (by kernel_rfl) (fun _ _ _ h => h) (Or.inl ⟨by rfl, ?yqu4⟩) ?fqu4 ?_
              case yqu4 => (intro wq hq; obtain ⟨z1, z2, z3⟩ := HTC.out wq hq; go_simp; first | done | with_reducible rfl)
              case fqu4 => (go_frame; rfl)
              refine wpIn_do (i := 2) hbd (by kernel_rfl) rfl (by rfl) ?_
              intro K hK
              go_simp
              go_wp2_with (go_at_call 15; refine (HNM.out _ hbd).mono ?_; rintro e x1 ⟨rfl, y1⟩; have hx1 := hbd.trans (y1.mono hbd.size))
              refine wpIn_take (i := 5) (d := (some 73)) (v := ?vqu5) (a' := ?aqu5) rfl rfl (by kernel_rfl) (by kernel_rfl) (by kernel_rfl) (fun _ _ _ h => h) (Or.inl ⟨by rfl, ?yqu5⟩) ?fqu5 ?_
              case yqu5 => (intro wq hq; go_simp; first | done | with_reducible rfl)
              case fqu5 => (go_frame; rfl)
              refine wpIn_take (i := 6) (d := (some 74)) (v := ?vqu6) (a' := ?aqu6) rfl rfl (by kernel_rfl) (by kernel_rfl) (by kernel_rfl) (fun _ _ _ h => h) (Or.inl ⟨by rfl, ?yqu6⟩) ?fqu6 ?_
              case yqu6 => (intro wq hq; go_simp; first | done | with_reducible rfl)
              case fqu6 => (go_frame; rfl)
              refine wpIn_take (i := 7) (d := (some 75)) (v := ?vqu7) (a' := ?aqu7) rfl rfl (by kernel_rfl) (by kernel_rfl) (by kernel_rfl) (fun _ _ _ h => h) (Or.inl ⟨by rfl, ?yqu7⟩) ?fqu7 ?_
              case yqu7 => (intro wq hq; go_simp; first | done | with_reducible rfl)
              case fqu7 => (go_frame; rfl)
              refine wpIn_take (i := 8) (d := (some 76)) (v := ?vqu8) (a' := ?aqu8) rfl rfl (by kernel_rfl) (by kernel_rfl) (by kernel_rfl) (fun _ _ _ h => h) (Or.inl ⟨by rfl, ?yqu8⟩) ?fqu8 ?_
              case yqu8 => (intro wq hq; go_simp; first | done | with_reducible rfl)
              case fqu8 => (go_frame; rfl)
              refine wpIn_take (i := 10) (d := (some 78)) (v := ?vqu10) (a' := ?aqu10) rfl rfl (by kernel_rfl) (by kernel_rfl) (by kernel_rfl) (fun _ _ _ h => h) (Or.inl ⟨by rfl, ?yqu10⟩) ?fqu10 ?_
              case yqu10 => (intro wq hq; go_simp; first | done | with_reducible rfl)
              case fqu10 => (go_frame; rfl)
              refine wpIn_take (i := 11) (d := (some 79)) (v := ?vqu11) (a' := ?aqu11) rfl rfl (by kernel_rfl) (by kernel_rfl) (by kernel_rfl) (fun _ _ _ h => h) (Or.inl ⟨by rfl, ?yqu11⟩) ?fqu11 ?_
              case yqu11 => (intro wq hq; obtain ⟨z1, z2, z3⟩ := HTC.out wq hq; go_simp; first | done | with_reducible rfl)
              case fqu11 => (go_frame; rfl)
              refine wpIn_do (i := 9) hx1 (by kernel_rfl) rfl (by rfl) ?_
              intro K hK
              go_simp
              go_wp2_with (go_at_call 17; refine (HPV.out _ hx1).mono ?_; rintro e x2 ⟨q2, c2, rfl, s2, y2⟩; have hx2 := hx1.trans (y2.mono hx1.size))
              refine wpIn_do (i := 12) hx2 (by kernel_rfl) rfl (by rfl) ?_
              intro K hK
              go_simp
              go_wp2_with (go_at_call 16; refine (HIA.out _ q2 c2 hx2 s2).mono ?_; rintro e x3 ⟨rfl, y3⟩; have hx3 := hx2.trans (y3.mono hx2.size))
              refine wpIn_take (i := 13) (d := (some 81)) (v := ?vqu13) (a' := ?aqu13) rfl rfl (by kernel_rfl) (by kernel_rfl) (by kernel_rfl) (fun _ _ _ h => h) (Or.inl ⟨by rfl, ?yqu13⟩) ?fqu13 ?_
              case yqu13 => (intro wq hq; go_simp; first | done | with_reducible rfl)
              case fqu13 => (go_frame; rfl)
              refine wpIn_take (i := 14) (d := (some 82)) (v := ?vqu14) (a' := ?aqu14) rfl rfl (by kernel_rfl) (by kernel_rfl) (by kernel_rfl) (fun _ _ _ h => h) (Or.inl ⟨by rfl, ?yqu14⟩) ?fqu14 ?_
              case yqu14 => (intro wq hq; go_simp; first | done | with_reducible rfl)
              case fqu14 => (go_frame; rfl)
              refine wpIn_take (i := 15) (d := (some 83)) (v := ?vqu15) (a' := ?aqu15) rfl rfl (by kernel_rfl) (by kernel_rfl) (by kernel_rfl) (fun _ _ _ h => h) (Or.inl ⟨by rfl, ?yqu15⟩) ?fqu15 ?_
              case yqu15 => (intro wq hq; go_simp; first | done | with_reducible rfl)
              case fqu15 => (go_frame; rfl)
              refine wpIn_take (i := 16) (d := (some 84)) (v := ?vqu16) (a' := ?aqu16) rfl rfl (by kernel_rfl) (by kernel_rfl) (by kernel_rfl) (fun _ _ _ h => h) (Or.inl ⟨by rfl, ?yqu16⟩) ?fqu16 ?_
              case yqu16 => (intro wq hq; go_simp; first | done | with_reducible rfl)
              case fqu16 => (go_frame; rfl)
              refine wpIn_take (i := 17) (d := (some 85)) (v := ?vqu17) (a' := ?aqu17) rfl rfl (by kernel_rfl) (by kernel_rfl) (by kernel_rfl) (fun _ _ _ h => h) (Or.inl ⟨by rfl, ?yqu17⟩) ?fqu17 ?_
              case yqu17 => (intro wq hq; go_simp; first | done | with_reducible rfl)
              case fqu17 => (go_frame; rfl)
              refine wpIn_take (i := 19) (d := (some 87)) (v := ?vqu19) (a' := ?aqu19) rfl rfl (by kernel_rfl) (by kernel_rfl) (by kernel_rfl) (fun _ _ _ h => h) (Or.inl ⟨by rfl, ?yqu19⟩) ?fqu19 ?_
              case yqu19 => (intro wq hq; go_simp; first | done | with_reducible rfl)
              case fqu19 => (go_frame; rfl)
              refine wpIn_take (i := 20) (d := (some 88)) (v := ?vqu20) (a' := ?aqu20) rfl rfl (by kernel_rfl) (by kernel_rfl) (by kernel_rfl) (fun _ _ _ h => h) (Or.inl ⟨by rfl, ?yqu20⟩) ?fqu20 ?_
              case yqu20 => (intro wq hq; obtain ⟨z1, z2, z3⟩ := HTC.out wq hq; go_simp; first | done | with_reducible rfl)
              case fqu20 => (go_frame; rfl)
              refine wpIn_do (i := 18) hx3 (by kernel_rfl) rfl (by rfl) ?_
              intro K hK
              go_simp
              go_wp2_with (go_at_call 18; refine (HAU.out _ hx3).mono ?_; rintro e x4 ⟨q4, c4, rfl, s4, y4⟩; have hx4 := hx3.trans (y4.mono hx3.size))
              refine wpIn_do (i := 21) hx4 (by kernel_rfl) rfl (by rfl) ?_
              intro K hK
              go_simp
              go_wp2_with (go_at_call 16; refine (HIB.out _ q4 c4 hx4 s4).mono ?_; rintro e x5 ⟨rfl, y5⟩; have hx5 := hx4.trans (y5.mono hx4.size))
              refine wpIn_take (i := 22) (d := (some 90)) (v := ?vqu22) (a' := ?aqu22) rfl rfl (by kernel_rfl) (by kernel_rfl) (by kernel_rfl) (fun _ _ _ h => h) (Or.inl ⟨by rfl, ?yqu22⟩) ?fqu22 ?_
              case yqu22 => (intro wq hq; go_simp; first | done | with_reducible rfl)
              case fqu22 => (go_frame; rfl)
              refine wpIn_take (i := 23) (d := (some 91)) (v := ?vqu23) (a' := ?aqu23) rfl rfl (by kernel_rfl) (by kernel_rfl) (by kernel_rfl) (fun _ _ _ h => h) (Or.inl ⟨by rfl, ?yqu23⟩) ?fqu23 ?_
              case yqu23 => (intro wq hq; go_simp; first | done | with_reducible rfl)
              case fqu23 => (go_frame; rfl)
              refine wpIn_done hx5 (by kernel_rfl) ?_ _
              go_wp2
              go_roundw
              case rel => exact ⟨T.length + 1 + 1, by omega, congrArg (Value.int .i64) (by omega), bo.below (HUN.out _ hx5), hbw.trans ((HUN.out _ hx5).mono hz)⟩
              case measure => simp [intOf]; try omega
        · obtain rfl : k = T.length + 2 := by omega
          have ei : ((T.length + 2 : Nat) : Int) - 1 = (T.length : Int) + 1 := by omega
          rw [ei]
          have HQ : Hid (Gq O1 wr (some ⟨gb, 0, none⟩) T) := gq
          have HRQ : Hid (Rp R1 wr hb T) := rq
          clear hall gq rq ei
          go_wp2
          go_loop [10] (fun i => ∃ j : Nat, j ≤ f.length ∧ i = .int .i64 j) (fun i => f.length - (intOf i).toNat)
          case atStart => exact ⟨0, Nat.zero_le _, rfl⟩
          case round =>
            obtain ⟨j, hj, rfl⟩ := hrel
            by_cases hlt2 : j < f.length
            · obtain ⟨ad, rfl, _, hcell⟩ := (HR.out.below hbw).at j ⟨#[]⟩ hlt2
              have hsx := HFS.out _ (getD_inm (d := ⟨#[]⟩) hlt2)
              generalize f.getD j ⟨#[]⟩ = x at *
              have hp1 := place_any x wr HQ.out (by omega)
              have hp2 := rplace_any x wr HRQ.out hTl
              generalize plZ T x = z at *
              generalize inn (nms T) x = bz at *
              cases bz
              all_goals
                go_wp2_with (first
                  | (go_at_call 19; refine hp1.mono ?_; rintro e w' ⟨rfl, rfl⟩)
                  | (go_at_call 20; refine hp2.mono ?_; rintro e w' ⟨rfl, rfl⟩))
                go_round
                case rel => exact ⟨j + 1, by omega, by go_num⟩
                case measure => simp [intOf]; omega
            · obtain rfl : j = f.length := by omega
              have haw := awake_any wr
              go_wp2_with (first
                | (go_at_call 21; refine haw.mono ?_; rintro e w8 ⟨rfl, hb8⟩))
              go_ret
              exact ⟨rfl, hbw.trans (hb8.mono hz)⟩
end Go.Proofs.Ytbjeaogblpjpeaa

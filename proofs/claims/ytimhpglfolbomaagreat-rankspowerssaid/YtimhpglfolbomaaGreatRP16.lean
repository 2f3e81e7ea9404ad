/-
  The statements' own same, of ranks: by a contract.
  The examples of ranks hold: by a contract.
  The document's event of a type and a key, its text under a key, a user's membership: by contracts.
  The document's text under a key of an event's content, and a user's membership: by contracts.
  The document's Powers: by a contract.
  How many of so many values are left (the law of events), by a contract.
  Sixteen cells that are written one by one.
  Which events are small, by a contract.
  Which events may change who may do what: the law, walked.
  A value of JSON that came in, as the walks read it.
  Whether no two of a row are the same, by a set: a contract.
  A map or list that is being made, a key and a value after another: what lies in memory.
  A key and a value more, by a contract: what told's own function does.
  The small parts of an event's shape and JSON, by contracts: within, digest, text, number.
  Lists of texts, and maps of signatures, as JSON: by contracts.
  A map of names to values of JSON, as the reader of events has it.
  The reader of events: what it has left, and how it takes a value: by contracts.
-/
import Derived.Test.YtimhpglfolbomaaGreatRP15
import Derived.Deep.QuietTactic
import Derived.Test.YtimhpglfolbomaaGreatChecked
import Derived.ProofKit
import Derived.SizedLaws
import Derived.SliceStrings
import Derived.Laws.OwnMore
set_option maxRecDepth 100000
set_option maxHeartbeats 16000000
namespace Go.Proofs.YtimhpglfolbomaaGreat.Od
open Go.RowKit Go.Maps
theorem take_ext {a b : List Int} (h : a.length = b.length) : (∀ k, k < a.length → a.getD k 0 = b.getD k 0) → a = b := by
 intro hk
 apply List.ext_getElem h
 intro i h1 h2
 have := hk i h1
 rw [getD_in h1, getD_in h2] at this
 exact this
theorem same12_any {O O' : Nat → Prop} (a b : List Int) (p q : Option Addr) (c d : Nat) (w : World) (ra : RdI O w p c a) (rb : RdI O' w q d b) (ha : a.length ≤ 1000000) (_hb : b.length ≤ 1000000) :
    Calls Tryz.prog 12 #[.slice p a.length c, .slice q b.length d] w fun e w' => e = .returned (.bool (decide (a = b))) ∧ Keep (fun _ => False) w w' := by
 by_cases hab : a.length = b.length
 · have HX : Hid ((∀ k, k < a.length → a.getD k 0 = b.getD k 0) → a = b) := take_ext hab
   rw [← hab]
   obtain ⟨n, hn⟩ : ∃ n, a.length = n := ⟨_, rfl⟩
   have HN : Hid (a.length = n) := hn
   have HN' : Hid (b.length = n) := hab.symm.trans hn
   rw [hn] at ha HX ⊢
   clear hn hab
   go_enter Tryz.func12, Tryz.ntmps12
   go_wp2
   go_loopw [5] (fun i wr => ∃ k : Nat, k ≤ n ∧ i = .int .i64 k ∧ Keep (fun _ => False) w wr ∧ wr.heap = w.heap ∧ Hid (∀ j, j < k → a.getD j 0 = b.getD j 0)) (fun i _ => n - (intOf i).toNat)
   case atStart => exact ⟨0, Nat.zero_le _, rfl, Keep.refl _ _, rfl, fun j hj => absurd hj (by omega)⟩
   case round =>
    obtain ⟨k, hk, rfl, hkp, hheap, HA⟩ := hrel
    have hS : ∀ O : Nat → Prop, Same O w wr := fun O k _ => by rw [hheap]
    by_cases hlt : k < n
    · obtain ⟨ad, rfl, _, hca⟩ := (ra.same (hS O)).at k 0 (by rw [HN.out]; exact hlt)
      obtain ⟨ad', rfl, _, hcb⟩ := (rb.same (hS O')).at k 0 (by rw [HN'.out]; exact hlt)
      have HE : Hid (a = b → a.getD k 0 = b.getD k 0) := fun h => by rw [h]
      have HA2 : Hid (a.getD k 0 = b.getD k 0 → ∀ j, j < k + 1 → a.getD j 0 = b.getD j 0) := fun h j hj => by
       rcases Nat.lt_or_ge j k with h' | h'
       · exact HA.out j h'
       · rw [show j = k by omega]; exact h
      have hk1 : ∀ (wx : World) (k : Nat), Keep (fun _ => False) w wx → Keep (fun _ => False) w (wx.drewN k) := fun wx k h => ⟨h.os, h.tape, h.output, h.size, h.block⟩
      generalize a.getD k 0 = x at *
      generalize b.getD k 0 = y at *
      clear hS HA
      have HHp : Hid (wr.heap = w.heap) := hheap
      clear hheap
      by_cases e : x = y
      · subst e
        have HB := HA2.out rfl
        have HB' : Hid _ := HB
        clear HA2 HE HB
        go_wp2_with fail
        go_quiet (fail)
        go_wp2_with fail
        go_roundw
        case rel => exact ⟨k + 1, by omega, by go_num, hk1 _ _ hkp, HHp.out, HB'⟩
        case measure => simp [intOf]; omega
      · have e' : (x == y) = false := by simpa using e
        have HF : Hid (¬ a = b) := fun h => e (HE.out h)
        clear HA2 HE
        go_wp2_with fail
        go_quiet (fail)
        go_wp2_with fail
        go_ret
        exact ⟨ret_bool (decide_eq_false HF.out).symm, hk1 _ _ hkp⟩
    · obtain rfl : k = n := by omega
      have HF : Hid (a = b) := HX.out HA.out
      clear HX HA
      go_wp2_with fail
      go_ret
      exact ⟨ret_bool (decide_eq_true HF.out).symm, hkp⟩
 · have HF : Hid (¬ a = b) := fun h => hab (by rw [h])
   have hab' : ((a.length : Int) == (b.length : Int)) = false := by rw [beq_eq_false_iff_ne]; omega
   generalize a.length = n at *
   generalize b.length = m at *
   go_enter Tryz.func12, Tryz.ntmps12
   go_wp2
   go_ret
   exact ⟨ret_bool (decide_eq_false HF.out).symm, Keep.refl _ _⟩
end Go.Proofs.YtimhpglfolbomaaGreat.Od
namespace Go.Proofs.YtimhpglfolbomaaGreat.Od
open Go.RowKit Go.Maps Go.Shelf
theorem smp_szs : SzEs smpP := ⟨fun e he => by
 have h : e = smpC ∨ e = smpX ∨ e = smpY := by simpa using he
 rcases h with rfl | rfl | rfl
 all_goals exact ⟨by decide, by decide, by decide, by decide, by decide, by kernel_rfl, by decide, (fun x hx => by cases hx), by decide, (fun x hx => by cases hx), by decide, (fun x hx => by cases hx)⟩⟩
theorem pa_new {w : World} {p : Pa} {q : Pq} (z : Array Value) (h : IsPa (· < w.heap.size) w p q) : Below w.heap.size w ((w.alloc (.cells z 27)).setRow w.heap.size (cellsPa p q).toArray) ∧ IsVP ((w.alloc (.cells z 27)).setRow w.heap.size (cellsPa p q).toArray) w.heap.size p q := by
 have hk := keep_setRow (w.alloc (.cells z 27)) w.heap.size (cellsPa p q).toArray
 have hb : Below w.heap.size w ((w.alloc (.cells z 27)).setRow w.heap.size (cellsPa p q).toArray) := ((Below.refl _ _).alloc (Nat.le_refl _) _).trans (hk.below (by simp) fun k hk e => by unfold OneP at e; omega)
 exact ⟨hb, setRow_heap _ _ _ _ _ _ (newP _), h.below hb⟩
theorem sample_op (w : World) : Calls Tryz.prog 33 #[] w fun e w' => (∃ L : List Value, e = .returned (.agg L.toArray) ∧ ∃ q, Hid (L = cellsPa smpP q) ∧ IsPa (· < w'.heap.size) w' smpP q) ∧ Below w.heap.size w w' :=
 (sample_any w).mono fun _ _ ⟨q, he, hp, hb⟩ => ⟨⟨_, he, q, rfl, hp⟩, hb⟩
theorem one_Pa (p : Pa) (q : Pq) : (cellsPa p q).toArray.all (·.oneCell') = true := by simp [cellsPa, Value.oneCell']
theorem awake12_any (w : World) : Calls Tryz.prog 15 #[] w fun x w' => x = .returned (.bool true) ∧ Below w.heap.size w w' := by
 go_enter Tryz.func15, Tryz.ntmps15
 go_upto_region 2 with (first
  | (go_at_call 33; refine (sample_op _).mono ?_; rintro x w1 ⟨⟨L, rfl, q, HL, hp⟩, hb1⟩)
  | (refine wpList_store_row rfl 27 _ _ rfl w1.heap.size 27 _ L.toArray rfl rfl (newP _) (by rw [HL.out]; exact infoPa) (by rw [HL.out]; rfl) (by rw [HL.out]; exact one_Pa _ _) ?_))
 have hPN := pa_new (p := smpP) (q := q) #[.slice none 0 0, .slice none 0 0, .slice none 0 0, .slice none 0 0, .slice none 0 0] hp
 rw [← HL.out] at hPN
 generalize (w1.alloc (.cells #[.slice none 0 0, .slice none 0 0, .slice none 0 0, .slice none 0 0, .slice none 0 0] 27)).setRow w1.heap.size L.toArray = W1 at hPN
 obtain ⟨hbP, hVP⟩ := hPN
 have hW0 : Below w.heap.size w W1 := belowP hb1 hbP
 have HV : Hid (∀ X, Below W1.heap.size W1 X → IsVP X w1.heap.size smpP q) := fun X hX => hVP.below hX
 obtain ⟨eb, eo, q1, hqe, hqr⟩ := hVP.pa.evs.2 1 (by decide)
 have hec : 3 ≤ q.ce := hVP.pa.evs.1
 have HEV : Hid (∀ X, Below W1.heap.size W1 X → ∀ j, j < 3 → ∃ q', X.rangeAt eb (eo + j * 16) (cellsE (smpP.evs.getD j Ev.zero) q') ∧ IsE (· < X.heap.size) X (smpP.evs.getD j Ev.zero) q') := fun X hX j hj => by
  obtain ⟨b, o, q', h1, _, h3, h4⟩ := (HV.out X hX).pa.evs.2 j hj
  rw [hqe] at h1
  cases h1
  exact ⟨q', h3, h4⟩
 have HEX : Hid (∀ X, Below W1.heap.size W1 X → ∃ LX : List Value, Hid ((Instr.loadAt 39 (.pointer (some ⟨eb, eo + 16, none⟩))).run Tryz.prog X = .ok (.agg LX.toArray) X ∧ Calls Tryz.prog 17 #[.agg LX.toArray] X fun e w' => e = .returned (.bool true) ∧ Below X.heap.size X w')) := fun X hX => by
  obtain ⟨q', h3, h4⟩ := HEV.out X hX 1 (by decide)
  refine ⟨cellsE smpX q', run_loadAt_mid X eb (eo + 16) 39 (cellsE smpX q') _ h3 Tryz.underlying39 rfl infoE, ?_⟩
  have := powers_any h4 (fun _ h => h) (smp_szs.ev smpX (by simp))
  rw [show powersT (smpP.evs.getD 1 Ev.zero) = true from smp_px] at this
  exact this
 have HEC : Hid (∀ X, Below W1.heap.size W1 X → ∃ LX : List Value, Hid ((Instr.loadAt 39 (.pointer (some ⟨eb, eo, none⟩))).run Tryz.prog X = .ok (.agg LX.toArray) X ∧ Calls Tryz.prog 17 #[.agg LX.toArray] X fun e w' => e = .returned (.bool false) ∧ Below X.heap.size X w')) := fun X hX => by
  obtain ⟨q', h3, h4⟩ := HEV.out X hX 0 (by decide)
  rw [show eo + 0 * 16 = eo by omega] at h3
  refine ⟨cellsE smpC q', run_loadAt_mid X eb eo 39 (cellsE smpC q') _ h3 Tryz.underlying39 rfl infoE, ?_⟩
  have := powers_any h4 (fun _ h => h) (smp_szs.ev smpC (by simp))
  rw [show powersT (smpP.evs.getD 0 Ev.zero) = false from smp_pc] at this
  exact this
 have HC1 : Hid (∀ X, Below W1.heap.size W1 X → X.cell? ⟨w1.heap.size, 1, none⟩ = some (.slice (some ⟨eb, eo, none⟩) 3 q.ce)) := fun X hX => by
  have := (HV.out X hX).c1
  rw [hqe] at this
  exact this
 have HLD : Hid (∀ X, Below W1.heap.size W1 X → (Instr.loadAt 27 (.pointer (some ⟨w1.heap.size, 0, none⟩))).run Tryz.prog X = .ok (.agg L.toArray) X) := fun X hX => by
  have := (HV.out X hX).load
  rw [← HL.out] at this
  exact this
 have HVA : Hid (valPa smpP q = .agg L.toArray) := by show _ = _; unfold valPa; rw [← HL.out]
 have HRI : Hid (∀ X, Below W1.heap.size W1 X → Calls Tryz.prog 10 #[.agg L.toArray] X fun e w' => e = .returned (.bool true) ∧ Below X.heap.size X w') := fun X hX => by
  have := right_any (HV.out X hX).pa smp_sz
  rw [HVA.out, smp_right] at this
  exact this
 have HBP : Hid (∀ X, Below W1.heap.size W1 X → Calls Tryz.prog 21 #[.agg L.toArray, .slice (some ⟨X.heap.size, 0, none⟩) 2 2] (X.alloc (.cells #[.int .i64 1, .int .i64 2] 3)) fun e w' => ∃ p c, e = .returned (.slice p 2 c) ∧ RdI (· < w'.heap.size) w' p c [2, 1] ∧ Below X.heap.size X w') := fun X hX => by
  have hbX : Below X.heap.size X (X.alloc (.cells #[.int .i64 1, .int .i64 2] 3)) := (Below.refl _ _).alloc (Nat.le_refl _) _
  have := byPower_ok (O := fun k => k = X.heap.size) (l := [1, 2]) (pl := some ⟨X.heap.size, 0, none⟩) (cl := 2) (HV.out _ (belowP hX hbX)).pa smp_sz smp_szs smp_right ⟨Nat.le_refl _, fun _ => ⟨_, _, rfl, rfl, fun j x hj => by
   rw [Nat.zero_add]
   exact cell_row (cur := [Value.int .i64 1, .int .i64 2]) (heap_alloc_new _ _) j _ (by rw [show [Value.int .i64 1, .int .i64 2] = ([1, 2] : List Int).map (Value.int .i64) from rfl, List.getElem?_map, hj]; rfl)⟩⟩ (fun k hk => by subst hk; simp) (by decide)
  rw [HVA.out, smp_there] at this
  refine this.mono fun e w' h => ?_
  obtain ⟨p, c, h1, h2, h3⟩ := (smp_byp h).rd
  exact ⟨p, c, h1, h2.carry (fun _ _ => rfl) fun k hk => hk.2, belowP hbX h3⟩
 have HSA : Hid (∀ X p c, RdI (· < X.heap.size) X p c [2, 1] → Calls Tryz.prog 12 #[.slice p 2 c, .slice (some ⟨X.heap.size, 0, none⟩) 2 2] (X.alloc (.cells #[.int .i64 2, .int .i64 1] 3)) fun e w' => e = .returned (.bool true) ∧ Below X.heap.size X w') := fun X p c hr => by
  have hbX : Below X.heap.size X (X.alloc (.cells #[.int .i64 2, .int .i64 1] 3)) := (Below.refl _ _).alloc (Nat.le_refl _) _
  have := same12_any (O := (· < X.heap.size)) (O' := fun k => k = X.heap.size) [2, 1] [2, 1] p (some ⟨X.heap.size, 0, none⟩) c 2 _ (hr.same (Same.of_below hbX fun _ h => h)) ⟨Nat.le_refl _, fun _ => ⟨_, _, rfl, rfl, fun j x hj => by
   rw [Nat.zero_add]
   exact cell_row (cur := [Value.int .i64 2, .int .i64 1]) (heap_alloc_new _ _) j _ (by rw [show [Value.int .i64 2, .int .i64 1] = ([2, 1] : List Int).map (Value.int .i64) from rfl, List.getElem?_map, hj]; rfl)⟩⟩ (by decide) (by decide)
  refine this.mono fun e w' h => ⟨h.1, belowP hbX (h.2.below (Nat.le_refl _) fun _ _ h => h)⟩
 have HL2 : Hid (∀ X, Below W1.heap.size W1 X → Calls Tryz.prog 19 #[.agg L.toArray, .int .i64 2] X fun e w' => e = .returned (.int .i64 100) ∧ Below X.heap.size X w') := fun X hX => by
  have := level_top (HV.out X hX).pa smp_sz smp_szs 2
  rw [HVA.out, smp_v2] at this
  exact this
 have HL1 : Hid (∀ X, Below W1.heap.size W1 X → Calls Tryz.prog 19 #[.agg L.toArray, .int .i64 1] X fun e w' => e = .returned (.int .i64 0) ∧ Below X.heap.size X w') := fun X hX => by
  have := level_top (HV.out X hX).pa smp_sz smp_szs 1
  rw [HVA.out, smp_v1] at this
  exact this
 have HNE : Hid (∀ X, Below W1.heap.size W1 X → Calls Tryz.prog 26 #[.agg L.toArray, .slice none 0 0, .int .i64 1] X fun e w' => e = .returned (.int .i64 0) ∧ Below X.heap.size X w') := fun X hX => by
  have := nearP_any (O := fun _ => False) (l := []) (pl := none) (cl := 0) (HV.out X hX).pa smp_sz (Rd.nil _ _ _ _ _) (fun _ h => h.elim) (by decide) (fun x hx => by cases hx) 1
  rw [HVA.out, smp_near] at this
  exact this
 have hcur : Below W1.heap.size W1 W1 := Below.refl _ _
 have HW0 : Hid (Below w.heap.size w W1) := hW0
 generalize q.ce = ce at *
 clear hp hb1 hbP hVP HL HV hqe HVA hW0 hqr HEV
 go_wp2_with (first
  | (refine wpList_loadK rfl 27 _ rfl w1.heap.size 0 rfl L (HLD.out _ hcur) ?_)
  | (refine wpList_load_midg (by kernel_rfl) 27 _ rfl w1.heap.size 0 rfl L (HLD.out _ hcur) ?_)
  | (go_at_call 10; refine (HRI.out _ hcur).mono ?_; rintro e w2 ⟨rfl, hb2⟩; replace hcur := belowP hcur hb2)
  | (go_at_call 21; refine (HBP.out _ hcur).mono ?_; rintro e w3 ⟨p3, c3, rfl, hr3, hb3⟩; replace hcur := belowP hcur hb3)
  | (go_at_call 12; refine (HSA.out _ p3 c3 hr3).mono ?_; rintro e w4 ⟨rfl, hb4⟩; clear hr3; replace hcur := belowP hcur hb4)
  | (go_at_call 19; refine (HL2.out _ hcur).mono ?_; rintro e w5 ⟨rfl, hb5⟩; clear HL2; replace hcur := belowP hcur hb5)
  | (go_at_call 19; refine (HL1.out _ hcur).mono ?_; rintro e w5 ⟨rfl, hb5⟩; replace hcur := belowP hcur hb5; have c1 := HC1.out _ hcur; obtain ⟨LX, HLX⟩ := HEX.out _ hcur)
  | (refine wpList_load_midg (by kernel_rfl) 39 _ rfl eb (eo + 16) rfl LX HLX.out.1 ?_)
  | (go_at_call 17; refine HLX.out.2.mono ?_; rintro e w6 ⟨rfl, hb6⟩; clear HLX; obtain ⟨LX, HLX⟩ := HEC.out _ (belowP hcur hb6); have c1 := HC1.out _ (belowP hcur hb6); clear HEX; replace hcur := belowP hcur hb6)
  | (refine wpList_load_midg (by kernel_rfl) 39 _ rfl eb eo rfl LX HLX.out.1 ?_)
  | (go_at_call 17; refine HLX.out.2.mono ?_; rintro e w8 ⟨rfl, hb8⟩; replace hcur := belowP hcur hb8)
  | (go_at_call 26; refine (HNE.out _ hcur).mono ?_; rintro e w7 ⟨rfl, hb7⟩; replace hcur := belowP hcur hb7))
 go_ret
 exact ⟨rfl, belowP HW0.out hcur⟩
end Go.Proofs.YtimhpglfolbomaaGreat.Od
namespace Go.Proofs.YtimhpglfolbomaaGreat
open Go.RowKit
theorem rtext_any {O : Nat → Prop} {w : World} {e : Ev} {p : Pt} (h : IsE O w e p) (hO : ∀ b, O b → b < w.heap.size) (hz : szJ 13 e.content = true) (s : ByteArray) :
    Calls Tryz.prog 37 #[valE e p, .string s] w fun x w' => x = .returned (.string (textT e.content s)) ∧ Below w.heap.size w w' := by
 obtain ⟨W0, hW0⟩ : ∃ W0, W0 = w.alloc (.cells (cellsE e p).toArray 39) := ⟨_, rfl⟩
 have hb0 : Below w.heap.size w W0 := by rw [hW0]; exact (Below.refl _ _).alloc (Nat.le_refl _) _
 have hX0 : W0.heap[w.heap.size]? = some (.cells (cellsE e p).toArray 39 (0, 0)) := by rw [hW0]; exact newP _
 have hV := isV_new h hO hb0 hX0
 have HRJ := (show Hid _ from hV.rangeJ)
 have hG := get_any (O := (· < W0.heap.size)) (w := W0) (j := e.content) hV.ev.cont (fun _ h => h) (szP_keys hz) s
 have HT : Hid (textT e.content s = txtT (getT e.content s)) := rfl
 clear h hV hX0 hz
 unfold valE
 generalize getT e.content s = g at hG HT
 cases g with
 | none =>
  unfold UnderT zJP at hG
  go_enter Tryz.func37, Tryz.ntmps37
  go_upto_region 1 with fail
  rw [← hW0]
  clear hW0
  go_wp2_with (first
   | (refine wpList_load_mid rfl 36 _ rfl w.heap.size 5 rfl _ _ HRJ.out Tryz.underlying36 rfl (by kernel_rfl) ?_)
   | (go_at_call 61; refine hG.mono ?_; rintro x w1 ⟨rfl, hb1⟩))
  go_ret
  exact ⟨by rw [HT.out]; rfl, belowP hb0 (belowP hb1 ((Below.refl _ _).alloc (Nat.le_refl _) _))⟩
 | some v =>
  obtain ⟨vk, vi, vt, vks, vls⟩ := v
  unfold UnderT at hG
  have hG2 : Calls Tryz.prog 61 #[.agg #[.int .i64 e.content.kind, .int .i64 e.content.int, .string e.content.text, .slice p.pk e.content.keys.length p.ck, .slice p.pl e.content.list.length p.cl], .string s] W0 fun x w' => (∃ i p n c q m d, x = .returned (.tuple #[.agg #[.int .i64 vk, .int .i64 i, .string vt, .slice p n c, .slice q m d], .bool true])) ∧ Below W0.heap.size W0 w' := by
   refine hG.mono fun x w' hh => ⟨?_, hh.2⟩
   obtain ⟨k, i, t, p', n, c, q, m, d, hx, hj⟩ := hh.1
   obtain ⟨rfl, rfl, rfl, _⟩ := isJP_parts hj
   exact ⟨_, _, _, _, _, _, _, hx⟩
  clear hG
  cases h3 : decide (vk = 3) with
  | true =>
   obtain rfl : vk = 3 := by simpa using h3
   go_enter Tryz.func37, Tryz.ntmps37
   go_upto_region 1 with fail
   rw [← hW0]
   clear hW0
   go_wp2_with (first
    | (refine wpList_load_mid rfl 36 _ rfl w.heap.size 5 rfl _ _ HRJ.out Tryz.underlying36 rfl (by kernel_rfl) ?_)
    | (go_at_call 61; refine hG2.mono ?_; rintro x w1 ⟨⟨i, p', n, c, q, m, d, rfl⟩, hb1⟩))
   go_ret
   exact ⟨by rw [HT.out]; rfl, belowP hb0 (belowP hb1 ((Below.refl _ _).alloc (Nat.le_refl _) _))⟩
  | false =>
   have h4 : ¬ vk = 3 := by simpa using h3
   have h5 : (vk == 3) = false := by simpa using h3
   go_enter Tryz.func37, Tryz.ntmps37
   go_upto_region 1 with fail
   rw [← hW0]
   clear hW0
   go_wp2_with (first
    | (refine wpList_load_mid rfl 36 _ rfl w.heap.size 5 rfl _ _ HRJ.out Tryz.underlying36 rfl (by kernel_rfl) ?_)
    | (go_at_call 61; refine hG2.mono ?_; rintro x w1 ⟨⟨i, p', n, c, q, m, d, rfl⟩, hb1⟩))
   go_ret
   exact ⟨by rw [HT.out]; exact congrArg (fun b => Ending.returned (.string b)) (if_neg h4).symm, belowP hb0 (belowP hb1 ((Below.refl _ _).alloc (Nat.le_refl _) _))⟩
end Go.Proofs.YtimhpglfolbomaaGreat
namespace Go.Proofs.YtimhpglfolbomaaGreat.Od
open Go.RowKit Go.Maps Go.Shelf
theorem rpowers_any {O : Nat → Prop} {w : World} {e : Ev} {q : Pt} (h : IsE O w e q) (hO : ∀ k, O k → k < w.heap.size) (hz : szJ 13 e.content = true) :
    Calls Tryz.prog 18 #[valE e q] w fun x w' => x = .returned (.bool (powersT e)) ∧ Below w.heap.size w w' := by
 obtain ⟨W0, hW0⟩ : ∃ W0, W0 = w.alloc (.cells (cellsE e q).toArray 39) := ⟨_, rfl⟩
 have hb0 : Below w.heap.size w W0 := by rw [hW0]; exact (Below.refl _ _).alloc (Nat.le_refl _) _
 have hX0 : W0.heap[w.heap.size]? = some (.cells (cellsE e q).toArray 39 (0, 0)) := by rw [hW0]; exact newP _
 have hV := isV_new h hO hb0 hX0
 have d1 := hV.typ; have d2 := hV.sender; have d3 := hV.isSt; have d4 := hV.key
 have HLD : Hid ((Instr.loadAt 39 (.pointer (some ⟨w.heap.size, 0, none⟩))).run Tryz.prog W0 = .ok (.agg (cellsE e q).toArray) W0) := run_loadAt_mid W0 w.heap.size 0 39 (cellsE e q) _ hV.rangeE Tryz.underlying39 rfl infoE
 have HRT : Hid (Calls Tryz.prog 37 #[.agg (cellsE e q).toArray, .string ⟨#[109, 101, 109, 98, 101, 114, 115, 104, 105, 112]⟩] W0 fun x w' => x = .returned (.string (textT e.content nMemb)) ∧ Below W0.heap.size W0 w') := rtext_any hV.ev (fun _ h => h) hz nMemb
 have HP : Hid (powersT e = ((isT e tPower || isT e tRules) || (e.st && eqT e.typ tMember && !eqT e.key e.sender && (eqT (textT e.content nMemb) vLeave || eqT (textT e.content nMemb) vBan)))) := rfl
 have hlt0 := objP_lt hX0
 clear hV hX0 h hz
 generalize textT e.content nMemb = m at HRT HP
 generalize powersT e = R at HP ⊢
 unfold isT eqT at HP
 rw [lit_tMember, lit_vLeave, lit_vBan, lit_tPower, lit_tRules] at HP
 unfold valE
 generalize cellsE e q = C at HLD HRT hW0 ⊢
 generalize e.typ = typ at *
 generalize e.st = st at *
 generalize e.key = key at *
 generalize e.sender = snd at *
 go_enter Tryz.func18, Tryz.ntmps18
 go_upto_region 1 with fail
 rw [← hW0]
 clear hW0
 cases st with
 | false =>
  go_wp2
  go_ret
  exact ⟨ret_bool (by rw [HP.out]; rfl), hb0⟩
 | true =>
  cases h1 : (typ.toList == [109, 46, 114, 111, 111, 109, 46, 109, 101, 109, 98, 101, 114]) with
  | true =>
   have e1 : typ.toList = [109, 46, 114, 111, 111, 109, 46, 109, 101, 109, 98, 101, 114] := by simpa using h1
   have HP2 : Hid (R = (!(key.toList == snd.toList) && ((m.toList == [108, 101, 97, 118, 101]) || (m.toList == [98, 97, 110])))) := by show _ = _; rw [HP.out, e1]; simp
   clear e1 HP
   go_upto_region 5 with (first
    | (refine wpList_loadK rfl 39 _ rfl w.heap.size 0 rfl C HLD.out ?_)
    | (go_at_call 37; refine HRT.out.mono ?_; rintro e w1 ⟨rfl, hb1⟩))
   have k4 : w1.cell? ⟨w.heap.size, 4, none⟩ = some (.string key) := (World.cell?_of_block (a := ⟨w.heap.size, 4, none⟩) (hb1.block _ hlt0)).trans d4
   have k2 : w1.cell? ⟨w.heap.size, 2, none⟩ = some (.string snd) := (World.cell?_of_block (a := ⟨w.heap.size, 2, none⟩) (hb1.block _ hlt0)).trans d2
   clear d1 d2 d3 d4 h1
   cases h3 : (m.toList == [108, 101, 97, 118, 101]) <;> cases h4 : (m.toList == [98, 97, 110]) <;> cases h2 : (key.toList == snd.toList) <;> (go_wp2; go_ret; exact ⟨ret_bool (by rw [HP2.out, h2, h3, h4]; rfl), belowP hb0 hb1⟩)
  | false =>
   have HP2 : Hid (R = ((key.toList == []) && ((typ.toList == [109, 46, 114, 111, 111, 109, 46, 112, 111, 119, 101, 114, 95, 108, 101, 118, 101, 108, 115]) || (typ.toList == [109, 46, 114, 111, 111, 109, 46, 106, 111, 105, 110, 95, 114, 117, 108, 101, 115])))) := by
    show _ = _
    rw [HP.out, h1]
    generalize (typ.toList == [109, 46, 114, 111, 111, 109, 46, 112, 111, 119, 101, 114, 95, 108, 101, 118, 101, 108, 115]) = x
    generalize (typ.toList == [109, 46, 114, 111, 111, 109, 46, 106, 111, 105, 110, 95, 114, 117, 108, 101, 115]) = y
    rw [show (⟨#[]⟩ : ByteArray).toList = [] by rw [Lib.toList_data]]
    generalize (key.toList == []) = z
    cases x <;> cases y <;> cases z <;> rfl
   clear HP
   cases h2 : (key.toList == []) <;> cases h3 : (typ.toList == [109, 46, 114, 111, 111, 109, 46, 112, 111, 119, 101, 114, 95, 108, 101, 118, 101, 108, 115]) <;> cases h4 : (typ.toList == [109, 46, 114, 111, 111, 109, 46, 106, 111, 105, 110, 95, 114, 117, 108, 101, 115]) <;> (go_wp2; go_ret; exact ⟨ret_bool (by rw [HP2.out, h2, h3, h4]; rfl), hb0⟩)
end Go.Proofs.YtimhpglfolbomaaGreat.Od
namespace Go.Proofs.YtimhpglfolbomaaGreat
open Go.RowKit
def LeftsE (d : Nat) : Prop := ∀ (w : World) (O : Nat → Prop) (j : J) (k i deep n : Int) (t : ByteArray) (pk pl : Option Addr) (nk ck nl cl : Nat), (∀ x, O x → x < w.heap.size) → deep = (d : Int) → d ≤ 100 → 0 ≤ n → n ≤ 100000 →
 isJ O w j [.int .i64 k, .int .i64 i, .string t, .slice pk nk ck, .slice pl nl cl] →
 Calls Tryz.prog 34 #[.agg #[.int .i64 k, .int .i64 i, .string t, .slice pk nk ck, .slice pl nl cl], .int .i64 n, .int .i64 deep] w fun x w' => (∃ r : Int, x = .returned (.int .i64 r) ∧ r ≤ n ∧ -1 ≤ r ∧ (0 ≤ r → szJ d j = true)) ∧ Below w.heap.size w w'
theorem eleft_zero : LeftsE 0 := by
 intro w O j k i deep n t pk pl nk ck nl cl hO hdeep _ h0 hn _
 subst hdeep
 have hbA : Below w.heap.size w (w.alloc (.cells #[.int .i64 k, .int .i64 i, .string t, .slice pk nk ck, .slice pl nl cl] 36)) := (Below.refl _ _).alloc (Nat.le_refl _) _
 by_cases h1 : n < 1
 · go_enter Tryz.func34, Tryz.ntmps34
   go_wp2
   go_ret
   exact ⟨⟨-1, rfl, by omega, by omega, fun h => absurd h (by decide)⟩, hbA⟩
 · go_enter Tryz.func34, Tryz.ntmps34
   go_wp2
   go_ret
   exact ⟨⟨-1, rfl, by omega, by omega, fun h => absurd h (by decide)⟩, hbA⟩
theorem eleft_step {d : Nat} (V : LeftsE d) : LeftsE (d + 1) := by
 intro w O j k i deep n t pk pl nk ck nl cl hO hdeep hd h0 hn hj
 obtain ⟨kx, ix, tx, ks, l⟩ := j
 unfold isJ at hj
 obtain ⟨pk', ck', pl', cl', e, hk, hl, hs⟩ := hj
 simp only [List.cons.injEq, Value.int.injEq, Value.string.injEq, Value.slice.injEq, true_and, and_true] at e
 obtain ⟨rfl, rfl, rfl, ⟨rfl, rfl, rfl⟩, rfl, rfl, rfl⟩ := e
 have hd1 : 1 ≤ deep := by omega
 have hd2 : deep ≤ 101 := by omega
 have HD : Hid (deep - 1 = (d : Int)) := by show _ = _; omega
 have HDL : Hid (d ≤ 100) := by show _ ≤ _; omega
 clear hdeep hd
 obtain ⟨nk, hnk⟩ : ∃ n, ks.length = n := ⟨_, rfl⟩
 obtain ⟨nl, hnl⟩ : ∃ n, l.length = n := ⟨_, rfl⟩
 have HNK : Hid (ks.length = nk) := hnk
 have HNL : Hid (l.length = nl) := hnl
 have hck := hk.1
 rw [hnk] at hck ⊢
 rw [hnl] at hl ⊢
 clear hnk hnl
 have hbA : Below w.heap.size w (w.alloc (.cells #[.int .i64 k, .int .i64 i, .string t, .slice pk nk ck, .slice pl nl cl] 36)) := (Below.refl _ _).alloc (Nat.le_refl _) _
 have neg : ∀ (w' : World) (x : Ending), x = .returned (.int .i64 (-1)) → Below w.heap.size w w' → (∃ r : Int, x = .returned (.int .i64 r) ∧ r ≤ n ∧ -1 ≤ r ∧ (0 ≤ r → szJ (d + 1) (.mk k i t ks l) = true)) ∧ Below w.heap.size w w' := fun w' x hx hb => ⟨⟨-1, hx, by omega, by omega, fun h => absurd h (by decide)⟩, hb⟩
 have HNEG : Hid (∀ (w' : World) (x : Ending), x = .returned (.int .i64 (-1)) → Below w.heap.size w w' → (∃ r : Int, x = .returned (.int .i64 r) ∧ r ≤ n ∧ -1 ≤ r ∧ (0 ≤ r → szJ (d + 1) (.mk k i t ks l) = true)) ∧ Below w.heap.size w w') := neg
 clear neg
 by_cases h1 : n < 1
 · go_enter Tryz.func34, Tryz.ntmps34
   go_wp2
   go_ret
   exact HNEG.out _ _ rfl hbA
 by_cases h2 : (2000 : Int) < t.size
 · go_enter Tryz.func34, Tryz.ntmps34
   go_wp2
   go_ret
   exact HNEG.out _ _ rfl hbA
 by_cases h3 : (100 : Int) < nk
 · go_enter Tryz.func34, Tryz.ntmps34
   go_wp2
   go_ret
   exact HNEG.out _ _ rfl hbA
 by_cases h4 : (300 : Int) < nl
 · go_enter Tryz.func34, Tryz.ntmps34
   go_wp2
   go_ret
   exact HNEG.out _ _ rfl hbA
 obtain ⟨wB, hwB⟩ : ∃ wB, wB = w.alloc (.cells #[.int .i64 k, .int .i64 i, .string t, .slice pk nk ck, .slice pl nl cl] 36) := ⟨_, rfl⟩
 have hA : wB.heap[w.heap.size]? = some (.cells #[.int .i64 k, .int .i64 i, .string t, .slice pk nk ck, .slice pl nl cl] 36 (0, 0)) := by rw [hwB]; exact heap_alloc_new _ _
 have hsB : w.heap.size < wB.heap.size := (Array.getElem?_eq_some_iff.1 hA).1
 rw [← hwB] at hbA
 have HCA : Hid (∀ W : World, Below wB.heap.size wB W → ∀ n v, [Value.int .i64 k, .int .i64 i, .string t, .slice pk nk ck, .slice pl nl cl][n]? = some v → W.cell? ⟨w.heap.size, n, none⟩ = some v) := fun W hW n v hv =>
  (World.cell?_of_block (a := ⟨w.heap.size, n, none⟩) (hW.block w.heap.size hsB)).trans (cell_row (cur := [.int .i64 k, .int .i64 i, .string t, .slice pk nk ck, .slice pl nl cl]) hA n v hv)
 go_enter Tryz.func34, Tryz.ntmps34
 go_wp2
 rw [← hwB]
 clear hwB hA
 go_loopw [7] (fun v wr => ∃ m : Nat, v = .int .i64 m ∧ m ≤ nk ∧ Hid (∀ x, x < m → (ks.getD x nix).size ≤ 300) ∧ wr = wB) (fun v _ => nk - (intOf v).toNat)
 case atStart => exact ⟨0, rfl, Nat.zero_le _, fun m hm => absurd hm (by omega), rfl⟩
 case round =>
  obtain ⟨m, rfl, hm, HE, rfl⟩ := hrel
  have a3 := HCA.out wr (Below.refl _ _) 3 _ rfl
  by_cases hmk : m < nk
  · have hmi : (m : Int) < (nk : Int) := by omega
    obtain ⟨ka, hpk, hOa, hcka⟩ := hk.2 m (by rw [HNK.out]; exact hmk)
    subst hpk
    have hKA : wr.cell? (ka.add m) = some (.string (ks.getD m nix)) := (World.cell?_of_block (by rw [add_block]; exact hbA.block _ (hO _ hOa))).trans hcka
    obtain ⟨u, hu⟩ : ∃ u, ks.getD m nix = u := ⟨_, rfl⟩
    have HU : Hid (ks.getD m nix = u) := hu
    rw [hu] at hKA
    clear hu hcka
    by_cases hus : (300 : Int) < u.size
    · go_wp2
      go_ret
      exact HNEG.out _ _ rfl hbA
    · go_wp2
      go_roundw
      case rel => exact ⟨m + 1, by go_num, hmk, fun x hx => (Nat.lt_succ_iff_lt_or_eq.1 hx).elim (HE.out x) fun e => by rw [e, HU.out]; omega, trivial⟩
      case measure => simp [intOf]; omega
  · obtain rfl : m = nk := by omega
    have HKS : Hid (ks.all (fun k => decide (k.size ≤ 1000000000)) = true) := by
     show _ = _
     rw [List.all_eq_true]
     intro x hx
     obtain ⟨y, hy, rfl⟩ := List.getElem_of_mem hx
     have := HE.out y (by rw [← HNK.out]; exact hy)
     rw [key_getD hy] at this
     exact decide_eq_true (by omega)
    go_wp2
    go_loopw [1, 8] (fun u v w2 => ∃ (m : Nat) (r : Int), v = .int .i64 m ∧ u = .int .i64 r ∧ m ≤ nl ∧ r ≤ n - 1 ∧ -1 ≤ r ∧ Hid (0 ≤ r → (l.take m).all (szJ d) = true) ∧ Below wr.heap.size wr w2) (fun _ v _ => nl - (intOf v).toNat)
    case atStart => exact ⟨0, n - 1, rfl, rfl, Nat.zero_le _, by omega, by omega, fun _ => rfl, Below.refl _ _⟩
    case round =>
     obtain ⟨m', r, rfl, rfl, hm', hrn, hr0, HT, hb2⟩ := hrel
     have a4 := HCA.out wr hb2 4 _ rfl
     by_cases hml : m' < nl
     · have hmi : (m' : Int) < (nl : Int) := by omega
       by_cases hr : 0 ≤ r
       · have hml1 : m' < l.length := by rw [HNL.out]; exact hml
         have HML : Hid (m' < l.length) := hml1
         obtain ⟨lb, lo, cs, hpl, hOl, hcells, hyj⟩ := isJs.at l 0 m' hs hml1
         subst hpl
         obtain ⟨x0, x1, x2, p3, n3, c3, p4, n4, c4, rfl⟩ := isJ_shape hyj
         have hblk := (hb2.block lb (by have := hO _ hOl; omega)).trans (hbA.block lb (hO _ hOl))
         have cc : ∀ m v, [Value.int .i64 x0, .int .i64 x1, .string x2, .slice p3 n3 c3, .slice p4 n4 c4][m]? = some v → wr.cell? ⟨lb, lo + m' * 5 + m, none⟩ = some v := fun m v h => by
          have := hcells m v h
          rw [Nat.zero_add] at this
          exact (World.cell?_of_block (a := ⟨lb, lo + m' * 5 + m, none⟩) hblk).trans this
         have y0 : wr.cell? ⟨lb, lo + m' * 5, none⟩ = some (.int .i64 x0) := cc 0 _ rfl
         have y1 := cc 1 _ rfl
         have y2 := cc 2 _ rfl
         have y3 := cc 3 _ rfl
         have y4 := cc 4 _ rfl
         have hB2 := below_cat hbA (by omega) hb2
         have hV := V wr O (l.getD m' J.zero) x0 x1 (deep - 1) r x2 p3 p4 n3 c3 n4 c4 (fun b hb => Nat.lt_of_lt_of_le (hO b hb) hB2.size) HD.out HDL.out hr (by omega) (hyj.carry fun b hb => ⟨hb, hB2.block b (hO b hb)⟩)
         clear cc hcells hml1 hyj hblk
         go_wp2_with (go_at_call 34; refine hV.mono ?_; rintro x w4 ⟨⟨r4, rfl, hr4, hr5, hr6⟩, hb4⟩)
         go_roundw
         case rel => exact ⟨m' + 1, r4, by go_num, rfl, hml, by omega, hr5, fun h => by rw [all_take HML.out, HT.out hr, hr6 h]; rfl, below_cat hb2 hb2.size hb4⟩
         case measure => simp [intOf]; omega
       · go_wp2
         go_ret
         refine ⟨⟨r, rfl, by omega, hr0, fun h => absurd h (by omega)⟩, below_cat hbA (by omega) hb2⟩
     · obtain rfl : m' = nl := by omega
       go_wp2
       go_ret
       refine ⟨⟨r, rfl, by omega, hr0, fun h => ?_⟩, below_cat hbA (by omega) hb2⟩
       have ht := HT.out h
       rw [List.take_of_length_le (by rw [HNL.out]; omega)] at ht
       unfold szJ
       rw [HKS.out, ht, HNK.out, HNL.out, decide_eq_true (show t.size ≤ 1000000000 by omega), decide_eq_true (show m ≤ 100000 by omega), decide_eq_true (show m' ≤ 100000 by omega)]
       rfl
theorem elefts : ∀ d, LeftsE d
 | 0 => eleft_zero
 | d + 1 => eleft_step (elefts d)
theorem six_c {w : World} {b : Nat} {t : TypeId} {a0 a1 a2 a3 a4 a5 a6 a7 a8 a9 a10 a11 a12 a13 a14 a15 : Value} (h : w.heap[b]? = some (.cells #[a0, a1, a2, a3, a4, a5, a6, a7, a8, a9, a10, a11, a12, a13, a14, a15] t (0, 0))) (j : Nat) (v : Value) (hj : [a0, a1, a2, a3, a4, a5, a6, a7, a8, a9, a10, a11, a12, a13, a14, a15][j]? = some v) : w.cell? ⟨b, j, none⟩ = some v := cell_row (cur := [a0, a1, a2, a3, a4, a5, a6, a7, a8, a9, a10, a11, a12, a13, a14, a15]) h j v hj
end Go.Proofs.YtimhpglfolbomaaGreat
namespace Go.Proofs.YtimhpglfolbomaaGreat
open Go.RowKit Go.Maps
structure BigE (e : Ev) : Prop where
 room : e.room.size ≤ 140737488355328
 typ : e.typ.size ≤ 140737488355328
 sender : e.sender.size ≤ 140737488355328
 key : e.key.size ≤ 140737488355328
 hash : e.hash.size ≤ 140737488355328
 sigs : ∀ x ∈ e.sigs, x.1.size ≤ 140737488355328 ∧ x.2.size ≤ 140737488355328
structure FewE (e : Ev) : Prop where
 texts : e.room.size + e.typ.size + e.sender.size + e.key.size + e.hash.size ≤ 2000
 prev : e.prev.length ≤ 30
 prevs : ∀ x ∈ e.prev, x.size ≤ 100
 auth : e.auth.length ≤ 30
 auths : ∀ x ∈ e.auth, x.size ≤ 100
 sigs : e.sigs.length ≤ 30
 sigss : ∀ x ∈ e.sigs, x.1.size + x.2.size ≤ 200
 cont : szJ 20 e.content = true
theorem FewE.sz {e : Ev} (h : FewE e) : SzE e := by
 have t := h.texts
 exact ⟨by omega, by omega, by omega, by omega, by omega, sz_less 12 20 _ (by decide) h.cont, Nat.le_trans h.prev (by decide), fun x hx => Nat.le_trans (h.prevs x hx) (by decide), Nat.le_trans h.auth (by decide), fun x hx => Nat.le_trans (h.auths x hx) (by decide), Nat.le_trans h.sigs (by decide), fun x hx => by have := h.sigss x hx; omega⟩
def FewP (w w' : World) (e : Ev) (x : Ending) : Prop := (∃ b : Bool, x = .returned (.bool b) ∧ (b = true → FewE e)) ∧ Below w.heap.size w w'
theorem all_getD {l : List ByteArray} {B : Nat} (h : ∀ x, x < l.length → (l.getD x nix).size ≤ B) : ∀ x ∈ l, x.size ≤ B := fun x hx => by
 obtain ⟨y, hy, rfl⟩ := List.getElem_of_mem hx
 have := h y hy
 rwa [key_getD hy] at this
theorem eFew_any {O : Nat → Prop} (e : Ev) (p : Pt) (w : World) (hE : IsE O w e p) (hO : ∀ k, O k → k < w.heap.size) (hl : BigE e) :
    Calls Tryz.prog 16 #[valE e p] w fun x w' => FewP w w' e x := by
 obtain ⟨room, typ, sender, st, key, ⟨k, i, t, ks, l⟩, prev, auth, depth, ts, hash, sigs⟩ := e
 obtain ⟨pk, ck, pl, cl, pp, cp, pa, ca, ps, cs⟩ := p
 obtain ⟨z0, z1, z2, z4, z14, z15⟩ := hl
 obtain ⟨hc, hp, ha, hs⟩ := hE
 simp only at z0 z1 z2 z4 z14 z15 hc hp ha hs
 unfold five at hc
 simp only [J.kind, J.int, J.text, J.keys, J.list] at hc
 simp only [valE, cellsE, J.kind, J.int, J.text, J.keys, J.list]
 obtain ⟨np, hnp⟩ : ∃ n, prev.length = n := ⟨_, rfl⟩
 obtain ⟨na, hna⟩ : ∃ n, auth.length = n := ⟨_, rfl⟩
 obtain ⟨ns, hns⟩ : ∃ n, sigs.length = n := ⟨_, rfl⟩
 have HNP : Hid (prev.length = np) := hnp
 have HNA : Hid (auth.length = na) := hna
 have HNS : Hid (sigs.length = ns) := hns
 have hcp := hp.1
 have hca := ha.1
 have hcs := hs.1
 rw [hnp] at hcp ⊢
 rw [hna] at hca ⊢
 rw [hns] at hcs ⊢
 clear hnp hna hns
 obtain ⟨WB, hWB⟩ : ∃ WB, WB = w.alloc (.cells #[.string room, .string typ, .string sender, .bool st, .string key, .int .i64 k, .int .i64 i, .string t, .slice pk ks.length ck, .slice pl l.length cl, .slice pp np cp, .slice pa na ca, .int .i64 depth, .int .i64 ts, .string hash, .slice ps ns cs] 39) := ⟨_, rfl⟩
 have hbw : Below w.heap.size w WB := by rw [hWB]; exact (Below.refl _ _).alloc (Nat.le_refl _) _
 have hrs : WB.heap[w.heap.size]? = some (.cells #[.string room, .string typ, .string sender, .bool st, .string key, .int .i64 k, .int .i64 i, .string t, .slice pk ks.length ck, .slice pl l.length cl, .slice pp np cp, .slice pa na ca, .int .i64 depth, .int .i64 ts, .string hash, .slice ps ns cs] 39 (0, 0)) := by rw [hWB]; exact heap_alloc_new _ _
 have HNO : Hid (∀ W', Below w.heap.size w W' → ∀ x : Ending, x = .returned (.bool false) → FewP w W' ⟨room, typ, sender, st, key, ⟨k, i, t, ks, l⟩, prev, auth, depth, ts, hash, sigs⟩ x) := fun W' h x hx => ⟨⟨false, hx, fun h => by cases h⟩, h⟩
 by_cases h1 : (2000 : Int) < (room.size : Int) + typ.size + sender.size + key.size + hash.size
 · go_enter Tryz.func16, Tryz.ntmps16
   go_wp2
   go_ret
   exact HNO.out _ (hWB ▸ hbw) _ rfl
 by_cases h2 : (30 : Int) < np
 · go_enter Tryz.func16, Tryz.ntmps16
   go_wp2
   go_ret
   exact HNO.out _ (hWB ▸ hbw) _ rfl
 by_cases h3 : (30 : Int) < na
 · go_enter Tryz.func16, Tryz.ntmps16
   go_wp2
   go_ret
   exact HNO.out _ (hWB ▸ hbw) _ rfl
 by_cases h4 : (30 : Int) < ns
 · go_enter Tryz.func16, Tryz.ntmps16
   go_wp2
   go_ret
   exact HNO.out _ (hWB ▸ hbw) _ rfl
 have H1 : Hid (room.size + typ.size + sender.size + key.size + hash.size ≤ 2000) := by show _ ≤ _; omega
 have HP : Hid (∀ j, j < np → ∃ a, pp = some a ∧ WB.cell? (a.add j) = some (.string (prev.getD j nix))) := fun j hj => by
  obtain ⟨a, e, hOa, hca⟩ := hp.2 j (by rw [HNP.out]; exact hj)
  exact ⟨a, e, (World.cell?_of_block (by rw [add_block]; exact hbw.block _ (hO _ hOa))).trans hca⟩
 have HA : Hid (∀ j, j < na → ∃ a, pa = some a ∧ WB.cell? (a.add j) = some (.string (auth.getD j nix))) := fun j hj => by
  obtain ⟨a, e, hOa, hca⟩ := ha.2 j (by rw [HNA.out]; exact hj)
  exact ⟨a, e, (World.cell?_of_block (by rw [add_block]; exact hbw.block _ (hO _ hOa))).trans hca⟩
 have HSG : Hid (∀ j, j < ns → ∃ b o, ps = some ⟨b, o, none⟩ ∧ WB.cell? ⟨b, o + j * 2, none⟩ = some (.string (sigs.getD j (nix, nix)).1) ∧ WB.cell? ⟨b, o + j * 2 + 1, none⟩ = some (.string (sigs.getD j (nix, nix)).2)) := fun j hj => by
  obtain ⟨b, o, e, hOb, h1, h2⟩ := hs.2 j (by rw [HNS.out]; exact hj)
  exact ⟨b, o, e, (World.cell?_of_block (a := ⟨b, o + j * 2, none⟩) (hbw.block _ (hO _ hOb))).trans h1, (World.cell?_of_block (a := ⟨b, o + j * 2 + 1, none⟩) (hbw.block _ (hO _ hOb))).trans h2⟩
 have HL : Hid (∀ n, Calls Tryz.prog 34 #[.agg #[.int .i64 k, .int .i64 i, .string t, .slice pk ks.length ck, .slice pl l.length cl], .int .i64 300, .int .i64 20] (WB.drewN n) fun x w' => (∃ r : Int, x = .returned (.int .i64 r) ∧ r ≤ 300 ∧ -1 ≤ r ∧ (0 ≤ r → szJ 20 (.mk k i t ks l) = true)) ∧ Below (WB.drewN n).heap.size (WB.drewN n) w') := fun n =>
  elefts 20 (WB.drewN n) O (.mk k i t ks l) k i 20 300 t pk pl ks.length ck l.length cl (fun b hb => Nat.lt_of_lt_of_le (hO b hb) (below_in hbw (Id.below_drewN WB n)).size) rfl (by decide) (by decide) (by decide) (hc.carry fun b hb => ⟨hb, (below_in hbw (Id.below_drewN WB n)).block b (hO b hb)⟩)
 have HBW : Hid (Below w.heap.size w WB) := hbw
 have HZS : Hid (∀ x ∈ sigs, x.1.size ≤ 140737488355328 ∧ x.2.size ≤ 140737488355328) := z15
 clear hc hp ha hs hO hbw z15
 have q0 := six_c hrs 0 _ rfl; have q1 := six_c hrs 1 _ rfl; have q2 := six_c hrs 2 _ rfl; have q4 := six_c hrs 4 _ rfl; have q14 := six_c hrs 14 _ rfl; have q10 := six_c hrs 10 _ rfl; have q11 := six_c hrs 11 _ rfl; have q15 := six_c hrs 15 _ rfl
 have q5 := six_c hrs 5 _ rfl; have q6 := six_c hrs 6 _ rfl; have q7 := six_c hrs 7 _ rfl; have q8 := six_c hrs 8 _ rfl; have q9 := six_c hrs 9 _ rfl
 go_enter Tryz.func16, Tryz.ntmps16
 go_wp2
 rw [← hWB]
 clear hWB hrs
 go_loopw [3] (fun v wr => ∃ m : Nat, v = .int .i64 m ∧ m ≤ np ∧ Hid (∀ x, x < m → (prev.getD x nix).size ≤ 100) ∧ wr = WB) (fun v _ => np - (intOf v).toNat)
 case atStart => exact ⟨0, rfl, Nat.zero_le _, fun m hm => absurd hm (by omega), rfl⟩
 case round =>
  obtain ⟨m, rfl, hm, HX, rfl⟩ := hrel
  by_cases hlt : m < np
  · have hmi : (m : Int) < (np : Int) := by omega
    obtain ⟨a, rfl, hca1⟩ := HP.out m hlt
    obtain ⟨u, hu⟩ : ∃ u, prev.getD m nix = u := ⟨_, rfl⟩
    have HU : Hid (prev.getD m nix = u) := hu
    rw [hu] at hca1
    clear hu
    by_cases hus : (100 : Int) < u.size
    · go_wp2
      go_ret
      exact HNO.out _ HBW.out _ rfl
    · go_wp2
      go_roundw
      case rel => exact ⟨m + 1, by go_num, hlt, fun x hx => (Nat.lt_succ_iff_lt_or_eq.1 hx).elim (HX.out x) fun e => by rw [e, HU.out]; omega, trivial⟩
      case measure => simp [intOf]; omega
  · obtain rfl : m = np := by omega
    have HXP : Hid (∀ x ∈ prev, x.size ≤ 100) := all_getD (by rw [HNP.out]; exact HX.out)
    clear HX hlt hm
    go_wp2
    go_loopw [4] (fun v wr2 => ∃ n : Nat, v = .int .i64 n ∧ n ≤ na ∧ Hid (∀ x, x < n → (auth.getD x nix).size ≤ 100) ∧ wr2 = wr) (fun v _ => na - (intOf v).toNat)
    case atStart => exact ⟨0, rfl, Nat.zero_le _, fun m hm => absurd hm (by omega), rfl⟩
    case round =>
     obtain ⟨n, rfl, hn, HX, rfl⟩ := hrel
     by_cases hlt : n < na
     · have hmi : (n : Int) < (na : Int) := by omega
       obtain ⟨a, rfl, hca1⟩ := HA.out n hlt
       obtain ⟨u, hu⟩ : ∃ u, auth.getD n nix = u := ⟨_, rfl⟩
       have HU : Hid (auth.getD n nix = u) := hu
       rw [hu] at hca1
       clear hu
       by_cases hus : (100 : Int) < u.size
       · go_wp2
         go_ret
         exact HNO.out _ HBW.out _ rfl
       · go_wp2
         go_roundw
         case rel => exact ⟨n + 1, by go_num, hlt, fun x hx => (Nat.lt_succ_iff_lt_or_eq.1 hx).elim (HX.out x) fun e => by rw [e, HU.out]; omega, trivial⟩
         case measure => simp [intOf]; omega
     · obtain rfl : n = na := by omega
       have HXA : Hid (∀ x ∈ auth, x.size ≤ 100) := all_getD (by rw [HNA.out]; exact HX.out)
       clear HX hlt hn
       go_wp2
       go_loopw [5] (fun v wr3 => ∃ (h d : Nat), v = .int .i64 h ∧ h ≤ ns ∧ Hid (∀ x, x < h → (sigs.getD x (nix, nix)).1.size + (sigs.getD x (nix, nix)).2.size ≤ 200) ∧ wr3 = wr.drewN d) (fun v _ => ns - (intOf v).toNat)
       case atStart => exact ⟨0, 0, rfl, Nat.zero_le _, fun m hm => absurd hm (by omega), rfl⟩
       case round =>
        obtain ⟨h, d, rfl, hh, HX, rfl⟩ := hrel
        by_cases hlt : h < ns
        · have hmi : (h : Int) < (ns : Int) := by omega
          obtain ⟨b, o, rfl, hc1, hc2⟩ := HSG.out h hlt
          have hmem : sigs.getD h (nix, nix) ∈ sigs := by
           rw [List.getD_eq_getElem?_getD, List.getElem?_eq_getElem (by rw [HNS.out]; exact hlt)]
           exact List.getElem_mem _
          have hz := HZS.out _ hmem
          obtain ⟨uv, huv⟩ : ∃ u, sigs.getD h (nix, nix) = u := ⟨_, rfl⟩
          have HU : Hid (sigs.getD h (nix, nix) = uv) := huv
          rw [huv] at hc1 hc2 hz
          clear huv hmem
          obtain ⟨u, v⟩ := uv
          obtain ⟨y1, y2⟩ := hz
          simp only at hc1 hc2 y1 y2
          by_cases hus : (200 : Int) < (u.size : Int) + v.size
          · go_wp2
            refine wp_region_quiet_lit (by kernel_rfl) (by kernel_rfl) ?_
            repeat (any_goals (first | go_big_quiet_step (fail) | quiet_step (fail)))
            refine wpQuiet_nil ?_
            intro _ hw
            obtain ⟨nq, hw⟩ := hw
            subst hw
            go_wp2
            go_ret
            exact HNO.out _ (below_in HBW.out (by simpa [World.drewN_drewN] using Id.below_drewN _ _)) _ rfl
          · go_wp2
            refine wp_region_quiet_lit (by kernel_rfl) (by kernel_rfl) ?_
            repeat (any_goals (first | go_big_quiet_step (fail) | quiet_step (fail)))
            refine wpQuiet_nil ?_
            intro _ hw
            obtain ⟨nq, hw⟩ := hw
            subst hw
            go_wp2
            go_roundw
            case rel => exact ⟨h + 1, _, by go_num, hlt, fun x hx => (Nat.lt_succ_iff_lt_or_eq.1 hx).elim (HX.out x) fun e => by rw [e, HU.out]; show u.size + v.size ≤ 200; omega, rfl⟩
            case measure => simp [intOf]; omega
        · obtain rfl : h = ns := by omega
          have hL := HL.out d
          go_wp2_with (go_at_call 34; refine hL.mono ?_; rintro x w4 ⟨⟨r4, rfl, hr4, hr5, hr6⟩, hb4⟩)
          go_ret
          refine ⟨⟨_, rfl, fun hh => ?_⟩, below_in HBW.out (below_in (Id.below_drewN _ _) hb4)⟩
          refine ⟨H1.out, by show prev.length ≤ 30; rw [HNP.out]; omega, HXP.out, by show auth.length ≤ 30; rw [HNA.out]; omega, HXA.out, by show sigs.length ≤ 30; rw [HNS.out]; omega, fun x hx => ?_, hr6 (of_decide_eq_true hh)⟩
          obtain ⟨y, hy, rfl⟩ := List.getElem_of_mem hx
          have := HX.out y (by rw [← HNS.out]; exact hy)
          rw [List.getD_eq_getElem?_getD, List.getElem?_eq_getElem hy] at this
          exact this
end Go.Proofs.YtimhpglfolbomaaGreat
namespace Go.Proofs.YtimhpglfolbomaaGreat.Od
open Go.RowKit Go.Maps
theorem powersLaw_any {O : Nat → Prop} {w : World} {e : Ev} {p : Pt} (h : IsE O w e p) (hO : ∀ b, O b → b < w.heap.size) (hz : BigE e) :
    Calls Tryz.prog 4 #[valE e p] w fun x w' => x = .returned (.bool true) ∧ Below w.heap.size w w' := by
 obtain ⟨W0, hW0⟩ : ∃ W0, W0 = w.alloc (.cells (cellsE e p).toArray 39) := ⟨_, rfl⟩
 have hb0 : Below w.heap.size w W0 := by rw [hW0]; exact (Below.refl _ _).alloc (Nat.le_refl _) _
 have hX0 : W0.heap[w.heap.size]? = some (.cells (cellsE e p).toArray 39 (0, 0)) := by rw [hW0]; exact newP _
 have hV := isV_new h hO hb0 hX0
 have HV : Hid (∀ X, Below W0.heap.size W0 X → IsV X w.heap.size e p) := fun X hX => hV.below hX
 have HLD : Hid (∀ X, Below W0.heap.size W0 X → (Instr.loadAt 39 (.pointer (some ⟨w.heap.size, 0, none⟩))).run Tryz.prog X = .ok (.agg (cellsE e p).toArray) X) := fun X hX => run_loadAt_mid X w.heap.size 0 39 (cellsE e p) _ (HV.out X hX).rangeE Tryz.underlying39 rfl infoE
 have hFew := eFew_any e p W0 hV.ev (fun _ h => h) hz
 have HPA : Hid (∀ X, Below W0.heap.size W0 X → FewE e → Calls Tryz.prog 17 #[.agg (cellsE e p).toArray] X fun x w' => x = .returned (.bool (powersT e)) ∧ Below X.heap.size X w') := fun X hX h1 => powers_any (HV.out X hX).ev (fun _ h => h) h1.sz
 have HPB : Hid (∀ X, Below W0.heap.size W0 X → FewE e → Calls Tryz.prog 18 #[.agg (cellsE e p).toArray] X fun x w' => x = .returned (.bool (powersT e)) ∧ Below X.heap.size X w') := fun X hX h1 => rpowers_any (HV.out X hX).ev (fun _ h => h) (sz_less 13 20 _ (by decide) h1.cont)
 have hB0 : Below W0.heap.size W0 W0 := Below.refl _ _
 clear h hV hX0 hz
 unfold valE at hFew ⊢
 generalize powersT e = b at HPA HPB
 generalize cellsE e p = C at HLD hFew HPA HPB hW0 ⊢
 go_enter Tryz.func4, Tryz.ntmps4
 go_upto_region 1 with fail
 rw [← hW0]
 clear hW0
 go_upto_region 3 with (first
  | (refine wpList_loadK rfl 39 _ rfl w.heap.size 0 rfl C (HLD.out _ hB0) ?_)
  | (go_at_call 16; refine hFew.mono ?_; rintro x W ⟨⟨b1, rfl, hf1⟩, hB1⟩; cases b1; have hN1 := hB1; clear hB1))
 · go_wp2
   go_ret
   exact ⟨rfl, belowP hb0 hN1⟩
 · have HP1 := (show Hid _ from fun X hX => HPA.out X (belowP hB1 hX) (hf1 trivial))
   have HP2 := (show Hid _ from fun X hX => HPB.out X (belowP hB1 hX) (hf1 trivial))
   have HL1 : Hid (∀ X, Below W.heap.size W X → (Instr.loadAt 39 (.pointer (some ⟨w.heap.size, 0, none⟩))).run Tryz.prog X = .ok (.agg C.toArray) X) := fun X hX => HLD.out X (belowP hB1 hX)
   clear HPA HPB HLD hFew hf1
   refine wp_region_in (by kernel_rfl) (fun w' => Below W.heap.size W w') ?_
   change wpIn _ _ _ _ _ _ _ _ (World.drew _)
   have hD : Below W.heap.size W W.drew := (Below.refl _ _).drew
   refine wpIn_take (i := 0) (d := (some 6)) (v := (.agg C.toArray)) (a' := ?aqw0) rfl rfl (by kernel_rfl) (by kernel_rfl) (by kernel_rfl) (fun _ _ _ h => h) (Or.inl ⟨by rfl, ?yqw0⟩) ?fqw0 ?_
   case yqw0 => exact fun wq hq => exec_loadR rfl rfl (HL1.out wq hq)
   case fqw0 => (go_frame; rfl)
   refine wpIn_take (i := 2) (d := (some 8)) (v := (.agg C.toArray)) (a' := ?aqw2) rfl rfl (by kernel_rfl) (by kernel_rfl) (by kernel_rfl) (fun _ _ _ h => h) (Or.inl ⟨by rfl, ?yqw2⟩) ?fqw2 ?_
   case yqw2 => exact fun wq hq => exec_loadR rfl rfl (HL1.out wq hq)
   case fqw2 => (go_frame; rfl)
   refine wpIn_do (i := 1) hD (by kernel_rfl) rfl (by rfl) ?_
   intro K hK
   go_simp
   go_wp2_with (go_at_call 17; refine (HP1.out _ hD).mono ?_; rintro x w2 ⟨rfl, hbw2⟩)
   have hD1 : Below W.heap.size W w2 := belowP hD hbw2
   refine wpIn_do (i := 3) hD1 (by kernel_rfl) rfl (by rfl) ?_
   intro K hK
   go_simp
   go_wp2_with (go_at_call 18; refine (HP2.out _ hD1).mono ?_; rintro x w3 ⟨rfl, hbw3⟩)
   have hD3 : Below W.heap.size W w3 := belowP hD1 hbw3
   refine wpIn_take (i := 4) (d := (some 10)) (v := .bool true) (a' := ?aqw4) rfl rfl (by kernel_rfl) (by kernel_rfl) (by kernel_rfl) (fun _ _ _ h => h) (Or.inl ⟨by rfl, ?yqw4⟩) ?fqw4 ?_
   case yqw4 => (intro wq hq; go_simp)
   case fqw4 => (go_frame; rfl)
   refine wpIn_take (i := 5) (d := (some 11)) (v := .bool true) (a' := ?aqw5) rfl rfl (by kernel_rfl) (by kernel_rfl) (by kernel_rfl) (fun _ _ _ h => h) (Or.inl ⟨by rfl, ?yqw5⟩) ?fqw5 ?_
   case yqw5 => (intro wq hq; go_simp; first | done | with_reducible rfl)
   case fqw5 => (go_frame; rfl)
   refine wpIn_do (i := 6) hD3 (by kernel_rfl) rfl (by rfl) ?_
   intro K hK
   go_simp
   go_wp2_with (go_at_call 15; refine (awake12_any _).mono ?_; rintro x w4 ⟨rfl, hbw4⟩)
   have hD4 : Below W.heap.size W w4 := belowP hD3 hbw4
   refine wpIn_take (i := 7) (d := (some 13)) (v := .bool true) (a' := ?aqw7) rfl rfl (by kernel_rfl) (by kernel_rfl) (by kernel_rfl) (fun _ _ _ h => h) (Or.inl ⟨by rfl, ?yqw7⟩) ?fqw7 ?_
   case yqw7 => (intro wq hq; go_simp; first | done | with_reducible rfl)
   case fqw7 => (go_frame; rfl)
   refine wpIn_take (i := 8) (d := (some 2)) (v := .bool true) (a' := ?aqw8) rfl rfl (by kernel_rfl) (by kernel_rfl) (by kernel_rfl) (fun _ _ _ h => h) (Or.inl ⟨by rfl, ?yqw8⟩) ?fqw8 ?_
   case yqw8 => (intro wq hq; go_simp; first | done | with_reducible rfl)
   case fqw8 => (go_frame; rfl)
   refine wpIn_done hD4 (by kernel_rfl) ?_ _
   go_wp2
   go_ret
   exact ⟨rfl, belowP hb0 (belowP hB1 hD4)⟩
end Go.Proofs.YtimhpglfolbomaaGreat.Od
namespace Go.Proofs.YtimhpglfolbomaaGreat
open Go.ChangeShapes Go.WideShapes Go.ChangeAt Go.RowKit
theorem cellsJ : Tryz.prog.cellsOf 36 = 5 := by kernel_rfl
theorem cellsS : Tryz.prog.cellsOf 9 = 1 := by kernel_rfl
theorem cellsI3 : Tryz.prog.cellsOf 3 = 1 := by kernel_rfl
theorem cellsI2 : Tryz.prog.cellsOf 2 = 1 := by kernel_rfl
theorem cellsKs : Tryz.prog.cellsOf 22 = 1 := by kernel_rfl
theorem cellsLs : Tryz.prog.cellsOf 34 = 1 := by kernel_rfl
theorem cell_lt {w : World} {a : Addr} {v : Value} (h : w.cell? a = some v) : a.block < w.heap.size := by
 rcases Nat.lt_or_ge a.block w.heap.size with h' | h'
 · exact h'
 · simp [World.cell?, Array.getElem?_eq_none h'] at h
theorem cell_none {w : World} {b o : Nat} {sp : Option Nat} {v : Value} (h : w.cell? ⟨b, o, sp⟩ = some v) : sp = none := by
 cases sp with
 | none => rfl
 | some x =>
  unfold World.cell? at h
  split at h <;> simp at h
theorem isJs_of {O : Nat → Prop} {w : World} {b o : Nat} (hO : O b) : ∀ (l : List J) (n : Nat), (∀ i, i < l.length → ∃ cs, (∀ m v, cs[m]? = some v → w.cell? ⟨b, o + (n + i) * 5 + m, none⟩ = some v) ∧ isJ O w (l.getD i J.zero) cs) → isJs O w (some ⟨b, o, none⟩) n l
 | [], _, _ => by unfold isJs; trivial
 | j :: r, n, h => by
  unfold isJs
  obtain ⟨cs, h1, h2⟩ := h 0 (by simp)
  refine ⟨⟨b, o, cs, rfl, hO, fun m v hv => ?_, h2⟩, isJs_of hO r (n + 1) fun i hi => ?_⟩
  · have := h1 m v hv
    simpa using this
  · obtain ⟨cs, h1, h2⟩ := h (i + 1) (by simp; omega)
    refine ⟨cs, fun m v hv => ?_, h2⟩
    have := h1 m v hv
    rwa [show n + (i + 1) = n + 1 + i by omega] at this
theorem pick_list {α : Type} {z : α} {P : Nat → α → Prop} : ∀ n, (∀ i, i < n → ∃ x, P i x) → ∃ l : List α, l.length = n ∧ ∀ i, i < n → P i (l.getD i z)
 | 0, _ => ⟨[], rfl, fun i hi => absurd hi (by omega)⟩
 | n + 1, h => by
  obtain ⟨l, hl, hp⟩ := pick_list (z := z) n fun i hi => h i (by omega)
  obtain ⟨x, hx⟩ := h n (by omega)
  refine ⟨l ++ [x], by simp [hl], fun i hi => ?_⟩
  by_cases hin : i < n
  · have : (l ++ [x]).getD i z = l.getD i z := by
      rw [List.getD_eq_getElem?_getD, List.getD_eq_getElem?_getD, List.getElem?_append_left (by omega)]
    rw [this]
    exact hp i hin
  · obtain rfl : i = n := by omega
    have : (l ++ [x]).getD i z = x := by
     rw [List.getD_eq_getElem?_getD, List.getElem?_append_right (by omega), hl]
     simp
    rw [this]
    exact hx
theorem viewJ {H : Type} {enc : TypeId × Value → H} {W : World} : ∀ (fuel : Nat) (cs : List Value) (x : DataW H × List MemPlace), DataW.trod enc Tryz.prog W 0 (fun _ => true) true fuel 36 cs = some x → ∃ j, isJ (fun b => b < W.heap.size) W j cs
 | 0, cs, x, h => by
  obtain ⟨_, n, hf, _⟩ := DataW.trod_struct Tryz.underlying36 h
  omega
 | fuel + 1, cs, x, h => by
  obtain ⟨xs, n, hf, _, hl, hlen, hfs⟩ := DataW.trod_struct Tryz.underlying36 h
  obtain rfl : fuel = n := by omega
  rw [cellsJ] at hl
  match cs, hl with
  | [c0, c1, c2, c3, c4], _ =>
   match xs, hlen with
   | [y0, y1, y2, y3, y4], _ =>
    have g0 : DataW.trod enc Tryz.prog W 0 (fun _ => true) true fuel 3 (([c0, c1, c2, c3, c4].drop 0).take (Tryz.prog.cellsOf 3)) = some y0 := hfs 0 _ rfl
    rw [cellsI3] at g0
    have f0 : DataW.trod enc Tryz.prog W 0 (fun _ => true) true fuel 3 [c0] = some y0 := g0
    have g1 : DataW.trod enc Tryz.prog W 0 (fun _ => true) true fuel 2 (([c0, c1, c2, c3, c4].drop 1).take (Tryz.prog.cellsOf 2)) = some y1 := hfs 1 _ rfl
    rw [cellsI2] at g1
    have f1 : DataW.trod enc Tryz.prog W 0 (fun _ => true) true fuel 2 [c1] = some y1 := g1
    have g2 : DataW.trod enc Tryz.prog W 0 (fun _ => true) true fuel 9 (([c0, c1, c2, c3, c4].drop 2).take (Tryz.prog.cellsOf 9)) = some y2 := hfs 2 _ rfl
    rw [cellsS] at g2
    have f2 : DataW.trod enc Tryz.prog W 0 (fun _ => true) true fuel 9 [c2] = some y2 := g2
    have g3 : DataW.trod enc Tryz.prog W 0 (fun _ => true) true fuel 22 (([c0, c1, c2, c3, c4].drop 3).take (Tryz.prog.cellsOf 22)) = some y3 := hfs 3 _ rfl
    rw [cellsKs] at g3
    have f3 : DataW.trod enc Tryz.prog W 0 (fun _ => true) true fuel 22 [c3] = some y3 := g3
    have g4 : DataW.trod enc Tryz.prog W 0 (fun _ => true) true fuel 34 (([c0, c1, c2, c3, c4].drop 4).take (Tryz.prog.cellsOf 34)) = some y4 := hfs 4 _ rfl
    rw [cellsLs] at g4
    have f4 : DataW.trod enc Tryz.prog W 0 (fun _ => true) true fuel 34 [c4] = some y4 := g4
    obtain ⟨k, e0, _, _⟩ := DataW.trod_int Tryz.underlying3 f0
    obtain ⟨i, e1, _, _⟩ := DataW.trod_int Tryz.underlying2 f1
    obtain ⟨t, e2, _, _⟩ := DataW.trod_string Tryz.underlying9 f2
    simp only [List.cons.injEq, and_true] at e0 e1 e2
    subst e0 e1 e2
    have hkeys : ∃ pk nk ck ks, c3 = .slice pk nk ck ∧ nk = ks.length ∧ RdK (fun b => b < W.heap.size) W pk ck ks := by
     rcases open_strings Tryz.underlying22 Tryz.underlying9 cellsS f3 with ⟨e3, _⟩ | ⟨a, len, cap, ss, e3, _, hlc, _, hss, _, hcell, _⟩
     · simp only [List.cons.injEq, and_true] at e3
       exact ⟨none, 0, 0, [], e3, rfl, RdK.nil _ _⟩
     · simp only [List.cons.injEq, and_true] at e3
       simp only [if_true] at hss
       refine ⟨some a, len, cap, ss.take len, e3, by simp; omega, by simp; omega, fun j hj => ⟨a, rfl, ?_, ?_⟩⟩
       · have hj' : j < len := by simp at hj; omega
         have := cell_lt (hcell j (by omega))
         rwa [add_block] at this
       · have hj' : j < len := by simp at hj; omega
         rw [hcell j (by omega)]
         congr 2
         rw [List.getD_eq_getElem?_getD, List.getD_eq_getElem?_getD, List.getElem?_take, if_pos hj', List.getElem?_eq_getElem (by omega)]
         rfl
    have hlist : ∃ pl nl cl l, c4 = .slice pl nl cl ∧ nl = l.length ∧ l.length ≤ cl ∧ isJs (fun b => b < W.heap.size) W pl 0 l := by
     rcases DataW.trod_slice Tryz.underlying34 f4 with ⟨e4, _⟩ | ⟨a, len, cap, elems, rest, n', hn', e4, _, _, hlc, _, hel, hget, _, _⟩
     · simp only [List.cons.injEq, and_true] at e4
       exact ⟨none, 0, 0, [], e4, rfl, Nat.le_refl _, by unfold isJs; trivial⟩
     · simp only [List.cons.injEq, and_true] at e4
       rw [cellsJ] at hget
       cases len with
       | zero => exact ⟨some a, 0, cap, [], e4, rfl, Nat.zero_le _, by unfold isJs; trivial⟩
       | succ len =>
        obtain ⟨b, o, sp⟩ := a
        have hone : ∀ i, i < len + 1 → ∃ cs, W.cells? 0 ((⟨b, o, sp⟩ : Addr).add (i * 5)) 5 = some cs ∧ ∃ y, DataW.trod enc Tryz.prog W 0 (fun _ => true) true n' 36 cs = some y := fun i hi => by
         have h1 := hget i hi
         rw [List.getElem?_eq_getElem (by omega), Option.bind_eq_some_iff] at h1
         obtain ⟨cs, h2, h3⟩ := h1
         exact ⟨cs, h2, _, h3⟩
        have hsp : sp = none := by
         obtain ⟨cs, h2, _⟩ := hone 0 (by omega)
         have h3 := (World.cells?_some h2).2.2 0 (by omega)
         have h4 : (((⟨b, o, sp⟩ : Addr).add (0 * 5)).add 0) = ⟨b, o, sp⟩ := by
          unfold Addr.add
          simp
         rw [h4] at h3
         have hlen5 := (World.cells?_some h2).2.1
         rw [List.getElem?_eq_getElem (by omega)] at h3
         exact cell_none h3
        subst hsp
        have hadd : ∀ m, (⟨b, o, none⟩ : Addr).add m = ⟨b, o + m, none⟩ := fun m => by unfold Addr.add; split <;> simp_all
        have hadd2 : ∀ m m', ((⟨b, o + m, none⟩ : Addr)).add m' = ⟨b, o + m + m', none⟩ := fun m m' => by unfold Addr.add; split <;> simp_all
        have hb : b < W.heap.size := by
         obtain ⟨cs, h2, _⟩ := hone 0 (by omega)
         have := World.cells?_block h2 (by decide)
         rwa [hadd] at this
        obtain ⟨l, hl1, hl2⟩ := pick_list (z := J.zero) (P := fun i j => ∃ cs, (∀ m v, cs[m]? = some v → W.cell? ⟨b, o + (0 + i) * 5 + m, none⟩ = some v) ∧ isJ (fun b => b < W.heap.size) W j cs) (len + 1) fun i hi => by
         obtain ⟨cs, h2, y, h3⟩ := hone i hi
         obtain ⟨j, hj⟩ := viewJ n' cs y h3
         refine ⟨j, cs, fun m v hv => ?_, hj⟩
         have h5 := (World.cells?_some h2).2.2
         have hlen5 := (World.cells?_some h2).2.1
         have hm : m < 5 := by
          have := (List.getElem?_eq_some_iff.1 hv).1
          omega
         have h6 := h5 m hm
         rw [hadd, hadd2, hv] at h6
         rw [show o + (0 + i) * 5 + m = o + i * 5 + m by omega]
         exact h6
        exact ⟨some ⟨b, o, none⟩, len + 1, cap, l, e4, hl1.symm, by omega, isJs_of (O := fun b => b < W.heap.size) hb l 0 fun i hi => hl2 i (by omega)⟩
    obtain ⟨pk, nk, ck, ks, rfl, rfl, hk⟩ := hkeys
    obtain ⟨pl, nl, cl, l, rfl, rfl, hlc, hll⟩ := hlist
    exact ⟨.mk k i t ks l, by unfold isJ; exact ⟨pk, ck, pl, cl, rfl, hk, hlc, hll⟩⟩
end Go.Proofs.YtimhpglfolbomaaGreat

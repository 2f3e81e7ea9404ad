/-
  Which events are small, by a contract.
  Is a past small: by contracts.
  The document's Right, and what it calls: by contracts.
  The document's leans: by a contract.
  The document's Chain: by a contract.
  Which pasts are right, and what leans on what: the law, walked.
-/
import Derived.Test.YtimhpglfolbomaaGreatRC15
import Derived.Deep.QuietTactic
set_option maxRecDepth 100000
set_option maxHeartbeats 16000000
namespace Go.Proofs.YtimhpglfolbomaaGreat
open Go.RowKit Go.Maps
structure BigE (e : Ev) : Prop where
 room : e.room.size ≤ 140737488355328
 typ : e.typ.size ≤ 140737488355328
 sender : e.sender.size ≤ 140737488355328
 key : e.key.size ≤ 140737488355328
 hash : e.hash.size ≤ 140737488355328
 sigs : ∀ x ∈ e.sigs, x.1.size ≤ 140737488355328 ∧ x.2.size ≤ 140737488355328
structure FewE (e : Ev) : Prop where
 texts : e.room.size + e.typ.size + e.sender.size + e.key.size + e.hash.size ≤ 2000
 prev : e.prev.length ≤ 30
 prevs : ∀ x ∈ e.prev, x.size ≤ 100
 auth : e.auth.length ≤ 30
 auths : ∀ x ∈ e.auth, x.size ≤ 100
 sigs : e.sigs.length ≤ 30
 sigss : ∀ x ∈ e.sigs, x.1.size + x.2.size ≤ 200
 cont : szJ 20 e.content = true
def FewP (w w' : World) (e : Ev) (x : Ending) : Prop := (∃ b : Bool, x = .returned (.bool b) ∧ (b = true → FewE e)) ∧ Below w.heap.size w w'
theorem all_getD {l : List ByteArray} {B : Nat} (h : ∀ x, x < l.length → (l.getD x nix).size ≤ B) : ∀ x ∈ l, x.size ≤ B := fun x hx => by
 obtain ⟨y, hy, rfl⟩ := List.getElem_of_mem hx
 have := h y hy
 rwa [key_getD hy] at this
theorem eFew_any {O : Nat → Prop} (e : Ev) (p : Pt) (w : World) (hE : IsE O w e p) (hO : ∀ k, O k → k < w.heap.size) (hl : BigE e) :
    Calls Tryz.prog 16 #[valE e p] w fun x w' => FewP w w' e x := by
 obtain ⟨room, typ, sender, st, key, ⟨k, i, t, ks, l⟩, prev, auth, depth, ts, hash, sigs⟩ := e
 obtain ⟨pk, ck, pl, cl, pp, cp, pa, ca, ps, cs⟩ := p
 obtain ⟨z0, z1, z2, z4, z14, z15⟩ := hl
 obtain ⟨hc, hp, ha, hs⟩ := hE
 simp only at z0 z1 z2 z4 z14 z15 hc hp ha hs
 unfold five at hc
 simp only [J.kind, J.int, J.text, J.keys, J.list] at hc
 simp only [valE, cellsE, J.kind, J.int, J.text, J.keys, J.list]
 obtain ⟨np, hnp⟩ : ∃ n, prev.length = n := ⟨_, rfl⟩
 obtain ⟨na, hna⟩ : ∃ n, auth.length = n := ⟨_, rfl⟩
 obtain ⟨ns, hns⟩ : ∃ n, sigs.length = n := ⟨_, rfl⟩
 have HNP : Hid (prev.length = np) := hnp
 have HNA : Hid (auth.length = na) := hna
 have HNS : Hid (sigs.length = ns) := hns
 have hcp := hp.1
 have hca := ha.1
 have hcs := hs.1
 rw [hnp] at hcp ⊢
 rw [hna] at hca ⊢
 rw [hns] at hcs ⊢
 clear hnp hna hns
 obtain ⟨WB, hWB⟩ : ∃ WB, WB = w.alloc (.cells #[.string room, .string typ, .string sender, .bool st, .string key, .int .i64 k, .int .i64 i, .string t, .slice pk ks.length ck, .slice pl l.length cl, .slice pp np cp, .slice pa na ca, .int .i64 depth, .int .i64 ts, .string hash, .slice ps ns cs] 39) := ⟨_, rfl⟩
 have hbw : Below w.heap.size w WB := by rw [hWB]; exact (Below.refl _ _).alloc (Nat.le_refl _) _
 have hrs : WB.heap[w.heap.size]? = some (.cells #[.string room, .string typ, .string sender, .bool st, .string key, .int .i64 k, .int .i64 i, .string t, .slice pk ks.length ck, .slice pl l.length cl, .slice pp np cp, .slice pa na ca, .int .i64 depth, .int .i64 ts, .string hash, .slice ps ns cs] 39 (0, 0)) := by rw [hWB]; exact heap_alloc_new _ _
 have HNO : Hid (∀ W', Below w.heap.size w W' → ∀ x : Ending, x = .returned (.bool false) → FewP w W' ⟨room, typ, sender, st, key, ⟨k, i, t, ks, l⟩, prev, auth, depth, ts, hash, sigs⟩ x) := fun W' h x hx => ⟨⟨false, hx, fun h => by cases h⟩, h⟩
 by_cases h1 : (2000 : Int) < (room.size : Int) + typ.size + sender.size + key.size + hash.size
 · go_enter Tryz.func16, Tryz.ntmps16
   go_wp2
   go_ret
   exact HNO.out _ (hWB ▸ hbw) _ rfl
 by_cases h2 : (30 : Int) < np
 · go_enter Tryz.func16, Tryz.ntmps16
   go_wp2
   go_ret
   exact HNO.out _ (hWB ▸ hbw) _ rfl
 by_cases h3 : (30 : Int) < na
 · go_enter Tryz.func16, Tryz.ntmps16
   go_wp2
   go_ret
   exact HNO.out _ (hWB ▸ hbw) _ rfl
 by_cases h4 : (30 : Int) < ns
 · go_enter Tryz.func16, Tryz.ntmps16
   go_wp2
   go_ret
   exact HNO.out _ (hWB ▸ hbw) _ rfl
 have H1 : Hid (room.size + typ.size + sender.size + key.size + hash.size ≤ 2000) := by show _ ≤ _; omega
 have HP : Hid (∀ j, j < np → ∃ a, pp = some a ∧ WB.cell? (a.add j) = some (.string (prev.getD j nix))) := fun j hj => by
  obtain ⟨a, e, hOa, hca⟩ := hp.2 j (by rw [HNP.out]; exact hj)
  exact ⟨a, e, (World.cell?_of_block (by rw [add_block]; exact hbw.block _ (hO _ hOa))).trans hca⟩
 have HA : Hid (∀ j, j < na → ∃ a, pa = some a ∧ WB.cell? (a.add j) = some (.string (auth.getD j nix))) := fun j hj => by
  obtain ⟨a, e, hOa, hca⟩ := ha.2 j (by rw [HNA.out]; exact hj)
  exact ⟨a, e, (World.cell?_of_block (by rw [add_block]; exact hbw.block _ (hO _ hOa))).trans hca⟩
 have HSG : Hid (∀ j, j < ns → ∃ b o, ps = some ⟨b, o, none⟩ ∧ WB.cell? ⟨b, o + j * 2, none⟩ = some (.string (sigs.getD j (nix, nix)).1) ∧ WB.cell? ⟨b, o + j * 2 + 1, none⟩ = some (.string (sigs.getD j (nix, nix)).2)) := fun j hj => by
  obtain ⟨b, o, e, hOb, h1, h2⟩ := hs.2 j (by rw [HNS.out]; exact hj)
  exact ⟨b, o, e, (World.cell?_of_block (a := ⟨b, o + j * 2, none⟩) (hbw.block _ (hO _ hOb))).trans h1, (World.cell?_of_block (a := ⟨b, o + j * 2 + 1, none⟩) (hbw.block _ (hO _ hOb))).trans h2⟩
 have HL : Hid (∀ n, Calls Tryz.prog 34 #[.agg #[.int .i64 k, .int .i64 i, .string t, .slice pk ks.length ck, .slice pl l.length cl], .int .i64 300, .int .i64 20] (WB.drewN n) fun x w' => (∃ r : Int, x = .returned (.int .i64 r) ∧ r ≤ 300 ∧ -1 ≤ r ∧ (0 ≤ r → szJ 20 (.mk k i t ks l) = true)) ∧ Below (WB.drewN n).heap.size (WB.drewN n) w') := fun n =>
  elefts 20 (WB.drewN n) O (.mk k i t ks l) k i 20 300 t pk pl ks.length ck l.length cl (fun b hb => Nat.lt_of_lt_of_le (hO b hb) (below_in hbw (Id.below_drewN WB n)).size) rfl (by decide) (by decide) (by decide) (hc.carry fun b hb => ⟨hb, (below_in hbw (Id.below_drewN WB n)).block b (hO b hb)⟩)
 have HBW : Hid (Below w.heap.size w WB) := hbw
 have HZS : Hid (∀ x ∈ sigs, x.1.size ≤ 140737488355328 ∧ x.2.size ≤ 140737488355328) := z15
 clear hc hp ha hs hO hbw z15
 have q0 := six_c hrs 0 _ rfl; have q1 := six_c hrs 1 _ rfl; have q2 := six_c hrs 2 _ rfl; have q4 := six_c hrs 4 _ rfl; have q14 := six_c hrs 14 _ rfl; have q10 := six_c hrs 10 _ rfl; have q11 := six_c hrs 11 _ rfl; have q15 := six_c hrs 15 _ rfl
 have q5 := six_c hrs 5 _ rfl; have q6 := six_c hrs 6 _ rfl; have q7 := six_c hrs 7 _ rfl; have q8 := six_c hrs 8 _ rfl; have q9 := six_c hrs 9 _ rfl
 go_enter Tryz.func16, Tryz.ntmps16
 go_wp2
 rw [← hWB]
 clear hWB hrs
 go_loopw [3] (fun v wr => ∃ m : Nat, v = .int .i64 m ∧ m ≤ np ∧ Hid (∀ x, x < m → (prev.getD x nix).size ≤ 100) ∧ wr = WB) (fun v _ => np - (intOf v).toNat)
 case atStart => exact ⟨0, rfl, Nat.zero_le _, fun m hm => absurd hm (by omega), rfl⟩
 case round =>
  obtain ⟨m, rfl, hm, HX, rfl⟩ := hrel
  by_cases hlt : m < np
  · have hmi : (m : Int) < (np : Int) := by omega
    obtain ⟨a, rfl, hca1⟩ := HP.out m hlt
    obtain ⟨u, hu⟩ : ∃ u, prev.getD m nix = u := ⟨_, rfl⟩
    have HU : Hid (prev.getD m nix = u) := hu
    rw [hu] at hca1
    clear hu
    by_cases hus : (100 : Int) < u.size
    · go_wp2
      go_ret
      exact HNO.out _ HBW.out _ rfl
    · go_wp2
      go_roundw
      case rel => exact ⟨m + 1, by go_num, hlt, fun x hx => (Nat.lt_succ_iff_lt_or_eq.1 hx).elim (HX.out x) fun e => by rw [e, HU.out]; omega, trivial⟩
      case measure => simp [intOf]; omega
  · obtain rfl : m = np := by omega
    have HXP : Hid (∀ x ∈ prev, x.size ≤ 100) := all_getD (by rw [HNP.out]; exact HX.out)
    clear HX hlt hm
    go_wp2
    go_loopw [4] (fun v wr2 => ∃ n : Nat, v = .int .i64 n ∧ n ≤ na ∧ Hid (∀ x, x < n → (auth.getD x nix).size ≤ 100) ∧ wr2 = wr) (fun v _ => na - (intOf v).toNat)
    case atStart => exact ⟨0, rfl, Nat.zero_le _, fun m hm => absurd hm (by omega), rfl⟩
    case round =>
     obtain ⟨n, rfl, hn, HX, rfl⟩ := hrel
     by_cases hlt : n < na
     · have hmi : (n : Int) < (na : Int) := by omega
       obtain ⟨a, rfl, hca1⟩ := HA.out n hlt
       obtain ⟨u, hu⟩ : ∃ u, auth.getD n nix = u := ⟨_, rfl⟩
       have HU : Hid (auth.getD n nix = u) := hu
       rw [hu] at hca1
       clear hu
       by_cases hus : (100 : Int) < u.size
       · go_wp2
         go_ret
         exact HNO.out _ HBW.out _ rfl
       · go_wp2
         go_roundw
         case rel => exact ⟨n + 1, by go_num, hlt, fun x hx => (Nat.lt_succ_iff_lt_or_eq.1 hx).elim (HX.out x) fun e => by rw [e, HU.out]; omega, trivial⟩
         case measure => simp [intOf]; omega
     · obtain rfl : n = na := by omega
       have HXA : Hid (∀ x ∈ auth, x.size ≤ 100) := all_getD (by rw [HNA.out]; exact HX.out)
       clear HX hlt hn
       go_wp2
       go_loopw [5] (fun v wr3 => ∃ (h d : Nat), v = .int .i64 h ∧ h ≤ ns ∧ Hid (∀ x, x < h → (sigs.getD x (nix, nix)).1.size + (sigs.getD x (nix, nix)).2.size ≤ 200) ∧ wr3 = wr.drewN d) (fun v _ => ns - (intOf v).toNat)
       case atStart => exact ⟨0, 0, rfl, Nat.zero_le _, fun m hm => absurd hm (by omega), rfl⟩
       case round =>
        obtain ⟨h, d, rfl, hh, HX, rfl⟩ := hrel
        by_cases hlt : h < ns
        · have hmi : (h : Int) < (ns : Int) := by omega
          obtain ⟨b, o, rfl, hc1, hc2⟩ := HSG.out h hlt
          have hmem : sigs.getD h (nix, nix) ∈ sigs := by
           rw [List.getD_eq_getElem?_getD, List.getElem?_eq_getElem (by rw [HNS.out]; exact hlt)]
           exact List.getElem_mem _
          have hz := HZS.out _ hmem
          obtain ⟨uv, huv⟩ : ∃ u, sigs.getD h (nix, nix) = u := ⟨_, rfl⟩
          have HU : Hid (sigs.getD h (nix, nix) = uv) := huv
          rw [huv] at hc1 hc2 hz
          clear huv hmem
          obtain ⟨u, v⟩ := uv
          obtain ⟨y1, y2⟩ := hz
          simp only at hc1 hc2 y1 y2
          by_cases hus : (200 : Int) < (u.size : Int) + v.size
          · go_wp2
            refine wp_region_quiet_lit (by kernel_rfl) (by kernel_rfl) ?_
            repeat (any_goals (first | go_big_quiet_step (fail) | quiet_step (fail)))
            refine wpQuiet_nil ?_
            intro _ hw
            obtain ⟨nq, hw⟩ := hw
            subst hw
            go_wp2
            go_ret
            exact HNO.out _ (below_in HBW.out (by simpa [World.drewN_drewN] using Id.below_drewN _ _)) _ rfl
          · go_wp2
            refine wp_region_quiet_lit (by kernel_rfl) (by kernel_rfl) ?_
            repeat (any_goals (first | go_big_quiet_step (fail) | quiet_step (fail)))
            refine wpQuiet_nil ?_
            intro _ hw
            obtain ⟨nq, hw⟩ := hw
            subst hw
            go_wp2
            go_roundw
            case rel => exact ⟨h + 1, _, by go_num, hlt, fun x hx => (Nat.lt_succ_iff_lt_or_eq.1 hx).elim (HX.out x) fun e => by rw [e, HU.out]; show u.size + v.size ≤ 200; omega, rfl⟩
            case measure => simp [intOf]; omega
        · obtain rfl : h = ns := by omega
          have hL := HL.out d
          go_wp2_with (go_at_call 34; refine hL.mono ?_; rintro x w4 ⟨⟨r4, rfl, hr4, hr5, hr6⟩, hb4⟩)
          go_ret
          refine ⟨⟨_, rfl, fun hh => ?_⟩, below_in HBW.out (below_in (Id.below_drewN _ _) hb4)⟩
          refine ⟨H1.out, by show prev.length ≤ 30; rw [HNP.out]; omega, HXP.out, by show auth.length ≤ 30; rw [HNA.out]; omega, HXA.out, by show sigs.length ≤ 30; rw [HNS.out]; omega, fun x hx => ?_, hr6 (of_decide_eq_true hh)⟩
          obtain ⟨y, hy, rfl⟩ := List.getElem_of_mem hx
          have := HX.out y (by rw [← HNS.out]; exact hy)
          rw [List.getD_eq_getElem?_getD, List.getElem?_eq_getElem hy] at this
          exact this
end Go.Proofs.YtimhpglfolbomaaGreat
namespace Go.Proofs.YtimhpglfolbomaaGreat.Od
open Go.RowKit Go.Maps
structure BigPa (p : Pa) : Prop where
 names : p.names.length ≤ 9223372036854775807
 nms : ∀ s ∈ p.names, s.size ≤ 9223372036854775807
 evs : p.evs.length ≤ 9223372036854775807
 ev : ∀ e ∈ p.evs, BigE e
 prev : p.prev.length ≤ 9223372036854775807
 prevs : ∀ r ∈ p.prev, r.length ≤ 9223372036854775807
 auth : p.auth.length ≤ 9223372036854775807
 auths : ∀ r ∈ p.auth, r.length ≤ 9223372036854775807
 den : p.den.length ≤ 9223372036854775807
structure FewPa (p : Pa) : Prop where
 evs : p.evs.length ≤ 25
 names : p.names.length ≤ 30
 prev : p.prev.length ≤ 30
 auth : p.auth.length ≤ 30
 den : p.den.length ≤ 30
 ev : ∀ e ∈ p.evs, FewE e
 nms : ∀ s ∈ p.names, s.size ≤ 100
 prevs : ∀ r ∈ p.prev, r.length ≤ 30
 auths : ∀ r ∈ p.auth, r.length ≤ 30
theorem FewPa.sz {p : Pa} (h : FewPa p) : SzPa p := ⟨h.names, Nat.le_trans h.evs (by decide), h.prev, h.auth, h.den, h.prevs, h.auths⟩
def shortT (P : List (List Int)) : Bool := P.all fun r => decide (r.length ≤ 30)
theorem short_all {P : List (List Int)} (h : ∀ j, j < P.length → (P.getD j []).length ≤ 30) : shortT P = true := by
 unfold shortT
 rw [List.all_eq_true]
 intro r hr
 obtain ⟨j, hj, rfl⟩ := List.getElem_of_mem hr
 have := h j hj
 rw [getD_in hj] at this
 exact decide_eq_true this
theorem short_not {P : List (List Int)} {j : Nat} (hj : j < P.length) (h : ¬ (P.getD j []).length ≤ 30) : shortT P = false := by
 unfold shortT
 rw [List.all_eq_false]
 refine ⟨_, List.getElem_mem hj, ?_⟩
 rw [getD_in hj] at h
 simpa using h
theorem rows12_any (P : List (List Int)) (p : Option Addr) (c : Nat) (w : World) (r : RdR (· < w.heap.size) w p c P) (_hP : P.length ≤ 30) :
    Calls Tryz.prog 28 #[.slice p P.length c] w fun e w' => e = .returned (.bool (shortT P)) ∧ Below w.heap.size w w' := by
 have HR : Hid (∀ X, Below w.heap.size w X → RdR (· < w.heap.size) X p c P) := fun X hX => r.below hX
 have HA : Hid ((∀ j, j < P.length → (P.getD j []).length ≤ 30) → shortT P = true) := short_all
 have HF : Hid (∀ j, j < P.length → ¬ (P.getD j []).length ≤ 30 → shortT P = false) := fun _ => short_not
 have hrc := r.1
 obtain ⟨n, hn⟩ : ∃ n, P.length = n := ⟨_, rfl⟩
 have HN : Hid (P.length = n) := hn
 rw [hn] at HA HF hrc _hP ⊢
 clear hn r
 generalize shortT P = S at *
 go_enter Tryz.func28, Tryz.ntmps28
 go_wp2_with fail
 go_loopw [3] (fun i wr => ∃ k : Nat, k ≤ n ∧ i = .int .i64 k ∧ Below w.heap.size w wr ∧ Hid (∀ j, j < k → (P.getD j []).length ≤ 30)) (fun i _ => n - (intOf i).toNat)
 case atStart => exact ⟨0, Nat.zero_le _, rfl, Below.refl _ _, fun j hj => absurd hj (by omega)⟩
 case round =>
  obtain ⟨k, hk, rfl, hb, HS⟩ := hrel
  by_cases hlt : k < n
  · obtain ⟨b, o, p1, c1, rfl, _, hc, _⟩ := (HR.out wr hb).2 k (by rw [HN.out]; exact hlt)
    have HFk : Hid (¬ (P.getD k []).length ≤ 30 → S = false) := HF.out k hlt
    have HSk : Hid ((P.getD k []).length ≤ 30 → ∀ j, j < k + 1 → (P.getD j []).length ≤ 30) := fun h j hj => by
     rcases Nat.lt_or_ge j k with h' | h'
     · exact HS.out j h'
     · rw [show j = k by omega]; exact h
    generalize (P.getD k []).length = m at hc HFk HSk
    clear HS HF HA
    by_cases hm : m ≤ 30
    · have HX := (show Hid _ from HSk.out hm)
      have hm1 : decide ((30 : Int) < (m : Int)) = false := decide_eq_false (by omega)
      have hm2 : decide (30 < m) = false := decide_eq_false (by omega)
      clear HSk HFk
      go_wp2_with fail
      go_roundw
      case rel => exact ⟨k + 1, by omega, by go_num, hb, HX⟩
      case measure => simp [intOf]; omega
    · have HX : Hid (S = false) := HFk.out hm
      have hm' : 30 < m := by omega
      have hm1 : decide ((30 : Int) < (m : Int)) = true := decide_eq_true (by omega)
      have hm2 : decide (30 < m) = true := decide_eq_true hm'
      clear HSk HFk
      go_wp2_with fail
      go_ret
      exact ⟨ret_bool HX.out.symm, hb⟩
  · obtain rfl : k = n := by omega
    have HX : Hid (S = true) := HA.out HS.out
    clear HA HS HF
    go_wp2_with fail
    go_ret
    exact ⟨ret_bool HX.out.symm, hb⟩
def FewPaP (p : Pa) (w : World) (e : Ending) (w' : World) : Prop := (∃ b : Bool, e = .returned (.bool b) ∧ (b = true → FewPa p)) ∧ Below w.heap.size w w'
theorem FewPaP.no {p : Pa} {w w' : World} (hb : Below w.heap.size w w') : FewPaP p w (.returned (.bool false)) w' := ⟨⟨false, rfl, fun h => by cases h⟩, hb⟩
theorem FewPaP.yes {p : Pa} {w w' : World} {b : Bool} (h : b = true → FewPa p) (hb : Below w.heap.size w w') : FewPaP p w (.returned (.bool b)) w' := ⟨⟨b, rfl, h⟩, hb⟩
theorem few12_any {w : World} {p : Pa} {q : Pq} (h : IsPa (· < w.heap.size) w p q) (hB : BigPa p) : Calls Tryz.prog 9 #[valPa p q] w (FewPaP p w) := by
 obtain ⟨W0, hW0⟩ : ∃ W0, W0 = w.alloc (.cells (cellsPa p q).toArray 27) := ⟨_, rfl⟩
 have hb0 : Below w.heap.size w W0 := by rw [hW0]; exact (Below.refl _ _).alloc (Nat.le_refl _) _
 have V : IsVP W0 w.heap.size p q := by rw [hW0]; exact isVP_new h
 have HV : Hid (∀ X, Below W0.heap.size W0 X → IsVP X w.heap.size p q) := fun X hX => V.below hX
 have HB : Hid (BigPa p) := hB
 have HEV : Hid (∀ X, Below W0.heap.size W0 X → ∀ j, j < p.evs.length → ∃ b o, q.e = some ⟨b, o, none⟩ ∧ ∃ C : List Value, Hid (X.rangeAt b (o + j * 16) C ∧ C.length = 16 ∧ Calls Tryz.prog 16 #[.agg C.toArray] X fun x w' => FewP X w' (evT p j) x)) := fun X hX j hj => by
  obtain ⟨b, o, q', h1, _, h3, h4⟩ := (HV.out X hX).pa.evs.2 j hj
  exact ⟨b, o, h1, cellsE (evT p j) q', h3, rfl, eFew_any _ q' X h4 (fun _ h => h) (HB.out.ev _ (by unfold evT; exact getD_inm hj))⟩
 have c0 := V.c0; have c1 := V.c1; have c2 := V.c2; have c3 := V.c3; have c4 := V.c4
 have HFP : Hid (p.evs.length ≤ 25 → p.names.length ≤ 30 → p.prev.length ≤ 30 → p.auth.length ≤ 30 → p.den.length ≤ 30 → (∀ j, j < p.evs.length → FewE (evT p j)) → (∀ j, j < p.names.length → (nmT p j).size ≤ 100) → shortT p.prev = true → shortT p.auth = true → FewPa p) := fun h1 h2 h3 h4 h5 h6 h7 h8 h9 => ⟨h1, h2, h3, h4, h5, fun e he => by
     obtain ⟨j, hj, rfl⟩ := List.getElem_of_mem he
     have := h6 j hj
     unfold evT at this
     rwa [getD_in hj] at this, fun s hs => by
     obtain ⟨j, hj, rfl⟩ := List.getElem_of_mem hs
     have := h7 j hj
     unfold nmT at this
     rwa [getD_in hj] at this, fun r hr => by
     have := List.all_eq_true.1 h8 r hr
     simpa using this, fun r hr => by
     have := List.all_eq_true.1 h9 r hr
     simpa using this⟩
 have HL : Hid (p.prev.length ≤ 30 → ∀ X, Below W0.heap.size W0 X → Calls Tryz.prog 28 #[.slice q.v p.prev.length q.cv] X fun e w' => e = .returned (.bool (shortT p.prev)) ∧ Below X.heap.size X w') := fun h X hX => rows12_any p.prev q.v q.cv X (HV.out X hX).pa.prev h
 have HM : Hid (p.auth.length ≤ 30 → ∀ X, Below W0.heap.size W0 X → Calls Tryz.prog 28 #[.slice q.a p.auth.length q.ca] X fun e w' => e = .returned (.bool (shortT p.auth)) ∧ Below X.heap.size X w') := fun h X hX => rows12_any p.auth q.a q.ca X (HV.out X hX).pa.auth h
 have HC : Hid (∀ X, Below W0.heap.size W0 X → X.cell? ⟨w.heap.size, 0, none⟩ = some (.slice q.n p.names.length q.cn) ∧ X.cell? ⟨w.heap.size, 1, none⟩ = some (.slice q.e p.evs.length q.ce) ∧ X.cell? ⟨w.heap.size, 2, none⟩ = some (.slice q.v p.prev.length q.cv) ∧ X.cell? ⟨w.heap.size, 3, none⟩ = some (.slice q.a p.auth.length q.ca)) := fun X hX => ⟨(HV.out X hX).c0, (HV.out X hX).c1, (HV.out X hX).c2, (HV.out X hX).c3⟩
 have HNM : Hid (∀ X, Below W0.heap.size W0 X → ∀ j, j < p.names.length → ∃ b o, q.n = some ⟨b, o, none⟩ ∧ X.cell? ⟨b, o + j, none⟩ = some (.string (nmT p j))) := fun X hX j hj => by
  obtain ⟨b, o, h1, _, h3⟩ := (HV.out X hX).pa.names.2 (by rintro h; rw [h] at hj; simp at hj)
  refine ⟨b, o, h1, h3 j (nmT p j) ?_⟩
  unfold nmT
  rw [getD_in hj, List.getElem?_eq_getElem hj]
 have hen := V.pa.evs.1; have hnn := V.pa.names.1
 have hbe := hB.evs; have hbn := hB.names; have hbp := hB.prev; have hba := hB.auth; have hbd := hB.den
 unfold valPa
 generalize cellsPa p q = CP at hW0 ⊢
 generalize p.den.length = nd at *
 generalize p.prev.length = np at *
 generalize p.auth.length = na at *
 generalize p.names.length = nn at *
 generalize p.evs.length = ne at *
 by_cases h1 : ne ≤ 25
 case neg =>
  have h1' : 25 < ne := by omega
  clear HV HEV HB V hB h
  go_enter Tryz.func9, Tryz.ntmps9
  go_upto_region 1 with fail
  rw [← hW0]
  clear hW0
  go_wp2_with fail
  go_ret
  exact FewPaP.no hb0
 by_cases h2 : nn ≤ 30
 case neg =>
  have h2' : 30 < nn := by omega
  clear HV HEV HB V hB h
  go_enter Tryz.func9, Tryz.ntmps9
  go_upto_region 1 with fail
  rw [← hW0]
  clear hW0
  go_wp2_with fail
  go_ret
  exact FewPaP.no hb0
 by_cases h3 : np ≤ 30
 case neg =>
  have h3' : 30 < np := by omega
  clear HV HEV HB V hB h
  go_enter Tryz.func9, Tryz.ntmps9
  go_upto_region 1 with fail
  rw [← hW0]
  clear hW0
  go_wp2_with fail
  go_ret
  exact FewPaP.no hb0
 by_cases h4 : na ≤ 30
 case neg =>
  have h4' : 30 < na := by omega
  clear HV HEV HB V hB h
  go_enter Tryz.func9, Tryz.ntmps9
  go_upto_region 1 with fail
  rw [← hW0]
  clear hW0
  go_wp2_with fail
  go_ret
  exact FewPaP.no hb0
 by_cases h5 : nd ≤ 30
 case neg =>
  have h5' : 30 < nd := by omega
  clear HV HEV HB V hB h
  go_enter Tryz.func9, Tryz.ntmps9
  go_upto_region 1 with fail
  rw [← hW0]
  clear hW0
  go_wp2_with fail
  go_ret
  exact FewPaP.no hb0
 have HL2 := (show Hid _ from HL.out h3)
 have HM2 := (show Hid _ from HM.out h4)
 have HF2 := (show Hid _ from HFP.out h1 h2 h3 h4 h5)
 clear HL HM HFP HV HB V hB h
 go_enter Tryz.func9, Tryz.ntmps9
 go_upto_region 1 with fail
 rw [← hW0]
 clear hW0
 go_upto_region 4 with fail
 go_loopw [3] (fun i wr => ∃ k : Nat, k ≤ ne ∧ i = .int .i64 k ∧ Below W0.heap.size W0 wr ∧ Hid (∀ j, j < k → FewE (evT p j))) (fun i _ => ne - (intOf i).toNat)
 case atStart => exact ⟨0, Nat.zero_le _, rfl, Below.refl _ _, fun j hj => absurd hj (by omega)⟩
 case round =>
  obtain ⟨k, hk, rfl, hb, HS⟩ := hrel
  clear c0 c1 c2 c3 c4
  have c1 := (HC.out wr hb).2.1
  by_cases hlt : k < ne
  · obtain ⟨eb, eo, hqe, C, HCC⟩ := HEV.out wr hb k hlt
    rw [hqe] at c1
    clear hqe
    have HSk : Hid (FewE (evT p k) → ∀ j, j < k + 1 → FewE (evT p j)) := fun h j hj => by
     rcases Nat.lt_or_ge j k with h' | h'
     · exact HS.out j h'
     · rw [show j = k by omega]; exact h
    generalize evT p k = ev at HCC HSk
    have HCA : Hid (Calls Tryz.prog 16 #[.agg C.toArray] wr fun x w' => FewP wr w' ev x) := HCC.out.2.2
    have HLR : Hid ((Instr.loadAt 39 (.pointer (some ⟨eb, eo + k * 16, none⟩))).run Tryz.prog wr = .ok (.agg C.toArray) wr) := run_loadAt_mid wr eb (eo + k * 16) 39 C _ HCC.out.1 Tryz.underlying39 rfl (by rw [HCC.out.2.1]; exact infoE)
    clear HS HCC HF2
    go_wp2_with (first
     | (refine wpList_loadK rfl 39 _ rfl eb (eo + k * 16) rfl C HLR.out ?_)
     | (go_at_call 16; refine HCA.out.mono ?_; rintro x w1 ⟨⟨b1, rfl, hf1⟩, hb1⟩; cases b1; have hN1 := hb1; clear hb1))
    · go_ret
      exact FewPaP.no (belowP hb0 (belowP hb hN1))
    · have HX := (show Hid _ from HSk.out (hf1 trivial))
      clear hf1 HSk
      go_roundw
      case rel => exact ⟨k + 1, by omega, by go_num, belowP hb hb1, HX⟩
      case measure => simp [intOf]; omega
  · obtain rfl : k = ne := by omega
    have HS2 := (show Hid _ from HF2.out HS.out)
    clear HS HF2
    have c0 := (HC.out wr hb).1
    go_upto_region 9 with fail
    go_loopw [4] (fun i wx => ∃ m : Nat, m ≤ nn ∧ i = .int .i64 m ∧ Below wr.heap.size wr wx ∧ Hid (∀ j, j < m → (nmT p j).size ≤ 100)) (fun i _ => nn - (intOf i).toNat)
    case atStart => exact ⟨0, Nat.zero_le _, rfl, Below.refl _ _, fun j hj => absurd hj (by omega)⟩
    case round =>
     obtain ⟨m, hm, rfl, hbx, HS⟩ := hrel
     have hbW := belowP hb hbx
     clear c0
     obtain ⟨c0, _, c2, c3⟩ := HC.out _ hbW
     by_cases hlt : m < nn
     · obtain ⟨nb, no, hqn, hcn⟩ := HNM.out _ hbW m hlt
       rw [hqn] at c0
       clear hqn c2 c3
       have HSk : Hid ((nmT p m).size ≤ 100 → ∀ j, j < m + 1 → (nmT p j).size ≤ 100) := fun h j hj => by
        rcases Nat.lt_or_ge j m with h' | h'
        · exact HS.out j h'
        · rw [show j = m by omega]; exact h
       generalize nmT p m = s at hcn HSk
       clear HS HS2
       by_cases hs : s.size ≤ 100
       · have HX := (show Hid _ from HSk.out hs)
         have hs1 : decide ((100 : Int) < (s.size : Int)) = false := decide_eq_false (by omega)
         have hs2 : decide (100 < s.size) = false := decide_eq_false (by omega)
         clear HSk
         go_wp2_with fail
         go_roundw
         case rel => exact ⟨m + 1, by omega, by go_num, hbx, HX⟩
         case measure => simp [intOf]; omega
       · have hs' : 100 < s.size := by omega
         have hs1 : decide ((100 : Int) < (s.size : Int)) = true := decide_eq_true (by omega)
         have hs2 : decide (100 < s.size) = true := decide_eq_true hs'
         clear HSk
         go_wp2_with fail
         go_ret
         exact FewPaP.no (belowP hb0 hbW)
     · obtain rfl : m = nn := by omega
       have HS3 := (show Hid _ from HS2.out HS.out)
       have hP := HL2.out _ hbW
       clear HS HS2
       generalize shortT p.prev = sp at hP HS3
       generalize shortT p.auth = sa at HM2 HS3
       cases sp with
       | false =>
        clear HS3
        go_wp2_with (go_at_call 28; refine hP.mono ?_; rintro x w3 ⟨rfl, hb3⟩)
        go_ret
        exact FewPaP.no (belowP hb0 (belowP hbW hb3))
       | true =>
        go_wp2_with (first
         | (go_at_call 28; refine hP.mono ?_; rintro x w3 ⟨rfl, hb3⟩; have c3 := (HC.out _ (belowP hbW hb3)).2.2.2; have hA := HM2.out _ (belowP hbW hb3); clear hP)
         | (go_at_call 28; refine hA.mono ?_; rintro x w4 ⟨rfl, hb4⟩))
        go_ret
        refine FewPaP.yes (fun h => HS3.out trivial h) (belowP hb0 (belowP hbW (belowP hb3 hb4)))
theorem rbelow_any {O : Nat → Prop} (l : List Int) (n : Nat) (p : Option Addr) (c : Nat) (w : World) (r : RdI O w p c l) (_hl : l.length ≤ 1000) :
    Calls Tryz.prog 30 #[.slice p l.length c, .int .i64 (n : Int)] w fun e w' => e = .returned (.bool (belowT l n)) ∧ w = w' := by
 obtain ⟨m, hm⟩ : ∃ m, l.length = m := ⟨_, rfl⟩
 have HM : Hid (l.length = m) := hm
 have HB : Hid (belowT l n = l.all fun j => decide (0 ≤ j ∧ j < (n : Int))) := rfl
 rw [hm] at _hl ⊢
 clear hm
 go_enter Tryz.func30, Tryz.ntmps30
 go_wp2
 go_loopw [5] (fun i wx => ∃ j : Nat, j ≤ m ∧ i = .int .i64 j ∧ wx = w ∧ Hid ((l.take j).all (fun p => decide (0 ≤ p ∧ p < (n : Int))) = true)) (fun i _ => m - (intOf i).toNat)
 case atStart => exact ⟨0, Nat.zero_le _, rfl, rfl, by show _ = _; simp⟩
 case round =>
  obtain ⟨j, hj, rfl, rfl, HA⟩ := hrel
  by_cases hjt : j < m
  · have hjt' : j < l.length := by rw [HM.out]; exact hjt
    obtain ⟨ad, rfl, _, hc1⟩ := r.at j 0 hjt'
    have HT2 : Hid _ := all_next (fun p => decide (0 ≤ p ∧ p < (n : Int))) l j 0 hjt'
    have HB2 : Hid ((decide (0 ≤ l.getD j 0 ∧ l.getD j 0 < (n : Int))) = false → belowT l n = false) := fun h => all_bad (d := 0) hjt' h
    generalize l.getD j 0 = x at *
    by_cases h0 : x < 0
    · have d0 : decide (x < 0) = true := decide_eq_true h0
      have HF : Hid (belowT l n = false) := HB2.out (by simp; omega)
      go_wp2
      go_ret
      exact ⟨ret_bool HF.out.symm, rfl⟩
    · have d0 : decide (x < 0) = false := decide_eq_false h0
      by_cases h1 : (n : Int) ≤ x
      · have HF : Hid (belowT l n = false) := HB2.out (by simp; omega)
        have d1 : decide ((n : Int) ≤ x) = true := decide_eq_true h1
        go_wp2
        go_ret
        exact ⟨ret_bool HF.out.symm, rfl⟩
      · have d1 : decide ((n : Int) ≤ x) = false := decide_eq_false h1
        go_wp2
        go_roundw
        case rel => exact ⟨j + 1, by omega, by go_num, by first | rfl | trivial, by show _ = _; rw [HT2.out, HA.out]; simp; omega⟩
        case measure => simp [intOf]; omega
  · obtain rfl : j = m := by omega
    have HF : Hid (belowT l n = true) := by
     show _ = _
     have := HA.out
     rw [← HM.out, List.take_length] at this
     rw [HB.out, this]
    go_wp2
    go_ret
    exact ⟨ret_bool HF.out.symm, rfl⟩
theorem rin_any {O : Nat → Prop} (l : List Int) (n : Int) (p : Option Addr) (c : Nat) (w : World) (r : RdI O w p c l) (_hl : l.length ≤ 1000) :
    Calls Tryz.prog 23 #[.int .i64 n, .slice p l.length c] w fun e w' => e = .returned (.bool (decide (n ∈ l))) ∧ w = w' := by
 obtain ⟨m, hm⟩ : ∃ m, l.length = m := ⟨_, rfl⟩
 have HM : Hid (l.length = m) := hm
 have HX : Hid ((∀ j, j < l.length → l.getD j 0 ≠ n) → n ∉ l) := fun h hn => by
  obtain ⟨j, hj, e⟩ := List.getElem_of_mem hn
  exact h j hj (by rw [getD_in hj]; exact e)
 have HY : Hid (∀ j, j < l.length → l.getD j 0 = n → n ∈ l) := fun j hj e => by rw [← e, getD_in hj]; exact List.getElem_mem hj
 rw [hm] at _hl ⊢
 clear hm
 go_enter Tryz.func23, Tryz.ntmps23
 go_wp2
 go_loopw [5] (fun i wx => ∃ j : Nat, j ≤ m ∧ i = .int .i64 j ∧ wx = w ∧ Hid (∀ i, i < j → l.getD i 0 ≠ n)) (fun i _ => m - (intOf i).toNat)
 case atStart => exact ⟨0, Nat.zero_le _, rfl, rfl, fun j hj => absurd hj (by omega)⟩
 case round =>
  obtain ⟨j, hj, rfl, rfl, HA⟩ := hrel
  by_cases hjt : j < m
  · have hjt' : j < l.length := by rw [HM.out]; exact hjt
    obtain ⟨ad, rfl, _, hc1⟩ := r.at j 0 hjt'
    have HYj : Hid (l.getD j 0 = n → n ∈ l) := HY.out j hjt'
    have HAj : Hid (l.getD j 0 ≠ n → ∀ i, i < j + 1 → l.getD i 0 ≠ n) := fun h i hi => by
     rcases Nat.lt_or_ge i j with h' | h'
     · exact HA.out i h'
     · rw [show i = j by omega]; exact h
    generalize l.getD j 0 = x at *
    by_cases h0 : x = n
    · subst h0
      have HF : Hid (x ∈ l) := HYj.out rfl
      clear HA HAj HYj HX HY
      go_wp2
      go_ret
      exact ⟨ret_bool (decide_eq_true HF.out).symm, rfl⟩
    · have d0 : (x == n) = false := by simpa using h0
      have HF := (show Hid _ from HAj.out h0)
      clear HA HAj HYj HX HY
      go_wp2
      go_roundw
      case rel => exact ⟨j + 1, by omega, by go_num, by first | rfl | trivial, HF⟩
      case measure => simp [intOf]; omega
  · obtain rfl : j = m := by omega
    have HF : Hid (n ∉ l) := HX.out (by rw [HM.out]; exact HA.out)
    clear HX HY HA
    go_wp2
    go_ret
    exact ⟨ret_bool (decide_eq_false HF.out).symm, rfl⟩
theorem back_all {P : List (List Int)} {n : Nat} (hl : P.length = n) (h : ∀ j, j < n → belowT (P.getD j []) j = true) : backT P n = true := by
 unfold backT
 rw [Bool.and_eq_true, List.all_eq_true]
 exact ⟨fun j hj => h j (by rw [← hl]; exact List.mem_range.1 hj), decide_eq_true hl⟩
theorem back_bad {P : List (List Int)} {n j : Nat} (hj : j < P.length) (h : belowT (P.getD j []) j = false) : backT P n = false := by
 unfold backT
 rw [range_bad (f := fun i => belowT (P.getD i []) i) hj h]
 rfl
theorem back_len {P : List (List Int)} {n : Nat} (h : P.length ≠ n) : backT P n = false := by
 unfold backT
 rw [decide_eq_false h, Bool.and_false]
theorem rright_any {w : World} {p : Pa} {q : Pq} (h : IsPa (· < w.heap.size) w p q) (hz : SzPa p) :
    Calls Tryz.prog 11 #[valPa p q] w fun e w' => e = .returned (.bool (rightT p)) ∧ Below w.heap.size w w' := by
 obtain ⟨W0, hW0⟩ : ∃ W0, W0 = w.alloc (.cells (cellsPa p q).toArray 27) := ⟨_, rfl⟩
 have hb0 : Below w.heap.size w W0 := by rw [hW0]; exact (Below.refl _ _).alloc (Nat.le_refl _) _
 have V : IsVP W0 w.heap.size p q := by rw [hW0]; exact isVP_new h
 have c0 := V.c0; have c1 := V.c1; have c2 := V.c2; have c3 := V.c3; have c4 := V.c4
 have HR : Hid (rightT p = (decide (p.names.length = p.evs.length) && decide (p.den.length = p.evs.length) && backT p.prev p.evs.length && backT p.auth p.evs.length)) := rfl
 have HRP : Hid (∀ j, j < p.prev.length → ∃ b o p1 c1, q.v = some ⟨b, o, none⟩ ∧ W0.cell? ⟨b, o + j, none⟩ = some (.slice p1 (p.prev.getD j []).length c1) ∧ Hid (Calls Tryz.prog 30 #[.slice p1 (p.prev.getD j []).length c1, .int .i64 (j : Int)] W0 fun e w' => e = .returned (.bool (belowT (p.prev.getD j []) j)) ∧ W0 = w')) := fun j hj => by
  obtain ⟨b, o, p1, c1, h1, _, h3, h4⟩ := V.pa.prev.2 j hj
  exact ⟨b, o, p1, c1, h1, h3, rbelow_any _ j p1 c1 W0 h4 (by have := hz.prevs _ (getD_inm (d := []) hj); omega)⟩
 have HRA : Hid (∀ j, j < p.auth.length → ∃ b o p1 c1, q.a = some ⟨b, o, none⟩ ∧ W0.cell? ⟨b, o + j, none⟩ = some (.slice p1 (p.auth.getD j []).length c1) ∧ Hid (Calls Tryz.prog 30 #[.slice p1 (p.auth.getD j []).length c1, .int .i64 (j : Int)] W0 fun e w' => e = .returned (.bool (belowT (p.auth.getD j []) j)) ∧ W0 = w')) := fun j hj => by
  obtain ⟨b, o, p1, c1, h1, _, h3, h4⟩ := V.pa.auth.2 j hj
  exact ⟨b, o, p1, c1, h1, h3, rbelow_any _ j p1 c1 W0 h4 (by have := hz.auths _ (getD_inm (d := []) hj); omega)⟩
 have HL2 : Hid (p.prev.length ≠ p.evs.length → rightT p = false) := fun h => by rw [HR.out, back_len h]; simp
 have HL3 : Hid (p.auth.length ≠ p.evs.length → rightT p = false) := fun h => by rw [HR.out, back_len h]; simp
 have HL0 : Hid (p.names.length ≠ p.evs.length → rightT p = false) := fun h => by rw [HR.out, decide_eq_false h]; simp
 have HL4 : Hid (p.den.length ≠ p.evs.length → rightT p = false) := fun h => by rw [HR.out, decide_eq_false h]; simp
 have HB2 : Hid (∀ j, j < p.prev.length → belowT (p.prev.getD j []) j = false → rightT p = false) := fun j hj h => by rw [HR.out, back_bad hj h]; simp
 have HB3 : Hid (∀ j, j < p.auth.length → belowT (p.auth.getD j []) j = false → rightT p = false) := fun j hj h => by rw [HR.out, back_bad hj h]; simp
 have HTT : Hid (p.names.length = p.evs.length → p.prev.length = p.evs.length → p.auth.length = p.evs.length → p.den.length = p.evs.length → (∀ j, j < p.evs.length → belowT (p.prev.getD j []) j = true ∧ belowT (p.auth.getD j []) j = true) → rightT p = true) := fun a b c d e => by
  rw [HR.out, decide_eq_true a, decide_eq_true d, back_all b fun j hj => (e j hj).1, back_all c fun j hj => (e j hj).2]; rfl
 have z1 := hz.evs
 have v2 := V.pa.prev.1; have v3 := V.pa.auth.1
 clear HR V h hz
 unfold valPa
 generalize cellsPa p q = CP at hW0 ⊢
 generalize rightT p = R at *
 generalize p.names.length = n0 at *
 generalize p.evs.length = n1 at *
 generalize p.prev.length = n2 at *
 generalize p.auth.length = n3 at *
 generalize p.den.length = n4 at *
 by_cases h0 : n0 = n1
 case neg =>
  have HF : Hid (R = false) := HL0.out h0
  have e0 : ((n0 : Int) == (n1 : Int)) = false := by rw [beq_eq_false_iff_ne]; omega
  have e0' : ((n0 : Int) != (n1 : Int)) = true := by rw [bne_iff_ne]; omega
  clear HRP HRA HL0 HL2 HL3 HL4 HB2 HB3 HTT
  go_enter Tryz.func11, Tryz.ntmps11
  go_upto_region 1 with fail
  rw [← hW0]
  clear hW0
  go_wp2_with fail
  go_ret
  exact ⟨ret_bool HF.out.symm, hb0⟩
 subst h0
 by_cases h2 : n2 = n0
 case neg =>
  have HF : Hid (R = false) := HL2.out h2
  have e0 : ((n2 : Int) == (n0 : Int)) = false := by rw [beq_eq_false_iff_ne]; omega
  have e0' : ((n2 : Int) != (n0 : Int)) = true := by rw [bne_iff_ne]; omega
  clear HRP HRA HL0 HL2 HL3 HL4 HB2 HB3 HTT
  go_enter Tryz.func11, Tryz.ntmps11
  go_upto_region 1 with fail
  rw [← hW0]
  clear hW0
  go_wp2_with fail
  go_ret
  exact ⟨ret_bool HF.out.symm, hb0⟩
 subst h2
 by_cases h3 : n3 = n2
 case neg =>
  have HF : Hid (R = false) := HL3.out h3
  have e0 : ((n3 : Int) == (n2 : Int)) = false := by rw [beq_eq_false_iff_ne]; omega
  have e0' : ((n3 : Int) != (n2 : Int)) = true := by rw [bne_iff_ne]; omega
  clear HRP HRA HL0 HL2 HL3 HL4 HB2 HB3 HTT
  go_enter Tryz.func11, Tryz.ntmps11
  go_upto_region 1 with fail
  rw [← hW0]
  clear hW0
  go_wp2_with fail
  go_ret
  exact ⟨ret_bool HF.out.symm, hb0⟩
 subst h3
 by_cases h4 : n4 = n3
 case neg =>
  have HF : Hid (R = false) := HL4.out h4
  have e0 : ((n4 : Int) == (n3 : Int)) = false := by rw [beq_eq_false_iff_ne]; omega
  have e0' : ((n4 : Int) != (n3 : Int)) = true := by rw [bne_iff_ne]; omega
  clear HRP HRA HL0 HL2 HL3 HL4 HB2 HB3 HTT
  go_enter Tryz.func11, Tryz.ntmps11
  go_upto_region 1 with fail
  rw [← hW0]
  clear hW0
  go_wp2_with fail
  go_ret
  exact ⟨ret_bool HF.out.symm, hb0⟩
 subst h4
 have HT2 := (show Hid _ from HTT.out rfl rfl rfl rfl)
 clear HTT HL0 HL2 HL3 HL4
 go_enter Tryz.func11, Tryz.ntmps11
 go_upto_region 1 with fail
 rw [← hW0]
 clear hW0
 go_upto_region 5 with fail
 go_loopw [4] (fun i wr => ∃ k : Nat, k ≤ n4 ∧ i = .int .i64 k ∧ wr = W0 ∧ Hid (∀ j, j < k → belowT (p.prev.getD j []) j = true ∧ belowT (p.auth.getD j []) j = true)) (fun i _ => n4 - (intOf i).toNat)
 case atStart => exact ⟨0, Nat.zero_le _, rfl, rfl, fun j hj => absurd hj (by omega)⟩
 case round =>
  obtain ⟨k, hk, rfl, rfl, HS⟩ := hrel
  by_cases hlt : k < n4
  · obtain ⟨vb, vo, p1, d1, hqv, hcv, HCV⟩ := HRP.out k hlt
    obtain ⟨ab, ao, p2, d2, hqa, hca, HCA⟩ := HRA.out k hlt
    rw [hqv] at c2
    rw [hqa] at c3
    have HB2k := (show Hid _ from HB2.out k hlt)
    have HB3k := (show Hid _ from HB3.out k hlt)
    have HSk : Hid (belowT (p.prev.getD k []) k = true → belowT (p.auth.getD k []) k = true → ∀ j, j < k + 1 → belowT (p.prev.getD j []) j = true ∧ belowT (p.auth.getD j []) j = true) := fun h h' j hj => by
     rcases Nat.lt_or_ge j k with h'' | h''
     · exact HS.out j h''
     · rw [show j = k by omega]; exact ⟨h, h'⟩
    clear hqv hqa HS HRP HRA HB2 HB3 HT2
    generalize belowT (p.prev.getD k []) k = b1 at HCV HB2k HSk
    generalize belowT (p.auth.getD k []) k = b2 at HCA HB3k HSk
    generalize (p.prev.getD k []).length = m1 at hcv HCV
    generalize (p.auth.getD k []).length = m2 at hca HCA
    cases b1 with
    | false =>
     have HF : Hid (R = false) := HB2k.out rfl
     clear HB2k HB3k HSk HCA
     go_wp2_with (go_at_call 30; refine HCV.out.mono ?_; rintro e w' ⟨rfl, rfl⟩)
     go_ret
     exact ⟨ret_bool HF.out.symm, hb0⟩
    | true =>
     cases b2 with
     | false =>
      have HF : Hid (R = false) := HB3k.out rfl
      clear HB2k HB3k HSk
      go_wp2_with (first
       | (go_at_call 30; have _hh := HCV; refine HCV.out.mono ?_; rintro e w' ⟨rfl, rfl⟩; clear HCV _hh)
       | (go_at_call 30; refine HCA.out.mono ?_; rintro e w' ⟨rfl, rfl⟩))
      go_ret
      exact ⟨ret_bool HF.out.symm, hb0⟩
     | true =>
      have HX := (show Hid _ from HSk.out rfl rfl)
      clear HB2k HB3k HSk
      go_wp2_with (first
       | (go_at_call 30; have _hh := HCV; refine HCV.out.mono ?_; rintro e w' ⟨rfl, rfl⟩; clear HCV _hh)
       | (go_at_call 30; refine HCA.out.mono ?_; rintro e w' ⟨rfl, rfl⟩))
      go_roundw
      case rel => exact ⟨k + 1, by omega, by go_num, by first | rfl | trivial, HX⟩
      case measure => simp [intOf]; omega
  · obtain rfl : k = n4 := by omega
    have HF : Hid (R = true) := HT2.out HS.out
    clear HS HT2 HRP HRA HB2 HB3
    go_wp2_with fail
    go_ret
    exact ⟨ret_bool HF.out.symm, hb0⟩
theorem cell_ltS {w : World} {a : Addr} {v : Value} (h : w.cell? a = some v) : a.block < w.heap.size := by
 rcases Nat.lt_or_ge a.block w.heap.size with h' | h'
 · exact h'
 · simp [World.cell?, Array.getElem?_eq_none h'] at h
def chU (C : List Bool) (m : Nat) : List Nat := (List.range m).filter fun i => C.getD i false
theorem chU_next (C : List Bool) (m : Nat) : chU C (m + 1) = if C.getD m false = true then chU C m ++ [m] else chU C m := by
 unfold chU
 rw [List.range_succ, List.filter_append]
 rw [show [m].filter (fun i => C.getD i false) = if C.getD m false = true then [m] else [] from by simp only [List.filter_cons, List.filter_nil]]
 split
 · rfl
 · rw [List.append_nil]
theorem chU_all {Q : List (List Nat)} {S : List Nat} {n : Nat} {C : List Bool} (hQn : Q.length = n) (h : MarkP Q S n 0 C) : chU C n = chT Q S := by
 unfold chU chT
 rw [hQn]
 refine List.filter_congr fun x hx => ?_
 have hx' := List.mem_range.1 hx
 have h2 := h.2 x hx'
 rw [gm_all] at h2
 by_cases hl : Lead Q S x
 · rw [h2.2 hl]; simp only [hl, decide_true]
 · cases hc : C.getD x false with
   | true => exact absurd (h2.1 hc) hl
   | false => simp only [hl, decide_false]
theorem rchain_any {O : Nat → Prop} {w : World} {p : Pa} {q : Pq} {l : List Int} {pl : Option Addr} {cl : Nat} (h : IsPa (· < w.heap.size) w p q) (hz : SzPa p) (hl : RdI O w pl cl l) (hO : ∀ k, O k → k < w.heap.size) (hll : l.length ≤ 1000) :
    Calls Tryz.prog 14 #[valPa p q, .slice pl l.length cl] w (RowP (zs (chainV p l)) w) := by
 obtain ⟨W0, hW0⟩ : ∃ W0, W0 = w.alloc (.cells (cellsPa p q).toArray 27) := ⟨_, rfl⟩
 have hb0 : Below w.heap.size w W0 := by rw [hW0]; exact (Below.refl _ _).alloc (Nat.le_refl _) _
 have V : IsVP W0 w.heap.size p q := by rw [hW0]; exact isVP_new h
 have hRi := rright_any V.pa hz
 have HLD : Hid ((Instr.loadAt 27 (.pointer (some ⟨w.heap.size, 0, none⟩))).run Tryz.prog W0 = .ok (.agg (cellsPa p q).toArray) W0) := V.load
 cases hr : rightT p with
 | false =>
  have HR : Hid (chainV p l = []) := by show _ = _; unfold chainV; rw [hr]; rfl
  rw [hr] at hRi
  clear V h hz hr
  generalize chainV p l = R at *
  generalize l.length = nl at *
  unfold valPa at hRi ⊢
  generalize cellsPa p q = CP at *
  go_enter Tryz.func14, Tryz.ntmps14
  go_upto_region 1 with fail
  rw [← hW0]
  clear hW0
  go_wp2_with (first
   | (refine wpList_loadK rfl 27 _ rfl w.heap.size 0 rfl CP HLD.out ?_)
   | (go_at_call 11; refine hRi.mono ?_; rintro e w1 ⟨rfl, hb1⟩))
  go_ret
  rw [HR.out]
  exact ⟨_, rfl, World.ownsRow_nil _ _ _ _, belowP hb0 hb1⟩
 | true =>
 have HRV : Hid (chainV p l = chT (toQ p.auth) (thereT p.evs.length l)) := by show _ = _; unfold chainV; rw [hr]; rfl
 rw [hr] at hRi
 have hba := (right_parts hr).2.1
 obtain ⟨hI, hQ, hAL⟩ := back_of hba
 have HQ : Hid (BackQ (toQ p.auth)) := hQ
 have HQN : Hid ((toQ p.auth).length = p.evs.length) := by show _ = _; rw [← hAL]; unfold toQ; simp
 have HV : Hid (∀ X, Below W0.heap.size W0 X → IsVP X w.heap.size p q) := fun X hX => V.below hX
 have HSI : Hid (∀ j, j < p.evs.length → (decide ((j : Int) ∈ l) = true ↔ j ∈ thereT p.evs.length l)) := fun j hj => by rw [decide_eq_true_eq, there_mem]; exact ⟨fun h => ⟨hj, h⟩, fun h => h.2⟩
 have HSL : Hid (∀ x ∈ thereT p.evs.length l, x < p.evs.length) := fun x hx => (there_mem.1 hx).1
 have HIN : Hid (∀ X j, Below W0.heap.size W0 X → Calls Tryz.prog 23 #[.int .i64 (j : Int), .slice pl l.length cl] X fun e w' => e = .returned (.bool (decide (j ∈ l))) ∧ X = w') := fun X j hX => rin_any l j pl cl X (hl.same (Same.of_below (belowP hb0 hX) hO)) hll
 have HC1 : Hid (∀ X, Below W0.heap.size W0 X → X.cell? ⟨w.heap.size, 1, none⟩ = some (.slice q.e p.evs.length q.ce)) := fun X hX => (V.below hX).c1
 have HPQ : Hid (∀ i, zs (par (toQ p.auth) i) = p.auth.getD i []) := fun i => par_toQ hI i
 have HPL : Hid (∀ i, i < p.evs.length → (par (toQ p.auth) i).length ≤ 30) := fun i hi => row_len hz hba hi
 have HROW : Hid (∀ j, j < p.evs.length → ∃ ab ao p1 k1, q.a = some ⟨ab, ao, none⟩ ∧ Hid (∀ X, Below W0.heap.size W0 X → X.cell? ⟨w.heap.size, 3, none⟩ = some (.slice (some ⟨ab, ao, none⟩) p.evs.length q.ca) ∧ X.cell? ⟨ab, ao + j, none⟩ = some (.slice p1 (par (toQ p.auth) j).length k1)) ∧ Hid (∀ X, Below W0.heap.size W0 X → RdI (· < W0.heap.size) X p1 k1 (zs (par (toQ p.auth) j)))) := fun j hj => by
  obtain ⟨ab, ao, p1, k1, hqa, _, hcr, hrr⟩ := V.pa.auth.2 j (by rw [hAL]; exact hj)
  rw [← HPQ.out j, zs_len] at hcr
  rw [← HPQ.out j] at hrr
  refine ⟨ab, ao, p1, k1, hqa, fun X hX => ⟨?_, (hX.cell (p := ⟨ab, ao + j, none⟩) (cell_ltS hcr)).trans hcr⟩, fun X hX => hrr.below hX⟩
  have h3 := (HV.out X hX).c3
  rw [hqa, hAL] at h3
  exact h3
 have hen := hz.evs
 have hel := V.pa.evs.1
 have hac := V.pa.auth.1
 rw [hAL] at hac
 clear V h hz hr hba hI hQ hAL HV HPQ hl
 generalize chainV p l = R at *
 generalize thereT p.evs.length l = S at *
 generalize toQ p.auth = Q at *
 generalize l.length = nl at *
 unfold valPa at hRi ⊢
 generalize cellsPa p q = CP at *
 generalize p.evs.length = n at *
 go_enter Tryz.func14, Tryz.ntmps14
 go_upto_region 1 with fail
 rw [← hW0]
 clear hW0
 go_upto_region 5 with (first
  | (refine wpList_loadK rfl 27 _ rfl w.heap.size 0 rfl CP HLD.out ?_)
  | (go_at_call 11; refine hRi.mono ?_; rintro e w1 ⟨rfl, hb1⟩; have c1 := HC1.out w1 hb1)
  | (refine wpList_bools rfl _ _ rfl n (by omega) rfl rfl ?_; intro W2 hs2 hb2 hB2))
 clear c1 HC1 hRi HLD
 have hB02 : Below W0.heap.size W0 W2 := belowP hb1 hb2
 obtain ⟨gb, hgb⟩ : ∃ gb, w1.heap.size = gb := ⟨_, rfl⟩
 rw [hgb] at hB2 hs2
 have hgW : W0.heap.size ≤ gb := by have := hb1.size; omega
 have HB2 : Hid (Bk W2 gb (List.replicate n false)) := hB2
 have HMT : Hid (MarkP Q S n n (List.replicate n false)) := mark_top HQ.out HSL.out
 have HKB : Hid (∀ X, Keep (· = gb) W2 X → Below W0.heap.size W0 X) := fun X hX => hB02.trans (hX.below hB02.size fun k hk e => by omega)
 rw [hgb]
 clear hB2 hgb
 go_loopw [6] (fun i wr => ∃ (k : Nat) (C : List Bool), k ≤ n ∧ i = .int .i64 ((k : Int) - 1) ∧ Bk wr gb C ∧ Hid (MarkP Q S n k C) ∧ Keep (· = gb) W2 wr) (fun i _ => (intOf i + 1).toNat)
 case atStart => exact ⟨n, _, Nat.le_refl _, by go_num, HB2.out, HMT, Keep.refl _ _⟩
 case round =>
  clear HB2 HMT
  obtain ⟨k, C, hk, rfl, hC, HM, hkp⟩ := hrel
  have hBW := HKB.out wr hkp
  cases k with
  | zero =>
   rw [show ((0 : Nat) : Int) - 1 = -1 from rfl]
   have HALL : Hid (chU C n = chT Q S) := chU_all HQN.out HM.out
   have HCL : Hid (C.length = n) := HM.out.1
   have HCC : Hid (∀ X, Keep (fun k => wr.heap.size ≤ k) wr X → Bk X gb C) := fun X hX => hC.same (hX.block gb (obj_lt hC) (by have := obj_lt hC; omega))
   clear HM HSI HIN HROW HPL
   go_upto_region 14 with fail
   obtain ⟨B, hB⟩ : ∃ B, wr.heap.size = B := ⟨_, rfl⟩
   have HBB : Hid (wr.heap.size = B) := hB
   rw [hB] at HCC
   clear hB hC
   go_loopw [8, 9] (fun v i wx => ∃ (m : Nat) (M : List Nat), m ≤ n ∧ i = .int .i64 m ∧ wx.ownsRow B 3 1 v (zs M).length ((zs M).map (Value.int .i64)) ∧ Hid (M = chU C m) ∧ M.length ≤ m ∧ Keep (fun k => B ≤ k) wr wx) (fun _ i _ => n - (intOf i).toNat)
   case atStart => exact ⟨0, [], Nat.zero_le _, rfl, World.ownsRow_nil _ _ _ _, rfl, Nat.le_refl _, Keep.refl _ _⟩
   case round =>
    obtain ⟨m, M, hm, rfl, hown, HMM, hMl, hkx⟩ := hrel
    by_cases hmt : m < n
    · have cm := (HCC.out _ hkx).cell m (by rw [HCL.out]; exact hmt)
      have HN := (show Hid _ from chU_next C m)
      cases hcm : C.getD m false with
      | true =>
       rw [hcm] at cm
       have HN2 : Hid (M ++ [m] = chU C (m + 1)) := by show _ = _; rw [HN.out, if_pos hcm, HMM.out]
       have hzm : (zs M).length ≤ 30 := by rw [zs_len]; omega
       have hws := hkx.size
       clear HN HMM hcm
       go_wp2_with (first
        | (at_builtin; refine wpList_push rfl (.tmp 63) (.tmp 65) 28 3 (.int .i64 0) 8 rfl Tryz.underlying28 Tryz.info3 rfl (by decide) int_one B _ (zs M) rfl ?a0 _ (m : Int) rfl ?a1 ?a2 ?a3 ?_))
       case a0 => exact hown.alloc _
       case a1 => exact cell_row (cur := [_]) (heap_alloc_new _ _) 0 _ rfl
       case a2 => omega
       case a3 => have := HBB.out; simp; omega
       intro v' w12 ho12 hg12 _
       have ho13 := own_snoc ho12
       have hk12 := (hkx.alloc (.cells #[.int .i64 (m : Int)] 3)).trans (Keep.of_grown (S := fun j => B ≤ j) hg12 fun j _ e => (hown.lt j e).1) fun _ _ h => h
       clear ho12 hg12
       go_wp2
       go_roundw
       case rel => exact ⟨m + 1, M ++ [m], by omega, by go_num, by rw [show zs (M ++ [m]) = zs M ++ [(m : Int)] by simp [zs]]; exact ho13, HN2, by simp; omega, hk12⟩
       case measure => simp [intOf]; try omega
      | false =>
       rw [hcm] at cm
       have HN2 : Hid (M = chU C (m + 1)) := by show _ = _; rw [HN.out, if_neg (by rw [hcm]; decide), HMM.out]
       clear HN HMM hcm
       go_wp2
       go_roundw
       case rel => exact ⟨m + 1, M, by omega, by go_num, hown, HN2, by omega, hkx⟩
       case measure => simp [intOf]; try omega
    · obtain rfl : m = n := by omega
      go_wp2
      go_ret
      have hBx := HBB.out
      have e1 : zs R = zs M := by rw [HRV.out, ← HALL.out, HMM.out]
      rw [e1]
      exact RowP.of_own hown (by have := hBW.size; have := hb0.size; omega) (belowP hb0 (hBW.trans (hkx.below (by have := hBW.size; omega) fun k hk e => by have := hBW.size; omega)))
  | succ j =>
   have hj : j < n := by omega
   have ei : ((j + 1 : Nat) : Int) - 1 = (j : Int) := by omega
   rw [ei]
   have HSELF : Hid (C.getD j false = true ↔ Lead Q S j) := mark_self HQ.out HM.out hj
   have HCL : Hid (C.length = n) := HM.out.1
   have HYES : Hid (j ∈ S ∨ Lead Q S j → MarkP Q S n j (setAll C (par Q j))) := fun h => mark_yes HQ.out HM.out hj h
   have HNO : Hid (¬ (j ∈ S ∨ Lead Q S j) → MarkP Q S n j C) := fun h => mark_no HM.out h
   have HSJ : Hid (decide ((j : Int) ∈ l) = true ↔ j ∈ S) := HSI.out j hj
   obtain ⟨ab, ao, p1, k1, hqa, HCA, HRR⟩ := HROW.out j hj
   have hra := HPL.out j hj
   have HLT : Hid (∀ x ∈ par Q j, x < j) := HQ.out j
   have hin := HIN.out wr j hBW
   have cj := hC.cell j (by rw [HCL.out]; exact hj)
   have HKT : Hid (∀ X, Keep (· = gb) wr X → Below W0.heap.size W0 X) := fun X hX => HKB.out X (hkp.trans hX fun _ _ e => e)
   obtain ⟨a3, ar⟩ := HCA.out wr hBW
   obtain ⟨ra, hrae⟩ : ∃ ra, (par Q j).length = ra := ⟨_, rfl⟩
   have HRA : Hid ((par Q j).length = ra) := hrae
   rw [hrae] at hra HCA ar
   clear hrae hqa HM HSI HIN HROW HPL
   cases hcj : C.getD j false with
   | true =>
    rw [hcj] at cj
    have HY : Hid (MarkP Q S n j (setAll C (par Q j))) := HYES.out (.inr (HSELF.out.1 hcj))
    clear HYES HNO HSELF HSJ hcj hin
    go_upto_region 9 with fail
    go_loopw [7] (fun v wx => ∃ m : Nat, m ≤ ra ∧ v = .int .i64 m ∧ Bk wx gb (setAll C ((par Q j).take m)) ∧ Keep (· = gb) wr wx) (fun v _ => ra - (intOf v).toNat)
    case atStart => exact ⟨0, Nat.zero_le _, rfl, hC, Keep.refl _ _⟩
    case round =>
     obtain ⟨m, hm, rfl, hCm, hkx⟩ := hrel
     have hkW := HKT.out _ hkx
     clear a3 ar
     obtain ⟨a3, ar⟩ := HCA.out _ hkW
     by_cases hmt : m < ra
     · have hml : m < (par Q j).length := by rw [HRA.out]; exact hmt
       obtain ⟨ad3, hpe, _, hc3⟩ := (HRR.out _ hkW).at m 0 (by rw [zs_len]; exact hml)
       rw [zs_getD] at hc3
       rw [hpe] at ar
       have hx := HLT.out _ (getD_inm (d := 0) hml)
       have HS : Hid (setAll C ((par Q j).take (m + 1)) = (setAll C ((par Q j).take m)).set ((par Q j).getD m 0) true) := setAll_snoc C (par Q j) m hml
       generalize (par Q j).getD m 0 = x at *
       have cx := hCm.cell x (by rw [setAll_len, HCL.out]; omega)
       have fx := hCm.fz x
       have hb2 := hCm.set x
       have HB : Hid (∀ X : World, Bk (X.setCell ⟨gb, x, none⟩ (.bool true)) gb ((setAll C ((par Q j).take m)).set x true) → Bk (X.setCell ⟨gb, x, none⟩ (.bool true)) gb (setAll C ((par Q j).take (m + 1)))) := fun X h => by rw [HS.out]; exact h
       clear hpe
       go_wp2
       go_roundw
       case rel => exact ⟨m + 1, by omega, by go_num, HB.out _ hb2, hkx.setCell (p := ⟨gb, x, none⟩) (fun _ => rfl) _⟩
       case measure => simp [intOf]; try omega
     · obtain rfl : m = ra := by omega
       have hCj := hCm
       rw [← HRA.out, List.take_length] at hCj
       clear hCm
       go_wp2
       go_roundw
       case rel => exact ⟨j, _, by omega, by first | rfl | go_num, hCj, HY, hkp.trans hkx fun _ _ e => e⟩
       case measure => simp [intOf]; try omega
   | false =>
    rw [hcj] at cj
    have hnl : ¬ Lead Q S j := fun h => by have := HSELF.out.2 h; rw [hcj] at this; cases this
    cases hij : decide ((j : Int) ∈ l) with
    | true =>
     rw [hij] at hin
     have HY : Hid (MarkP Q S n j (setAll C (par Q j))) := HYES.out (.inl (HSJ.out.1 hij))
     clear HYES HNO HSELF HSJ hcj hij hnl
     go_upto_region 8 with (go_at_call 23; refine hin.mono ?_; rintro e w' ⟨rfl, rfl⟩)
     go_upto_region 9 with fail
     go_loopw [7] (fun v wx => ∃ m : Nat, m ≤ ra ∧ v = .int .i64 m ∧ Bk wx gb (setAll C ((par Q j).take m)) ∧ Keep (· = gb) wr wx) (fun v _ => ra - (intOf v).toNat)
     case atStart => exact ⟨0, Nat.zero_le _, rfl, hC, Keep.refl _ _⟩
     case round =>
      obtain ⟨m, hm, rfl, hCm, hkx⟩ := hrel
      have hkW := HKT.out _ hkx
      clear a3 ar
      obtain ⟨a3, ar⟩ := HCA.out _ hkW
      by_cases hmt : m < ra
      · have hml : m < (par Q j).length := by rw [HRA.out]; exact hmt
        obtain ⟨ad3, hpe, _, hc3⟩ := (HRR.out _ hkW).at m 0 (by rw [zs_len]; exact hml)
        rw [zs_getD] at hc3
        rw [hpe] at ar
        have hx := HLT.out _ (getD_inm (d := 0) hml)
        have HS : Hid (setAll C ((par Q j).take (m + 1)) = (setAll C ((par Q j).take m)).set ((par Q j).getD m 0) true) := setAll_snoc C (par Q j) m hml
        generalize (par Q j).getD m 0 = x at *
        have cx := hCm.cell x (by rw [setAll_len, HCL.out]; omega)
        have fx := hCm.fz x
        have hb2 := hCm.set x
        have HB : Hid (∀ X : World, Bk (X.setCell ⟨gb, x, none⟩ (.bool true)) gb ((setAll C ((par Q j).take m)).set x true) → Bk (X.setCell ⟨gb, x, none⟩ (.bool true)) gb (setAll C ((par Q j).take (m + 1)))) := fun X h => by rw [HS.out]; exact h
        clear hpe
        go_wp2
        go_roundw
        case rel => exact ⟨m + 1, by omega, by go_num, HB.out _ hb2, hkx.setCell (p := ⟨gb, x, none⟩) (fun _ => rfl) _⟩
        case measure => simp [intOf]; try omega
      · obtain rfl : m = ra := by omega
        have hCj := hCm
        rw [← HRA.out, List.take_length] at hCj
        clear hCm
        go_wp2
        go_roundw
        case rel => exact ⟨j, _, by omega, by first | rfl | go_num, hCj, HY, hkp.trans hkx fun _ _ e => e⟩
        case measure => simp [intOf]; try omega
    | false =>
     rw [hij] at hin
     have HY : Hid (MarkP Q S n j C) := HNO.out fun h => h.elim (fun h => by have := HSJ.out.2 h; rw [hij] at this; cases this) hnl
     clear HYES HNO HSELF HSJ hcj hij hnl
     go_wp2_with (go_at_call 23; refine hin.mono ?_; rintro e w' ⟨rfl, rfl⟩)
     go_roundw
     case rel => exact ⟨j, C, by omega, by first | rfl | go_num, hC, HY, hkp⟩
     case measure => simp [intOf]; try omega
theorem chainsLaw_any {O : Nat → Prop} {w : World} {p : Pa} {q : Pq} {l : List Int} {pl : Option Addr} {cl : Nat} (h : IsPa (· < w.heap.size) w p q) (hB : BigPa p) (hl : RdI O w pl cl l) (hO : ∀ k, O k → k < w.heap.size) (hln : l.length ≤ 9223372036854775807) (_hw : ∀ y ∈ l, wf64 y) :
    Calls Tryz.prog 3 #[valPa p q, .slice pl l.length cl] w fun x w' => x = .returned (.bool true) ∧ Below w.heap.size w w' := by
 obtain ⟨W0, hW0⟩ : ∃ W0, W0 = w.alloc (.cells (cellsPa p q).toArray 27) := ⟨_, rfl⟩
 have hb0 : Below w.heap.size w W0 := by rw [hW0]; exact (Below.refl _ _).alloc (Nat.le_refl _) _
 have V : IsVP W0 w.heap.size p q := by rw [hW0]; exact isVP_new h
 have HLD : Hid (∀ X, Below W0.heap.size W0 X → (Instr.loadAt 27 (.pointer (some ⟨w.heap.size, 0, none⟩))).run Tryz.prog X = .ok (.agg (cellsPa p q).toArray) X) := fun X hX => (V.below hX).load
 have hFew := few12_any V.pa hB
 have HRA : Hid (FewPa p → ∀ X, Below W0.heap.size W0 X → Calls Tryz.prog 10 #[.agg (cellsPa p q).toArray] X fun x w' => x = .returned (.bool (rightT p)) ∧ Below X.heap.size X w') := fun h1 X hX => right_any (V.below hX).pa h1.sz
 have HRB : Hid (FewPa p → ∀ X, Below W0.heap.size W0 X → Calls Tryz.prog 11 #[.agg (cellsPa p q).toArray] X fun x w' => x = .returned (.bool (rightT p)) ∧ Below X.heap.size X w') := fun h1 X hX => rright_any (V.below hX).pa h1.sz
 have HCA : Hid (FewPa p → l.length ≤ 50 → ∀ X, Below W0.heap.size W0 X → Calls Tryz.prog 13 #[.agg (cellsPa p q).toArray, .slice pl l.length cl] X fun e w' => ∃ v c, e = .returned (.slice v (zs (chainV p l)).length c) ∧ RdI (fun k => X.heap.size ≤ k ∧ k < w'.heap.size) w' v c (zs (chainV p l)) ∧ Below X.heap.size X w') := fun h1 h2 X hX => (chain_top (O := O) (V.below hX).pa h1.sz (hl.same (Same.of_below (belowP hb0 hX) hO)) (fun k hk => Nat.lt_of_lt_of_le (hO k hk) (belowP hb0 hX).size) (by omega)).mono fun _ _ h => h.rd
 have HCB : Hid (FewPa p → l.length ≤ 50 → ∀ X, Below W0.heap.size W0 X → Calls Tryz.prog 14 #[.agg (cellsPa p q).toArray, .slice pl l.length cl] X fun e w' => ∃ v c, e = .returned (.slice v (zs (chainV p l)).length c) ∧ RdI (fun k => X.heap.size ≤ k ∧ k < w'.heap.size) w' v c (zs (chainV p l)) ∧ Below X.heap.size X w') := fun h1 h2 X hX => (rchain_any (O := O) (V.below hX).pa h1.sz (hl.same (Same.of_below (belowP hb0 hX) hO)) (fun k hk => Nat.lt_of_lt_of_le (hO k hk) (belowP hb0 hX).size) (by omega)).mono fun _ _ h => h.rd
 have HCL : Hid (FewPa p → (zs (chainV p l)).length ≤ 30) := fun h1 => by
  have := h1.sz.evs; have := h1.sz.auth
  rw [zs_len]
  unfold chainV
  split
  · unfold chT
    refine Nat.le_trans (List.length_filter_le _ _) ?_
    rw [List.length_range]
    unfold toQ
    rw [List.length_map]
    omega
  · simp
 have hB0 : Below W0.heap.size W0 W0 := Below.refl _ _
 clear h V hB hl
 unfold valPa at hFew ⊢
 generalize cellsPa p q = C at *
 generalize zs (chainV p l) = CV at *
 generalize rightT p = rt at *
 generalize l.length = nl at *
 by_cases h50 : nl ≤ 50
 case neg =>
  have h50' : 50 < nl := by omega
  have d1 : decide ((50 : Int) < (nl : Int)) = true := decide_eq_true (by omega)
  have d2 : decide (50 < nl) = true := decide_eq_true h50'
  go_enter Tryz.func3, Tryz.ntmps3
  go_upto_region 1 with fail
  rw [← hW0]
  clear hW0
  go_wp2_with (first
   | (refine wpList_loadK rfl 27 _ rfl w.heap.size 0 rfl C (HLD.out _ hB0) ?_)
   | (go_at_call 9; refine hFew.mono ?_; rintro x W ⟨⟨b1, rfl, hf1⟩, hB1⟩; cases b1))
  all_goals (go_ret; exact ⟨rfl, belowP hb0 hB1⟩)
 have d1 : decide ((50 : Int) < (nl : Int)) = false := decide_eq_false (by omega)
 have d2 : decide (50 < nl) = false := decide_eq_false (by omega)
 go_enter Tryz.func3, Tryz.ntmps3
 go_upto_region 1 with fail
 rw [← hW0]
 clear hW0
 go_upto_region 3 with (first
  | (refine wpList_loadK rfl 27 _ rfl w.heap.size 0 rfl C (HLD.out _ hB0) ?_)
  | (go_at_call 9; refine hFew.mono ?_; rintro x W ⟨⟨b1, rfl, hf1⟩, hB1⟩; cases b1; have hN1 := hB1; clear hB1))
 · go_wp2
   go_ret
   exact ⟨rfl, belowP hb0 hN1⟩
 · have hfe := hf1 trivial
   have hcl := HCL.out hfe
   have HP1 : Hid (∀ X, Below W.heap.size W X → Calls Tryz.prog 10 #[.agg C.toArray] X fun x w' => x = .returned (.bool rt) ∧ Below X.heap.size X w') := fun X hX => HRA.out hfe X (belowP hB1 hX)
   have HP2 : Hid (∀ X, Below W.heap.size W X → Calls Tryz.prog 11 #[.agg C.toArray] X fun x w' => x = .returned (.bool rt) ∧ Below X.heap.size X w') := fun X hX => HRB.out hfe X (belowP hB1 hX)
   have HP3 : Hid (∀ X, Below W.heap.size W X → Calls Tryz.prog 13 #[.agg C.toArray, .slice pl nl cl] X fun e w' => ∃ v c, e = .returned (.slice v CV.length c) ∧ RdI (fun k => X.heap.size ≤ k ∧ k < w'.heap.size) w' v c CV ∧ Below X.heap.size X w') := fun X hX => HCA.out hfe h50 X (belowP hB1 hX)
   have HP4 : Hid (∀ X, Below W.heap.size W X → Calls Tryz.prog 14 #[.agg C.toArray, .slice pl nl cl] X fun e w' => ∃ v c, e = .returned (.slice v CV.length c) ∧ RdI (fun k => X.heap.size ≤ k ∧ k < w'.heap.size) w' v c CV ∧ Below X.heap.size X w') := fun X hX => HCB.out hfe h50 X (belowP hB1 hX)
   have HL1 : Hid (∀ X, Below W.heap.size W X → (Instr.loadAt 27 (.pointer (some ⟨w.heap.size, 0, none⟩))).run Tryz.prog X = .ok (.agg C.toArray) X) := fun X hX => HLD.out X (belowP hB1 hX)
   clear HRA HRB HCA HCB HLD hFew hf1 hfe HCL
   refine wp_region_in (by kernel_rfl) (fun w' => Below W.heap.size W w') ?_
   change wpIn _ _ _ _ _ _ _ _ (World.drew _)
   have hD : Below W.heap.size W W.drew := (Below.refl _ _).drew
   refine wpIn_take (i := 0) (d := (some 13)) (v := .agg C.toArray) (a' := ?aw0) rfl rfl (by kernel_rfl) (by kernel_rfl) (by kernel_rfl) (fun _ _ _ h => h) (Or.inl ⟨by rfl, ?yw0⟩) ?fw0 ?_
   case yw0 => exact fun wq hq => exec_loadR rfl rfl (HL1.out wq hq)
   case fw0 => (go_frame; rfl)
   refine wpIn_take (i := 2) (d := (some 15)) (v := .agg C.toArray) (a' := ?aw2) rfl rfl (by kernel_rfl) (by kernel_rfl) (by kernel_rfl) (fun _ _ _ h => h) (Or.inl ⟨by rfl, ?yw2⟩) ?fw2 ?_
   case yw2 => exact fun wq hq => exec_loadR rfl rfl (HL1.out wq hq)
   case fw2 => (go_frame; rfl)
   refine wpIn_do (i := 1) hD (by kernel_rfl) rfl (by rfl) ?_
   intro K1 hK1
   go_simp
   go_wp2_with (go_at_call 10; refine (HP1.out _ hD).mono ?_; rintro x w2 ⟨rfl, hbw2⟩)
   have hD2 : Below W.heap.size W w2 := belowP hD hbw2
   refine wpIn_do (i := 3) hD2 (by kernel_rfl) rfl (by rfl) ?_
   intro K3 hK3
   go_simp
   go_wp2_with (go_at_call 11; refine (HP2.out _ hD2).mono ?_; rintro x w3 ⟨rfl, hbw3⟩)
   have hD3 : Below W.heap.size W w3 := belowP hD2 hbw3
   refine wpIn_take (i := 4) (d := (some 17)) (v := .bool true) (a' := ?aw4) rfl rfl (by kernel_rfl) (by kernel_rfl) (by kernel_rfl) (fun _ _ _ h => h) (Or.inl ⟨by rfl, ?yw4⟩) ?fw4 ?_
   case yw4 => (intro wq hq; go_simp)
   case fw4 => (go_frame; rfl)
   refine wpIn_take (i := 5) (d := (some 18)) (v := .bool true) (a' := ?aw5) rfl rfl (by kernel_rfl) (by kernel_rfl) (by kernel_rfl) (fun _ _ _ h => h) (Or.inl ⟨by rfl, ?yw5⟩) ?fw5 ?_
   case yw5 => (intro wq hq; go_simp; first | done | with_reducible rfl)
   case fw5 => (go_frame; rfl)
   refine wpIn_take (i := 6) (d := (some 19)) (v := .agg C.toArray) (a' := ?aw6) rfl rfl (by kernel_rfl) (by kernel_rfl) (by kernel_rfl) (fun _ _ _ h => h) (Or.inl ⟨by rfl, ?yw6⟩) ?fw6 ?_
   case yw6 => exact fun wq hq => exec_loadR rfl rfl (HL1.out wq hq)
   case fw6 => (go_frame; rfl)
   refine wpIn_take (i := 7) (d := (some 20)) (v := .slice pl nl cl) (a' := ?aw7) rfl rfl (by kernel_rfl) (by kernel_rfl) (by kernel_rfl) (fun _ _ _ h => h) (Or.inl ⟨by rfl, ?yw7⟩) ?fw7 ?_
   case yw7 => (intro wq hq; go_simp; first | done | with_reducible rfl)
   case fw7 => (go_frame; rfl)
   refine wpIn_take (i := 9) (d := (some 22)) (v := .agg C.toArray) (a' := ?aw9) rfl rfl (by kernel_rfl) (by kernel_rfl) (by kernel_rfl) (fun _ _ _ h => h) (Or.inl ⟨by rfl, ?yw9⟩) ?fw9 ?_
   case yw9 => exact fun wq hq => exec_loadR rfl rfl (HL1.out wq hq)
   case fw9 => (go_frame; rfl)
   refine wpIn_take (i := 10) (d := (some 23)) (v := .slice pl nl cl) (a' := ?aw10) rfl rfl (by kernel_rfl) (by kernel_rfl) (by kernel_rfl) (fun _ _ _ h => h) (Or.inl ⟨by rfl, ?yw10⟩) ?fw10 ?_
   case yw10 => (intro wq hq; go_simp; first | done | with_reducible rfl)
   case fw10 => (go_frame; rfl)
   refine wpIn_do (i := 8) hD3 (by kernel_rfl) rfl (by rfl) ?_
   intro K8 hK8
   go_simp
   go_wp2_with (go_at_call 13; refine (HP3.out _ hD3).mono ?_; rintro x w4 ⟨v4, c4, rfl, hr4, hbw4⟩)
   have hD4 : Below W.heap.size W w4 := belowP hD3 hbw4
   have HR4 : Hid (∀ X, Below w4.heap.size w4 X → RdI (· < X.heap.size) X v4 c4 CV) := fun X hX => hr4.carry (fun k hk => hX.block k hk.2) fun k hk => Nat.lt_of_lt_of_le hk.2 hX.size
   clear hr4
   refine wpIn_do (i := 11) hD4 (by kernel_rfl) rfl (by rfl) ?_
   intro K11 hK11
   go_simp
   go_wp2_with (go_at_call 14; refine (HP4.out _ hD4).mono ?_; rintro x w5 ⟨v5, c5, rfl, hr5, hbw5⟩)
   have hD5 : Below W.heap.size W w5 := belowP hD4 hbw5
   have HSM : Hid (Calls Tryz.prog 12 #[.slice v4 CV.length c4, .slice v5 CV.length c5] w5 fun e w' => e = .returned (.bool true) ∧ Below w5.heap.size w5 w') := (same12_any CV CV v4 v5 c4 c5 w5 (HR4.out w5 hbw5) hr5 (by omega) (by omega)).mono fun e w' hh => ⟨by rw [hh.1, decide_eq_true rfl], hh.2.below (Nat.le_refl _) fun _ _ h => h⟩
   clear hr5 HR4
   refine wpIn_do (i := 12) hD5 (by kernel_rfl) rfl (by rfl) ?_
   intro K12 hK12
   go_simp
   go_wp2_with (go_at_call 12; refine (HSM.out).mono ?_; rintro x w6 ⟨rfl, hbw6⟩)
   have hD6 : Below W.heap.size W w6 := belowP hD5 hbw6
   refine wpIn_take (i := 13) (d := (some 26)) (v := .bool true) (a' := ?aw13) rfl rfl (by kernel_rfl) (by kernel_rfl) (by kernel_rfl) (fun _ _ _ h => h) (Or.inl ⟨by rfl, ?yw13⟩) ?fw13 ?_
   case yw13 => (intro wq hq; go_simp; first | done | with_reducible rfl)
   case fw13 => (go_frame; rfl)
   refine wpIn_take (i := 14) (d := (some 27)) (v := .bool true) (a' := ?aw14) rfl rfl (by kernel_rfl) (by kernel_rfl) (by kernel_rfl) (fun _ _ _ h => h) (Or.inl ⟨by rfl, ?yw14⟩) ?fw14 ?_
   case yw14 => (intro wq hq; go_simp; first | done | with_reducible rfl)
   case fw14 => (go_frame; rfl)
   refine wpIn_do (i := 15) hD6 (by kernel_rfl) rfl (by rfl) ?_
   intro K15 hK15
   go_simp
   go_wp2_with (go_at_call 15; refine (awake12_any _).mono ?_; rintro x w7 ⟨rfl, hbw7⟩)
   have hD7 : Below W.heap.size W w7 := belowP hD6 hbw7
   refine wpIn_take (i := 16) (d := (some 29)) (v := .bool true) (a' := ?aw16) rfl rfl (by kernel_rfl) (by kernel_rfl) (by kernel_rfl) (fun _ _ _ h => h) (Or.inl ⟨by rfl, ?yw16⟩) ?fw16 ?_
   case yw16 => (intro wq hq; go_simp; first | done | with_reducible rfl)
   case fw16 => (go_frame; rfl)
   refine wpIn_take (i := 17) (d := (some 4)) (v := .bool true) (a' := ?aw17) rfl rfl (by kernel_rfl) (by kernel_rfl) (by kernel_rfl) (fun _ _ _ h => h) (Or.inl ⟨by rfl, ?yw17⟩) ?fw17 ?_
   case yw17 => (intro wq hq; go_simp; first | done | with_reducible rfl)
   case fw17 => (go_frame; rfl)
   refine wpIn_done hD7 (by kernel_rfl) ?_ _
   go_wp2
   go_ret
   exact ⟨rfl, belowP hb0 (belowP hB1 hD7)⟩
end Go.Proofs.YtimhpglfolbomaaGreat.Od

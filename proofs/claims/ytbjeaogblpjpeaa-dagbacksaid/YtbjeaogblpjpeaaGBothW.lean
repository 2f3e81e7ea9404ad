/-
  both, by a contract.
-/
import Derived.Test.YtbjeaogblpjpeaaGBo
import Derived.Test.YtbjeaogblpjpeaaOrd
namespace Go.Proofs.Ytbjeaogblpjpeaa
open Go.RowKit Go.Maps

/-- What both tells. -/
def BothP (l : List Dd) (w : World) (e : Ending) (w' : World) : Prop :=
  ∃ gb hb, e = .returned (.tuple #[.pointer (some ⟨gb, 0, none⟩), .pointer (some ⟨hb, 0, none⟩), .bool true]) ∧ Bo w.heap.size w' gb hb (playT l) (playT l) ∧ Below w.heap.size w w'
set_option maxRecDepth 100000 in
set_option maxHeartbeats 4000000 in
theorem both_any (l : List Dd) (p : Option Addr) (c : Nat) (w : World) (r : RdD (· < w.heap.size) w p c l) (hf : fewB l = true) :
    Calls Try.prog 11 #[.slice p l.length c] w (BothP l w) := by
  obtain ⟨hl, hfit⟩ := few_iff.1 hf
  have HFD : Hid (∀ d ∈ l, fitD d) := hfit
  have HR : Hid (RdD (· < w.heap.size) w p c l) := r
  have hrc := r.1
  clear hf hfit r
  go_enter Try.func11, Try.ntmps11
  go_wp2_with (first
    | (go_at_call 27; refine (new_any _).mono ?_; rintro e w1 ⟨gb, rfl, hgp, hb1⟩))
  have hs1 := hb1.size
  have HB0 : Hid (Bo w.heap.size (w1.alloc (.cells #[.slice none 0 0] 34)) gb w1.heap.size [] []) := bo_new (fun k hk => hk.1) hs1 hgp
  have HBL : Hid (Below w.heap.size w (w1.alloc (.cells #[.slice none 0 0] 34))) := hb1.alloc hs1 _
  clear hgp hb1
  obtain ⟨hb, hhb⟩ : ∃ hb, hb = w1.heap.size := ⟨_, rfl⟩
  rw [← hhb] at HB0 ⊢
  go_loopw [7] (fun i wr => ∃ k : Nat, k ≤ l.length ∧ i = .int .i64 k ∧ Bo w.heap.size wr gb hb (playT (l.take k)) (playT (l.take k)) ∧ Below w.heap.size w wr) (fun i _ => l.length - (intOf i).toNat)
  case atStart => exact ⟨0, Nat.zero_le _, rfl, HB0.out, HBL.out⟩
  case round =>
    clear HB0 HBL hs1 hhb
    obtain ⟨k, hk, rfl, hbo, hbw⟩ := hrel
    have hTl : (playT (l.take k)).length ≤ 100 := by have := playT_len (l.take k); rw [List.length_take] at this; omega
    by_cases hlt : k < l.length
    · obtain ⟨b, o, p1, c1, p2, c2, rfl, hbB, a1, a2, a3, r1, r2⟩ := HR.out.2 k hlt
      have hfd := HFD.out _ (getD_inm (d := noD) hlt)
      have HP : Hid (playT (l.take (k + 1)) = addT (playT (l.take k)) (l.getD k noD)) := playT_snoc l k hlt
      generalize l.getD k noD = d at *
      have HC : Hid (∀ wx, Below w.heap.size w wx → wx.cell? ⟨b, o + k * 3, none⟩ = some (.string d.name) ∧ wx.cell? ⟨b, o + k * 3 + 1, none⟩ = some (.slice p1 d.prev.length c1) ∧ wx.cell? ⟨b, o + k * 3 + 2, none⟩ = some (.slice p2 d.auth.length c2)) := fun wx hx => ⟨(hx.cell hbB).trans a1, (hx.cell hbB).trans a2, (hx.cell hbB).trans a3⟩
      have HRD : Hid (∀ wx, Below w.heap.size w wx → RdS (· < w.heap.size) wx p1 c1 d.prev ∧ RdS (· < w.heap.size) wx p2 c2 d.auth) := fun wx hx => ⟨r1.below hx, r2.below hx⟩
      have hbd : Below w.heap.size w wr.drew := hbw.drew
      have hszd := hbd.size
      clear a1 a2 a3 r1 r2
      generalize playT (l.take k) = T at *
      go_wp2
      refine wp_region_in (by kernel_rfl) (fun w' => Below w.heap.size w w') ?_
      change wpIn _ _ _ _ _ _ _ _ (World.drew _)
      refine wpIn_take (i := 0) (d := (some 17)) (v := ?vqb0) (a' := ?aqb0) rfl rfl (by kernel_rfl) (by kernel_rfl) (by kernel_rfl) (fun _ _ _ h => h) (Or.inl ⟨by rfl, ?yqb0⟩) ?fqb0 ?_
      case yqb0 => (intro wq hq; go_simp; first | done | with_reducible rfl)
      case fqb0 => (go_frame; rfl)
      refine wpIn_take (i := 1) (d := (some 18)) (v := ?vqb1) (a' := ?aqb1) rfl rfl (by kernel_rfl) (by kernel_rfl) (by kernel_rfl) (fun _ _ _ h => h) (Or.inl ⟨by rfl, ?yqb1⟩) ?fqb1 ?_
      case yqb1 => (intro wq hq; go_simp; first | done | with_reducible rfl)
      case fqb1 => (go_frame; rfl)
      refine wpIn_take (i := 2) (d := (some 19)) (v := ?vqb2) (a' := ?aqb2) rfl rfl (by kernel_rfl) (by kernel_rfl) (by kernel_rfl) (fun _ _ _ h => h) (Or.inl ⟨by rfl, ?yqb2⟩) ?fqb2 ?_
      case yqb2 => (intro wq hq; go_simp; first | done | with_reducible rfl)
      case fqb2 => (go_frame; rfl)
      refine wpIn_take (i := 3) (d := (some 20)) (v := ?vqb3) (a' := ?aqb3) rfl rfl (by kernel_rfl) (by kernel_rfl) (by kernel_rfl) (fun _ _ _ h => h) (Or.inl ⟨by rfl, ?yqb3⟩) ?fqb3 ?_
      case yqb3 => (intro wq hq; go_simp; first | done | with_reducible rfl)
      case fqb3 => (go_frame; rfl)
      refine wpIn_take (i := 4) (d := (some 21)) (v := ?vqb4) (a' := ?aqb4) rfl rfl (by kernel_rfl) (by kernel_rfl) (by kernel_rfl) (fun _ _ _ h => h) (Or.inl ⟨by rfl, ?yqb4⟩) ?fqb4 ?_
      case yqb4 => (intro wq hq; go_simp; first | done | with_reducible rfl)
      case fqb4 => (go_frame; rfl)
      refine wpIn_take (i := 5) (d := (some 22)) (v := ?vqb5) (a' := ?aqb5) rfl rfl (by kernel_rfl) (by kernel_rfl) (by kernel_rfl) (fun _ _ _ h => h) (Or.inl ⟨by rfl, ?yqb5⟩) ?fqb5 ?_
      case yqb5 => (intro wq hq; obtain ⟨z1, z2, z3⟩ := HC.out wq hq; go_simp; first | done | with_reducible rfl)
      case fqb5 => (go_frame; rfl)
      refine wpIn_take (i := 6) (d := (some 23)) (v := ?vqb6) (a' := ?aqb6) rfl rfl (by kernel_rfl) (by kernel_rfl) (by kernel_rfl) (fun _ _ _ h => h) (Or.inl ⟨by rfl, ?yqb6⟩) ?fqb6 ?_
      case yqb6 => (intro wq hq; go_simp; first | done | with_reducible rfl)
      case fqb6 => (go_frame; rfl)
      refine wpIn_take (i := 7) (d := (some 24)) (v := ?vqb7) (a' := ?aqb7) rfl rfl (by kernel_rfl) (by kernel_rfl) (by kernel_rfl) (fun _ _ _ h => h) (Or.inl ⟨by rfl, ?yqb7⟩) ?fqb7 ?_
      case yqb7 => (intro wq hq; go_simp; first | done | with_reducible rfl)
      case fqb7 => (go_frame; rfl)
      refine wpIn_take (i := 8) (d := (some 25)) (v := ?vqb8) (a' := ?aqb8) rfl rfl (by kernel_rfl) (by kernel_rfl) (by kernel_rfl) (fun _ _ _ h => h) (Or.inl ⟨by rfl, ?yqb8⟩) ?fqb8 ?_
      case yqb8 => (intro wq hq; go_simp; first | done | with_reducible rfl)
      case fqb8 => (go_frame; rfl)
      refine wpIn_take (i := 9) (d := (some 26)) (v := ?vqb9) (a' := ?aqb9) rfl rfl (by kernel_rfl) (by kernel_rfl) (by kernel_rfl) (fun _ _ _ h => h) (Or.inl ⟨by rfl, ?yqb9⟩) ?fqb9 ?_
      case yqb9 => (intro wq hq; go_simp; first | done | with_reducible rfl)
      case fqb9 => (go_frame; rfl)
      refine wpIn_take (i := 10) (d := (some 27)) (v := ?vqb10) (a' := ?aqb10) rfl rfl (by kernel_rfl) (by kernel_rfl) (by kernel_rfl) (fun _ _ _ h => h) (Or.inl ⟨by rfl, ?yqb10⟩) ?fqb10 ?_
      case yqb10 => (intro wq hq; obtain ⟨z1, z2, z3⟩ := HC.out wq hq; go_simp; first | done | with_reducible rfl)
      case fqb10 => (go_frame; rfl)
      refine wpIn_take (i := 11) (d := (some 28)) (v := ?vqb11) (a' := ?aqb11) rfl rfl (by kernel_rfl) (by kernel_rfl) (by kernel_rfl) (fun _ _ _ h => h) (Or.inl ⟨by rfl, ?yqb11⟩) ?fqb11 ?_
      case yqb11 => (intro wq hq; go_simp; first | done | with_reducible rfl)
      case fqb11 => (go_frame; rfl)
      refine wpIn_take (i := 12) (d := (some 29)) (v := ?vqb12) (a' := ?aqb12) rfl rfl (by kernel_rfl) (by kernel_rfl) (by kernel_rfl) (fun _ _ _ h => h) (Or.inl ⟨by rfl, ?yqb12⟩) ?fqb12 ?_
      case yqb12 => (intro wq hq; go_simp; first | done | with_reducible rfl)
      case fqb12 => (go_frame; rfl)
      refine wpIn_take (i := 13) (d := (some 30)) (v := ?vqb13) (a' := ?aqb13) rfl rfl (by kernel_rfl) (by kernel_rfl) (by kernel_rfl) (fun _ _ _ h => h) (Or.inl ⟨by rfl, ?yqb13⟩) ?fqb13 ?_
      case yqb13 => (intro wq hq; go_simp; first | done | with_reducible rfl)
      case fqb13 => (go_frame; rfl)
      refine wpIn_take (i := 14) (d := (some 31)) (v := ?vqb14) (a' := ?aqb14) rfl rfl (by kernel_rfl) (by kernel_rfl) (by kernel_rfl) (fun _ _ _ h => h) (Or.inl ⟨by rfl, ?yqb14⟩) ?fqb14 ?_
      case yqb14 => (intro wq hq; go_simp; first | done | with_reducible rfl)
      case fqb14 => (go_frame; rfl)
      refine wpIn_take (i := 15) (d := (some 32)) (v := ?vqb15) (a' := ?aqb15) rfl rfl (by kernel_rfl) (by kernel_rfl) (by kernel_rfl) (fun _ _ _ h => h) (Or.inl ⟨by rfl, ?yqb15⟩) ?fqb15 ?_
      case yqb15 => (intro wq hq; obtain ⟨z1, z2, z3⟩ := HC.out wq hq; go_simp; first | done | with_reducible rfl)
      case fqb15 => (go_frame; rfl)
      refine wpIn_take (i := 17) (d := (some 34)) (v := ?vqb17) (a' := ?aqb17) rfl rfl (by kernel_rfl) (by kernel_rfl) (by kernel_rfl) (fun _ _ _ h => h) (Or.inl ⟨by rfl, ?yqb17⟩) ?fqb17 ?_
      case yqb17 => (intro wq hq; go_simp; first | done | with_reducible rfl)
      case fqb17 => (go_frame; rfl)
      refine wpIn_take (i := 18) (d := (some 35)) (v := ?vqb18) (a' := ?aqb18) rfl rfl (by kernel_rfl) (by kernel_rfl) (by kernel_rfl) (fun _ _ _ h => h) (Or.inl ⟨by rfl, ?yqb18⟩) ?fqb18 ?_
      case yqb18 => (intro wq hq; go_simp; first | done | with_reducible rfl)
      case fqb18 => (go_frame; rfl)
      refine wpIn_take (i := 19) (d := (some 36)) (v := ?vqb19) (a' := ?aqb19) rfl rfl (by kernel_rfl) (by kernel_rfl) (by kernel_rfl) (fun _ _ _ h => h) (Or.inl ⟨by rfl, ?yqb19⟩) ?fqb19 ?_
      case yqb19 => (intro wq hq; go_simp; first | done | with_reducible rfl)
      case fqb19 => (go_frame; rfl)
      refine wpIn_take (i := 20) (d := (some 37)) (v := ?vqb20) (a' := ?aqb20) rfl rfl (by kernel_rfl) (by kernel_rfl) (by kernel_rfl) (fun _ _ _ h => h) (Or.inl ⟨by rfl, ?yqb20⟩) ?fqb20 ?_
      case yqb20 => (intro wq hq; go_simp; first | done | with_reducible rfl)
      case fqb20 => (go_frame; rfl)
      refine wpIn_take (i := 21) (d := (some 38)) (v := ?vqb21) (a' := ?aqb21) rfl rfl (by kernel_rfl) (by kernel_rfl) (by kernel_rfl) (fun _ _ _ h => h) (Or.inl ⟨by rfl, ?yqb21⟩) ?fqb21 ?_
      case yqb21 => (intro wq hq; go_simp; first | done | with_reducible rfl)
      case fqb21 => (go_frame; rfl)
      refine wpIn_take (i := 22) (d := (some 39)) (v := ?vqb22) (a' := ?aqb22) rfl rfl (by kernel_rfl) (by kernel_rfl) (by kernel_rfl) (fun _ _ _ h => h) (Or.inl ⟨by rfl, ?yqb22⟩) ?fqb22 ?_
      case yqb22 => (intro wq hq; obtain ⟨z1, z2, z3⟩ := HC.out wq hq; go_simp; first | done | with_reducible rfl)
      case fqb22 => (go_frame; rfl)
      refine wpIn_take (i := 23) (d := (some 40)) (v := ?vqb23) (a' := ?aqb23) rfl rfl (by kernel_rfl) (by kernel_rfl) (by kernel_rfl) (fun _ _ _ h => h) (Or.inl ⟨by rfl, ?yqb23⟩) ?fqb23 ?_
      case yqb23 => (intro wq hq; go_simp; first | done | with_reducible rfl)
      case fqb23 => (go_frame; rfl)
      refine wpIn_take (i := 24) (d := (some 41)) (v := ?vqb24) (a' := ?aqb24) rfl rfl (by kernel_rfl) (by kernel_rfl) (by kernel_rfl) (fun _ _ _ h => h) (Or.inl ⟨by rfl, ?yqb24⟩) ?fqb24 ?_
      case yqb24 => (intro wq hq; go_simp; first | done | with_reducible rfl)
      case fqb24 => (go_frame; rfl)
      refine wpIn_take (i := 25) (d := (some 42)) (v := ?vqb25) (a' := ?aqb25) rfl rfl (by kernel_rfl) (by kernel_rfl) (by kernel_rfl) (fun _ _ _ h => h) (Or.inl ⟨by rfl, ?yqb25⟩) ?fqb25 ?_
      case yqb25 => (intro wq hq; go_simp; first | done | with_reducible rfl)
      case fqb25 => (go_frame; rfl)
      refine wpIn_take (i := 26) (d := (some 43)) (v := ?vqb26) (a' := ?aqb26) rfl rfl (by kernel_rfl) (by kernel_rfl) (by kernel_rfl) (fun _ _ _ h => h) (Or.inl ⟨by rfl, ?yqb26⟩) ?fqb26 ?_
      case yqb26 => (intro wq hq; go_simp; first | done | with_reducible rfl)
      case fqb26 => (go_frame; rfl)
      refine wpIn_take (i := 27) (d := (some 44)) (v := ?vqb27) (a' := ?aqb27) rfl rfl (by kernel_rfl) (by kernel_rfl) (by kernel_rfl) (fun _ _ _ h => h) (Or.inl ⟨by rfl, ?yqb27⟩) ?fqb27 ?_
      case yqb27 => (intro wq hq; obtain ⟨z1, z2, z3⟩ := HC.out wq hq; go_simp; first | done | with_reducible rfl)
      case fqb27 => (go_frame; rfl)
      refine wpIn_take (i := 28) (d := (some 45)) (v := ?vqb28) (a' := ?aqb28) rfl rfl (by kernel_rfl) (by kernel_rfl) (by kernel_rfl) (fun _ _ _ h => h) (Or.inl ⟨by rfl, ?yqb28⟩) ?fqb28 ?_
      case yqb28 => (intro wq hq; go_simp; first | done | with_reducible rfl)
      case fqb28 => (go_frame; rfl)
      refine wpIn_take (i := 29) (d := (some 46)) (v := ?vqb29) (a' := ?aqb29) rfl rfl (by kernel_rfl) (by kernel_rfl) (by kernel_rfl) (fun _ _ _ h => h) (Or.inl ⟨by rfl, ?yqb29⟩) ?fqb29 ?_
      case yqb29 => (intro wq hq; go_simp; first | done | with_reducible rfl)
      case fqb29 => (go_frame; rfl)
      refine wpIn_take (i := 30) (d := (some 47)) (v := ?vqb30) (a' := ?aqb30) rfl rfl (by kernel_rfl) (by kernel_rfl) (by kernel_rfl) (fun _ _ _ h => h) (Or.inl ⟨by rfl, ?yqb30⟩) ?fqb30 ?_
      case yqb30 => (intro wq hq; go_simp; first | done | with_reducible rfl)
      case fqb30 => (go_frame; rfl)
      refine wpIn_take (i := 31) (d := (some 48)) (v := ?vqb31) (a' := ?aqb31) rfl rfl (by kernel_rfl) (by kernel_rfl) (by kernel_rfl) (fun _ _ _ h => h) (Or.inl ⟨by rfl, ?yqb31⟩) ?fqb31 ?_
      case yqb31 => (intro wq hq; go_simp; first | done | with_reducible rfl)
      case fqb31 => (go_frame; rfl)
      refine wpIn_take (i := 32) (d := (some 49)) (v := ?vqb32) (a' := ?aqb32) rfl rfl (by kernel_rfl) (by kernel_rfl) (by kernel_rfl) (fun _ _ _ h => h) (Or.inl ⟨by rfl, ?yqb32⟩) ?fqb32 ?_
      case yqb32 => (intro wq hq; obtain ⟨z1, z2, z3⟩ := HC.out wq hq; go_simp; first | done | with_reducible rfl)
      case fqb32 => (go_frame; rfl)
      refine wpIn_do (i := 16) hbd (by kernel_rfl) rfl (by rfl) ?_
      intro K hK
      go_simp
      go_wp2_with (go_at_call 29; refine (bo_add d p1 p2 c1 c2 _ hbo.drew hTl hfd hszd (HRD.out _ hbd).1 (HRD.out _ hbd).2).mono ?_; rintro e w1 ⟨rfl, hbo1, hb1⟩; have hbd1 := hbd.trans hb1; have hsz1 := hbd1.size)
      refine wpIn_do (i := 33) hbd1 (by kernel_rfl) rfl (by rfl) ?_
      intro K hK
      go_simp
      go_wp2_with (go_at_call 31; refine (bo_radd d p1 p2 c1 c2 _ hbo1 hTl hfd hsz1 (HRD.out _ hbd1).1 (HRD.out _ hbd1).2).mono ?_; rintro e w2 ⟨rfl, hbo2, hb2⟩; have hbd2 := hbd1.trans hb2)
      refine wpIn_take (i := 34) (d := (some 51)) (v := ?vqb34) (a' := ?aqb34) rfl rfl (by kernel_rfl) (by kernel_rfl) (by kernel_rfl) (fun _ _ _ h => h) (Or.inl ⟨by rfl, ?yqb34⟩) ?fqb34 ?_
      case yqb34 => (intro wq hq; go_simp; first | done | with_reducible rfl)
      case fqb34 => (go_frame; rfl)
      refine wpIn_done hbd2 (by kernel_rfl) ?_ _
      go_wp2
      go_roundw
      case rel => exact ⟨k + 1, by omega, by go_num, by rw [HP.out]; exact hbo2, hbd2⟩
      case measure => simp [intOf]; omega
    · obtain rfl : k = l.length := by omega
      rw [List.take_length] at hbo hTl
      obtain ⟨O, hq⟩ := hbo.q
      obtain ⟨R, hr⟩ := hbo.r
      obtain ⟨q, cq, hc, _, _⟩ := hr.rd
      have HQ : Hid (∀ n, Calls Try.prog 28 #[.pointer (some ⟨gb, 0, none⟩)] (wr.drewN n) fun e w' => e = .returned (.int .i64 (playT l).length) ∧ w' = wr.drewN n) := fun n => len_quiet _ (hq.below (below_drewN wr n)) hTl
      have HE : Hid (∀ n, BothP l w (.returned (.tuple #[.pointer (some ⟨gb, 0, none⟩), .pointer (some ⟨hb, 0, none⟩), .bool true])) (wr.drewN n)) := fun n => ⟨gb, hb, rfl, hbo.below (below_drewN wr n), hbw.trans ((below_drewN wr n).mono hbw.size)⟩
      clear hq hbo
      go_wp2
      go_quiet ((go_at_call 28; exact Calls.quiet_of_same (HQ.out _)))
      go_wp2
      go_ret3
      exact HE.out _
end Go.Proofs.Ytbjeaogblpjpeaa

/-
  The document's Reach (prev), by a contract.
-/
import Derived.Test.YtbjeaogblpjpeaaGRefW
import Derived.Test.YtbjeaogblpjpeaaGReachF
namespace Go.Proofs.Ytbjeaogblpjpeaa
open Go.RowKit Go.Maps

set_option maxRecDepth 100000 in
set_option maxHeartbeats 4000000 in
theorem rreachF_any {O : Nat → Prop} {hb : Nat} {T : List Th} (l : List Int) (p : Option Addr) (c : Nat) (w : World) (h : Rp O w hb T) (hg : Good T) (r : RdI (· < w.heap.size) w p c l) (hT : T.length ≤ 100) (hl : l.length ≤ 1000) :
    Calls Try.prog 23 #[.pointer (some ⟨hb, 0, none⟩), .slice p l.length c, .bool false] w (ReachP T.length (prevs T) (frm T.length l) w) := by
  have HO : Hid (∀ k, O k → k < w.heap.size) := h.lt
  have HQ : Hid (∀ wx, Below w.heap.size w wx → Rp O wx hb T) := fun wx hb => h.below hb
  have HTOP : Hid (ComeP T.length (prevs T) (frm T.length l) T.length (List.replicate T.length false)) := come_top hg.pl fun i hi => hi.1
  have HG : Hid (Good T) := hg
  obtain ⟨q, cq, hc, hcq, _⟩ := h.rd
  clear h hg
  go_enter Try.func23, Try.ntmps23
  go_wp2_with (first
    | (at_make; refine wpList_bools rfl (.tmp 15) (.tmp 15) rfl T.length (by omega) rfl rfl ?_))
  intro w1 hsz1 hb1 hbk1
  have HB1 : Hid (Bk w1 w.heap.size (List.replicate T.length false)) := hbk1
  have HBb1 : Hid (Below w.heap.size w w1) := hb1
  obtain ⟨q1, cq1, hc1, _, _⟩ := (HQ.out w1 hb1).rd
  clear hbk1 hb1
  go_wp2
  go_loopw [8] (fun i wr => ∃ k : Nat, ∃ C : List Bool, k ≤ T.length ∧ i = .int .i64 ((k : Int) - 1) ∧ Bk wr w.heap.size C ∧ ComeP T.length (prevs T) (frm T.length l) k C ∧ Below w.heap.size w wr) (fun i _ => (intOf i + 1).toNat)
  case atStart => exact ⟨T.length, _, Nat.le_refl _, rfl, HB1.out, HTOP.out, HBb1.out⟩
  case round =>
    clear HB1 HBb1 hsz1
    obtain ⟨k, C, hk, rfl, hC, hcome, hb'⟩ := hrel
    have HCM : Hid (ComeP T.length (prevs T) (frm T.length l) k C) := hcome
    have hsz := hb'.size
    clear hcome
    have hCL : Hid (C.length = T.length) := HCM.out.1
    cases k with
    | zero =>
      have HW : Hid (wh C = reach T.length (prevs T) (frm T.length l)) := wh_eq hCL.out (reach_rise _ _ _) fun x => by
        rw [mem_reach]
        constructor
        · rintro ⟨h1, h2⟩; exact ⟨h1, ((HCM.out.2 x h1).trans cm_zero).2 h2⟩
        · rintro ⟨h1, h2⟩; exact ⟨h1, ((HCM.out.2 x h1).trans cm_zero).1 h2⟩
      have hwh := where_any C w.heap.size C.length wr hC (by rw [hCL.out]; omega) (Nat.le_refl _)
      rw [HW.out, hCL.out] at hwh
      go_wp2_with (first
        | (go_at_call 38; refine hwh.mono ?_; rintro e w2 ⟨v, rfl, ho, hb2⟩))
      go_ret
      exact ⟨_, rfl, own_le ho hsz, hb'.trans (hb2.mono hsz)⟩
    | succ m =>
      have hm : m < T.length := by omega
      have ei : ((m + 1 : Nat) : Int) - 1 = (m : Int) := by omega
      rw [ei]
      have hself : C.getD m false = true ↔ Rch (prevs T) (frm T.length l) m := (HCM.out.2 m hm).trans (cm_self HG.out.pl)
      have hcc := hC.cell m (by rw [hCL.out]; exact hm)
      have hin := in_any (m : Int) l p c wr (r.below hb') (by omega)
      have hfm : frm T.length l m ↔ (m : Int) ∈ l := ⟨fun h => h.2, fun h => ⟨hm, h⟩⟩
      have HE : Hid (∀ x ∈ prevs T m, x < T.length) := fun x hx => by have := HG.out.pl m x hx; omega
      have HEL : Hid ((prevs T m).length ≤ 100) := by have := rise_length (HG.out.pr m) (HG.out.pl m); show _ ≤ _; omega
      obtain ⟨q2, cq2, hc2, hcq2, hall⟩ := (HQ.out wr hb').rd
      obtain ⟨ab, ao, p1, c1, p2, c2, rfl, k1, k2, k3, r1, r2⟩ := hall m hm
      clear hall
      by_cases hA : frm T.length l m ∨ Rch (prevs T) (frm T.length l) m
      · have HCN : Hid (ComeP T.length (prevs T) (frm T.length l) m (setAll C (prevs T m))) := HCM.out.yes hA
        have hd : (!decide ((m : Int) ∈ l) && !C.getD m false) = false := by
          rcases hA with h' | h'
          · rw [decide_eq_true (hfm.1 h')]; rfl
          · rw [hself.2 h']; simp
        have HRD : Hid (RdI O wr p1 c1 (zs (prevs T m))) := r1
        have HNN : Hid ((zs (prevs T m)).length = (prevs T m).length) := zs_len _
        clear hself hfm hA r1 r2
        generalize C.getD m false = cm at *
        generalize decide ((m : Int) ∈ l) = dm at *
        generalize prevs T m = ns at *
        cases dm with
        | true =>
          go_wp2_with (first
            | (go_at_call 30; refine hin.mono ?_; rintro e w' ⟨rfl, rfl⟩))
          go_loopw [10] (fun i wx => ∃ k : Nat, k ≤ (zs ns).length ∧ i = .int .i64 k ∧ Bk wx w.heap.size (setAll C (ns.take k)) ∧ Keep (· = w.heap.size) wr wx) (fun i _ => (zs ns).length - (intOf i).toNat)
          case atStart => exact ⟨0, Nat.zero_le _, rfl, hC, Keep.refl _ _⟩
          case round =>
            obtain ⟨k, hk, rfl, hbx, hkp⟩ := hrel
            have hnl : (zs ns).length ≤ 100 := by rw [HNN.out]; exact HEL.out
            by_cases hlt : k < (zs ns).length
            · have hkn : k < ns.length := by rw [← HNN.out]; exact hlt
              have r' := HRD.out.same (Same.of_keep hkp fun j hj => by have := HO.out j hj; exact ⟨by omega, by omega⟩)
              obtain ⟨ad, rfl, _, hcell⟩ := r'.at k 0 hlt
              rw [zs_getD] at hcell
              have hx := HE.out _ (getD_inm (d := 0) hkn)
              have HS : Hid (setAll C (ns.take (k + 1)) = (setAll C (ns.take k)).set (ns.getD k 0) true) := setAll_snoc C ns k hkn
              generalize ns.getD k 0 = x at *
              have d1 := hbx.cell x (by rw [setAll_len, hCL.out]; exact hx)
              have f1 := hbx.fz x
              have HB : Hid (Bk (wr.setCell ⟨w.heap.size, x, none⟩ (.bool true)) w.heap.size (setAll C (ns.take (k + 1)))) := by show Bk _ _ _; rw [HS.out]; exact hbx.set x
              have HK := hkp.setCell (p := ⟨w.heap.size, x, none⟩) (fun _ => rfl) (.bool true)
              clear hbx r'
              go_wp2
              go_roundw
              case rel => exact ⟨k + 1, by omega, by go_num, HB.out, HK⟩
              case measure => simp [intOf]; omega
            · obtain rfl : k = (zs ns).length := by omega
              have hbx' : Bk wr w.heap.size (setAll C ns) := by rw [HNN.out, List.take_length] at hbx; exact hbx
              go_wp2
              go_roundw
              case rel => exact ⟨m, _, by omega, congrArg (Value.int .i64) (by omega), hbx', HCN.out, below_keep hb' hkp hsz (Nat.le_refl _)⟩
              case measure => simp [intOf]; try omega
        | false =>
          cases cm with
          | false => simp at hd
          | true =>
            go_wp2_with (first
              | (go_at_call 30; refine hin.mono ?_; rintro e w' ⟨rfl, rfl⟩))
            go_loopw [10] (fun i wx => ∃ k : Nat, k ≤ (zs ns).length ∧ i = .int .i64 k ∧ Bk wx w.heap.size (setAll C (ns.take k)) ∧ Keep (· = w.heap.size) wr wx) (fun i _ => (zs ns).length - (intOf i).toNat)
            case atStart => exact ⟨0, Nat.zero_le _, rfl, hC, Keep.refl _ _⟩
            case round =>
              obtain ⟨k, hk, rfl, hbx, hkp⟩ := hrel
              have hnl : (zs ns).length ≤ 100 := by rw [HNN.out]; exact HEL.out
              by_cases hlt : k < (zs ns).length
              · have hkn : k < ns.length := by rw [← HNN.out]; exact hlt
                have r' := HRD.out.same (Same.of_keep hkp fun j hj => by have := HO.out j hj; exact ⟨by omega, by omega⟩)
                obtain ⟨ad, rfl, _, hcell⟩ := r'.at k 0 hlt
                rw [zs_getD] at hcell
                have hx := HE.out _ (getD_inm (d := 0) hkn)
                have HS : Hid (setAll C (ns.take (k + 1)) = (setAll C (ns.take k)).set (ns.getD k 0) true) := setAll_snoc C ns k hkn
                generalize ns.getD k 0 = x at *
                have d1 := hbx.cell x (by rw [setAll_len, hCL.out]; exact hx)
                have f1 := hbx.fz x
                have HB : Hid (Bk (wr.setCell ⟨w.heap.size, x, none⟩ (.bool true)) w.heap.size (setAll C (ns.take (k + 1)))) := by show Bk _ _ _; rw [HS.out]; exact hbx.set x
                have HK := hkp.setCell (p := ⟨w.heap.size, x, none⟩) (fun _ => rfl) (.bool true)
                clear hbx r'
                go_wp2
                go_roundw
                case rel => exact ⟨k + 1, by omega, by go_num, HB.out, HK⟩
                case measure => simp [intOf]; omega
              · obtain rfl : k = (zs ns).length := by omega
                have hbx' : Bk wr w.heap.size (setAll C ns) := by rw [HNN.out, List.take_length] at hbx; exact hbx
                go_wp2
                go_roundw
                case rel => exact ⟨m, _, by omega, congrArg (Value.int .i64) (by omega), hbx', HCN.out, below_keep hb' hkp hsz (Nat.le_refl _)⟩
                case measure => simp [intOf]; try omega
      · have HCN : Hid (ComeP T.length (prevs T) (frm T.length l) m C) := HCM.out.no hA
        have h1 : decide ((m : Int) ∈ l) = false := decide_eq_false fun h => hA (.inl (hfm.2 h))
        have h2 : C.getD m false = false := by
          cases hx : C.getD m false with
          | false => rfl
          | true => exact absurd (.inr (hself.1 hx)) hA
        rw [h1] at hin
        rw [h2] at hcc
        clear hself hfm hA r1 r2 h1 h2
        go_wp2_with (first
          | (go_at_call 30; refine hin.mono ?_; rintro e w' ⟨rfl, rfl⟩))
        go_roundw
        case rel => exact ⟨m, _, by omega, congrArg (Value.int .i64) (by omega), hC, HCN.out, hb'⟩
        case measure => simp [intOf]; try omega
end Go.Proofs.Ytbjeaogblpjpeaa

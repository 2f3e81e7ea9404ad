/-
  What the rules say of an event, by a state: by contracts.
  A verdict hangs on what is wanted alone: the law.
  How many of so many values are left (the law of events), by a contract.
  Sixteen cells that are written one by one.
  Which events are small, by a contract.
-/
import Derived.Test.YtldegjjaknelgaaGreatDoorAY25
import Derived.Deep.QuietTactic
set_option maxRecDepth 100000
set_option maxHeartbeats 16000000
namespace Go.Proofs.YtldegjjaknelgaaGreatDoor
open Go.RowKit
theorem open_e {e : Ev} {l : List Kn} {H : Hr} (h : openT e l = some H) : H.e = e ∧ H.st = l := by
 unfold openT at h
 split at h
 · cases h
 · split at h
   · split at h
     · cases h
     · cases h
       exact ⟨rfl, rfl⟩
   · cases h
theorem lit_at : (⟨#[64]⟩ : ByteArray).toList = [64] := by rw [Lib.toList_data]
theorem slprefix_any (s : ByteArray) (w : World) : Calls Tryz.prog 92 #[.string s, .string ⟨#[64]⟩] w fun x w' => x = .returned (.bool (atT s)) ∧ Below w.heap.size w w' := by
 have HT : Hid (atT s = (decide (1 ≤ s.size) && eqT (s.extract 0 1) ⟨#[64]⟩)) := rfl
 have e64 : (⟨#[64]⟩ : ByteArray).size = 1 := rfl
 cases h1 : decide (1 ≤ s.size) with
 | false =>
  have h2 : ¬ 1 ≤ s.size := by simpa using h1
  have h3 : ¬ (1 : Int) ≤ s.size := by omega
  go_enter Tryz.func92, Tryz.ntmps92
  go_wp2
  go_ret
  exact ⟨by rw [HT.out, h1]; rfl, Below.refl _ _⟩
 | true =>
  have h2 : 1 ≤ s.size := by simpa using h1
  have h3 : (1 : Int) ≤ s.size := by omega
  go_enter Tryz.func92, Tryz.ntmps92
  go_wp2
  go_ret
  exact ⟨by rw [HT.out, h1]; unfold eqT; rw [lit_at]; rfl, Below.refl _ _⟩
theorem hasAt_any (s : ByteArray) (w : World) : Calls Tryz.prog 58 #[.string s, .string ⟨#[64]⟩] w fun x w' => x = .returned (.bool (atT s)) ∧ Below w.heap.size w w' := by
 have hP := slprefix_any s w
 generalize atT s = b at hP ⊢
 go_enter Tryz.func58, Tryz.ntmps58
 go_wp2_with (go_at_call 92; refine hP.mono ?_; rintro x w1 ⟨rfl, hb1⟩)
 go_ret
 exact ⟨rfl, hb1⟩
theorem ask_any {O : Nat → Prop} {w : World} {e : Ev} {p : Pt} {ps : Option Addr} {cs : Nat} {l : List Kn} (h : IsE O w e p) (hst : RdE O w ps cs l) (hO : ∀ b, O b → b < w.heap.size) (hz : SzE e) (hk : SzK l) :
    Calls Tryz.prog 27 #[valE e p, .slice ps l.length cs] w fun x w' => x = thrown (askT e l) ∧ Below w.heap.size w w' := by
 obtain ⟨W0, hW0⟩ : ∃ W0, W0 = w.alloc (.cells (cellsE e p).toArray 28) := ⟨_, rfl⟩
 have hb0 : Below w.heap.size w W0 := by rw [hW0]; exact (Below.refl _ _).alloc (Nat.le_refl _) _
 have hX0 : W0.heap[w.heap.size]? = some (.cells (cellsE e p).toArray 28 (0, 0)) := by rw [hW0]; exact newP _
 have hV := isV_new h hO hb0 hX0
 have HV : Hid (∀ X, Below W0.heap.size W0 X → IsV X w.heap.size e p) := fun X hX => hV.below hX
 have HA : Hid (askT e l = if eqT e.typ tCreate then createT e else match openT e l with | none => false | some h => h.ask) := rfl
 have hCr := creates_any hV.ev (fun _ h => h) hz
 have hOp := open_any hV.ev (hst.carry fun k hk => ⟨Nat.lt_of_lt_of_le (hO k hk) hb0.size, hb0.block k (hO k hk)⟩) (fun _ h => h) hk
 have HSZ : Hid (∀ H, openT e l = some H → SzH H ∧ H.e = e) := fun H hH => ⟨open_sz hz hk hH, (open_e hH).1⟩
 have HRG := (show Hid _ from hV.rangeE)
 have et := hV.typ
 clear h hst hV hX0 hk hz
 unfold valE at hCr hOp ⊢
 unfold eqT at HA
 rw [lit_tCreate] at HA
 cases hc : (e.typ.toList == [109, 46, 114, 111, 111, 109, 46, 99, 114, 101, 97, 116, 101]) with
 | true =>
  have HT : Hid (askT e l = createT e) := by show _ = _; rw [HA.out, if_pos hc]
  clear HA hOp HSZ
  generalize createT e = bc at hCr HT
  go_enter Tryz.func27, Tryz.ntmps27
  go_upto_region 1 with fail
  rw [← hW0]
  clear hW0
  go_wp2_with (first
   | (refine wpList_load_mid rfl 28 _ rfl w.heap.size 0 rfl _ _ HRG.out Tryz.underlying28 rfl infoE ?_)
   | (go_at_call 51; refine hCr.mono ?_; rintro x w1 ⟨rfl, hb1⟩)
   | (go_at_call 50; refine (says_eq _ _).mono ?_; rintro e wn ⟨rfl, rfl⟩))
  exact ⟨rfl, by rw [HT.out], belowP hb0 hb1⟩
 | false =>
  have HT : Hid (askT e l = match openT e l with | none => false | some h => h.ask) := by show _ = _; rw [HA.out, if_neg (by rw [hc]; decide)]
  clear HA hCr
  generalize openT e l = oh at hOp HT HSZ
  cases oh with
  | none =>
   have hOp0 : Calls Tryz.prog 52 #[.agg (cellsE e p).toArray, .slice ps l.length cs] W0 fun x w' => x = thrown false ∧ Below W0.heap.size W0 w' := hOp
   clear hOp
   go_enter Tryz.func27, Tryz.ntmps27
   go_upto_region 1 with fail
   rw [← hW0]
   clear hW0
   go_wp2_with (first
    | (refine wpList_load_mid rfl 28 _ rfl w.heap.size 0 rfl _ _ HRG.out Tryz.underlying28 rfl infoE ?_)
    | (go_at_call 52; refine hOp0.mono ?_; rintro x w1 ⟨rfl, hb1⟩))
   exact ⟨rfl, by rw [HT.out], belowP hb0 hb1⟩
  | some H =>
   have hOp0 : Calls Tryz.prog 52 #[.agg (cellsE e p).toArray, .slice ps l.length cs] W0 fun x w' => (∃ hb P, x = .returned (.pointer (some ⟨hb, 0, none⟩)) ∧ IsH w' hb H P) ∧ Below W0.heap.size W0 w' := hOp
   obtain ⟨hsz, he⟩ := HSZ.out H rfl
   clear hOp HSZ
   subst he
   replace HT : Hid (askT H.e l = if eqT H.e.typ tMember then H.member else H.sends) := HT.out
   unfold eqT at HT
   rw [lit_tMember] at HT
   go_enter Tryz.func27, Tryz.ntmps27
   go_upto_region 1 with fail
   rw [← hW0]
   clear hW0
   go_upto_region 4 with (first
    | (refine wpList_load_mid rfl 28 _ rfl w.heap.size 0 rfl _ _ HRG.out Tryz.underlying28 rfl infoE ?_)
    | (go_at_call 52; refine hOp0.mono ?_; rintro x w1 ⟨⟨hb, P, rfl, hI⟩, hb1⟩))
   have HX1 : Hid (∀ X, Below w1.heap.size w1 X → IsH X hb H P) := fun X hX => hI.below hX
   have HV1 : Hid (∀ X, Below w1.heap.size w1 X → IsV X w.heap.size H.e p) := fun X hX => HV.out X (belowP hb1 hX)
   have HB1 : Hid (∀ X, Below w1.heap.size w1 X → Below w.heap.size w X) := fun X hX => belowP hb0 (belowP hb1 hX)
   have hJo := joined_any hI hsz
   have hMb := member_any hI hsz
   clear HRG et hI HV hb1 hb0 hOp0
   have et := (HV1.out w1 (Below.refl _ _)).typ
   cases hm : (H.e.typ.toList == [109, 46, 114, 111, 111, 109, 46, 109, 101, 109, 98, 101, 114]) with
   | true =>
    have HT2 : Hid (askT H.e l = H.member) := by show _ = _; rw [HT.out, if_pos hm]
    clear HT hJo
    generalize H.member = bm at hMb HT2
    go_wp2_with (go_at_call 53; refine hMb.mono ?_; rintro x w2 ⟨rfl, hb2⟩)
    exact ⟨rfl, by rw [HT2.out], HB1.out _ hb2⟩
   | false =>
    have HT2 : Hid (askT H.e l = (H.joined && (decide (kindL H.l H.e.typ H.e.st ≤ H.s) && (!((H.e.st && atT H.e.key) && !H.own) && (if (H.e.st && eqT H.e.typ tPower) && eqT H.e.key ⟨#[]⟩ then H.changes else true))))) := by show _ = _; rw [HT.out, if_neg (by rw [hm]; decide)]; rfl
    unfold eqT at HT2
    rw [lit_tPower, lit_nix] at HT2
    clear HT hMb
    go_upto_region 6 with fail
    generalize H.joined = bj at hJo HT2
    cases bj with
    | false =>
     go_wp2_with (first | (go_at_call 55; refine hJo.mono ?_; rintro x w2 ⟨rfl, hb2⟩) | (go_at_call 54; refine (noIf_any _ _).mono ?_; rintro e wn ⟨he, rfl⟩; replace he : e = _ := he; subst he))
     exact ⟨rfl, by rw [HT2.out]; rfl, HB1.out _ hb2⟩
    | true =>
     go_upto_region 7 with (first | (go_at_call 55; refine hJo.mono ?_; rintro x W ⟨rfl, hb2⟩) | (go_at_call 54; refine (noIf_any _ _).mono ?_; rintro e wn ⟨he, rfl⟩; replace he : e = _ := he; subst he))
     have HX : Hid (∀ X, Below W.heap.size W X → IsH X hb H P) := fun X hX => HX1.out X (belowP hb2 hX)
     have HVX : Hid (∀ X, Below W.heap.size W X → IsV X w.heap.size H.e p) := fun X hX => HV1.out X (belowP hb2 hX)
     have HBW : Hid (∀ X, Below W.heap.size W X → Below w.heap.size w X) := fun X hX => HB1.out X (belowP hb2 hX)
     have HS : Hid (∀ X, Below W.heap.size W X → Calls Tryz.prog 56 #[.pointer (some ⟨hb, 0, none⟩)] X fun e w' => e = .returned (.int .i64 H.s) ∧ Below X.heap.size X w') := fun X hX => lev_s_any (HX.out X hX) hsz
     have HTy : Hid (∀ X, Below W.heap.size W X → Calls Tryz.prog 57 #[valL H.l P.l, .string H.e.typ, .bool H.e.st] X fun e w' => e = .returned (.int .i64 (kindL H.l H.e.typ H.e.st)) ∧ Below X.heap.size X w') := fun X hX => type_lv (HX.out X hX).lv (fun _ h => h) hsz.l H.e.typ H.e.st
     have HOw : Hid (∀ X, Below W.heap.size W X → Calls Tryz.prog 59 #[.pointer (some ⟨hb, 0, none⟩)] X fun e w' => e = .returned (.bool H.own) ∧ Below X.heap.size X w') := fun X hX => own_any (HX.out X hX)
     have HCh : Hid (∀ X, Below W.heap.size W X → Calls Tryz.prog 60 #[.pointer (some ⟨hb, 0, none⟩)] X fun e w' => e = thrown H.changes ∧ Below X.heap.size X w') := fun X hX => changes_H (HX.out X hX) hsz
     clear HX1 HV1 HB1 hJo hb2 et hm hc
     refine wp_region_in (by kernel_rfl) (fun w' => Below W.heap.size W w') ?_
     change wpIn _ _ _ _ _ _ _ _ (World.drew _)
     have hD : Below W.heap.size W W.drew := (Below.refl _ _).drew
     generalize H.s = S at HS HT2
     generalize kindL H.l H.e.typ H.e.st = K0 at HTy HT2
     cases h7 : decide (S < K0) with
     | true =>
      refine wpIn_tk (i := 0) (d := some 23) rfl ?_
      refine wpIn_tk (i := 2) (d := some 25) rfl ?_
      refine wpIn_tk (i := 3) (d := some 26) rfl ?_
      refine wpIn_tk (i := 4) (d := some 27) rfl ?_
      refine wpIn_take (i := 5) (d := (some 28)) (v := (valL H.l P.l)) (a' := ?aqb5) rfl rfl (by kernel_rfl) (by kernel_rfl) (by kernel_rfl) (fun _ _ _ h => h) (Or.inl ⟨by rfl, ?yqb5⟩) ?fqb5 ?_
      case yqb5 => exact fun wq hq => exec_loadR rfl rfl ((HX.out wq hq).runL)
      case fqb5 => (go_frame; rfl)
      refine wpIn_tk (i := 6) (d := some 29) rfl ?_
      refine wpIn_tp (i := 7) (d := some 30) rfl (by (intro wq hq; have zf := (HVX.out wq hq).typ; go_simp; first | done | with_reducible rfl)) ?_
      refine wpIn_tk (i := 8) (d := some 31) rfl ?_
      refine wpIn_tp (i := 9) (d := some 32) rfl (by (intro wq hq; have zf := (HVX.out wq hq).isSt; go_simp; first | done | with_reducible rfl)) ?_
      refine wpIn_do (i := 1) hD (by kernel_rfl) rfl (by rfl) ?_
      intro K hK
      go_simp
      go_wp2_with (go_at_call 56; refine (HS.out _ hD).mono ?_; rintro e w4 ⟨rfl, hbw4⟩)
      have hD1 : Below W.heap.size W w4 := belowP hD hbw4
      refine wpIn_do (i := 10) hD1 (by kernel_rfl) rfl (by rfl) ?_
      intro K hK
      go_simp
      go_wp2_with (go_at_call 57; refine (HTy.out _ hD1).mono ?_; rintro e w5 ⟨rfl, hbw5⟩)
      have hD110 : Below W.heap.size W w5 := belowP hD1 hbw5
      refine wpIn_tk (i := 11) (d := some 34) rfl ?_
      refine wpIn_do (i := 12) hD110 (by kernel_rfl) rfl (by rfl) ?_
      intro K hK
      go_simp
      go_wp2_with (go_at_call 54; refine (noIf_any _ _).mono ?_; rintro e w6 ⟨he, hw6⟩; replace he : e = _ := he; subst he; have hbw6 : Below w5.heap.size w5 w6 := hw6 ▸ Below.refl _ _)
      exact ⟨rfl, by rw [HT2.out, show decide (K0 ≤ S) = false from by simp at h7; simpa using h7]; rfl, HBW.out _ (hw6 ▸ belowP hD1 hbw5)⟩
     | false =>
      refine wpIn_tk (i := 0) (d := some 23) rfl ?_
      refine wpIn_tk (i := 2) (d := some 25) rfl ?_
      refine wpIn_tk (i := 3) (d := some 26) rfl ?_
      refine wpIn_tk (i := 4) (d := some 27) rfl ?_
      refine wpIn_take (i := 5) (d := (some 28)) (v := (valL H.l P.l)) (a' := ?aqa5) rfl rfl (by kernel_rfl) (by kernel_rfl) (by kernel_rfl) (fun _ _ _ h => h) (Or.inl ⟨by rfl, ?yqa5⟩) ?fqa5 ?_
      case yqa5 => exact fun wq hq => exec_loadR rfl rfl ((HX.out wq hq).runL)
      case fqa5 => (go_frame; rfl)
      refine wpIn_tk (i := 6) (d := some 29) rfl ?_
      refine wpIn_tp (i := 7) (d := some 30) rfl (by (intro wq hq; have zf := (HVX.out wq hq).typ; go_simp; first | done | with_reducible rfl)) ?_
      refine wpIn_tk (i := 8) (d := some 31) rfl ?_
      refine wpIn_tp (i := 9) (d := some 32) rfl (by (intro wq hq; have zf := (HVX.out wq hq).isSt; go_simp; first | done | with_reducible rfl)) ?_
      refine wpIn_do (i := 1) hD (by kernel_rfl) rfl (by rfl) ?_
      intro K hK
      go_simp
      go_wp2_with (go_at_call 56; refine (HS.out _ hD).mono ?_; rintro e w4 ⟨rfl, hbw4⟩)
      have hD1 : Below W.heap.size W w4 := belowP hD hbw4
      refine wpIn_do (i := 10) hD1 (by kernel_rfl) rfl (by rfl) ?_
      intro K hK
      go_simp
      go_wp2_with (go_at_call 57; refine (HTy.out _ hD1).mono ?_; rintro e w5 ⟨rfl, hbw5⟩)
      have hD110 : Below W.heap.size W w5 := belowP hD1 hbw5
      refine wpIn_tk (i := 11) (d := some 34) rfl ?_
      refine wpIn_do (i := 12) hD110 (by kernel_rfl) rfl (by rfl) ?_
      intro K hK
      go_simp
      go_wp2_with (go_at_call 54; refine (noIf_any _ _).mono ?_; rintro e w6 ⟨he, hw6⟩; replace he : e = _ := he; subst he; have hbw6 : Below w5.heap.size w5 w6 := hw6 ▸ Below.refl _ _)
      have hD11012 : Below W.heap.size W w6 := belowP hD110 hbw6
      refine wpIn_done hD11012 (by kernel_rfl) ?_ _
      have hC := hD11012
      have HT3 : Hid (askT H.e l = (!((H.e.st && atT H.e.key) && !H.own) && (if (H.e.st && (H.e.typ.toList == [109, 46, 114, 111, 111, 109, 46, 112, 111, 119, 101, 114, 95, 108, 101, 118, 101, 108, 115])) && (H.e.key.toList == []) then H.changes else true))) := by show _ = _; rw [HT2.out, show decide (K0 ≤ S) = true from by simp at h7; simpa using h7]; rfl
      clear HT2 HS HTy
      go_upto_region 8 with fail
      clear hD hD1 hD110 hw6 hbw4 hbw5 hbw6
      clear h7
      have hOw := fun X hX => HOw.out X (belowP hC hX)
      have hVC := HVX.out _ hC
      have ck := hVC.key
      have cst := hVC.isSt
      clear hVC
      cases h8 : H.e.st with
      | false =>
       rw [h8] at HT3 cst
       go_wp2_with (first | (go_at_call 54; refine (noIf_any _ _).mono ?_; rintro e wn ⟨he, rfl⟩; replace he : e = _ := he; subst he) | (go_at_call 50; refine (says_eq _ _).mono ?_; rintro e wn ⟨rfl, rfl⟩))
       exact ⟨rfl, by rw [HT3.out]; rfl, HBW.out _ hC⟩
      | true =>
       rw [h8] at HT3 cst
       generalize ha : atT H.e.key = ba at HT3
       cases ba with
       | false =>
        go_upto_region 9 with (first | (go_at_call 58; refine (hasAt_any _ _).mono ?_; rintro x w7 ⟨hx7, hb7⟩; rw [ha] at hx7; subst hx7) | (go_at_call 54; refine (noIf_any _ _).mono ?_; rintro e wn ⟨he, rfl⟩; replace he : e = _ := he; subst he))
        have hC7 := belowP hC hb7
        replace HT3 : Hid (askT H.e l = (if (H.e.typ.toList == [109, 46, 114, 111, 111, 109, 46, 112, 111, 119, 101, 114, 95, 108, 101, 118, 101, 108, 115]) && (H.e.key.toList == []) then H.changes else true)) := by show _ = _; rw [HT3.out]; rfl
        clear ck cst hOw
        have hCh := HCh.out w7 hC7
        have hV7 := HVX.out w7 hC7
        have ct := hV7.typ
        have ck := hV7.key
        have cst := hV7.isSt
        clear hV7
        rw [h8] at cst
        cases h9 : (H.e.typ.toList == [109, 46, 114, 111, 111, 109, 46, 112, 111, 119, 101, 114, 95, 108, 101, 118, 101, 108, 115]) with
        | false =>
         go_wp2_with (go_at_call 50; refine (says_eq _ _).mono ?_; rintro e wn ⟨rfl, rfl⟩)
         exact ⟨rfl, by rw [HT3.out, h9]; rfl, HBW.out _ hC7⟩
        | true =>
         cases h10 : (H.e.key.toList == []) with
         | false =>
          go_wp2_with (go_at_call 50; refine (says_eq _ _).mono ?_; rintro e wn ⟨rfl, rfl⟩)
          exact ⟨rfl, by rw [HT3.out, h9, h10]; rfl, HBW.out _ hC7⟩
         | true =>
          go_wp2_with (go_at_call 60; refine hCh.mono ?_; rintro x w9 ⟨rfl, hb9⟩)
          exact ⟨rfl, by rw [HT3.out, h9, h10]; rfl, HBW.out _ (belowP hC7 hb9)⟩
       | true =>
        generalize H.own = bo at hOw HT3 HOw
        cases bo with
        | false =>
         go_wp2_with (first | (go_at_call 58; refine (hasAt_any _ _).mono ?_; rintro x w7 ⟨hx7, hb7⟩; rw [ha] at hx7; subst hx7) | (go_at_call 59; refine (hOw _ hb7).mono ?_; rintro x w8 ⟨rfl, hb8⟩) | (go_at_call 54; refine (noIf_any _ _).mono ?_; rintro e wn ⟨he, rfl⟩; replace he : e = _ := he; subst he))
         exact ⟨rfl, by rw [HT3.out]; rfl, HBW.out _ (belowP (belowP hC hb7) hb8)⟩
        | true =>
         go_upto_region 9 with (first | (go_at_call 58; refine (hasAt_any _ _).mono ?_; rintro x w6 ⟨hx7, hb7⟩; rw [ha] at hx7; subst hx7) | (go_at_call 59; refine (hOw _ hb7).mono ?_; rintro x w7 ⟨rfl, hb8⟩) | (go_at_call 54; refine (noIf_any _ _).mono ?_; rintro e wn ⟨he, rfl⟩; replace he : e = _ := he; subst he))
         have hC7 := belowP (belowP hC hb7) hb8
         replace HT3 : Hid (askT H.e l = (if (H.e.typ.toList == [109, 46, 114, 111, 111, 109, 46, 112, 111, 119, 101, 114, 95, 108, 101, 118, 101, 108, 115]) && (H.e.key.toList == []) then H.changes else true)) := by show _ = _; rw [HT3.out]; rfl
         clear ck cst hOw
         have hCh := HCh.out w7 hC7
         have hV7 := HVX.out w7 hC7
         have ct := hV7.typ
         have ck := hV7.key
         have cst := hV7.isSt
         clear hV7
         rw [h8] at cst
         cases h9 : (H.e.typ.toList == [109, 46, 114, 111, 111, 109, 46, 112, 111, 119, 101, 114, 95, 108, 101, 118, 101, 108, 115]) with
         | false =>
          go_wp2_with (go_at_call 50; refine (says_eq _ _).mono ?_; rintro e wn ⟨rfl, rfl⟩)
          exact ⟨rfl, by rw [HT3.out, h9]; rfl, HBW.out _ hC7⟩
         | true =>
          cases h10 : (H.e.key.toList == []) with
          | false =>
           go_wp2_with (go_at_call 50; refine (says_eq _ _).mono ?_; rintro e wn ⟨rfl, rfl⟩)
           exact ⟨rfl, by rw [HT3.out, h9, h10]; rfl, HBW.out _ hC7⟩
          | true =>
           go_wp2_with (go_at_call 60; refine hCh.mono ?_; rintro x w9 ⟨rfl, hb9⟩)
           exact ⟨rfl, by rw [HT3.out, h9, h10]; rfl, HBW.out _ (belowP hC7 hb9)⟩
theorem judge_any {O : Nat → Prop} {w : World} {e : Ev} {p : Pt} {ps : Option Addr} {cs : Nat} {l : List Kn} (h : IsE O w e p) (hst : RdE O w ps cs l) (hO : ∀ b, O b → b < w.heap.size) (hz : SzE e) (hk : SzK l) (hT : Tabs w) :
    Calls Tryz.prog 11 #[valE e p, .slice ps l.length cs] w fun x w' => x = .returned (.int .i64 (judgeT e l)) ∧ Below w.heap.size w w' := by
 refine (judge_of (b := askT e l) h hO hz hT fun X hX => ask_any (h.carry fun k hk => ⟨hk, hX.block k (hO k hk)⟩) (hst.carry fun k hk => ⟨hk, hX.block k (hO k hk)⟩) (fun k hk => Nat.lt_of_lt_of_le (hO k hk) hX.size) hz hk).mono fun x w' hh => ⟨?_, hh.2⟩
 rw [hh.1]
 unfold judgeT
 rfl
def hitsT (ws : List Ent) (k : Kn) : List Kn := (ws.filter fun t => isAt t.1 t.2 k).map fun _ => k
def lessT (ws : List Ent) (l : List Kn) : List Kn := l.flatMap (hitsT ws)
theorem find_all (p : Kn → Bool) : ∀ (l : List Kn), (∀ k ∈ l, p k = false) → l.find? p = none := fun l h => List.find?_eq_none.2 fun k hk => by rw [h k hk]; decide
theorem find_less {ws : List Ent} {kind key : ByteArray} (hw : (kind, key) ∈ ws) : ∀ l : List Kn, findT (lessT ws l) kind key = findT l kind key
 | [] => rfl
 | k :: t => by
  have ih := find_less hw t
  unfold findT at ih ⊢
  unfold lessT at ih ⊢
  rw [List.flatMap_cons, List.find?_append, ih]
  cases hk : isAt kind key k with
  | true =>
   have : (hitsT ws k).find? (isAt kind key) = some k := by
    have hm : k ∈ hitsT ws k := List.mem_map.2 ⟨(kind, key), List.mem_filter.2 ⟨hw, hk⟩, rfl⟩
    have ha : ∀ x ∈ hitsT ws k, x = k := fun x hx => by
     obtain ⟨_, _, rfl⟩ := List.mem_map.1 hx
     rfl
    revert hm ha
    cases hitsT ws k with
    | nil => intro hm; cases hm
    | cons a s =>
     intro _ ha
     rw [ha a (List.mem_cons_self ..), List.find?_cons, hk]
   rw [this, List.find?_cons, hk]
   rfl
  | false =>
   rw [find_all _ _ (fun x hx => by
    obtain ⟨_, _, rfl⟩ := List.mem_map.1 hx
    exact hk), List.find?_cons, hk]
   rfl
theorem memb_less {ws : List Ent} {u : ByteArray} (hw : (tMember, u) ∈ ws) (l : List Kn) : membT (lessT ws l) u = membT l u := by
 unfold membT textOfT
 rw [find_less hw]
theorem open_less {e : Ev} {l : List Kn} (hc : (tCreate, ⟨#[]⟩) ∈ wantT e) (hp : (tPower, ⟨#[]⟩) ∈ wantT e) : openT e (lessT (wantT e) l) = (openT e l).map fun h => { h with st := lessT (wantT e) l } := by
 unfold openT levT
 rw [find_less hc, find_less hp]
 cases findT l tCreate ⟨#[]⟩ with
 | none => rfl
 | some c =>
  dsimp only
  split
  · split <;> simp_all
  · rfl
theorem only_law (e : Ev) (l : List Kn) : judgeT e (lessT (wantT e) l) = judgeT e l := by
 have hask : askT e (lessT (wantT e) l) = askT e l := by
  unfold askT
  cases hc : eqT e.typ tCreate with
  | true => rfl
  | false =>
   rw [if_neg (by decide), if_neg (by decide)]
   have hw : wantT e = [(tCreate, ⟨#[]⟩), (tPower, ⟨#[]⟩), (tMember, e.sender)] ++ (if e.st && eqT e.typ tMember then (if eqT e.key e.sender then [] else [(tMember, e.key)]) ++ (if eqT (textT e.content nMemb) vJoin || eqT (textT e.content nMemb) vInvite then [(tRules, ⟨#[]⟩)] else []) else []) := by
    unfold wantT
    rw [if_neg (by rw [hc]; decide)]
   have m1 : (tCreate, (⟨#[]⟩ : ByteArray)) ∈ wantT e := by rw [hw]; exact List.mem_append_left _ (List.mem_cons_self ..)
   have m2 : (tPower, (⟨#[]⟩ : ByteArray)) ∈ wantT e := by rw [hw]; exact List.mem_append_left _ (List.mem_cons_of_mem _ (List.mem_cons_self ..))
   have m3 : (tMember, e.sender) ∈ wantT e := by rw [hw]; exact List.mem_append_left _ (List.mem_cons_of_mem _ (List.mem_cons_of_mem _ (List.mem_cons_self ..)))
   rw [open_less m1 m2]
   cases ho : openT e l with
   | none => rfl
   | some h =>
    obtain ⟨he, hl⟩ := open_e ho
    show Hr.ask { h with st := lessT (wantT e) l } = h.ask
    obtain ⟨he', st, cn, ce, v, told⟩ := h
    obtain rfl : he' = e := he
    obtain rfl : st = l := hl
    have hj : Hr.joined ⟨he', lessT (wantT he') st, cn, ce, v, told⟩ = Hr.joined ⟨he', st, cn, ce, v, told⟩ := by
     unfold Hr.joined
     rw [show membT (Hr.st ⟨he', lessT (wantT he') st, cn, ce, v, told⟩) he'.sender = membT st he'.sender from memb_less m3 st]
    unfold Hr.ask
    cases hm : eqT he'.typ tMember with
    | false =>
     rw [if_neg (by decide), if_neg (by decide)]
     unfold Hr.sends
     rw [hj]
     rfl
    | true =>
     rw [if_pos rfl, if_pos rfl]
     unfold Hr.member
     cases hs : he'.st with
     | false => rfl
     | true =>
      have mk : (tMember, he'.key) ∈ wantT he' ∨ eqT he'.key he'.sender = true := by
       cases hk : eqT he'.key he'.sender with
       | true => exact .inr rfl
       | false =>
        refine .inl ?_
        rw [hw, hs, hm, hk]
        exact List.mem_append_right _ (List.mem_append_left _ (List.mem_cons_self ..))
      have ht : Hr.target ⟨he', lessT (wantT he') st, cn, ce, v, told⟩ = Hr.target ⟨he', st, cn, ce, v, told⟩ := by
       unfold Hr.target
       rcases mk with mk | mk
       · exact memb_less mk st
       · have hks : he'.key = he'.sender := by
           unfold eqT at mk
           exact toList_inj (eq_of_beq mk)
         show membT (lessT (wantT he') st) he'.key = membT st he'.key
         rw [hks]
         exact memb_less m3 st
      have e1 : Hr.invites ⟨he', lessT (wantT he') st, cn, ce, v, told⟩ = Hr.invites ⟨he', st, cn, ce, v, told⟩ := by
       unfold Hr.invites
       rw [hj, ht]
       rfl
      have e2 : Hr.leaves ⟨he', lessT (wantT he') st, cn, ce, v, told⟩ = Hr.leaves ⟨he', st, cn, ce, v, told⟩ := by
       unfold Hr.leaves
       rw [hj, ht]
       rfl
      have e3 : Hr.bans ⟨he', lessT (wantT he') st, cn, ce, v, told⟩ = Hr.bans ⟨he', st, cn, ce, v, told⟩ := by
       unfold Hr.bans
       rw [hj]
       rfl
      rw [e1, e2, e3]
      cases h1 : eqT (textT he'.content nMemb) vJoin with
      | true =>
       have mr : (tRules, (⟨#[]⟩ : ByteArray)) ∈ wantT he' := by
        rw [hw, hs, hm, h1]
        exact List.mem_append_right _ (List.mem_append_right _ (List.mem_cons_self ..))
       have e4 : Hr.joins ⟨he', lessT (wantT he') st, cn, ce, v, told⟩ = Hr.joins ⟨he', st, cn, ce, v, told⟩ := by
        unfold Hr.joins
        rw [ht, show textOfT (Hr.st ⟨he', lessT (wantT he') st, cn, ce, v, told⟩) tRules ⟨#[]⟩ nRule = textOfT st tRules ⟨#[]⟩ nRule by unfold textOfT; rw [show findT (Hr.st ⟨he', lessT (wantT he') st, cn, ce, v, told⟩) tRules ⟨#[]⟩ = findT st tRules ⟨#[]⟩ from find_less mr st]]
        rfl
       rw [e4]
      | false => rfl
 unfold judgeT
 rw [hask]
theorem less_take {ws : List Ent} {l : List Kn} {k : Nat} (hk : k < l.length) : lessT ws (l.take (k + 1)) = lessT ws (l.take k) ++ hitsT ws (l.getD k zK) := by
 unfold lessT
 rw [List.take_succ_eq_append_getElem hk, List.flatMap_append, List.getD_eq_getElem?_getD, List.getElem?_eq_getElem hk]
 simp
theorem hits_take {ws : List Ent} {x : Kn} {k : Nat} (hk : k < ws.length) : hitsT (ws.take (k + 1)) x = hitsT (ws.take k) x ++ cond (isAt (ws.getD k (nix, nix)).1 (ws.getD k (nix, nix)).2 x) [x] [] := by
 unfold hitsT
 rw [List.take_succ_eq_append_getElem hk, List.filter_append, List.map_append, List.getD_eq_getElem?_getD, List.getElem?_eq_getElem hk]
 congr 1
 dsimp only [Option.getD_some]
 cases h : isAt (ws[k]).1 (ws[k]).2 x <;> simp [h]
theorem less_mem {ws : List Ent} {l : List Kn} {k : Kn} (h : k ∈ lessT ws l) : k ∈ l := by
 obtain ⟨x, hx, hk⟩ := List.mem_flatMap.1 h
 obtain ⟨_, _, rfl⟩ := List.mem_map.1 hk
 exact hx
theorem less_len {ws : List Ent} : ∀ l : List Kn, (lessT ws l).length ≤ l.length * ws.length
 | [] => Nat.zero_le _
 | k :: t => by
  have ih := less_len (ws := ws) t
  unfold lessT at ih ⊢
  rw [List.flatMap_cons, List.length_append, List.length_cons, Nat.succ_mul]
  have : (hitsT ws k).length ≤ ws.length := by
   unfold hitsT
   rw [List.length_map]
   exact List.length_filter_le ..
  omega
theorem want_len (e : Ev) : (wantT e).length ≤ 5 := by
 unfold wantT
 split
 · exact Nat.zero_le _
 · split
   · split <;> split <;> simp
   · simp
def LeftsE (d : Nat) : Prop := ∀ (w : World) (O : Nat → Prop) (j : J) (k i deep n : Int) (t : ByteArray) (pk pl : Option Addr) (nk ck nl cl : Nat), (∀ x, O x → x < w.heap.size) → deep = (d : Int) → d ≤ 100 → 0 ≤ n → n ≤ 100000 →
 isJ O w j [.int .i64 k, .int .i64 i, .string t, .slice pk nk ck, .slice pl nl cl] →
 Calls Tryz.prog 23 #[.agg #[.int .i64 k, .int .i64 i, .string t, .slice pk nk ck, .slice pl nl cl], .int .i64 n, .int .i64 deep] w fun x w' => (∃ r : Int, x = .returned (.int .i64 r) ∧ r ≤ n ∧ -1 ≤ r ∧ (0 ≤ r → szJ d j = true)) ∧ Below w.heap.size w w'
theorem eleft_zero : LeftsE 0 := by
 intro w O j k i deep n t pk pl nk ck nl cl hO hdeep _ h0 hn _
 subst hdeep
 have hbA : Below w.heap.size w (w.alloc (.cells #[.int .i64 k, .int .i64 i, .string t, .slice pk nk ck, .slice pl nl cl] 25)) := (Below.refl _ _).alloc (Nat.le_refl _) _
 by_cases h1 : n < 1
 · go_enter Tryz.func23, Tryz.ntmps23
   go_wp2
   go_ret
   exact ⟨⟨-1, rfl, by omega, by omega, fun h => absurd h (by decide)⟩, hbA⟩
 · go_enter Tryz.func23, Tryz.ntmps23
   go_wp2
   go_ret
   exact ⟨⟨-1, rfl, by omega, by omega, fun h => absurd h (by decide)⟩, hbA⟩
theorem eleft_step {d : Nat} (V : LeftsE d) : LeftsE (d + 1) := by
 intro w O j k i deep n t pk pl nk ck nl cl hO hdeep hd h0 hn hj
 obtain ⟨kx, ix, tx, ks, l⟩ := j
 unfold isJ at hj
 obtain ⟨pk', ck', pl', cl', e, hk, hl, hs⟩ := hj
 simp only [List.cons.injEq, Value.int.injEq, Value.string.injEq, Value.slice.injEq, true_and, and_true] at e
 obtain ⟨rfl, rfl, rfl, ⟨rfl, rfl, rfl⟩, rfl, rfl, rfl⟩ := e
 have hd1 : 1 ≤ deep := by omega
 have hd2 : deep ≤ 101 := by omega
 have HD : Hid (deep - 1 = (d : Int)) := by show _ = _; omega
 have HDL : Hid (d ≤ 100) := by show _ ≤ _; omega
 clear hdeep hd
 obtain ⟨nk, hnk⟩ : ∃ n, ks.length = n := ⟨_, rfl⟩
 obtain ⟨nl, hnl⟩ : ∃ n, l.length = n := ⟨_, rfl⟩
 have HNK : Hid (ks.length = nk) := hnk
 have HNL : Hid (l.length = nl) := hnl
 have hck := hk.1
 rw [hnk] at hck ⊢
 rw [hnl] at hl ⊢
 clear hnk hnl
 have hbA : Below w.heap.size w (w.alloc (.cells #[.int .i64 k, .int .i64 i, .string t, .slice pk nk ck, .slice pl nl cl] 25)) := (Below.refl _ _).alloc (Nat.le_refl _) _
 have neg : ∀ (w' : World) (x : Ending), x = .returned (.int .i64 (-1)) → Below w.heap.size w w' → (∃ r : Int, x = .returned (.int .i64 r) ∧ r ≤ n ∧ -1 ≤ r ∧ (0 ≤ r → szJ (d + 1) (.mk k i t ks l) = true)) ∧ Below w.heap.size w w' := fun w' x hx hb => ⟨⟨-1, hx, by omega, by omega, fun h => absurd h (by decide)⟩, hb⟩
 have HNEG : Hid (∀ (w' : World) (x : Ending), x = .returned (.int .i64 (-1)) → Below w.heap.size w w' → (∃ r : Int, x = .returned (.int .i64 r) ∧ r ≤ n ∧ -1 ≤ r ∧ (0 ≤ r → szJ (d + 1) (.mk k i t ks l) = true)) ∧ Below w.heap.size w w') := neg
 clear neg
 by_cases h1 : n < 1
 · go_enter Tryz.func23, Tryz.ntmps23
   go_wp2
   go_ret
   exact HNEG.out _ _ rfl hbA
 by_cases h2 : (2000 : Int) < t.size
 · go_enter Tryz.func23, Tryz.ntmps23
   go_wp2
   go_ret
   exact HNEG.out _ _ rfl hbA
 by_cases h3 : (100 : Int) < nk
 · go_enter Tryz.func23, Tryz.ntmps23
   go_wp2
   go_ret
   exact HNEG.out _ _ rfl hbA
 by_cases h4 : (300 : Int) < nl
 · go_enter Tryz.func23, Tryz.ntmps23
   go_wp2
   go_ret
   exact HNEG.out _ _ rfl hbA
 obtain ⟨wB, hwB⟩ : ∃ wB, wB = w.alloc (.cells #[.int .i64 k, .int .i64 i, .string t, .slice pk nk ck, .slice pl nl cl] 25) := ⟨_, rfl⟩
 have hA : wB.heap[w.heap.size]? = some (.cells #[.int .i64 k, .int .i64 i, .string t, .slice pk nk ck, .slice pl nl cl] 25 (0, 0)) := by rw [hwB]; exact heap_alloc_new _ _
 have hsB : w.heap.size < wB.heap.size := (Array.getElem?_eq_some_iff.1 hA).1
 rw [← hwB] at hbA
 have HCA : Hid (∀ W : World, Below wB.heap.size wB W → ∀ n v, [Value.int .i64 k, .int .i64 i, .string t, .slice pk nk ck, .slice pl nl cl][n]? = some v → W.cell? ⟨w.heap.size, n, none⟩ = some v) := fun W hW n v hv =>
  (World.cell?_of_block (a := ⟨w.heap.size, n, none⟩) (hW.block w.heap.size hsB)).trans (cell_row (cur := [.int .i64 k, .int .i64 i, .string t, .slice pk nk ck, .slice pl nl cl]) hA n v hv)
 go_enter Tryz.func23, Tryz.ntmps23
 go_wp2
 rw [← hwB]
 clear hwB hA
 go_loopw [7] (fun v wr => ∃ m : Nat, v = .int .i64 m ∧ m ≤ nk ∧ Hid (∀ x, x < m → (ks.getD x nix).size ≤ 300) ∧ wr = wB) (fun v _ => nk - (intOf v).toNat)
 case atStart => exact ⟨0, rfl, Nat.zero_le _, fun m hm => absurd hm (by omega), rfl⟩
 case round =>
  obtain ⟨m, rfl, hm, HE, rfl⟩ := hrel
  have a3 := HCA.out wr (Below.refl _ _) 3 _ rfl
  by_cases hmk : m < nk
  · have hmi : (m : Int) < (nk : Int) := by omega
    obtain ⟨ka, hpk, hOa, hcka⟩ := hk.2 m (by rw [HNK.out]; exact hmk)
    subst hpk
    have hKA : wr.cell? (ka.add m) = some (.string (ks.getD m nix)) := (World.cell?_of_block (by rw [add_block]; exact hbA.block _ (hO _ hOa))).trans hcka
    obtain ⟨u, hu⟩ : ∃ u, ks.getD m nix = u := ⟨_, rfl⟩
    have HU : Hid (ks.getD m nix = u) := hu
    rw [hu] at hKA
    clear hu hcka
    by_cases hus : (300 : Int) < u.size
    · go_wp2
      go_ret
      exact HNEG.out _ _ rfl hbA
    · go_wp2
      go_roundw
      case rel => exact ⟨m + 1, by go_num, hmk, fun x hx => (Nat.lt_succ_iff_lt_or_eq.1 hx).elim (HE.out x) fun e => by rw [e, HU.out]; omega, trivial⟩
      case measure => simp [intOf]; omega
  · obtain rfl : m = nk := by omega
    have HKS : Hid (ks.all (fun k => decide (k.size ≤ 1000000000)) = true) := by
     show _ = _
     rw [List.all_eq_true]
     intro x hx
     obtain ⟨y, hy, rfl⟩ := List.getElem_of_mem hx
     have := HE.out y (by rw [← HNK.out]; exact hy)
     rw [key_getD hy] at this
     exact decide_eq_true (by omega)
    go_wp2
    go_loopw [1, 8] (fun u v w2 => ∃ (m : Nat) (r : Int), v = .int .i64 m ∧ u = .int .i64 r ∧ m ≤ nl ∧ r ≤ n - 1 ∧ -1 ≤ r ∧ Hid (0 ≤ r → (l.take m).all (szJ d) = true) ∧ Below wr.heap.size wr w2) (fun _ v _ => nl - (intOf v).toNat)
    case atStart => exact ⟨0, n - 1, rfl, rfl, Nat.zero_le _, by omega, by omega, fun _ => rfl, Below.refl _ _⟩
    case round =>
     obtain ⟨m', r, rfl, rfl, hm', hrn, hr0, HT, hb2⟩ := hrel
     have a4 := HCA.out wr hb2 4 _ rfl
     by_cases hml : m' < nl
     · have hmi : (m' : Int) < (nl : Int) := by omega
       by_cases hr : 0 ≤ r
       · have hml1 : m' < l.length := by rw [HNL.out]; exact hml
         have HML : Hid (m' < l.length) := hml1
         obtain ⟨lb, lo, cs, hpl, hOl, hcells, hyj⟩ := isJs.at l 0 m' hs hml1
         subst hpl
         obtain ⟨x0, x1, x2, p3, n3, c3, p4, n4, c4, rfl⟩ := isJ_shape hyj
         have hblk := (hb2.block lb (by have := hO _ hOl; omega)).trans (hbA.block lb (hO _ hOl))
         have cc : ∀ m v, [Value.int .i64 x0, .int .i64 x1, .string x2, .slice p3 n3 c3, .slice p4 n4 c4][m]? = some v → wr.cell? ⟨lb, lo + m' * 5 + m, none⟩ = some v := fun m v h => by
          have := hcells m v h
          rw [Nat.zero_add] at this
          exact (World.cell?_of_block (a := ⟨lb, lo + m' * 5 + m, none⟩) hblk).trans this
         have y0 : wr.cell? ⟨lb, lo + m' * 5, none⟩ = some (.int .i64 x0) := cc 0 _ rfl
         have y1 := cc 1 _ rfl
         have y2 := cc 2 _ rfl
         have y3 := cc 3 _ rfl
         have y4 := cc 4 _ rfl
         have hB2 := below_cat hbA (by omega) hb2
         have hV := V wr O (l.getD m' J.zero) x0 x1 (deep - 1) r x2 p3 p4 n3 c3 n4 c4 (fun b hb => Nat.lt_of_lt_of_le (hO b hb) hB2.size) HD.out HDL.out hr (by omega) (hyj.carry fun b hb => ⟨hb, hB2.block b (hO b hb)⟩)
         clear cc hcells hml1 hyj hblk
         go_wp2_with (go_at_call 23; refine hV.mono ?_; rintro x w4 ⟨⟨r4, rfl, hr4, hr5, hr6⟩, hb4⟩)
         go_roundw
         case rel => exact ⟨m' + 1, r4, by go_num, rfl, hml, by omega, hr5, fun h => by rw [all_take HML.out, HT.out hr, hr6 h]; rfl, below_cat hb2 hb2.size hb4⟩
         case measure => simp [intOf]; omega
       · go_wp2
         go_ret
         refine ⟨⟨r, rfl, by omega, hr0, fun h => absurd h (by omega)⟩, below_cat hbA (by omega) hb2⟩
     · obtain rfl : m' = nl := by omega
       go_wp2
       go_ret
       refine ⟨⟨r, rfl, by omega, hr0, fun h => ?_⟩, below_cat hbA (by omega) hb2⟩
       have ht := HT.out h
       rw [List.take_of_length_le (by rw [HNL.out]; omega)] at ht
       unfold szJ
       rw [HKS.out, ht, HNK.out, HNL.out, decide_eq_true (show t.size ≤ 1000000000 by omega), decide_eq_true (show m ≤ 100000 by omega), decide_eq_true (show m' ≤ 100000 by omega)]
       rfl
theorem elefts : ∀ d, LeftsE d
 | 0 => eleft_zero
 | d + 1 => eleft_step (elefts d)
theorem six_c {w : World} {b : Nat} {t : TypeId} {a0 a1 a2 a3 a4 a5 a6 a7 a8 a9 a10 a11 a12 a13 a14 a15 : Value} (h : w.heap[b]? = some (.cells #[a0, a1, a2, a3, a4, a5, a6, a7, a8, a9, a10, a11, a12, a13, a14, a15] t (0, 0))) (j : Nat) (v : Value) (hj : [a0, a1, a2, a3, a4, a5, a6, a7, a8, a9, a10, a11, a12, a13, a14, a15][j]? = some v) : w.cell? ⟨b, j, none⟩ = some v := cell_row (cur := [a0, a1, a2, a3, a4, a5, a6, a7, a8, a9, a10, a11, a12, a13, a14, a15]) h j v hj
end Go.Proofs.YtldegjjaknelgaaGreatDoor
namespace Go.Proofs.YtldegjjaknelgaaGreatDoor
open Go.RowKit Go.Maps
structure BigE (e : Ev) : Prop where
 room : e.room.size ≤ 140737488355328
 typ : e.typ.size ≤ 140737488355328
 sender : e.sender.size ≤ 140737488355328
 key : e.key.size ≤ 140737488355328
 hash : e.hash.size ≤ 140737488355328
 sigs : ∀ x ∈ e.sigs, x.1.size ≤ 140737488355328 ∧ x.2.size ≤ 140737488355328
structure FewE (e : Ev) : Prop where
 texts : e.room.size + e.typ.size + e.sender.size + e.key.size + e.hash.size ≤ 2000
 prev : e.prev.length ≤ 30
 prevs : ∀ x ∈ e.prev, x.size ≤ 100
 auth : e.auth.length ≤ 30
 auths : ∀ x ∈ e.auth, x.size ≤ 100
 sigs : e.sigs.length ≤ 30
 sigss : ∀ x ∈ e.sigs, x.1.size + x.2.size ≤ 200
 cont : szJ 20 e.content = true
theorem FewE.sz {e : Ev} (h : FewE e) : SzE e := by
 have t := h.texts
 exact ⟨by omega, by omega, by omega, by omega, by omega, sz_less 12 20 _ (by decide) h.cont, Nat.le_trans h.prev (by decide), fun x hx => Nat.le_trans (h.prevs x hx) (by decide), Nat.le_trans h.auth (by decide), fun x hx => Nat.le_trans (h.auths x hx) (by decide), Nat.le_trans h.sigs (by decide), fun x hx => by have := h.sigss x hx; omega⟩
def FewP (w w' : World) (e : Ev) (x : Ending) : Prop := (∃ b : Bool, x = .returned (.bool b) ∧ (b = true → FewE e)) ∧ Below w.heap.size w w'
theorem all_getD {l : List ByteArray} {B : Nat} (h : ∀ x, x < l.length → (l.getD x nix).size ≤ B) : ∀ x ∈ l, x.size ≤ B := fun x hx => by
 obtain ⟨y, hy, rfl⟩ := List.getElem_of_mem hx
 have := h y hy
 rwa [key_getD hy] at this
theorem eFew_any {O : Nat → Prop} (e : Ev) (p : Pt) (w : World) (hE : IsE O w e p) (hO : ∀ k, O k → k < w.heap.size) (hl : BigE e) :
    Calls Tryz.prog 9 #[valE e p] w fun x w' => FewP w w' e x := by
 obtain ⟨room, typ, sender, st, key, ⟨k, i, t, ks, l⟩, prev, auth, depth, ts, hash, sigs⟩ := e
 obtain ⟨pk, ck, pl, cl, pp, cp, pa, ca, ps, cs⟩ := p
 obtain ⟨z0, z1, z2, z4, z14, z15⟩ := hl
 obtain ⟨hc, hp, ha, hs⟩ := hE
 simp only at z0 z1 z2 z4 z14 z15 hc hp ha hs
 unfold five at hc
 simp only [J.kind, J.int, J.text, J.keys, J.list] at hc
 simp only [valE, cellsE, J.kind, J.int, J.text, J.keys, J.list]
 obtain ⟨np, hnp⟩ : ∃ n, prev.length = n := ⟨_, rfl⟩
 obtain ⟨na, hna⟩ : ∃ n, auth.length = n := ⟨_, rfl⟩
 obtain ⟨ns, hns⟩ : ∃ n, sigs.length = n := ⟨_, rfl⟩
 have HNP : Hid (prev.length = np) := hnp
 have HNA : Hid (auth.length = na) := hna
 have HNS : Hid (sigs.length = ns) := hns
 have hcp := hp.1
 have hca := ha.1
 have hcs := hs.1
 rw [hnp] at hcp ⊢
 rw [hna] at hca ⊢
 rw [hns] at hcs ⊢
 clear hnp hna hns
 obtain ⟨WB, hWB⟩ : ∃ WB, WB = w.alloc (.cells #[.string room, .string typ, .string sender, .bool st, .string key, .int .i64 k, .int .i64 i, .string t, .slice pk ks.length ck, .slice pl l.length cl, .slice pp np cp, .slice pa na ca, .int .i64 depth, .int .i64 ts, .string hash, .slice ps ns cs] 28) := ⟨_, rfl⟩
 have hbw : Below w.heap.size w WB := by rw [hWB]; exact (Below.refl _ _).alloc (Nat.le_refl _) _
 have hrs : WB.heap[w.heap.size]? = some (.cells #[.string room, .string typ, .string sender, .bool st, .string key, .int .i64 k, .int .i64 i, .string t, .slice pk ks.length ck, .slice pl l.length cl, .slice pp np cp, .slice pa na ca, .int .i64 depth, .int .i64 ts, .string hash, .slice ps ns cs] 28 (0, 0)) := by rw [hWB]; exact heap_alloc_new _ _
 have HNO : Hid (∀ W', Below w.heap.size w W' → ∀ x : Ending, x = .returned (.bool false) → FewP w W' ⟨room, typ, sender, st, key, ⟨k, i, t, ks, l⟩, prev, auth, depth, ts, hash, sigs⟩ x) := fun W' h x hx => ⟨⟨false, hx, fun h => by cases h⟩, h⟩
 by_cases h1 : (2000 : Int) < (room.size : Int) + typ.size + sender.size + key.size + hash.size
 · go_enter Tryz.func9, Tryz.ntmps9
   go_wp2
   go_ret
   exact HNO.out _ (hWB ▸ hbw) _ rfl
 by_cases h2 : (30 : Int) < np
 · go_enter Tryz.func9, Tryz.ntmps9
   go_wp2
   go_ret
   exact HNO.out _ (hWB ▸ hbw) _ rfl
 by_cases h3 : (30 : Int) < na
 · go_enter Tryz.func9, Tryz.ntmps9
   go_wp2
   go_ret
   exact HNO.out _ (hWB ▸ hbw) _ rfl
 by_cases h4 : (30 : Int) < ns
 · go_enter Tryz.func9, Tryz.ntmps9
   go_wp2
   go_ret
   exact HNO.out _ (hWB ▸ hbw) _ rfl
 have H1 : Hid (room.size + typ.size + sender.size + key.size + hash.size ≤ 2000) := by show _ ≤ _; omega
 have HP : Hid (∀ j, j < np → ∃ a, pp = some a ∧ WB.cell? (a.add j) = some (.string (prev.getD j nix))) := fun j hj => by
  obtain ⟨a, e, hOa, hca⟩ := hp.2 j (by rw [HNP.out]; exact hj)
  exact ⟨a, e, (World.cell?_of_block (by rw [add_block]; exact hbw.block _ (hO _ hOa))).trans hca⟩
 have HA : Hid (∀ j, j < na → ∃ a, pa = some a ∧ WB.cell? (a.add j) = some (.string (auth.getD j nix))) := fun j hj => by
  obtain ⟨a, e, hOa, hca⟩ := ha.2 j (by rw [HNA.out]; exact hj)
  exact ⟨a, e, (World.cell?_of_block (by rw [add_block]; exact hbw.block _ (hO _ hOa))).trans hca⟩
 have HSG : Hid (∀ j, j < ns → ∃ b o, ps = some ⟨b, o, none⟩ ∧ WB.cell? ⟨b, o + j * 2, none⟩ = some (.string (sigs.getD j (nix, nix)).1) ∧ WB.cell? ⟨b, o + j * 2 + 1, none⟩ = some (.string (sigs.getD j (nix, nix)).2)) := fun j hj => by
  obtain ⟨b, o, e, hOb, h1, h2⟩ := hs.2 j (by rw [HNS.out]; exact hj)
  exact ⟨b, o, e, (World.cell?_of_block (a := ⟨b, o + j * 2, none⟩) (hbw.block _ (hO _ hOb))).trans h1, (World.cell?_of_block (a := ⟨b, o + j * 2 + 1, none⟩) (hbw.block _ (hO _ hOb))).trans h2⟩
 have HL : Hid (∀ n, Calls Tryz.prog 23 #[.agg #[.int .i64 k, .int .i64 i, .string t, .slice pk ks.length ck, .slice pl l.length cl], .int .i64 300, .int .i64 20] (WB.drewN n) fun x w' => (∃ r : Int, x = .returned (.int .i64 r) ∧ r ≤ 300 ∧ -1 ≤ r ∧ (0 ≤ r → szJ 20 (.mk k i t ks l) = true)) ∧ Below (WB.drewN n).heap.size (WB.drewN n) w') := fun n =>
  elefts 20 (WB.drewN n) O (.mk k i t ks l) k i 20 300 t pk pl ks.length ck l.length cl (fun b hb => Nat.lt_of_lt_of_le (hO b hb) (below_in hbw (Id.below_drewN WB n)).size) rfl (by decide) (by decide) (by decide) (hc.carry fun b hb => ⟨hb, (below_in hbw (Id.below_drewN WB n)).block b (hO b hb)⟩)
 have HBW : Hid (Below w.heap.size w WB) := hbw
 have HZS : Hid (∀ x ∈ sigs, x.1.size ≤ 140737488355328 ∧ x.2.size ≤ 140737488355328) := z15
 clear hc hp ha hs hO hbw z15
 have q0 := six_c hrs 0 _ rfl; have q1 := six_c hrs 1 _ rfl; have q2 := six_c hrs 2 _ rfl; have q4 := six_c hrs 4 _ rfl; have q14 := six_c hrs 14 _ rfl; have q10 := six_c hrs 10 _ rfl; have q11 := six_c hrs 11 _ rfl; have q15 := six_c hrs 15 _ rfl
 have q5 := six_c hrs 5 _ rfl; have q6 := six_c hrs 6 _ rfl; have q7 := six_c hrs 7 _ rfl; have q8 := six_c hrs 8 _ rfl; have q9 := six_c hrs 9 _ rfl
 go_enter Tryz.func9, Tryz.ntmps9
 go_wp2
 rw [← hWB]
 clear hWB hrs
 go_loopw [3] (fun v wr => ∃ m : Nat, v = .int .i64 m ∧ m ≤ np ∧ Hid (∀ x, x < m → (prev.getD x nix).size ≤ 100) ∧ wr = WB) (fun v _ => np - (intOf v).toNat)
 case atStart => exact ⟨0, rfl, Nat.zero_le _, fun m hm => absurd hm (by omega), rfl⟩
 case round =>
  obtain ⟨m, rfl, hm, HX, rfl⟩ := hrel
  by_cases hlt : m < np
  · have hmi : (m : Int) < (np : Int) := by omega
    obtain ⟨a, rfl, hca1⟩ := HP.out m hlt
    obtain ⟨u, hu⟩ : ∃ u, prev.getD m nix = u := ⟨_, rfl⟩
    have HU : Hid (prev.getD m nix = u) := hu
    rw [hu] at hca1
    clear hu
    by_cases hus : (100 : Int) < u.size
    · go_wp2
      go_ret
      exact HNO.out _ HBW.out _ rfl
    · go_wp2
      go_roundw
      case rel => exact ⟨m + 1, by go_num, hlt, fun x hx => (Nat.lt_succ_iff_lt_or_eq.1 hx).elim (HX.out x) fun e => by rw [e, HU.out]; omega, trivial⟩
      case measure => simp [intOf]; omega
  · obtain rfl : m = np := by omega
    have HXP : Hid (∀ x ∈ prev, x.size ≤ 100) := all_getD (by rw [HNP.out]; exact HX.out)
    clear HX hlt hm
    go_wp2
    go_loopw [4] (fun v wr2 => ∃ n : Nat, v = .int .i64 n ∧ n ≤ na ∧ Hid (∀ x, x < n → (auth.getD x nix).size ≤ 100) ∧ wr2 = wr) (fun v _ => na - (intOf v).toNat)
    case atStart => exact ⟨0, rfl, Nat.zero_le _, fun m hm => absurd hm (by omega), rfl⟩
    case round =>
     obtain ⟨n, rfl, hn, HX, rfl⟩ := hrel
     by_cases hlt : n < na
     · have hmi : (n : Int) < (na : Int) := by omega
       obtain ⟨a, rfl, hca1⟩ := HA.out n hlt
       obtain ⟨u, hu⟩ : ∃ u, auth.getD n nix = u := ⟨_, rfl⟩
       have HU : Hid (auth.getD n nix = u) := hu
       rw [hu] at hca1
       clear hu
       by_cases hus : (100 : Int) < u.size
       · go_wp2
         go_ret
         exact HNO.out _ HBW.out _ rfl
       · go_wp2
         go_roundw
         case rel => exact ⟨n + 1, by go_num, hlt, fun x hx => (Nat.lt_succ_iff_lt_or_eq.1 hx).elim (HX.out x) fun e => by rw [e, HU.out]; omega, trivial⟩
         case measure => simp [intOf]; omega
     · obtain rfl : n = na := by omega
       have HXA : Hid (∀ x ∈ auth, x.size ≤ 100) := all_getD (by rw [HNA.out]; exact HX.out)
       clear HX hlt hn
       go_wp2
       go_loopw [5] (fun v wr3 => ∃ (h d : Nat), v = .int .i64 h ∧ h ≤ ns ∧ Hid (∀ x, x < h → (sigs.getD x (nix, nix)).1.size + (sigs.getD x (nix, nix)).2.size ≤ 200) ∧ wr3 = wr.drewN d) (fun v _ => ns - (intOf v).toNat)
       case atStart => exact ⟨0, 0, rfl, Nat.zero_le _, fun m hm => absurd hm (by omega), rfl⟩
       case round =>
        obtain ⟨h, d, rfl, hh, HX, rfl⟩ := hrel
        by_cases hlt : h < ns
        · have hmi : (h : Int) < (ns : Int) := by omega
          obtain ⟨b, o, rfl, hc1, hc2⟩ := HSG.out h hlt
          have hmem : sigs.getD h (nix, nix) ∈ sigs := by
           rw [List.getD_eq_getElem?_getD, List.getElem?_eq_getElem (by rw [HNS.out]; exact hlt)]
           exact List.getElem_mem _
          have hz := HZS.out _ hmem
          obtain ⟨uv, huv⟩ : ∃ u, sigs.getD h (nix, nix) = u := ⟨_, rfl⟩
          have HU : Hid (sigs.getD h (nix, nix) = uv) := huv
          rw [huv] at hc1 hc2 hz
          clear huv hmem
          obtain ⟨u, v⟩ := uv
          obtain ⟨y1, y2⟩ := hz
          simp only at hc1 hc2 y1 y2
          by_cases hus : (200 : Int) < (u.size : Int) + v.size
          · go_wp2
            refine wp_region_quiet_lit (by kernel_rfl) (by kernel_rfl) ?_
            repeat (any_goals (first | go_big_quiet_step (fail) | quiet_step (fail)))
            refine wpQuiet_nil ?_
            intro _ hw
            obtain ⟨nq, hw⟩ := hw
            subst hw
            go_wp2
            go_ret
            exact HNO.out _ (below_in HBW.out (by simpa [World.drewN_drewN] using Id.below_drewN _ _)) _ rfl
          · go_wp2
            refine wp_region_quiet_lit (by kernel_rfl) (by kernel_rfl) ?_
            repeat (any_goals (first | go_big_quiet_step (fail) | quiet_step (fail)))
            refine wpQuiet_nil ?_
            intro _ hw
            obtain ⟨nq, hw⟩ := hw
            subst hw
            go_wp2
            go_roundw
            case rel => exact ⟨h + 1, _, by go_num, hlt, fun x hx => (Nat.lt_succ_iff_lt_or_eq.1 hx).elim (HX.out x) fun e => by rw [e, HU.out]; show u.size + v.size ≤ 200; omega, rfl⟩
            case measure => simp [intOf]; omega
        · obtain rfl : h = ns := by omega
          have hL := HL.out d
          go_wp2_with (go_at_call 23; refine hL.mono ?_; rintro x w4 ⟨⟨r4, rfl, hr4, hr5, hr6⟩, hb4⟩)
          go_ret
          refine ⟨⟨_, rfl, fun hh => ?_⟩, below_in HBW.out (below_in (Id.below_drewN _ _) hb4)⟩
          refine ⟨H1.out, by show prev.length ≤ 30; rw [HNP.out]; omega, HXP.out, by show auth.length ≤ 30; rw [HNA.out]; omega, HXA.out, by show sigs.length ≤ 30; rw [HNS.out]; omega, fun x hx => ?_, hr6 (of_decide_eq_true hh)⟩
          obtain ⟨y, hy, rfl⟩ := List.getElem_of_mem hx
          have := HX.out y (by rw [← HNS.out]; exact hy)
          rw [List.getD_eq_getElem?_getD, List.getElem?_eq_getElem hy] at this
          exact this
end Go.Proofs.YtldegjjaknelgaaGreatDoor

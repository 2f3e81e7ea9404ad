/-
  Who joins: by contracts.
  Who leaves: by a contract.
-/
import Derived.Test.YtldegjjaknelgaaGreatDoorAY15
set_option maxRecDepth 100000
set_option maxHeartbeats 16000000
namespace Go.Proofs.YtldegjjaknelgaaGreatDoor
open Go.RowKit
section
variable {w : World} {hb : Nat} {h : Hr} {p : Ph}
theorem alone_any (x : IsH w hb h p) (hz : SzH h) : Calls Tryz.prog 122 #[.pointer (some ⟨hb, 0, none⟩)] w fun e w' => e = .returned (.bool h.alone) ∧ Below w.heap.size w w' := by
 have HT : Hid (h.alone = (decide (h.e.prev.length = 1) && eqT (h.e.prev.getD 0 nix) h.cn)) := rfl
 have hp := x.prev
 have hn := x.cname
 have hr := x.ev.prev
 have hlen := hz.e.prev
 clear x
 by_cases h1 : h.e.prev.length = 1
 · obtain ⟨a, ha, _, hc⟩ := hr.2 0 (by omega)
   have hcap := hr.1
   rw [h1] at hp hcap
   rw [ha] at hp
   have HT2 : Hid (h.alone = eqT (h.e.prev.getD 0 nix) h.cn) := by show _ = _; rw [HT.out, h1]; rfl
   generalize h.e.prev.getD 0 nix = u at hc HT2
   have hc' : w.cell? a = some (.string u) := by
    have e0 : a.add 0 = a := by obtain ⟨b, o, s⟩ := a; unfold Addr.add; split <;> simp_all
    rw [e0] at hc
    exact hc
   clear hr HT h1 hlen
   go_enter Tryz.func122, Tryz.ntmps122
   go_wp2
   go_quiet (fail)
   go_wp2
   go_ret
   exact ⟨by rw [HT2.out]; rfl, belowN _ _⟩
 · have HT2 : Hid (h.alone = false) := by show _ = _; rw [HT.out]; simp [h1]
   generalize h.e.prev.length = n at hp h1
   have hd : ((n : Int) == 1) = false := by simp; omega
   have hd2 : decide (n = 1) = false := decide_eq_false h1
   have hd3 : (n == 1) = false := by simp [h1]
   clear hr HT hlen
   go_enter Tryz.func122, Tryz.ntmps122
   go_wp2
   go_quiet (fail)
   go_wp2
   go_ret
   exact ⟨by rw [HT2.out]; rfl, belowN _ _⟩
theorem joins_any (x : IsH w hb h p) (hz : SzH h) : Calls Tryz.prog 85 #[.pointer (some ⟨hb, 0, none⟩)] w fun e w' => e = thrown h.joins ∧ Below w.heap.size w w' := by
 have HJ : Hid (h.joins = (h.own && ((h.alone && eqT h.ce.sender h.e.sender) || (!eqT h.target vBan && ((eqT h.target vJoin || eqT h.target vInvite) || eqT (textOfT h.st tRules ⟨#[]⟩ nRule) vPublic))))) := rfl
 have HX : Hid (∀ X, Below w.heap.size w X → IsH X hb h p) := fun X hX => x.below hX
 have hOw := own_any x
 have HAl : Hid (∀ X, Below w.heap.size w X → Calls Tryz.prog 122 #[.pointer (some ⟨hb, 0, none⟩)] X fun e w' => e = .returned (.bool h.alone) ∧ Below X.heap.size X w') := fun X hX => alone_any (HX.out X hX) hz
 have HTg : Hid (∀ X, Below w.heap.size w X → Calls Tryz.prog 86 #[.pointer (some ⟨hb, 0, none⟩)] X fun e w' => e = .returned (.string h.target) ∧ Below X.heap.size X w') := fun X hX => target_any (HX.out X hX) hz
 have HTx : Hid (∀ X, Below w.heap.size w X → Calls Tryz.prog 123 #[.slice p.ps h.st.length p.cs, .string tRules, .string ⟨#[]⟩, .string nRule] X fun e w' => e = .returned (.string (textOfT h.st tRules ⟨#[]⟩ nRule)) ∧ Below X.heap.size X w') := fun X hX => textOf_any (HX.out X hX).st (fun _ h => h) hz.st tRules ⟨#[]⟩ nRule
 clear x
 unfold eqT at HJ
 rw [lit_vBan, lit_vJoin, lit_vInvite, lit_vPublic] at HJ
 generalize textOfT h.st tRules ⟨#[]⟩ nRule = rule at HTx HJ
 generalize h.target = tg at HTg HJ
 generalize h.own = bo at hOw HJ
 generalize h.alone = ba at HAl HJ
 cases bo with
 | false =>
  have HT : Hid (h.joins = false) := by show _ = _; rw [HJ.out]; rfl
  clear HJ
  go_enter Tryz.func85, Tryz.ntmps85
  go_wp2_with (first
   | (go_at_call 59; refine hOw.mono ?_; rintro e w1 ⟨rfl, hb1⟩)
   | (go_at_call 54; refine (noIf_any _ _).mono ?_; rintro e wn ⟨he, rfl⟩; replace he : e = _ := he; subst he))
  exact ⟨rfl, by rw [HT.out], hb1⟩
 | true =>
  go_enter Tryz.func85, Tryz.ntmps85
  go_upto_region 1 with (first
   | (go_at_call 59; refine hOw.mono ?_; rintro e W ⟨rfl, hb1⟩)
   | (go_at_call 54; refine (noIf_any _ _).mono ?_; rintro e wn ⟨he, rfl⟩; replace he : e = _ := he; subst he))
  have HX1 : Hid (∀ X, Below W.heap.size W X → IsH X hb h p) := fun X hX => HX.out X (belowP hb1 hX)
  have HAl1 : Hid (∀ X, Below W.heap.size W X → Calls Tryz.prog 122 #[.pointer (some ⟨hb, 0, none⟩)] X fun e w' => e = .returned (.bool ba) ∧ Below X.heap.size X w') := fun X hX => HAl.out X (belowP hb1 hX)
  have HTg1 : Hid (∀ X, Below W.heap.size W X → Calls Tryz.prog 86 #[.pointer (some ⟨hb, 0, none⟩)] X fun e w' => e = .returned (.string tg) ∧ Below X.heap.size X w') := fun X hX => HTg.out X (belowP hb1 hX)
  have HTx1 : Hid (∀ X, Below W.heap.size W X → Calls Tryz.prog 123 #[.slice p.ps h.st.length p.cs, .string tRules, .string ⟨#[]⟩, .string nRule] X fun e w' => e = .returned (.string rule) ∧ Below X.heap.size X w') := fun X hX => HTx.out X (belowP hb1 hX)
  have HBW : Hid (∀ X, Below W.heap.size W X → Below w.heap.size w X) := fun X hX => belowP hb1 hX
  clear HX HAl HTg HTx hOw hb1
  have HX := HX1
  clear HX1
  refine wp_region_in (by kernel_rfl) (fun w' => Below W.heap.size W w') ?_
  change wpIn _ _ _ _ _ _ _ _ (World.drew _)
  have hD : Below W.heap.size W W.drew := (Below.refl _ _).drew
  generalize hcs : (h.ce.sender.toList == h.e.sender.toList) = bc at HJ
  cases ba with
  | false =>
   refine wpIn_tk (i := 0) (d := some 7) rfl ?_
   refine wpIn_do (i := 1) hD (by kernel_rfl) rfl (by rfl) ?_
   intro K hK
   go_simp
   go_wp2_with (go_at_call 122; refine (HAl1.out _ hD).mono ?_; rintro e w2 ⟨rfl, hbw2⟩)
   have hD1 : Below W.heap.size W w2 := belowP hD hbw2
   refine wpIn_tk (i := 2) (d := some 9) rfl ?_
   refine wpIn_take (i := 3) (d := (some 10)) (v := undef) (a' := ?aqa3) rfl rfl (by kernel_rfl) (by kernel_rfl) (by kernel_rfl) (fun _ _ _ h => h) (Or.inr ⟨by rfl, rfl⟩) ?fqa3 ?_
   case fqa3 => (go_frame; rfl)
   refine wpIn_take (i := 4) (d := (some 11)) (v := undef) (a' := ?aqa4) rfl rfl (by kernel_rfl) (by kernel_rfl) (by kernel_rfl) (fun _ _ _ h => h) (Or.inr ⟨by rfl, rfl⟩) ?fqa4 ?_
   case fqa4 => (go_frame; rfl)
   refine wpIn_take (i := 5) (d := (some 12)) (v := undef) (a' := ?aqa5) rfl rfl (by kernel_rfl) (by kernel_rfl) (by kernel_rfl) (fun _ _ _ h => h) (Or.inr ⟨by rfl, rfl⟩) ?fqa5 ?_
   case fqa5 => (go_frame; rfl)
   refine wpIn_take (i := 6) (d := (some 13)) (v := undef) (a' := ?aqa6) rfl rfl (by kernel_rfl) (by kernel_rfl) (by kernel_rfl) (fun _ _ _ h => h) (Or.inr ⟨by rfl, rfl⟩) ?fqa6 ?_
   case fqa6 => (go_frame; rfl)
   refine wpIn_take (i := 7) (d := (some 14)) (v := undef) (a' := ?aqa7) rfl rfl (by kernel_rfl) (by kernel_rfl) (by kernel_rfl) (fun _ _ _ h => h) (Or.inr ⟨by rfl, rfl⟩) ?fqa7 ?_
   case fqa7 => (go_frame; rfl)
   refine wpIn_take (i := 8) (d := (some 15)) (v := undef) (a' := ?aqa8) rfl rfl (by kernel_rfl) (by kernel_rfl) (by kernel_rfl) (fun _ _ _ h => h) (Or.inr ⟨by rfl, rfl⟩) ?fqa8 ?_
   case fqa8 => (go_frame; rfl)
   refine wpIn_take (i := 9) (d := (some 16)) (v := undef) (a' := ?aqa9) rfl rfl (by kernel_rfl) (by kernel_rfl) (by kernel_rfl) (fun _ _ _ h => h) (Or.inr ⟨by rfl, rfl⟩) ?fqa9 ?_
   case fqa9 => (go_frame; rfl)
   refine wpIn_take (i := 10) (d := (some 17)) (v := undef) (a' := ?aqa10) rfl rfl (by kernel_rfl) (by kernel_rfl) (by kernel_rfl) (fun _ _ _ h => h) (Or.inr ⟨by rfl, rfl⟩) ?fqa10 ?_
   case fqa10 => (go_frame; rfl)
   refine wpIn_take (i := 11) (d := (some 18)) (v := undef) (a' := ?aqa11) rfl rfl (by kernel_rfl) (by kernel_rfl) (by kernel_rfl) (fun _ _ _ h => h) (Or.inr ⟨by rfl, rfl⟩) ?fqa11 ?_
   case fqa11 => (go_frame; rfl)
   refine wpIn_take (i := 12) (d := (some 19)) (v := undef) (a' := ?aqa12) rfl rfl (by kernel_rfl) (by kernel_rfl) (by kernel_rfl) (fun _ _ _ h => h) (Or.inr ⟨by rfl, rfl⟩) ?fqa12 ?_
   case fqa12 => (go_frame; rfl)
   refine wpIn_take (i := 13) (d := (some 20)) (v := undef) (a' := ?aqa13) rfl rfl (by kernel_rfl) (by kernel_rfl) (by kernel_rfl) (fun _ _ _ h => h) (Or.inr ⟨by rfl, rfl⟩) ?fqa13 ?_
   case fqa13 => (go_frame; rfl)
   refine wpIn_take (i := 14) (d := (some 21)) (v := undef) (a' := ?aqa14) rfl rfl (by kernel_rfl) (by kernel_rfl) (by kernel_rfl) (fun _ _ _ h => h) (Or.inr ⟨by rfl, rfl⟩) ?fqa14 ?_
   case fqa14 => (go_frame; rfl)
   refine wpIn_tk (i := 15) (d := some 22) rfl ?_
   refine wpIn_do (i := 16) hD1 (by kernel_rfl) rfl (by rfl) ?_
   intro K hK
   go_simp
   go_wp2_with (go_at_call 93; refine (yesIf_any _ _).mono ?_; rintro e w3 ⟨he, hw3⟩; replace he : e = _ := he; subst he; have hbw3 : Below w2.heap.size w2 w3 := hw3 ▸ Below.refl _ _)
   have hD116 : Below W.heap.size W w3 := belowP hD1 hbw3
   refine wpIn_done hD116 (by kernel_rfl) ?_ _
   go_upto_region 3 with (go_at_call 86; refine (HTg1.out _ hD116).mono ?_; rintro e w4 ⟨rfl, hb4⟩)
   have hB4 := belowP hD116 hb4
   cases h3 : (tg.toList == [98, 97, 110]) with
   | true =>
    have HT : Hid (h.joins = false) := by show _ = _; rw [HJ.out, h3]; rfl
    clear HJ
    go_wp2_with (go_at_call 54; refine (noIf_any _ _).mono ?_; rintro e wn ⟨he, rfl⟩; replace he : e = _ := he; subst he)
    exact ⟨rfl, by rw [HT.out], HBW.out _ hB4⟩
   | false =>
    cases h4 : (tg.toList == [106, 111, 105, 110]) with
    | true =>
     have HT : Hid (h.joins = true) := by show _ = _; rw [HJ.out, h3, h4]; rfl
     clear HJ
     go_wp2_with (first | (go_at_call 54; refine (noIf_any _ _).mono ?_; rintro e wn ⟨he, rfl⟩; replace he : e = _ := he; subst he) | (go_at_call 93; refine (yesIf_any _ _).mono ?_; rintro e wn ⟨he, rfl⟩; replace he : e = _ := he; subst he))
     exact ⟨rfl, by rw [HT.out], HBW.out _ hB4⟩
    | false =>
     cases h5 : (tg.toList == [105, 110, 118, 105, 116, 101]) with
     | true =>
      have HT : Hid (h.joins = true) := by show _ = _; rw [HJ.out, h3, h4, h5]; rfl
      clear HJ
      go_wp2_with (first | (go_at_call 54; refine (noIf_any _ _).mono ?_; rintro e wn ⟨he, rfl⟩; replace he : e = _ := he; subst he) | (go_at_call 93; refine (yesIf_any _ _).mono ?_; rintro e wn ⟨he, rfl⟩; replace he : e = _ := he; subst he))
      exact ⟨rfl, by rw [HT.out], HBW.out _ hB4⟩
     | false =>
      have HT : Hid (h.joins = (rule.toList == [112, 117, 98, 108, 105, 99])) := by show _ = _; rw [HJ.out, h3, h4, h5]; rfl
      clear HJ
      have zs := (HX.out w4 hB4).state
      have hTx := HTx1.out w4 hB4
      go_wp2_with (first | (go_at_call 54; refine (noIf_any _ _).mono ?_; rintro e wn ⟨he, rfl⟩; replace he : e = _ := he; subst he) | (go_at_call 93; refine (yesIf_any _ _).mono ?_; rintro e wn ⟨he, rfl⟩; replace he : e = _ := he; subst he) | (go_at_call 123; refine hTx.mono ?_; rintro e w5 ⟨rfl, hb5⟩) | (go_at_call 50; refine (says_eq _ _).mono ?_; rintro e wn ⟨rfl, rfl⟩))
      exact ⟨rfl, by rw [HT.out], HBW.out _ (belowP hB4 hb5)⟩
  | true =>
   cases bc with
   | false =>
    refine wpIn_tk (i := 0) (d := some 7) rfl ?_
    refine wpIn_do (i := 1) hD (by kernel_rfl) rfl (by rfl) ?_
    intro K hK
    go_simp
    go_wp2_with (go_at_call 122; refine (HAl1.out _ hD).mono ?_; rintro e w2 ⟨rfl, hbw2⟩)
    have hD1 : Below W.heap.size W w2 := belowP hD hbw2
    refine wpIn_tk (i := 2) (d := some 9) rfl ?_
    refine wpIn_tk (i := 3) (d := some 10) rfl ?_
    refine wpIn_tk (i := 4) (d := some 11) rfl ?_
    refine wpIn_tk (i := 5) (d := some 12) rfl ?_
    refine wpIn_tk (i := 6) (d := some 13) rfl ?_
    refine wpIn_tk (i := 7) (d := some 14) rfl ?_
    refine wpIn_tp (i := 8) (d := some 15) rfl (by (intro wq hq; have zf := (HX.out wq hq).csend; go_simp; first | done | with_reducible rfl)) ?_
    refine wpIn_tk (i := 9) (d := some 16) rfl ?_
    refine wpIn_tk (i := 10) (d := some 17) rfl ?_
    refine wpIn_tk (i := 11) (d := some 18) rfl ?_
    refine wpIn_tk (i := 12) (d := some 19) rfl ?_
    refine wpIn_tp (i := 13) (d := some 20) rfl (by (intro wq hq; have zf := (HX.out wq hq).sender; go_simp; first | done | with_reducible rfl)) ?_
    refine wpIn_tk (i := 14) (d := some 21) rfl ?_
    refine wpIn_tk (i := 15) (d := some 22) rfl ?_
    refine wpIn_do (i := 16) hD1 (by kernel_rfl) rfl (by rfl) ?_
    intro K hK
    go_simp
    go_wp2_with (go_at_call 93; refine (yesIf_any _ _).mono ?_; rintro e w3 ⟨he, hw3⟩; replace he : e = _ := he; subst he; have hbw3 : Below w2.heap.size w2 w3 := hw3 ▸ Below.refl _ _)
    have hD116 : Below W.heap.size W w3 := belowP hD1 hbw3
    refine wpIn_done hD116 (by kernel_rfl) ?_ _
    go_upto_region 3 with (go_at_call 86; refine (HTg1.out _ hD116).mono ?_; rintro e w4 ⟨rfl, hb4⟩)
    have hB4 := belowP hD116 hb4
    cases h3 : (tg.toList == [98, 97, 110]) with
    | true =>
     have HT : Hid (h.joins = false) := by show _ = _; rw [HJ.out, h3]; rfl
     clear HJ
     go_wp2_with (go_at_call 54; refine (noIf_any _ _).mono ?_; rintro e wn ⟨he, rfl⟩; replace he : e = _ := he; subst he)
     exact ⟨rfl, by rw [HT.out], HBW.out _ hB4⟩
    | false =>
     cases h4 : (tg.toList == [106, 111, 105, 110]) with
     | true =>
      have HT : Hid (h.joins = true) := by show _ = _; rw [HJ.out, h3, h4]; rfl
      clear HJ
      go_wp2_with (first | (go_at_call 54; refine (noIf_any _ _).mono ?_; rintro e wn ⟨he, rfl⟩; replace he : e = _ := he; subst he) | (go_at_call 93; refine (yesIf_any _ _).mono ?_; rintro e wn ⟨he, rfl⟩; replace he : e = _ := he; subst he))
      exact ⟨rfl, by rw [HT.out], HBW.out _ hB4⟩
     | false =>
      cases h5 : (tg.toList == [105, 110, 118, 105, 116, 101]) with
      | true =>
       have HT : Hid (h.joins = true) := by show _ = _; rw [HJ.out, h3, h4, h5]; rfl
       clear HJ
       go_wp2_with (first | (go_at_call 54; refine (noIf_any _ _).mono ?_; rintro e wn ⟨he, rfl⟩; replace he : e = _ := he; subst he) | (go_at_call 93; refine (yesIf_any _ _).mono ?_; rintro e wn ⟨he, rfl⟩; replace he : e = _ := he; subst he))
       exact ⟨rfl, by rw [HT.out], HBW.out _ hB4⟩
      | false =>
       have HT : Hid (h.joins = (rule.toList == [112, 117, 98, 108, 105, 99])) := by show _ = _; rw [HJ.out, h3, h4, h5]; rfl
       clear HJ
       have zs := (HX.out w4 hB4).state
       have hTx := HTx1.out w4 hB4
       go_wp2_with (first | (go_at_call 54; refine (noIf_any _ _).mono ?_; rintro e wn ⟨he, rfl⟩; replace he : e = _ := he; subst he) | (go_at_call 93; refine (yesIf_any _ _).mono ?_; rintro e wn ⟨he, rfl⟩; replace he : e = _ := he; subst he) | (go_at_call 123; refine hTx.mono ?_; rintro e w5 ⟨rfl, hb5⟩) | (go_at_call 50; refine (says_eq _ _).mono ?_; rintro e wn ⟨rfl, rfl⟩))
       exact ⟨rfl, by rw [HT.out], HBW.out _ (belowP hB4 hb5)⟩
   | true =>
    have HT : Hid (h.joins = true) := by show _ = _; rw [HJ.out]; rfl
    clear HJ
    refine wpIn_tk (i := 0) (d := some 7) rfl ?_
    refine wpIn_do (i := 1) hD (by kernel_rfl) rfl (by rfl) ?_
    intro K hK
    go_simp
    go_wp2_with (go_at_call 122; refine (HAl1.out _ hD).mono ?_; rintro e w2 ⟨rfl, hbw2⟩)
    have hD1 : Below W.heap.size W w2 := belowP hD hbw2
    refine wpIn_tk (i := 2) (d := some 9) rfl ?_
    refine wpIn_tk (i := 3) (d := some 10) rfl ?_
    refine wpIn_tk (i := 4) (d := some 11) rfl ?_
    refine wpIn_tk (i := 5) (d := some 12) rfl ?_
    refine wpIn_tk (i := 6) (d := some 13) rfl ?_
    refine wpIn_tk (i := 7) (d := some 14) rfl ?_
    refine wpIn_tp (i := 8) (d := some 15) rfl (by (intro wq hq; have zf := (HX.out wq hq).csend; go_simp; first | done | with_reducible rfl)) ?_
    refine wpIn_tk (i := 9) (d := some 16) rfl ?_
    refine wpIn_tk (i := 10) (d := some 17) rfl ?_
    refine wpIn_tk (i := 11) (d := some 18) rfl ?_
    refine wpIn_tk (i := 12) (d := some 19) rfl ?_
    refine wpIn_tp (i := 13) (d := some 20) rfl (by (intro wq hq; have zf := (HX.out wq hq).sender; go_simp; first | done | with_reducible rfl)) ?_
    refine wpIn_tk (i := 14) (d := some 21) rfl ?_
    refine wpIn_tk (i := 15) (d := some 22) rfl ?_
    refine wpIn_do (i := 16) hD1 (by kernel_rfl) rfl (by rfl) ?_
    intro K hK
    go_simp
    go_wp2_with (go_at_call 93; refine (yesIf_any _ _).mono ?_; rintro e w3 ⟨he, hw3⟩; replace he : e = _ := he; subst he; have hbw3 : Below w2.heap.size w2 w3 := hw3 ▸ Below.refl _ _)
    exact ⟨rfl, by rw [HT.out], HBW.out _ (hw3 ▸ belowP hD hbw2)⟩
end
section
variable {w : World} {hb : Nat} {h : Hr} {p : Ph}
theorem leaves_any (x : IsH w hb h p) (hz : SzH h) : Calls Tryz.prog 87 #[.pointer (some ⟨hb, 0, none⟩)] w fun e w' => e = thrown h.leaves ∧ Below w.heap.size w w' := by
 have HJ : Hid (h.leaves = if h.own then eqT h.target vJoin || eqT h.target vInvite else h.joined && (!(eqT h.target vBan && decide (h.s < h.l.ban)) && (decide (h.l.kick ≤ h.s) && decide (h.t < h.s)))) := rfl
 have HX0 : Hid (∀ X, Below w.heap.size w X → IsH X hb h p) := fun X hX => x.below hX
 have hTg := target_any x hz
 have HOw : Hid (∀ X, Below w.heap.size w X → Calls Tryz.prog 59 #[.pointer (some ⟨hb, 0, none⟩)] X fun e w' => e = .returned (.bool h.own) ∧ Below X.heap.size X w') := fun X hX => own_any (HX0.out X hX)
 have HJo : Hid (∀ X, Below w.heap.size w X → Calls Tryz.prog 55 #[.pointer (some ⟨hb, 0, none⟩)] X fun e w' => e = .returned (.bool h.joined) ∧ Below X.heap.size X w') := fun X hX => joined_any (HX0.out X hX) hz
 have HS0 : Hid (∀ X, Below w.heap.size w X → Calls Tryz.prog 56 #[.pointer (some ⟨hb, 0, none⟩)] X fun e w' => e = .returned (.int .i64 h.s) ∧ Below X.heap.size X w') := fun X hX => lev_s_any (HX0.out X hX) hz
 have HT0 : Hid (∀ X, Below w.heap.size w X → Calls Tryz.prog 88 #[.pointer (some ⟨hb, 0, none⟩)] X fun e w' => e = .returned (.int .i64 h.t) ∧ Below X.heap.size X w') := fun X hX => lev_t_any (HX0.out X hX) hz
 clear x
 unfold eqT at HJ
 rw [lit_vBan, lit_vJoin, lit_vInvite] at HJ
 generalize h.target = tg at hTg HJ
 generalize h.own = bo at HOw HJ
 generalize h.joined = bj at HJo HJ
 generalize h.s = S at HS0 HJ
 generalize h.t = T at HT0 HJ
 go_enter Tryz.func87, Tryz.ntmps87
 go_upto_region 1 with (go_at_call 86; refine hTg.mono ?_; rintro e w1 ⟨rfl, hb1⟩)
 have hOw := HOw.out w1 hb1
 cases bo with
 | true =>
  have HT : Hid (h.leaves = ((tg.toList == [106, 111, 105, 110]) || (tg.toList == [105, 110, 118, 105, 116, 101]))) := by show _ = _; rw [HJ.out, if_pos rfl]
  clear HJ
  cases h4 : (tg.toList == [106, 111, 105, 110]) with
  | true =>
   go_wp2_with (first | (go_at_call 59; refine hOw.mono ?_; rintro e w2 ⟨rfl, hb2⟩) | (go_at_call 50; refine (says_eq _ _).mono ?_; rintro e wn ⟨rfl, rfl⟩))
   exact ⟨rfl, by rw [HT.out, h4]; rfl, belowP hb1 hb2⟩
  | false =>
   go_wp2_with (first | (go_at_call 59; refine hOw.mono ?_; rintro e w2 ⟨rfl, hb2⟩) | (go_at_call 50; refine (says_eq _ _).mono ?_; rintro e wn ⟨rfl, rfl⟩))
   exact ⟨rfl, by rw [HT.out, h4]; rfl, belowP hb1 hb2⟩
 | false =>
  have HT : Hid (h.leaves = (bj && (!((tg.toList == [98, 97, 110]) && decide (S < h.l.ban)) && (decide (h.l.kick ≤ S) && decide (T < S))))) := by show _ = _; rw [HJ.out, if_neg (by decide)]
  clear HJ
  go_upto_region 3 with (go_at_call 59; refine hOw.mono ?_; rintro e w2 ⟨rfl, hb2⟩)
  have hB2 := belowP hb1 hb2
  have hJo := HJo.out w2 hB2
  cases bj with
  | false =>
   go_wp2_with (first | (go_at_call 55; refine hJo.mono ?_; rintro e w3 ⟨rfl, hb3⟩) | (go_at_call 54; refine (noIf_any _ _).mono ?_; rintro e wn ⟨he, rfl⟩; replace he : e = _ := he; subst he))
   exact ⟨rfl, by rw [HT.out]; rfl, belowP hB2 hb3⟩
  | true =>
   go_upto_region 4 with (first | (go_at_call 55; refine hJo.mono ?_; rintro e W ⟨rfl, hb3⟩) | (go_at_call 54; refine (noIf_any _ _).mono ?_; rintro e wn ⟨he, rfl⟩; replace he : e = _ := he; subst he))
   have hBW := belowP hB2 hb3
   have HX : Hid (∀ X, Below W.heap.size W X → IsH X hb h p) := fun X hX => HX0.out X (belowP hBW hX)
   have HS : Hid (∀ X, Below W.heap.size W X → Calls Tryz.prog 56 #[.pointer (some ⟨hb, 0, none⟩)] X fun e w' => e = .returned (.int .i64 S) ∧ Below X.heap.size X w') := fun X hX => HS0.out X (belowP hBW hX)
   have HTT : Hid (∀ X, Below W.heap.size W X → Calls Tryz.prog 88 #[.pointer (some ⟨hb, 0, none⟩)] X fun e w' => e = .returned (.int .i64 T) ∧ Below X.heap.size X w') := fun X hX => HT0.out X (belowP hBW hX)
   have HBW : Hid (∀ X, Below W.heap.size W X → Below w.heap.size w X) := fun X hX => belowP hBW hX
   clear HX0 HOw HJo HS0 HT0 hOw hJo hTg hb1 hb2 hB2 hb3 hBW
   refine wp_region_in (by kernel_rfl) (fun w' => Below W.heap.size W w') ?_
   change wpIn _ _ _ _ _ _ _ _ (World.drew _)
   have hD : Below W.heap.size W W.drew := (Below.refl _ _).drew
   cases h3 : (tg.toList == [98, 97, 110]) with
   | false =>
    refine wpIn_tk (i := 0) (d := some 18) rfl ?_
    refine wpIn_tk (i := 1) (d := some 19) rfl ?_
    refine wpIn_tk (i := 2) (d := some 20) rfl ?_
    refine wpIn_take (i := 3) (d := (some 21)) (v := undef) (a' := ?aqa3) rfl rfl (by kernel_rfl) (by kernel_rfl) (by kernel_rfl) (fun _ _ _ h => h) (Or.inr ⟨by rfl, rfl⟩) ?fqa3 ?_
    case fqa3 => (go_frame; rfl)
    refine wpIn_take (i := 4) (d := (some 22)) (v := undef) (a' := ?aqa4) rfl rfl (by kernel_rfl) (by kernel_rfl) (by kernel_rfl) (fun _ _ _ h => h) (Or.inr ⟨by rfl, rfl⟩) ?fqa4 ?_
    case fqa4 => (go_frame; rfl)
    refine wpIn_take (i := 5) (d := (some 23)) (v := undef) (a' := ?aqa5) rfl rfl (by kernel_rfl) (by kernel_rfl) (by kernel_rfl) (fun _ _ _ h => h) (Or.inr ⟨by rfl, rfl⟩) ?fqa5 ?_
    case fqa5 => (go_frame; rfl)
    refine wpIn_take (i := 6) (d := (some 24)) (v := undef) (a' := ?aqa6) rfl rfl (by kernel_rfl) (by kernel_rfl) (by kernel_rfl) (fun _ _ _ h => h) (Or.inr ⟨by rfl, rfl⟩) ?fqa6 ?_
    case fqa6 => (go_frame; rfl)
    refine wpIn_take (i := 7) (d := (some 25)) (v := undef) (a' := ?aqa7) rfl rfl (by kernel_rfl) (by kernel_rfl) (by kernel_rfl) (fun _ _ _ h => h) (Or.inr ⟨by rfl, rfl⟩) ?fqa7 ?_
    case fqa7 => (go_frame; rfl)
    refine wpIn_take (i := 8) (d := (some 26)) (v := undef) (a' := ?aqa8) rfl rfl (by kernel_rfl) (by kernel_rfl) (by kernel_rfl) (fun _ _ _ h => h) (Or.inr ⟨by rfl, rfl⟩) ?fqa8 ?_
    case fqa8 => (go_frame; rfl)
    refine wpIn_take (i := 9) (d := (some 27)) (v := undef) (a' := ?aqa9) rfl rfl (by kernel_rfl) (by kernel_rfl) (by kernel_rfl) (fun _ _ _ h => h) (Or.inr ⟨by rfl, rfl⟩) ?fqa9 ?_
    case fqa9 => (go_frame; rfl)
    refine wpIn_take (i := 10) (d := (some 28)) (v := undef) (a' := ?aqa10) rfl rfl (by kernel_rfl) (by kernel_rfl) (by kernel_rfl) (fun _ _ _ h => h) (Or.inr ⟨by rfl, rfl⟩) ?fqa10 ?_
    case fqa10 => (go_frame; rfl)
    refine wpIn_tk (i := 11) (d := some 29) rfl ?_
    refine wpIn_do (i := 12) hD (by kernel_rfl) rfl (by rfl) ?_
    intro K hK
    go_simp
    go_wp2_with (go_at_call 54; refine (noIf_any _ _).mono ?_; rintro e w5 ⟨he, hw5⟩; replace he : e = _ := he; subst he; have hbw5 : Below W.drew.heap.size W.drew w5 := hw5 ▸ Below.refl _ _)
    have hD12 : Below W.heap.size W w5 := belowP hD hbw5
    refine wpIn_done hD12 (by kernel_rfl) ?_ _
    go_upto_region 5 with fail
    refine wp_region_in (by kernel_rfl) (fun w' => Below W.heap.size W w') ?_
    change wpIn _ _ _ _ _ _ _ _ (World.drew _)
    replace hD := (hD12).drew
    cases h6 : decide (h.l.kick ≤ S) with
    | false =>
     refine wpIn_tk (i := 0) (d := some 31) rfl ?_
     refine wpIn_tk (i := 2) (d := some 33) rfl ?_
     refine wpIn_tk (i := 3) (d := some 34) rfl ?_
     refine wpIn_tk (i := 4) (d := some 35) rfl ?_
     refine wpIn_tk (i := 5) (d := some 36) rfl ?_
     refine wpIn_tp (i := 6) (d := some 37) rfl (by (intro wq hq; have zf := (HX.out wq hq).kick; go_simp; first | done | with_reducible rfl)) ?_
     refine wpIn_do (i := 1) hD (by kernel_rfl) rfl (by rfl) ?_
     intro K hK
     go_simp
     go_wp2_with (go_at_call 56; refine (HS.out _ hD).mono ?_; rintro e w6 ⟨rfl, hbw6⟩)
     have hD1 : Below W.heap.size W w6 := belowP hD hbw6
     refine wpIn_tk (i := 7) (d := some 38) rfl ?_
     refine wpIn_tk (i := 8) (d := some 39) rfl ?_
     refine wpIn_take (i := 9) (d := (some 40)) (v := undef) (a' := ?aqff9) rfl rfl (by kernel_rfl) (by kernel_rfl) (by kernel_rfl) (fun _ _ _ h => h) (Or.inr ⟨by rfl, rfl⟩) ?fqff9 ?_
     case fqff9 => (go_frame; rfl)
     refine wpIn_take (i := 10) (d := (some 41)) (v := undef) (a' := ?aqff10) rfl rfl (by kernel_rfl) (by kernel_rfl) (by kernel_rfl) (fun _ _ _ h => h) (Or.inr ⟨by rfl, rfl⟩) ?fqff10 ?_
     case fqff10 => (go_frame; rfl)
     refine wpIn_take (i := 11) (d := (some 42)) (v := undef) (a' := ?aqff11) rfl rfl (by kernel_rfl) (by kernel_rfl) (by kernel_rfl) (fun _ _ _ h => h) (Or.inr ⟨by rfl, rfl⟩) ?fqff11 ?_
     case fqff11 => (go_frame; rfl)
     refine wpIn_take (i := 12) (d := (some 43)) (v := undef) (a' := ?aqff12) rfl rfl (by kernel_rfl) (by kernel_rfl) (by kernel_rfl) (fun _ _ _ h => h) (Or.inr ⟨by rfl, rfl⟩) ?fqff12 ?_
     case fqff12 => (go_frame; rfl)
     refine wpIn_take (i := 13) (d := (some 44)) (v := undef) (a' := ?aqff13) rfl rfl (by kernel_rfl) (by kernel_rfl) (by kernel_rfl) (fun _ _ _ h => h) (Or.inr ⟨by rfl, rfl⟩) ?fqff13 ?_
     case fqff13 => (go_frame; rfl)
     refine wpIn_tk (i := 14) (d := some 45) rfl ?_
     refine wpIn_do (i := 15) hD1 (by kernel_rfl) rfl (by rfl) ?_
     intro K hK
     go_simp
     go_wp2_with (go_at_call 50; refine (says_eq _ _).mono ?_; rintro e w9 ⟨rfl, hw9⟩)
     exact ⟨rfl, by rw [HT.out, h3]; simp [h6], HBW.out _ (hw9 ▸ hD1)⟩
    | true =>
     refine wpIn_tk (i := 0) (d := some 31) rfl ?_
     refine wpIn_tk (i := 2) (d := some 33) rfl ?_
     refine wpIn_tk (i := 3) (d := some 34) rfl ?_
     refine wpIn_tk (i := 4) (d := some 35) rfl ?_
     refine wpIn_tk (i := 5) (d := some 36) rfl ?_
     refine wpIn_tp (i := 6) (d := some 37) rfl (by (intro wq hq; have zf := (HX.out wq hq).kick; go_simp; first | done | with_reducible rfl)) ?_
     refine wpIn_do (i := 1) hD (by kernel_rfl) rfl (by rfl) ?_
     intro K hK
     go_simp
     go_wp2_with (go_at_call 56; refine (HS.out _ hD).mono ?_; rintro e w6 ⟨rfl, hbw6⟩)
     have hD1 : Below W.heap.size W w6 := belowP hD hbw6
     refine wpIn_tk (i := 7) (d := some 38) rfl ?_
     refine wpIn_tk (i := 8) (d := some 39) rfl ?_
     refine wpIn_tk (i := 9) (d := some 40) rfl ?_
     refine wpIn_tk (i := 11) (d := some 42) rfl ?_
     refine wpIn_do (i := 10) hD1 (by kernel_rfl) rfl (by rfl) ?_
     intro K hK
     go_simp
     go_wp2_with (go_at_call 56; refine (HS.out _ hD1).mono ?_; rintro e w7 ⟨rfl, hbw7⟩)
     have hD110 : Below W.heap.size W w7 := belowP hD1 hbw7
     refine wpIn_do (i := 12) hD110 (by kernel_rfl) rfl (by rfl) ?_
     intro K hK
     go_simp
     go_wp2_with (go_at_call 88; refine (HTT.out _ hD110).mono ?_; rintro e w8 ⟨rfl, hbw8⟩)
     have hD11012 : Below W.heap.size W w8 := belowP hD110 hbw8
     refine wpIn_tk (i := 13) (d := some 44) rfl ?_
     refine wpIn_tk (i := 14) (d := some 45) rfl ?_
     refine wpIn_do (i := 15) hD11012 (by kernel_rfl) rfl (by rfl) ?_
     intro K hK
     go_simp
     go_wp2_with (go_at_call 50; refine (says_eq _ _).mono ?_; rintro e w9 ⟨rfl, hw9⟩)
     exact ⟨rfl, by rw [HT.out, h3]; simp [h6], HBW.out _ (hw9 ▸ hD11012)⟩
   | true =>
    cases h5 : decide (S < h.l.ban) with
    | false =>
     refine wpIn_tk (i := 0) (d := some 18) rfl ?_
     refine wpIn_tk (i := 1) (d := some 19) rfl ?_
     refine wpIn_tk (i := 2) (d := some 20) rfl ?_
     refine wpIn_tk (i := 3) (d := some 21) rfl ?_
     refine wpIn_tk (i := 5) (d := some 23) rfl ?_
     refine wpIn_tk (i := 6) (d := some 24) rfl ?_
     refine wpIn_tk (i := 7) (d := some 25) rfl ?_
     refine wpIn_tk (i := 8) (d := some 26) rfl ?_
     refine wpIn_tp (i := 9) (d := some 27) rfl (by (intro wq hq; have zf := (HX.out wq hq).ban; go_simp; first | done | with_reducible rfl)) ?_
     refine wpIn_do (i := 4) hD (by kernel_rfl) rfl (by rfl) ?_
     intro K hK
     go_simp
     go_wp2_with (go_at_call 56; refine (HS.out _ hD).mono ?_; rintro e w4 ⟨rfl, hbw4⟩)
     have hD4 : Below W.heap.size W w4 := belowP hD hbw4
     refine wpIn_tk (i := 10) (d := some 28) rfl ?_
     refine wpIn_tk (i := 11) (d := some 29) rfl ?_
     refine wpIn_do (i := 12) hD4 (by kernel_rfl) rfl (by rfl) ?_
     intro K hK
     go_simp
     go_wp2_with (go_at_call 54; refine (noIf_any _ _).mono ?_; rintro e w5 ⟨he, hw5⟩; replace he : e = _ := he; subst he; have hbw5 : Below w4.heap.size w4 w5 := hw5 ▸ Below.refl _ _)
     have hD412 : Below W.heap.size W w5 := belowP hD4 hbw5
     refine wpIn_done hD412 (by kernel_rfl) ?_ _
     go_upto_region 5 with fail
     refine wp_region_in (by kernel_rfl) (fun w' => Below W.heap.size W w') ?_
     change wpIn _ _ _ _ _ _ _ _ (World.drew _)
     replace hD := (hD412).drew
     cases h6 : decide (h.l.kick ≤ S) with
     | false =>
      refine wpIn_tk (i := 0) (d := some 31) rfl ?_
      refine wpIn_tk (i := 2) (d := some 33) rfl ?_
      refine wpIn_tk (i := 3) (d := some 34) rfl ?_
      refine wpIn_tk (i := 4) (d := some 35) rfl ?_
      refine wpIn_tk (i := 5) (d := some 36) rfl ?_
      refine wpIn_tp (i := 6) (d := some 37) rfl (by (intro wq hq; have zf := (HX.out wq hq).kick; go_simp; first | done | with_reducible rfl)) ?_
      refine wpIn_do (i := 1) hD (by kernel_rfl) rfl (by rfl) ?_
      intro K hK
      go_simp
      go_wp2_with (go_at_call 56; refine (HS.out _ hD).mono ?_; rintro e w6 ⟨rfl, hbw6⟩)
      have hD1 : Below W.heap.size W w6 := belowP hD hbw6
      refine wpIn_tk (i := 7) (d := some 38) rfl ?_
      refine wpIn_tk (i := 8) (d := some 39) rfl ?_
      refine wpIn_take (i := 9) (d := (some 40)) (v := undef) (a' := ?aqgf9) rfl rfl (by kernel_rfl) (by kernel_rfl) (by kernel_rfl) (fun _ _ _ h => h) (Or.inr ⟨by rfl, rfl⟩) ?fqgf9 ?_
      case fqgf9 => (go_frame; rfl)
      refine wpIn_take (i := 10) (d := (some 41)) (v := undef) (a' := ?aqgf10) rfl rfl (by kernel_rfl) (by kernel_rfl) (by kernel_rfl) (fun _ _ _ h => h) (Or.inr ⟨by rfl, rfl⟩) ?fqgf10 ?_
      case fqgf10 => (go_frame; rfl)
      refine wpIn_take (i := 11) (d := (some 42)) (v := undef) (a' := ?aqgf11) rfl rfl (by kernel_rfl) (by kernel_rfl) (by kernel_rfl) (fun _ _ _ h => h) (Or.inr ⟨by rfl, rfl⟩) ?fqgf11 ?_
      case fqgf11 => (go_frame; rfl)
      refine wpIn_take (i := 12) (d := (some 43)) (v := undef) (a' := ?aqgf12) rfl rfl (by kernel_rfl) (by kernel_rfl) (by kernel_rfl) (fun _ _ _ h => h) (Or.inr ⟨by rfl, rfl⟩) ?fqgf12 ?_
      case fqgf12 => (go_frame; rfl)
      refine wpIn_take (i := 13) (d := (some 44)) (v := undef) (a' := ?aqgf13) rfl rfl (by kernel_rfl) (by kernel_rfl) (by kernel_rfl) (fun _ _ _ h => h) (Or.inr ⟨by rfl, rfl⟩) ?fqgf13 ?_
      case fqgf13 => (go_frame; rfl)
      refine wpIn_tk (i := 14) (d := some 45) rfl ?_
      refine wpIn_do (i := 15) hD1 (by kernel_rfl) rfl (by rfl) ?_
      intro K hK
      go_simp
      go_wp2_with (go_at_call 50; refine (says_eq _ _).mono ?_; rintro e w9 ⟨rfl, hw9⟩)
      exact ⟨rfl, by rw [HT.out, h3, h5]; simp [h6], HBW.out _ (hw9 ▸ hD1)⟩
     | true =>
      refine wpIn_tk (i := 0) (d := some 31) rfl ?_
      refine wpIn_tk (i := 2) (d := some 33) rfl ?_
      refine wpIn_tk (i := 3) (d := some 34) rfl ?_
      refine wpIn_tk (i := 4) (d := some 35) rfl ?_
      refine wpIn_tk (i := 5) (d := some 36) rfl ?_
      refine wpIn_tp (i := 6) (d := some 37) rfl (by (intro wq hq; have zf := (HX.out wq hq).kick; go_simp; first | done | with_reducible rfl)) ?_
      refine wpIn_do (i := 1) hD (by kernel_rfl) rfl (by rfl) ?_
      intro K hK
      go_simp
      go_wp2_with (go_at_call 56; refine (HS.out _ hD).mono ?_; rintro e w6 ⟨rfl, hbw6⟩)
      have hD1 : Below W.heap.size W w6 := belowP hD hbw6
      refine wpIn_tk (i := 7) (d := some 38) rfl ?_
      refine wpIn_tk (i := 8) (d := some 39) rfl ?_
      refine wpIn_tk (i := 9) (d := some 40) rfl ?_
      refine wpIn_tk (i := 11) (d := some 42) rfl ?_
      refine wpIn_do (i := 10) hD1 (by kernel_rfl) rfl (by rfl) ?_
      intro K hK
      go_simp
      go_wp2_with (go_at_call 56; refine (HS.out _ hD1).mono ?_; rintro e w7 ⟨rfl, hbw7⟩)
      have hD110 : Below W.heap.size W w7 := belowP hD1 hbw7
      refine wpIn_do (i := 12) hD110 (by kernel_rfl) rfl (by rfl) ?_
      intro K hK
      go_simp
      go_wp2_with (go_at_call 88; refine (HTT.out _ hD110).mono ?_; rintro e w8 ⟨rfl, hbw8⟩)
      have hD11012 : Below W.heap.size W w8 := belowP hD110 hbw8
      refine wpIn_tk (i := 13) (d := some 44) rfl ?_
      refine wpIn_tk (i := 14) (d := some 45) rfl ?_
      refine wpIn_do (i := 15) hD11012 (by kernel_rfl) rfl (by rfl) ?_
      intro K hK
      go_simp
      go_wp2_with (go_at_call 50; refine (says_eq _ _).mono ?_; rintro e w9 ⟨rfl, hw9⟩)
      exact ⟨rfl, by rw [HT.out, h3, h5]; simp [h6], HBW.out _ (hw9 ▸ hD11012)⟩
    | true =>
     refine wpIn_tk (i := 0) (d := some 18) rfl ?_
     refine wpIn_tk (i := 1) (d := some 19) rfl ?_
     refine wpIn_tk (i := 2) (d := some 20) rfl ?_
     refine wpIn_tk (i := 3) (d := some 21) rfl ?_
     refine wpIn_tk (i := 5) (d := some 23) rfl ?_
     refine wpIn_tk (i := 6) (d := some 24) rfl ?_
     refine wpIn_tk (i := 7) (d := some 25) rfl ?_
     refine wpIn_tk (i := 8) (d := some 26) rfl ?_
     refine wpIn_tp (i := 9) (d := some 27) rfl (by (intro wq hq; have zf := (HX.out wq hq).ban; go_simp; first | done | with_reducible rfl)) ?_
     refine wpIn_do (i := 4) hD (by kernel_rfl) rfl (by rfl) ?_
     intro K hK
     go_simp
     go_wp2_with (go_at_call 56; refine (HS.out _ hD).mono ?_; rintro e w4 ⟨rfl, hbw4⟩)
     have hD4 : Below W.heap.size W w4 := belowP hD hbw4
     refine wpIn_tk (i := 10) (d := some 28) rfl ?_
     refine wpIn_tk (i := 11) (d := some 29) rfl ?_
     refine wpIn_do (i := 12) hD4 (by kernel_rfl) rfl (by rfl) ?_
     intro K hK
     go_simp
     go_wp2_with (go_at_call 54; refine (noIf_any _ _).mono ?_; rintro e w5 ⟨he, hw5⟩; replace he : e = _ := he; subst he; have hbw5 : Below w4.heap.size w4 w5 := hw5 ▸ Below.refl _ _)
     exact ⟨rfl, by rw [HT.out, h3, h5]; rfl, HBW.out _ (hw5 ▸ belowP hD hbw4)⟩
end
end Go.Proofs.YtldegjjaknelgaaGreatDoor

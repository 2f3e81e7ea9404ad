/-
  Who is made a member, and who no longer: by a contract.
  Who changes levels: by a contract.
-/
import Derived.Test.YtldegjjaknelgaaGreatDoorAY16
set_option maxRecDepth 100000
set_option maxHeartbeats 16000000
namespace Go.Proofs.YtldegjjaknelgaaGreatDoor
open Go.RowKit
section
variable {w : World} {hb : Nat} {h : Hr} {p : Ph}
theorem member_any (x : IsH w hb h p) (hz : SzH h) : Calls Tryz.prog 53 #[.pointer (some ⟨hb, 0, none⟩)] w fun e w' => e = thrown h.member ∧ Below w.heap.size w w' := by
 have HM : Hid (h.member = ((h.e.st && isU h.e.key) && (if eqT (textT h.e.content nMemb) vJoin then h.joins else if eqT (textT h.e.content nMemb) vInvite then h.joined && (!eqT h.target vJoin && (!eqT h.target vBan && decide (h.l.invite ≤ h.s))) else if eqT (textT h.e.content nMemb) vLeave then h.leaves else if eqT (textT h.e.content nMemb) vBan then h.joined && (decide (h.l.ban ≤ h.s) && decide (h.t < h.s)) else false))) := rfl
 have HX0 : Hid (∀ X, Below w.heap.size w X → IsH X hb h p) := fun X hX => x.below hX
 have hU := Id.user_any h.e.key w (by have := hz.e.key; omega)
 have HTx0 : Hid (∀ X, Below w.heap.size w X → Calls Tryz.prog 31 #[.agg #[.int .i64 h.e.content.kind, .int .i64 h.e.content.int, .string h.e.content.text, .slice p.e.pk h.e.content.keys.length p.e.ck, .slice p.e.pl h.e.content.list.length p.e.cl], .string nMemb] X fun e w' => e = .returned (.string (textT h.e.content nMemb)) ∧ Below X.heap.size X w') := fun X hX => atext_any (O := (· < X.heap.size)) (j := h.e.content) (HX0.out X hX).ev.cont (fun _ h => h) (szP_keys hz.e.cont) nMemb
 have HTg0 : Hid (∀ X, Below w.heap.size w X → Calls Tryz.prog 86 #[.pointer (some ⟨hb, 0, none⟩)] X fun e w' => e = .returned (.string h.target) ∧ Below X.heap.size X w') := fun X hX => target_any (HX0.out X hX) hz
 have HJo0 : Hid (∀ X, Below w.heap.size w X → Calls Tryz.prog 55 #[.pointer (some ⟨hb, 0, none⟩)] X fun e w' => e = .returned (.bool h.joined) ∧ Below X.heap.size X w') := fun X hX => joined_any (HX0.out X hX) hz
 have HS0 : Hid (∀ X, Below w.heap.size w X → Calls Tryz.prog 56 #[.pointer (some ⟨hb, 0, none⟩)] X fun e w' => e = .returned (.int .i64 h.s) ∧ Below X.heap.size X w') := fun X hX => lev_s_any (HX0.out X hX) hz
 have HT0 : Hid (∀ X, Below w.heap.size w X → Calls Tryz.prog 88 #[.pointer (some ⟨hb, 0, none⟩)] X fun e w' => e = .returned (.int .i64 h.t) ∧ Below X.heap.size X w') := fun X hX => lev_t_any (HX0.out X hX) hz
 have HJs0 : Hid (∀ X, Below w.heap.size w X → Calls Tryz.prog 85 #[.pointer (some ⟨hb, 0, none⟩)] X fun e w' => e = thrown h.joins ∧ Below X.heap.size X w') := fun X hX => joins_any (HX0.out X hX) hz
 have HLs0 : Hid (∀ X, Below w.heap.size w X → Calls Tryz.prog 87 #[.pointer (some ⟨hb, 0, none⟩)] X fun e w' => e = thrown h.leaves ∧ Below X.heap.size X w') := fun X hX => leaves_any (HX0.out X hX) hz
 have hk := x.key
 clear x
 unfold eqT at HM
 rw [lit_vJoin, lit_vInvite, lit_vLeave, lit_vBan] at HM
 unfold isU at HM
 generalize Id.parts 64 h.e.key = y at hU HM
 obtain ⟨y1, y2, yu⟩ := y
 simp only [Id.told] at hU
 simp only at HM
 generalize textT h.e.content nMemb = m at HTx0 HM
 generalize h.target = tg at HTg0 HM
 generalize h.joined = bj at HJo0 HM
 generalize h.s = S at HS0 HM
 generalize h.t = T at HT0 HM
 generalize h.joins = js at HJs0 HM
 generalize h.leaves = ls at HLs0 HM
 go_enter Tryz.func53, Tryz.ntmps53
 go_upto_region 1 with (go_at_call 84; refine hU.mono ?_; rintro e w1 ⟨rfl, hb1⟩)
 have hst := (HX0.out w1 hb1).isSt
 generalize h.e.st = bs at hst HM
 cases bs with
 | false =>
  have HT : Hid (h.member = false) := by show _ = _; rw [HM.out]; rfl
  clear HM
  go_wp2_with (go_at_call 54; refine (noIf_any _ _).mono ?_; rintro e wn ⟨he, rfl⟩; replace he : e = _ := he; subst he)
  exact ⟨rfl, by rw [HT.out], hb1⟩
 | true =>
  cases yu with
  | false =>
   have HT : Hid (h.member = false) := by show _ = _; rw [HM.out]; rfl
   clear HM
   go_wp2_with (go_at_call 54; refine (noIf_any _ _).mono ?_; rintro e wn ⟨he, rfl⟩; replace he : e = _ := he; subst he)
   exact ⟨rfl, by rw [HT.out], hb1⟩
  | true =>
   simp only [Bool.and_self, Bool.true_and] at HM
   go_upto_region 2 with (go_at_call 54; refine (noIf_any _ _).mono ?_; rintro e wn ⟨he, rfl⟩; replace he : e = _ := he; subst he)
   have HR : Hid (w1.rangeAt hb 5 [.int .i64 h.e.content.kind, .int .i64 h.e.content.int, .string h.e.content.text, .slice p.e.pk h.e.content.keys.length p.e.ck, .slice p.e.pl h.e.content.list.length p.e.cl]) := (HX0.out w1 hb1).rangeJ
   have hTx := HTx0.out w1 hb1
   go_upto_region 3 with (first
    | (refine wpList_load_mid rfl 25 _ rfl hb 5 rfl _ _ HR.out Tryz.underlying25 rfl (by kernel_rfl) ?_)
    | (go_at_call 31; refine hTx.mono ?_; rintro e W ⟨rfl, hb2⟩))
   have hBW := belowP hb1 hb2
   have HX : Hid (∀ X, Below W.heap.size W X → IsH X hb h p) := fun X hX => HX0.out X (belowP hBW hX)
   have HBW : Hid (∀ X, Below W.heap.size W X → Below w.heap.size w X) := fun X hX => belowP hBW hX
   have HTg : Hid (∀ X, Below W.heap.size W X → Calls Tryz.prog 86 #[.pointer (some ⟨hb, 0, none⟩)] X fun e w' => e = .returned (.string tg) ∧ Below X.heap.size X w') := fun X hX => HTg0.out X (belowP hBW hX)
   have HJo : Hid (∀ X, Below W.heap.size W X → Calls Tryz.prog 55 #[.pointer (some ⟨hb, 0, none⟩)] X fun e w' => e = .returned (.bool bj) ∧ Below X.heap.size X w') := fun X hX => HJo0.out X (belowP hBW hX)
   have HS : Hid (∀ X, Below W.heap.size W X → Calls Tryz.prog 56 #[.pointer (some ⟨hb, 0, none⟩)] X fun e w' => e = .returned (.int .i64 S) ∧ Below X.heap.size X w') := fun X hX => HS0.out X (belowP hBW hX)
   have HTT : Hid (∀ X, Below W.heap.size W X → Calls Tryz.prog 88 #[.pointer (some ⟨hb, 0, none⟩)] X fun e w' => e = .returned (.int .i64 T) ∧ Below X.heap.size X w') := fun X hX => HT0.out X (belowP hBW hX)
   have hJs := HJs0.out W hBW
   have hLs := HLs0.out W hBW
   have hTg := HTg.out W (Below.refl _ _)
   clear HX0 HTg0 HJo0 HS0 HT0 HJs0 HLs0 HTx0 hTx hU hb1 hb2 hBW HR hst
   cases m1 : (m.toList == [106, 111, 105, 110]) with
   | true =>
    have HT : Hid (h.member = js) := by show _ = _; rw [HM.out, m1]; rfl
    clear HM
    go_wp2_with (go_at_call 85; refine hJs.mono ?_; rintro e w3 ⟨rfl, hb3⟩)
    exact ⟨rfl, by rw [HT.out], HBW.out _ hb3⟩
   | false =>
    cases m2 : (m.toList == [105, 110, 118, 105, 116, 101]) with
    | true =>
     have HT : Hid (h.member = (bj && (!(tg.toList == [106, 111, 105, 110]) && (!(tg.toList == [98, 97, 110]) && decide (h.l.invite ≤ S))))) := by show _ = _; rw [HM.out, m1, m2]; rfl
     clear HM
     go_upto_region 7 with (go_at_call 86; refine hTg.mono ?_; rintro e w3 ⟨rfl, hb3⟩)
     refine wp_region_in (by kernel_rfl) (fun w' => Below W.heap.size W w') ?_
     change wpIn _ _ _ _ _ _ _ _ (World.drew _)
     have hD : Below W.heap.size W w3.drew := hb3.drew
     cases bj with
     | false =>
      refine wpIn_tk (i := 0) (d := some 41) rfl ?_
      refine wpIn_do (i := 1) hD (by kernel_rfl) rfl (by rfl) ?_
      intro K hK
      go_simp
      go_wp2_with (go_at_call 55; refine (HJo.out _ hD).mono ?_; rintro e w4 ⟨rfl, hbw4⟩)
      have hD1 : Below W.heap.size W w4 := belowP hD hbw4
      refine wpIn_tk (i := 2) (d := some 43) rfl ?_
      refine wpIn_take (i := 3) (d := (some 44)) (v := undef) (a' := ?aqia3) rfl rfl (by kernel_rfl) (by kernel_rfl) (by kernel_rfl) (fun _ _ _ h => h) (Or.inr ⟨by rfl, rfl⟩) ?fqia3 ?_
      case fqia3 => (go_frame; rfl)
      refine wpIn_take (i := 4) (d := (some 45)) (v := undef) (a' := ?aqia4) rfl rfl (by kernel_rfl) (by kernel_rfl) (by kernel_rfl) (fun _ _ _ h => h) (Or.inr ⟨by rfl, rfl⟩) ?fqia4 ?_
      case fqia4 => (go_frame; rfl)
      refine wpIn_tk (i := 5) (d := some 46) rfl ?_
      refine wpIn_tk (i := 6) (d := some 47) rfl ?_
      refine wpIn_take (i := 7) (d := (some 48)) (v := undef) (a' := ?aqia7) rfl rfl (by kernel_rfl) (by kernel_rfl) (by kernel_rfl) (fun _ _ _ h => h) (Or.inr ⟨by rfl, rfl⟩) ?fqia7 ?_
      case fqia7 => (go_frame; rfl)
      refine wpIn_take (i := 8) (d := (some 49)) (v := undef) (a' := ?aqia8) rfl rfl (by kernel_rfl) (by kernel_rfl) (by kernel_rfl) (fun _ _ _ h => h) (Or.inr ⟨by rfl, rfl⟩) ?fqia8 ?_
      case fqia8 => (go_frame; rfl)
      refine wpIn_tk (i := 9) (d := some 50) rfl ?_
      refine wpIn_tk (i := 10) (d := some 51) rfl ?_
      refine wpIn_take (i := 11) (d := (some 52)) (v := undef) (a' := ?aqia11) rfl rfl (by kernel_rfl) (by kernel_rfl) (by kernel_rfl) (fun _ _ _ h => h) (Or.inr ⟨by rfl, rfl⟩) ?fqia11 ?_
      case fqia11 => (go_frame; rfl)
      refine wpIn_take (i := 12) (d := (some 53)) (v := undef) (a' := ?aqia12) rfl rfl (by kernel_rfl) (by kernel_rfl) (by kernel_rfl) (fun _ _ _ h => h) (Or.inr ⟨by rfl, rfl⟩) ?fqia12 ?_
      case fqia12 => (go_frame; rfl)
      refine wpIn_take (i := 13) (d := (some 54)) (v := undef) (a' := ?aqia13) rfl rfl (by kernel_rfl) (by kernel_rfl) (by kernel_rfl) (fun _ _ _ h => h) (Or.inr ⟨by rfl, rfl⟩) ?fqia13 ?_
      case fqia13 => (go_frame; rfl)
      refine wpIn_take (i := 14) (d := (some 55)) (v := undef) (a' := ?aqia14) rfl rfl (by kernel_rfl) (by kernel_rfl) (by kernel_rfl) (fun _ _ _ h => h) (Or.inr ⟨by rfl, rfl⟩) ?fqia14 ?_
      case fqia14 => (go_frame; rfl)
      refine wpIn_take (i := 15) (d := (some 56)) (v := undef) (a' := ?aqia15) rfl rfl (by kernel_rfl) (by kernel_rfl) (by kernel_rfl) (fun _ _ _ h => h) (Or.inr ⟨by rfl, rfl⟩) ?fqia15 ?_
      case fqia15 => (go_frame; rfl)
      refine wpIn_take (i := 16) (d := (some 57)) (v := undef) (a' := ?aqia16) rfl rfl (by kernel_rfl) (by kernel_rfl) (by kernel_rfl) (fun _ _ _ h => h) (Or.inr ⟨by rfl, rfl⟩) ?fqia16 ?_
      case fqia16 => (go_frame; rfl)
      refine wpIn_take (i := 17) (d := (some 58)) (v := undef) (a' := ?aqia17) rfl rfl (by kernel_rfl) (by kernel_rfl) (by kernel_rfl) (fun _ _ _ h => h) (Or.inr ⟨by rfl, rfl⟩) ?fqia17 ?_
      case fqia17 => (go_frame; rfl)
      refine wpIn_take (i := 18) (d := (some 59)) (v := undef) (a' := ?aqia18) rfl rfl (by kernel_rfl) (by kernel_rfl) (by kernel_rfl) (fun _ _ _ h => h) (Or.inr ⟨by rfl, rfl⟩) ?fqia18 ?_
      case fqia18 => (go_frame; rfl)
      refine wpIn_tk (i := 19) (d := some 60) rfl ?_
      refine wpIn_do (i := 20) hD1 (by kernel_rfl) rfl (by rfl) ?_
      intro K hK
      go_simp
      go_wp2_with (go_at_call 50; refine (says_eq _ _).mono ?_; rintro e w9 ⟨rfl, hw9⟩)
      exact ⟨rfl, by rw [HT.out]; simp, HBW.out _ (hw9 ▸ hD1)⟩
     | true =>
      cases t1 : (tg.toList == [106, 111, 105, 110]) with
      | true =>
       refine wpIn_tk (i := 0) (d := some 41) rfl ?_
       refine wpIn_do (i := 1) hD (by kernel_rfl) rfl (by rfl) ?_
       intro K hK
       go_simp
       go_wp2_with (go_at_call 55; refine (HJo.out _ hD).mono ?_; rintro e w4 ⟨rfl, hbw4⟩)
       have hD1 : Below W.heap.size W w4 := belowP hD hbw4
       refine wpIn_tk (i := 2) (d := some 43) rfl ?_
       refine wpIn_tk (i := 3) (d := some 44) rfl ?_
       refine wpIn_tk (i := 4) (d := some 45) rfl ?_
       refine wpIn_tk (i := 5) (d := some 46) rfl ?_
       refine wpIn_tk (i := 6) (d := some 47) rfl ?_
       refine wpIn_take (i := 7) (d := (some 48)) (v := undef) (a' := ?aqib7) rfl rfl (by kernel_rfl) (by kernel_rfl) (by kernel_rfl) (fun _ _ _ h => h) (Or.inr ⟨by rfl, rfl⟩) ?fqib7 ?_
       case fqib7 => (go_frame; rfl)
       refine wpIn_take (i := 8) (d := (some 49)) (v := undef) (a' := ?aqib8) rfl rfl (by kernel_rfl) (by kernel_rfl) (by kernel_rfl) (fun _ _ _ h => h) (Or.inr ⟨by rfl, rfl⟩) ?fqib8 ?_
       case fqib8 => (go_frame; rfl)
       refine wpIn_tk (i := 9) (d := some 50) rfl ?_
       refine wpIn_tk (i := 10) (d := some 51) rfl ?_
       refine wpIn_take (i := 11) (d := (some 52)) (v := undef) (a' := ?aqib11) rfl rfl (by kernel_rfl) (by kernel_rfl) (by kernel_rfl) (fun _ _ _ h => h) (Or.inr ⟨by rfl, rfl⟩) ?fqib11 ?_
       case fqib11 => (go_frame; rfl)
       refine wpIn_take (i := 12) (d := (some 53)) (v := undef) (a' := ?aqib12) rfl rfl (by kernel_rfl) (by kernel_rfl) (by kernel_rfl) (fun _ _ _ h => h) (Or.inr ⟨by rfl, rfl⟩) ?fqib12 ?_
       case fqib12 => (go_frame; rfl)
       refine wpIn_take (i := 13) (d := (some 54)) (v := undef) (a' := ?aqib13) rfl rfl (by kernel_rfl) (by kernel_rfl) (by kernel_rfl) (fun _ _ _ h => h) (Or.inr ⟨by rfl, rfl⟩) ?fqib13 ?_
       case fqib13 => (go_frame; rfl)
       refine wpIn_take (i := 14) (d := (some 55)) (v := undef) (a' := ?aqib14) rfl rfl (by kernel_rfl) (by kernel_rfl) (by kernel_rfl) (fun _ _ _ h => h) (Or.inr ⟨by rfl, rfl⟩) ?fqib14 ?_
       case fqib14 => (go_frame; rfl)
       refine wpIn_take (i := 15) (d := (some 56)) (v := undef) (a' := ?aqib15) rfl rfl (by kernel_rfl) (by kernel_rfl) (by kernel_rfl) (fun _ _ _ h => h) (Or.inr ⟨by rfl, rfl⟩) ?fqib15 ?_
       case fqib15 => (go_frame; rfl)
       refine wpIn_take (i := 16) (d := (some 57)) (v := undef) (a' := ?aqib16) rfl rfl (by kernel_rfl) (by kernel_rfl) (by kernel_rfl) (fun _ _ _ h => h) (Or.inr ⟨by rfl, rfl⟩) ?fqib16 ?_
       case fqib16 => (go_frame; rfl)
       refine wpIn_take (i := 17) (d := (some 58)) (v := undef) (a' := ?aqib17) rfl rfl (by kernel_rfl) (by kernel_rfl) (by kernel_rfl) (fun _ _ _ h => h) (Or.inr ⟨by rfl, rfl⟩) ?fqib17 ?_
       case fqib17 => (go_frame; rfl)
       refine wpIn_take (i := 18) (d := (some 59)) (v := undef) (a' := ?aqib18) rfl rfl (by kernel_rfl) (by kernel_rfl) (by kernel_rfl) (fun _ _ _ h => h) (Or.inr ⟨by rfl, rfl⟩) ?fqib18 ?_
       case fqib18 => (go_frame; rfl)
       refine wpIn_tk (i := 19) (d := some 60) rfl ?_
       refine wpIn_do (i := 20) hD1 (by kernel_rfl) rfl (by rfl) ?_
       intro K hK
       go_simp
       go_wp2_with (go_at_call 50; refine (says_eq _ _).mono ?_; rintro e w9 ⟨rfl, hw9⟩)
       exact ⟨rfl, by rw [HT.out, t1]; simp, HBW.out _ (hw9 ▸ hD1)⟩
      | false =>
       cases t2 : (tg.toList == [98, 97, 110]) with
       | true =>
        refine wpIn_tk (i := 0) (d := some 41) rfl ?_
        refine wpIn_do (i := 1) hD (by kernel_rfl) rfl (by rfl) ?_
        intro K hK
        go_simp
        go_wp2_with (go_at_call 55; refine (HJo.out _ hD).mono ?_; rintro e w4 ⟨rfl, hbw4⟩)
        have hD1 : Below W.heap.size W w4 := belowP hD hbw4
        refine wpIn_tk (i := 2) (d := some 43) rfl ?_
        refine wpIn_tk (i := 3) (d := some 44) rfl ?_
        refine wpIn_tk (i := 4) (d := some 45) rfl ?_
        refine wpIn_tk (i := 5) (d := some 46) rfl ?_
        refine wpIn_tk (i := 6) (d := some 47) rfl ?_
        refine wpIn_tk (i := 7) (d := some 48) rfl ?_
        refine wpIn_tk (i := 8) (d := some 49) rfl ?_
        refine wpIn_tk (i := 9) (d := some 50) rfl ?_
        refine wpIn_tk (i := 10) (d := some 51) rfl ?_
        refine wpIn_take (i := 11) (d := (some 52)) (v := undef) (a' := ?aqic11) rfl rfl (by kernel_rfl) (by kernel_rfl) (by kernel_rfl) (fun _ _ _ h => h) (Or.inr ⟨by rfl, rfl⟩) ?fqic11 ?_
        case fqic11 => (go_frame; rfl)
        refine wpIn_take (i := 12) (d := (some 53)) (v := undef) (a' := ?aqic12) rfl rfl (by kernel_rfl) (by kernel_rfl) (by kernel_rfl) (fun _ _ _ h => h) (Or.inr ⟨by rfl, rfl⟩) ?fqic12 ?_
        case fqic12 => (go_frame; rfl)
        refine wpIn_take (i := 13) (d := (some 54)) (v := undef) (a' := ?aqic13) rfl rfl (by kernel_rfl) (by kernel_rfl) (by kernel_rfl) (fun _ _ _ h => h) (Or.inr ⟨by rfl, rfl⟩) ?fqic13 ?_
        case fqic13 => (go_frame; rfl)
        refine wpIn_take (i := 14) (d := (some 55)) (v := undef) (a' := ?aqic14) rfl rfl (by kernel_rfl) (by kernel_rfl) (by kernel_rfl) (fun _ _ _ h => h) (Or.inr ⟨by rfl, rfl⟩) ?fqic14 ?_
        case fqic14 => (go_frame; rfl)
        refine wpIn_take (i := 15) (d := (some 56)) (v := undef) (a' := ?aqic15) rfl rfl (by kernel_rfl) (by kernel_rfl) (by kernel_rfl) (fun _ _ _ h => h) (Or.inr ⟨by rfl, rfl⟩) ?fqic15 ?_
        case fqic15 => (go_frame; rfl)
        refine wpIn_take (i := 16) (d := (some 57)) (v := undef) (a' := ?aqic16) rfl rfl (by kernel_rfl) (by kernel_rfl) (by kernel_rfl) (fun _ _ _ h => h) (Or.inr ⟨by rfl, rfl⟩) ?fqic16 ?_
        case fqic16 => (go_frame; rfl)
        refine wpIn_take (i := 17) (d := (some 58)) (v := undef) (a' := ?aqic17) rfl rfl (by kernel_rfl) (by kernel_rfl) (by kernel_rfl) (fun _ _ _ h => h) (Or.inr ⟨by rfl, rfl⟩) ?fqic17 ?_
        case fqic17 => (go_frame; rfl)
        refine wpIn_take (i := 18) (d := (some 59)) (v := undef) (a' := ?aqic18) rfl rfl (by kernel_rfl) (by kernel_rfl) (by kernel_rfl) (fun _ _ _ h => h) (Or.inr ⟨by rfl, rfl⟩) ?fqic18 ?_
        case fqic18 => (go_frame; rfl)
        refine wpIn_tk (i := 19) (d := some 60) rfl ?_
        refine wpIn_do (i := 20) hD1 (by kernel_rfl) rfl (by rfl) ?_
        intro K hK
        go_simp
        go_wp2_with (go_at_call 50; refine (says_eq _ _).mono ?_; rintro e w9 ⟨rfl, hw9⟩)
        exact ⟨rfl, by rw [HT.out, t1, t2]; simp, HBW.out _ (hw9 ▸ hD1)⟩
       | false =>
        refine wpIn_tk (i := 0) (d := some 41) rfl ?_
        refine wpIn_do (i := 1) hD (by kernel_rfl) rfl (by rfl) ?_
        intro K hK
        go_simp
        go_wp2_with (go_at_call 55; refine (HJo.out _ hD).mono ?_; rintro e w4 ⟨rfl, hbw4⟩)
        have hD1 : Below W.heap.size W w4 := belowP hD hbw4
        refine wpIn_tk (i := 2) (d := some 43) rfl ?_
        refine wpIn_tk (i := 3) (d := some 44) rfl ?_
        refine wpIn_tk (i := 4) (d := some 45) rfl ?_
        refine wpIn_tk (i := 5) (d := some 46) rfl ?_
        refine wpIn_tk (i := 6) (d := some 47) rfl ?_
        refine wpIn_tk (i := 7) (d := some 48) rfl ?_
        refine wpIn_tk (i := 8) (d := some 49) rfl ?_
        refine wpIn_tk (i := 9) (d := some 50) rfl ?_
        refine wpIn_tk (i := 10) (d := some 51) rfl ?_
        refine wpIn_tk (i := 11) (d := some 52) rfl ?_
        refine wpIn_tk (i := 13) (d := some 54) rfl ?_
        refine wpIn_tk (i := 14) (d := some 55) rfl ?_
        refine wpIn_tk (i := 15) (d := some 56) rfl ?_
        refine wpIn_tk (i := 16) (d := some 57) rfl ?_
        refine wpIn_tp (i := 17) (d := some 58) rfl (by (intro wq hq; have zf := (HX.out wq hq).invite; go_simp; first | done | with_reducible rfl)) ?_
        refine wpIn_do (i := 12) hD1 (by kernel_rfl) rfl (by rfl) ?_
        intro K hK
        go_simp
        go_wp2_with (go_at_call 56; refine (HS.out _ hD1).mono ?_; rintro e w5 ⟨rfl, hbw5⟩)
        have hD112 : Below W.heap.size W w5 := belowP hD1 hbw5
        refine wpIn_tk (i := 18) (d := some 59) rfl ?_
        refine wpIn_tk (i := 19) (d := some 60) rfl ?_
        refine wpIn_do (i := 20) hD112 (by kernel_rfl) rfl (by rfl) ?_
        intro K hK
        go_simp
        go_wp2_with (go_at_call 50; refine (says_eq _ _).mono ?_; rintro e w9 ⟨rfl, hw9⟩)
        exact ⟨rfl, by rw [HT.out, t1, t2]; simp, HBW.out _ (hw9 ▸ hD112)⟩
    | false =>
     cases m3 : (m.toList == [108, 101, 97, 118, 101]) with
     | true =>
      have HT : Hid (h.member = ls) := by show _ = _; rw [HM.out, m1, m2, m3]; rfl
      clear HM
      go_wp2_with (go_at_call 87; refine hLs.mono ?_; rintro e w3 ⟨rfl, hb3⟩)
      exact ⟨rfl, by rw [HT.out], HBW.out _ hb3⟩
     | false =>
      cases m4 : (m.toList == [98, 97, 110]) with
      | true =>
       have HT : Hid (h.member = (bj && (decide (h.l.ban ≤ S) && decide (T < S)))) := by show _ = _; rw [HM.out, m1, m2, m3, m4]; rfl
       clear HM
       go_upto_region 11 with fail
       refine wp_region_in (by kernel_rfl) (fun w' => Below W.heap.size W w') ?_
       change wpIn _ _ _ _ _ _ _ _ (World.drew _)
       have hD : Below W.heap.size W W.drew := (Below.refl _ _).drew
       cases bj with
       | false =>
        refine wpIn_tk (i := 0) (d := some 68) rfl ?_
        refine wpIn_do (i := 1) hD (by kernel_rfl) rfl (by rfl) ?_
        intro K hK
        go_simp
        go_wp2_with (go_at_call 55; refine (HJo.out _ hD).mono ?_; rintro e w4 ⟨rfl, hbw4⟩)
        have hD1 : Below W.heap.size W w4 := belowP hD hbw4
        refine wpIn_tk (i := 2) (d := some 70) rfl ?_
        refine wpIn_take (i := 3) (d := (some 71)) (v := undef) (a' := ?aqba3) rfl rfl (by kernel_rfl) (by kernel_rfl) (by kernel_rfl) (fun _ _ _ h => h) (Or.inr ⟨by rfl, rfl⟩) ?fqba3 ?_
        case fqba3 => (go_frame; rfl)
        refine wpIn_take (i := 4) (d := (some 72)) (v := undef) (a' := ?aqba4) rfl rfl (by kernel_rfl) (by kernel_rfl) (by kernel_rfl) (fun _ _ _ h => h) (Or.inr ⟨by rfl, rfl⟩) ?fqba4 ?_
        case fqba4 => (go_frame; rfl)
        refine wpIn_take (i := 5) (d := (some 73)) (v := undef) (a' := ?aqba5) rfl rfl (by kernel_rfl) (by kernel_rfl) (by kernel_rfl) (fun _ _ _ h => h) (Or.inr ⟨by rfl, rfl⟩) ?fqba5 ?_
        case fqba5 => (go_frame; rfl)
        refine wpIn_take (i := 6) (d := (some 74)) (v := undef) (a' := ?aqba6) rfl rfl (by kernel_rfl) (by kernel_rfl) (by kernel_rfl) (fun _ _ _ h => h) (Or.inr ⟨by rfl, rfl⟩) ?fqba6 ?_
        case fqba6 => (go_frame; rfl)
        refine wpIn_take (i := 7) (d := (some 75)) (v := undef) (a' := ?aqba7) rfl rfl (by kernel_rfl) (by kernel_rfl) (by kernel_rfl) (fun _ _ _ h => h) (Or.inr ⟨by rfl, rfl⟩) ?fqba7 ?_
        case fqba7 => (go_frame; rfl)
        refine wpIn_take (i := 8) (d := (some 76)) (v := undef) (a' := ?aqba8) rfl rfl (by kernel_rfl) (by kernel_rfl) (by kernel_rfl) (fun _ _ _ h => h) (Or.inr ⟨by rfl, rfl⟩) ?fqba8 ?_
        case fqba8 => (go_frame; rfl)
        refine wpIn_take (i := 9) (d := (some 77)) (v := undef) (a' := ?aqba9) rfl rfl (by kernel_rfl) (by kernel_rfl) (by kernel_rfl) (fun _ _ _ h => h) (Or.inr ⟨by rfl, rfl⟩) ?fqba9 ?_
        case fqba9 => (go_frame; rfl)
        refine wpIn_take (i := 10) (d := (some 78)) (v := undef) (a' := ?aqba10) rfl rfl (by kernel_rfl) (by kernel_rfl) (by kernel_rfl) (fun _ _ _ h => h) (Or.inr ⟨by rfl, rfl⟩) ?fqba10 ?_
        case fqba10 => (go_frame; rfl)
        refine wpIn_tk (i := 11) (d := some 79) rfl ?_
        refine wpIn_tk (i := 12) (d := some 80) rfl ?_
        refine wpIn_take (i := 13) (d := (some 81)) (v := undef) (a' := ?aqba13) rfl rfl (by kernel_rfl) (by kernel_rfl) (by kernel_rfl) (fun _ _ _ h => h) (Or.inr ⟨by rfl, rfl⟩) ?fqba13 ?_
        case fqba13 => (go_frame; rfl)
        refine wpIn_take (i := 14) (d := (some 82)) (v := undef) (a' := ?aqba14) rfl rfl (by kernel_rfl) (by kernel_rfl) (by kernel_rfl) (fun _ _ _ h => h) (Or.inr ⟨by rfl, rfl⟩) ?fqba14 ?_
        case fqba14 => (go_frame; rfl)
        refine wpIn_take (i := 15) (d := (some 83)) (v := undef) (a' := ?aqba15) rfl rfl (by kernel_rfl) (by kernel_rfl) (by kernel_rfl) (fun _ _ _ h => h) (Or.inr ⟨by rfl, rfl⟩) ?fqba15 ?_
        case fqba15 => (go_frame; rfl)
        refine wpIn_take (i := 16) (d := (some 84)) (v := undef) (a' := ?aqba16) rfl rfl (by kernel_rfl) (by kernel_rfl) (by kernel_rfl) (fun _ _ _ h => h) (Or.inr ⟨by rfl, rfl⟩) ?fqba16 ?_
        case fqba16 => (go_frame; rfl)
        refine wpIn_take (i := 17) (d := (some 85)) (v := undef) (a' := ?aqba17) rfl rfl (by kernel_rfl) (by kernel_rfl) (by kernel_rfl) (fun _ _ _ h => h) (Or.inr ⟨by rfl, rfl⟩) ?fqba17 ?_
        case fqba17 => (go_frame; rfl)
        refine wpIn_tk (i := 18) (d := some 86) rfl ?_
        refine wpIn_do (i := 19) hD1 (by kernel_rfl) rfl (by rfl) ?_
        intro K hK
        go_simp
        go_wp2_with (go_at_call 50; refine (says_eq _ _).mono ?_; rintro e w9 ⟨rfl, hw9⟩)
        exact ⟨rfl, by rw [HT.out]; simp, HBW.out _ (hw9 ▸ hD1)⟩
       | true =>
        cases t3 : decide (h.l.ban ≤ S) with
        | false =>
         refine wpIn_tk (i := 0) (d := some 68) rfl ?_
         refine wpIn_do (i := 1) hD (by kernel_rfl) rfl (by rfl) ?_
         intro K hK
         go_simp
         go_wp2_with (go_at_call 55; refine (HJo.out _ hD).mono ?_; rintro e w4 ⟨rfl, hbw4⟩)
         have hD1 : Below W.heap.size W w4 := belowP hD hbw4
         refine wpIn_tk (i := 2) (d := some 70) rfl ?_
         refine wpIn_tk (i := 3) (d := some 71) rfl ?_
         refine wpIn_tk (i := 5) (d := some 73) rfl ?_
         refine wpIn_tk (i := 6) (d := some 74) rfl ?_
         refine wpIn_tk (i := 7) (d := some 75) rfl ?_
         refine wpIn_tk (i := 8) (d := some 76) rfl ?_
         refine wpIn_tp (i := 9) (d := some 77) rfl (by (intro wq hq; have zf := (HX.out wq hq).ban; go_simp; first | done | with_reducible rfl)) ?_
         refine wpIn_do (i := 4) hD1 (by kernel_rfl) rfl (by rfl) ?_
         intro K hK
         go_simp
         go_wp2_with (go_at_call 56; refine (HS.out _ hD1).mono ?_; rintro e w5 ⟨rfl, hbw5⟩)
         have hD14 : Below W.heap.size W w5 := belowP hD1 hbw5
         refine wpIn_tk (i := 10) (d := some 78) rfl ?_
         refine wpIn_tk (i := 11) (d := some 79) rfl ?_
         refine wpIn_tk (i := 12) (d := some 80) rfl ?_
         refine wpIn_take (i := 13) (d := (some 81)) (v := undef) (a' := ?aqbb13) rfl rfl (by kernel_rfl) (by kernel_rfl) (by kernel_rfl) (fun _ _ _ h => h) (Or.inr ⟨by rfl, rfl⟩) ?fqbb13 ?_
         case fqbb13 => (go_frame; rfl)
         refine wpIn_take (i := 14) (d := (some 82)) (v := undef) (a' := ?aqbb14) rfl rfl (by kernel_rfl) (by kernel_rfl) (by kernel_rfl) (fun _ _ _ h => h) (Or.inr ⟨by rfl, rfl⟩) ?fqbb14 ?_
         case fqbb14 => (go_frame; rfl)
         refine wpIn_take (i := 15) (d := (some 83)) (v := undef) (a' := ?aqbb15) rfl rfl (by kernel_rfl) (by kernel_rfl) (by kernel_rfl) (fun _ _ _ h => h) (Or.inr ⟨by rfl, rfl⟩) ?fqbb15 ?_
         case fqbb15 => (go_frame; rfl)
         refine wpIn_take (i := 16) (d := (some 84)) (v := undef) (a' := ?aqbb16) rfl rfl (by kernel_rfl) (by kernel_rfl) (by kernel_rfl) (fun _ _ _ h => h) (Or.inr ⟨by rfl, rfl⟩) ?fqbb16 ?_
         case fqbb16 => (go_frame; rfl)
         refine wpIn_take (i := 17) (d := (some 85)) (v := undef) (a' := ?aqbb17) rfl rfl (by kernel_rfl) (by kernel_rfl) (by kernel_rfl) (fun _ _ _ h => h) (Or.inr ⟨by rfl, rfl⟩) ?fqbb17 ?_
         case fqbb17 => (go_frame; rfl)
         refine wpIn_tk (i := 18) (d := some 86) rfl ?_
         refine wpIn_do (i := 19) hD14 (by kernel_rfl) rfl (by rfl) ?_
         intro K hK
         go_simp
         go_wp2_with (go_at_call 50; refine (says_eq _ _).mono ?_; rintro e w9 ⟨rfl, hw9⟩)
         exact ⟨rfl, by rw [HT.out, t3]; simp, HBW.out _ (hw9 ▸ hD14)⟩
        | true =>
         refine wpIn_tk (i := 0) (d := some 68) rfl ?_
         refine wpIn_do (i := 1) hD (by kernel_rfl) rfl (by rfl) ?_
         intro K hK
         go_simp
         go_wp2_with (go_at_call 55; refine (HJo.out _ hD).mono ?_; rintro e w4 ⟨rfl, hbw4⟩)
         have hD1 : Below W.heap.size W w4 := belowP hD hbw4
         refine wpIn_tk (i := 2) (d := some 70) rfl ?_
         refine wpIn_tk (i := 3) (d := some 71) rfl ?_
         refine wpIn_tk (i := 5) (d := some 73) rfl ?_
         refine wpIn_tk (i := 6) (d := some 74) rfl ?_
         refine wpIn_tk (i := 7) (d := some 75) rfl ?_
         refine wpIn_tk (i := 8) (d := some 76) rfl ?_
         refine wpIn_tp (i := 9) (d := some 77) rfl (by (intro wq hq; have zf := (HX.out wq hq).ban; go_simp; first | done | with_reducible rfl)) ?_
         refine wpIn_do (i := 4) hD1 (by kernel_rfl) rfl (by rfl) ?_
         intro K hK
         go_simp
         go_wp2_with (go_at_call 56; refine (HS.out _ hD1).mono ?_; rintro e w5 ⟨rfl, hbw5⟩)
         have hD14 : Below W.heap.size W w5 := belowP hD1 hbw5
         refine wpIn_tk (i := 10) (d := some 78) rfl ?_
         refine wpIn_tk (i := 11) (d := some 79) rfl ?_
         refine wpIn_tk (i := 12) (d := some 80) rfl ?_
         refine wpIn_tk (i := 13) (d := some 81) rfl ?_
         refine wpIn_tk (i := 15) (d := some 83) rfl ?_
         refine wpIn_do (i := 14) hD14 (by kernel_rfl) rfl (by rfl) ?_
         intro K hK
         go_simp
         go_wp2_with (go_at_call 56; refine (HS.out _ hD14).mono ?_; rintro e w6 ⟨rfl, hbw6⟩)
         have hD1414 : Below W.heap.size W w6 := belowP hD14 hbw6
         refine wpIn_do (i := 16) hD1414 (by kernel_rfl) rfl (by rfl) ?_
         intro K hK
         go_simp
         go_wp2_with (go_at_call 88; refine (HTT.out _ hD1414).mono ?_; rintro e w7 ⟨rfl, hbw7⟩)
         have hD141416 : Below W.heap.size W w7 := belowP hD1414 hbw7
         refine wpIn_tk (i := 17) (d := some 85) rfl ?_
         refine wpIn_tk (i := 18) (d := some 86) rfl ?_
         refine wpIn_do (i := 19) hD141416 (by kernel_rfl) rfl (by rfl) ?_
         intro K hK
         go_simp
         go_wp2_with (go_at_call 50; refine (says_eq _ _).mono ?_; rintro e w9 ⟨rfl, hw9⟩)
         exact ⟨rfl, by rw [HT.out, t3]; simp, HBW.out _ (hw9 ▸ hD141416)⟩
      | false =>
       have HT : Hid (h.member = false) := by show _ = _; rw [HM.out, m1, m2, m3, m4]; rfl
       clear HM
       go_wp2_with (go_at_call 50; refine (says_eq _ _).mono ?_; rintro e wn ⟨rfl, rfl⟩)
       exact ⟨rfl, by rw [HT.out], HBW.out _ (Below.refl _ _)⟩
end
section
variable {w : World} {hb : Nat} {h : Hr} {p : Ph}
theorem changes_H (x : IsH w hb h p) (hz : SzH h) : Calls Tryz.prog 60 #[.pointer (some ⟨hb, 0, none⟩)] w fun e w' => e = thrown h.changes ∧ Below w.heap.size w w' := by
 have HC : Hid (h.changes = (decide ((parseT (ordT h.e.content)).2 = 0) && (!h.told || mayL h.l (parseT (ordT h.e.content)).1 h.e.sender))) := rfl
 have HX0 : Hid (∀ X, Below w.heap.size w X → IsH X hb h p) := fun X hX => x.below hX
 have HRE : Hid (w.rangeAt hb 0 (cellsE h.e p.e)) := x.rangeE
 have hLv := levelsIn_any x.ev (fun _ h => h) hz.e.cont
 have HSZ : Hid (SzL (parseT (ordT h.e.content)).1) := parse_sz hz.e.cont
 have HSL : Hid (SzL h.l) := hz.l
 clear x
 unfold LevP at hLv
 generalize parseT (ordT h.e.content) = R at hLv HC HSZ
 obtain ⟨L, E⟩ := R
 simp only at hLv HC HSZ
 go_enter Tryz.func60, Tryz.ntmps60
 go_upto_region 1 with (first
  | (refine wpList_load_mid rfl 28 _ rfl hb 0 rfl (cellsE h.e p.e) _ HRE.out Tryz.underlying28 rfl infoE ?_)
  | (go_at_call 83; refine hLv.mono ?_; rintro e w1 ⟨⟨rfl, q, rfl, hI⟩ | ⟨rfl, rfl⟩, hb1⟩)
  | (refine wpList_store_row rfl 47 _ _ rfl w1.heap.size 47 _ (cellsL L q).toArray rfl rfl (newP _) infoL rfl (one_L L q) ?_))
 case inr => exact ⟨rfl, by rw [HC.out]; rfl, hb1⟩
 have hbA : Below w1.heap.size w1 ((w1.alloc (.cells #[.int .i64 0, .int .i64 0, .int .i64 0, .int .i64 0, .int .i64 0, .int .i64 0, .int .i64 0, .slice none 0 0, .slice none 0 0] 47)).setRow w1.heap.size (cellsL L q).toArray) :=
  ((Below.refl _ _).alloc (Nat.le_refl _) _).trans ((keep_setRow _ w1.heap.size _).below (by simp) fun q hq e => by unfold OneP at e; omega)
 have hXA : ((w1.alloc (.cells #[.int .i64 0, .int .i64 0, .int .i64 0, .int .i64 0, .int .i64 0, .int .i64 0, .int .i64 0, .slice none 0 0, .slice none 0 0] 47)).setRow w1.heap.size (cellsL L q).toArray).heap[w1.heap.size]? = some (.cells (cellsL L q).toArray 47 (0, 0)) := setRow_heap _ _ _ _ _ _ (newP _)
 generalize (w1.alloc (.cells #[.int .i64 0, .int .i64 0, .int .i64 0, .int .i64 0, .int .i64 0, .int .i64 0, .int .i64 0, .slice none 0 0, .slice none 0 0] 47)).setRow w1.heap.size (cellsL L q).toArray = W at hbA hXA
 have hBW : Below w.heap.size w W := belowP hb1 hbA
 have HBW : Hid (∀ X, Below W.heap.size W X → Below w.heap.size w X) := fun X hX => belowP hBW hX
 have HX : Hid (∀ X, Below W.heap.size W X → IsH X hb h p) := fun X hX => HX0.out X (belowP hBW hX)
 have HLL : Hid (∀ X, Below W.heap.size W X → X.rangeAt w1.heap.size 0 (cellsL L q) ∧ IsL (· < X.heap.size) X L q) := fun X hX => ⟨range_of ((hX.block _ (objP_lt hXA)).trans hXA), hI.carry fun b hb => ⟨Nat.lt_of_lt_of_le hb.2 (Nat.le_trans hbA.size hX.size), (hX.block b (Nat.lt_of_lt_of_le hb.2 hbA.size)).trans (hbA.block b hb.2)⟩⟩
 have HMy : Hid (∀ X, Below W.heap.size W X → Calls Tryz.prog 94 #[valL h.l p.l, valL L q, .string h.e.sender] X fun e w' => e = .returned (.bool (mayL h.l L h.e.sender)) ∧ Below X.heap.size X w') := fun X hX => may_lv (HX.out X hX).lv (HLL.out X hX).2 (fun _ h => h) HSL.out HSZ.out h.e.sender
 have ht := (HX.out W (Below.refl _ _)).isTold
 have HC2 : Hid (h.changes = (!h.told || mayL h.l L h.e.sender)) := by show _ = _; rw [HC.out]; rfl
 clear HX0 HC hLv hI hXA hb1 hbA hBW HRE
 generalize mayL h.l L h.e.sender = bm at HMy HC2
 cases h1 : h.told with
 | false =>
  rw [h1] at ht
  go_wp2_with (go_at_call 93; refine (yesIf_any _ _).mono ?_; rintro e wn ⟨he, rfl⟩; replace he : e = _ := he; subst he)
  exact ⟨rfl, by rw [HC2.out, h1]; rfl, HBW.out _ (Below.refl _ _)⟩
 | true =>
  rw [h1] at ht
  go_upto_region 2 with (go_at_call 93; refine (yesIf_any _ _).mono ?_; rintro e wn ⟨he, rfl⟩; replace he : e = _ := he; subst he)
  refine wp_region_in (by kernel_rfl) (fun w' => Below W.heap.size W w') ?_
  change wpIn _ _ _ _ _ _ _ _ (World.drew _)
  have hD : Below W.heap.size W W.drew := (Below.refl _ _).drew
  refine wpIn_tk (i := 0) (d := some 14) rfl ?_
  refine wpIn_tk (i := 1) (d := some 15) rfl ?_
  refine wpIn_tk (i := 2) (d := some 16) rfl ?_
  refine wpIn_take (i := 3) (d := (some 17)) (v := (valL h.l p.l)) (a' := ?aqk3) rfl rfl (by kernel_rfl) (by kernel_rfl) (by kernel_rfl) (fun _ _ _ h => h) (Or.inl ⟨by rfl, ?yqk3⟩) ?fqk3 ?_
  case yqk3 => exact fun wq hq => exec_loadR rfl rfl ((HX.out wq hq).runL)
  case fqk3 => (go_frame; rfl)
  refine wpIn_take (i := 4) (d := (some 18)) (v := (valL L q)) (a' := ?aqk4) rfl rfl (by kernel_rfl) (by kernel_rfl) (by kernel_rfl) (fun _ _ _ h => h) (Or.inl ⟨by rfl, ?yqk4⟩) ?fqk4 ?_
  case yqk4 => exact fun wq hq => exec_loadR rfl rfl (run_loadAt_mid wq w1.heap.size 0 47 (cellsL L q) _ (HLL.out wq hq).1 Tryz.underlying47 rfl infoL)
  case fqk4 => (go_frame; rfl)
  refine wpIn_tk (i := 5) (d := some 19) rfl ?_
  refine wpIn_tk (i := 6) (d := some 20) rfl ?_
  refine wpIn_tk (i := 7) (d := some 21) rfl ?_
  refine wpIn_tk (i := 8) (d := some 22) rfl ?_
  refine wpIn_tp (i := 9) (d := some 23) rfl (by (intro wq hq; have zf := (HX.out wq hq).sender; go_simp; first | done | with_reducible rfl)) ?_
  refine wpIn_do (i := 10) hD (by kernel_rfl) rfl (by rfl) ?_
  intro K hK
  go_simp
  go_wp2_with (go_at_call 94; refine (HMy.out _ hD).mono ?_; rintro e w2 ⟨rfl, hbw2⟩)
  have hD10 : Below W.heap.size W w2 := belowP hD hbw2
  refine wpIn_do (i := 11) hD10 (by kernel_rfl) rfl (by rfl) ?_
  intro K hK
  go_simp
  go_wp2_with (go_at_call 50; refine (says_eq _ _).mono ?_; rintro e w9 ⟨rfl, hw9⟩)
  exact ⟨rfl, by rw [HC2.out, h1]; rfl, HBW.out _ (hw9 ▸ hD10)⟩
end
end Go.Proofs.YtldegjjaknelgaaGreatDoor

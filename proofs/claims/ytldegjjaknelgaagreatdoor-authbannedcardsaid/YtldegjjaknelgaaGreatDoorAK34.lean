/-
  What the rules say of an event, by a state: by contracts.
  A value of JSON that came in, as the walks read it.
-/
import Derived.Test.YtldegjjaknelgaaGreatDoorAK33
import Derived.Test.YtldegjjaknelgaaGreatDoorChecked
import Derived.ProofKit
import Derived.SizedLaws
import Derived.SliceStrings
set_option maxRecDepth 100000
set_option maxHeartbeats 16000000
namespace Go.Proofs.YtldegjjaknelgaaGreatDoor
open Go.RowKit
theorem open_e {e : Ev} {l : List Kn} {H : Hr} (h : openT e l = some H) : H.e = e ∧ H.st = l:=by
 unfold openT at h
 split at h
 · cases h
 · split at h
   · split at h
     · cases h
     · cases h
       exact ⟨rfl,rfl⟩
   · cases h
theorem lit_at : (⟨#[64]⟩ : ByteArray).toList = [64]:=by rw [Lib.toList_data]
theorem slprefix_any (s : ByteArray) (w : World) : Calls Tryz.prog 92 #[.string s,.string ⟨#[64]⟩] w fun x w' => x = .returned (.bool (atT s)) ∧ Below w.heap.size w w':=by
 have HT : Hid (atT s = (decide (1 ≤ s.size) && eqT (s.extract 0 1) ⟨#[64]⟩)):=rfl
 have e64 : (⟨#[64]⟩ : ByteArray).size = 1:=rfl
 cases h1 : decide (1 ≤ s.size) with
 | false =>
  have h2 : ¬ 1 ≤ s.size:=by simpa using h1
  have h3 : ¬ (1 : Int) ≤ s.size:=by omega
  go_enter Tryz.func92,Tryz.ntmps92
  go_wp2
  go_ret
  exact ⟨by rw [HT.out,h1];rfl,Below.refl _ _⟩
 | true =>
  have h2 : 1 ≤ s.size:=by simpa using h1
  have h3 : (1 : Int) ≤ s.size:=by omega
  go_enter Tryz.func92,Tryz.ntmps92
  go_wp2
  go_ret
  exact ⟨by rw [HT.out,h1];unfold eqT;rw [lit_at];rfl,Below.refl _ _⟩
theorem hasAt_any (s : ByteArray) (w : World) : Calls Tryz.prog 58 #[.string s,.string ⟨#[64]⟩] w fun x w' => x = .returned (.bool (atT s)) ∧ Below w.heap.size w w':=by
 have hP:=slprefix_any s w
 generalize atT s = b at hP ⊢
 go_enter Tryz.func58,Tryz.ntmps58
 go_wp2_with (go_at_call 92;refine hP.mono ?_;rintro x w1 ⟨rfl,hb1⟩)
 go_ret
 exact ⟨rfl,hb1⟩
theorem ask_any {O : Nat → Prop} {w : World} {e : Ev} {p : Pt} {ps : Option Addr} {cs : Nat} {l : List Kn} (h : IsE O w e p) (hst : RdE O w ps cs l) (hO : ∀ b, O b → b < w.heap.size) (hz : SzE e) (hk : SzK l) :
    Calls Tryz.prog 27 #[valE e p,.slice ps l.length cs] w fun x w' => x = thrown (askT e l) ∧ Below w.heap.size w w':=by
 obtain ⟨W0,hW0⟩ : ∃ W0,W0 = w.alloc (.cells (cellsE e p).toArray 28):=⟨_,rfl⟩
 have hb0 : Below w.heap.size w W0:=by rw [hW0];exact (Below.refl _ _).alloc (Nat.le_refl _) _
 have hX0 : W0.heap[w.heap.size]? = some (.cells (cellsE e p).toArray 28 (0,0)):=by rw [hW0];exact newP _
 have hV:=isV_new h hO hb0 hX0
 have HV : Hid (∀ X,Below W0.heap.size W0 X → IsV X w.heap.size e p):=fun X hX => hV.below hX
 have HA : Hid (askT e l = if eqT e.typ tCreate then createT e else match openT e l with | none => false | some h => h.ask):=rfl
 have hCr:=creates_any hV.ev (fun _ h => h) hz
 have hOp:=open_any hV.ev (hst.carry fun k hk => ⟨Nat.lt_of_lt_of_le (hO k hk) hb0.size,hb0.block k (hO k hk)⟩) (fun _ h => h) hk
 have HSZ : Hid (∀ H,openT e l = some H → SzH H ∧ H.e = e):=fun H hH => ⟨open_sz hz hk hH,(open_e hH).1⟩
 have HRG:=(show Hid _ from hV.rangeE)
 have et:=hV.typ
 clear h hst hV hX0 hk hz
 unfold valE at hCr hOp ⊢
 unfold eqT at HA
 rw [lit_tCreate] at HA
 cases hc : (e.typ.toList == [109,46,114,111,111,109,46,99,114,101,97,116,101]) with
 | true =>
  have HT : Hid (askT e l = createT e):=by show _ = _;rw [HA.out,if_pos hc]
  clear HA hOp HSZ
  generalize createT e = bc at hCr HT
  go_enter Tryz.func27,Tryz.ntmps27
  go_upto_region 1 with fail
  rw [← hW0]
  clear hW0
  go_wp2_with (first
   | (refine wpList_load_mid rfl 28 _ rfl w.heap.size 0 rfl _ _ HRG.out Tryz.underlying28 rfl infoE ?_)
   | (go_at_call 51;refine hCr.mono ?_;rintro x w1 ⟨rfl,hb1⟩)
   | (go_at_call 50;refine (says_eq _ _).mono ?_;rintro e wn ⟨rfl,rfl⟩))
  exact ⟨rfl,by rw [HT.out],belowP hb0 hb1⟩
 | false =>
  have HT : Hid (askT e l = match openT e l with | none => false | some h => h.ask):=by show _ = _;rw [HA.out,if_neg (by rw [hc];decide)]
  clear HA hCr
  generalize openT e l = oh at hOp HT HSZ
  cases oh with
  | none =>
   have hOp0 : Calls Tryz.prog 52 #[.agg (cellsE e p).toArray,.slice ps l.length cs] W0 fun x w' => x = thrown false ∧ Below W0.heap.size W0 w':=hOp
   clear hOp
   go_enter Tryz.func27,Tryz.ntmps27
   go_upto_region 1 with fail
   rw [← hW0]
   clear hW0
   go_wp2_with (first
    | (refine wpList_load_mid rfl 28 _ rfl w.heap.size 0 rfl _ _ HRG.out Tryz.underlying28 rfl infoE ?_)
    | (go_at_call 52;refine hOp0.mono ?_;rintro x w1 ⟨rfl,hb1⟩))
   exact ⟨rfl,by rw [HT.out],belowP hb0 hb1⟩
  | some H =>
   have hOp0 : Calls Tryz.prog 52 #[.agg (cellsE e p).toArray,.slice ps l.length cs] W0 fun x w' => (∃ hb P,x = .returned (.pointer (some ⟨hb,0,none⟩)) ∧ IsH w' hb H P) ∧ Below W0.heap.size W0 w':=hOp
   obtain ⟨hsz,he⟩:=HSZ.out H rfl
   clear hOp HSZ
   subst he
   replace HT : Hid (askT H.e l = if eqT H.e.typ tMember then H.member else H.sends):=HT.out
   unfold eqT at HT
   rw [lit_tMember] at HT
   go_enter Tryz.func27,Tryz.ntmps27
   go_upto_region 1 with fail
   rw [← hW0]
   clear hW0
   go_upto_region 4 with (first
    | (refine wpList_load_mid rfl 28 _ rfl w.heap.size 0 rfl _ _ HRG.out Tryz.underlying28 rfl infoE ?_)
    | (go_at_call 52;refine hOp0.mono ?_;rintro x w1 ⟨⟨hb,P,rfl,hI⟩,hb1⟩))
   have HX1 : Hid (∀ X,Below w1.heap.size w1 X → IsH X hb H P):=fun X hX => hI.below hX
   have HV1 : Hid (∀ X,Below w1.heap.size w1 X → IsV X w.heap.size H.e p):=fun X hX => HV.out X (belowP hb1 hX)
   have HB1 : Hid (∀ X,Below w1.heap.size w1 X → Below w.heap.size w X):=fun X hX => belowP hb0 (belowP hb1 hX)
   have hJo:=joined_any hI hsz
   have hMb:=member_any hI hsz
   clear HRG et hI HV hb1 hb0 hOp0
   have et:=(HV1.out w1 (Below.refl _ _)).typ
   cases hm : (H.e.typ.toList == [109,46,114,111,111,109,46,109,101,109,98,101,114]) with
   | true =>
    have HT2 : Hid (askT H.e l = H.member):=by show _ = _;rw [HT.out,if_pos hm]
    clear HT hJo
    generalize H.member = bm at hMb HT2
    go_wp2_with (go_at_call 53;refine hMb.mono ?_;rintro x w2 ⟨rfl,hb2⟩)
    exact ⟨rfl,by rw [HT2.out],HB1.out _ hb2⟩
   | false =>
    have HT2 : Hid (askT H.e l = (H.joined && (decide (kindL H.l H.e.typ H.e.st ≤ H.s) && (!((H.e.st && atT H.e.key) && !H.own) && (if (H.e.st && eqT H.e.typ tPower) && eqT H.e.key ⟨#[]⟩ then H.changes else true))))):=by show _ = _;rw [HT.out,if_neg (by rw [hm];decide)];rfl
    unfold eqT at HT2
    rw [lit_tPower,lit_nix] at HT2
    clear HT hMb
    go_upto_region 6 with fail
    generalize H.joined = bj at hJo HT2
    cases bj with
    | false =>
     go_wp2_with (first | (go_at_call 55;refine hJo.mono ?_;rintro x w2 ⟨rfl,hb2⟩) | (go_at_call 54;refine (noIf_any _ _).mono ?_;rintro e wn ⟨he,rfl⟩;replace he : e = _:=he;subst he))
     exact ⟨rfl,by rw [HT2.out];rfl,HB1.out _ hb2⟩
    | true =>
     go_upto_region 7 with (first | (go_at_call 55;refine hJo.mono ?_;rintro x W ⟨rfl,hb2⟩) | (go_at_call 54;refine (noIf_any _ _).mono ?_;rintro e wn ⟨he,rfl⟩;replace he : e = _:=he;subst he))
     have HX : Hid (∀ X,Below W.heap.size W X → IsH X hb H P):=fun X hX => HX1.out X (belowP hb2 hX)
     have HVX : Hid (∀ X,Below W.heap.size W X → IsV X w.heap.size H.e p):=fun X hX => HV1.out X (belowP hb2 hX)
     have HBW : Hid (∀ X,Below W.heap.size W X → Below w.heap.size w X):=fun X hX => HB1.out X (belowP hb2 hX)
     have HS : Hid (∀ X,Below W.heap.size W X → Calls Tryz.prog 56 #[.pointer (some ⟨hb,0,none⟩)] X fun e w' => e = .returned (.int .i64 H.s) ∧ Below X.heap.size X w'):=fun X hX => lev_s_any (HX.out X hX) hsz
     have HTy : Hid (∀ X,Below W.heap.size W X → Calls Tryz.prog 57 #[valL H.l P.l,.string H.e.typ,.bool H.e.st] X fun e w' => e = .returned (.int .i64 (kindL H.l H.e.typ H.e.st)) ∧ Below X.heap.size X w'):=fun X hX => type_lv (HX.out X hX).lv (fun _ h => h) hsz.l H.e.typ H.e.st
     have HOw : Hid (∀ X,Below W.heap.size W X → Calls Tryz.prog 59 #[.pointer (some ⟨hb,0,none⟩)] X fun e w' => e = .returned (.bool H.own) ∧ Below X.heap.size X w'):=fun X hX => own_any (HX.out X hX)
     have HCh : Hid (∀ X,Below W.heap.size W X → Calls Tryz.prog 60 #[.pointer (some ⟨hb,0,none⟩)] X fun e w' => e = thrown H.changes ∧ Below X.heap.size X w'):=fun X hX => changes_H (HX.out X hX) hsz
     clear HX1 HV1 HB1 hJo hb2 et hm hc
     refine wp_region_in (by kernel_rfl) (fun w' => Below W.heap.size W w') ?_
     change wpIn _ _ _ _ _ _ _ _ (World.drew _)
     have hD : Below W.heap.size W W.drew:=(Below.refl _ _).drew
     generalize H.s = S at HS HT2
     generalize kindL H.l H.e.typ H.e.st = K0 at HTy HT2
     cases h7 : decide (S < K0) with
     | true =>
      refine wpIn_tk (i:=0) (d:=some 23) rfl ?_
      refine wpIn_tk (i:=2) (d:=some 25) rfl ?_
      refine wpIn_tk (i:=3) (d:=some 26) rfl ?_
      refine wpIn_tk (i:=4) (d:=some 27) rfl ?_
      refine wpIn_take (i:=5) (d:=(some 28)) (v:=(valL H.l P.l)) (a':=?aqb5) rfl rfl (by kernel_rfl) (by kernel_rfl) (by kernel_rfl) (fun _ _ _ h => h) (Or.inl ⟨by rfl,?yqb5⟩) ?fqb5 ?_
      case yqb5 => exact fun wq hq => exec_loadR rfl rfl ((HX.out wq hq).runL)
      case fqb5 => (go_frame;rfl)
      refine wpIn_tk (i:=6) (d:=some 29) rfl ?_
      refine wpIn_tp (i:=7) (d:=some 30) rfl (by (intro wq hq;have zf:=(HVX.out wq hq).typ;go_simp;first | done | with_reducible rfl)) ?_
      refine wpIn_tk (i:=8) (d:=some 31) rfl ?_
      refine wpIn_tp (i:=9) (d:=some 32) rfl (by (intro wq hq;have zf:=(HVX.out wq hq).isSt;go_simp;first | done | with_reducible rfl)) ?_
      refine wpIn_do (i:=1) hD (by kernel_rfl) rfl (by rfl) ?_
      intro K hK
      go_simp
      go_wp2_with (go_at_call 56;refine (HS.out _ hD).mono ?_;rintro e w4 ⟨rfl,hbw4⟩)
      have hD1 : Below W.heap.size W w4:=belowP hD hbw4
      refine wpIn_do (i:=10) hD1 (by kernel_rfl) rfl (by rfl) ?_
      intro K hK
      go_simp
      go_wp2_with (go_at_call 57;refine (HTy.out _ hD1).mono ?_;rintro e w5 ⟨rfl,hbw5⟩)
      have hD110 : Below W.heap.size W w5:=belowP hD1 hbw5
      refine wpIn_tk (i:=11) (d:=some 34) rfl ?_
      refine wpIn_do (i:=12) hD110 (by kernel_rfl) rfl (by rfl) ?_
      intro K hK
      go_simp
      go_wp2_with (go_at_call 54;refine (noIf_any _ _).mono ?_;rintro e w6 ⟨he,hw6⟩;replace he : e = _:=he;subst he;have hbw6 : Below w5.heap.size w5 w6:=hw6 ▸ Below.refl _ _)
      exact ⟨rfl,by rw [HT2.out,show decide (K0 ≤ S) = false from by simp at h7;simpa using h7];rfl,HBW.out _ (hw6 ▸ belowP hD1 hbw5)⟩
     | false =>
      refine wpIn_tk (i:=0) (d:=some 23) rfl ?_
      refine wpIn_tk (i:=2) (d:=some 25) rfl ?_
      refine wpIn_tk (i:=3) (d:=some 26) rfl ?_
      refine wpIn_tk (i:=4) (d:=some 27) rfl ?_
      refine wpIn_take (i:=5) (d:=(some 28)) (v:=(valL H.l P.l)) (a':=?aqa5) rfl rfl (by kernel_rfl) (by kernel_rfl) (by kernel_rfl) (fun _ _ _ h => h) (Or.inl ⟨by rfl,?yqa5⟩) ?fqa5 ?_
      case yqa5 => exact fun wq hq => exec_loadR rfl rfl ((HX.out wq hq).runL)
      case fqa5 => (go_frame;rfl)
      refine wpIn_tk (i:=6) (d:=some 29) rfl ?_
      refine wpIn_tp (i:=7) (d:=some 30) rfl (by (intro wq hq;have zf:=(HVX.out wq hq).typ;go_simp;first | done | with_reducible rfl)) ?_
      refine wpIn_tk (i:=8) (d:=some 31) rfl ?_
      refine wpIn_tp (i:=9) (d:=some 32) rfl (by (intro wq hq;have zf:=(HVX.out wq hq).isSt;go_simp;first | done | with_reducible rfl)) ?_
      refine wpIn_do (i:=1) hD (by kernel_rfl) rfl (by rfl) ?_
      intro K hK
      go_simp
      go_wp2_with (go_at_call 56;refine (HS.out _ hD).mono ?_;rintro e w4 ⟨rfl,hbw4⟩)
      have hD1 : Below W.heap.size W w4:=belowP hD hbw4
      refine wpIn_do (i:=10) hD1 (by kernel_rfl) rfl (by rfl) ?_
      intro K hK
      go_simp
      go_wp2_with (go_at_call 57;refine (HTy.out _ hD1).mono ?_;rintro e w5 ⟨rfl,hbw5⟩)
      have hD110 : Below W.heap.size W w5:=belowP hD1 hbw5
      refine wpIn_tk (i:=11) (d:=some 34) rfl ?_
      refine wpIn_do (i:=12) hD110 (by kernel_rfl) rfl (by rfl) ?_
      intro K hK
      go_simp
      go_wp2_with (go_at_call 54;refine (noIf_any _ _).mono ?_;rintro e w6 ⟨he,hw6⟩;replace he : e = _:=he;subst he;have hbw6 : Below w5.heap.size w5 w6:=hw6 ▸ Below.refl _ _)
      have hD11012 : Below W.heap.size W w6:=belowP hD110 hbw6
      refine wpIn_done hD11012 (by kernel_rfl) ?_ _
      have hC:=hD11012
      have HT3 : Hid (askT H.e l = (!((H.e.st && atT H.e.key) && !H.own) && (if (H.e.st && (H.e.typ.toList == [109,46,114,111,111,109,46,112,111,119,101,114,95,108,101,118,101,108,115])) && (H.e.key.toList == []) then H.changes else true))):=by show _ = _;rw [HT2.out,show decide (K0 ≤ S) = true from by simp at h7;simpa using h7];rfl
      clear HT2 HS HTy
      go_upto_region 8 with fail
      clear hD hD1 hD110 hw6 hbw4 hbw5 hbw6
      clear h7
      have hOw:=fun X hX => HOw.out X (belowP hC hX)
      have hVC:=HVX.out _ hC
      have ck:=hVC.key
      have cst:=hVC.isSt
      clear hVC
      cases h8 : H.e.st with
      | false =>
       rw [h8] at HT3 cst
       go_wp2_with (first | (go_at_call 54;refine (noIf_any _ _).mono ?_;rintro e wn ⟨he,rfl⟩;replace he : e = _:=he;subst he) | (go_at_call 50;refine (says_eq _ _).mono ?_;rintro e wn ⟨rfl,rfl⟩))
       exact ⟨rfl,by rw [HT3.out];rfl,HBW.out _ hC⟩
      | true =>
       rw [h8] at HT3 cst
       generalize ha : atT H.e.key = ba at HT3
       cases ba with
       | false =>
        go_upto_region 9 with (first | (go_at_call 58;refine (hasAt_any _ _).mono ?_;rintro x w7 ⟨hx7,hb7⟩;rw [ha] at hx7;subst hx7) | (go_at_call 54;refine (noIf_any _ _).mono ?_;rintro e wn ⟨he,rfl⟩;replace he : e = _:=he;subst he))
        have hC7:=belowP hC hb7
        replace HT3 : Hid (askT H.e l = (if (H.e.typ.toList == [109,46,114,111,111,109,46,112,111,119,101,114,95,108,101,118,101,108,115]) && (H.e.key.toList == []) then H.changes else true)):=by show _ = _;rw [HT3.out];rfl
        clear ck cst hOw
        have hCh:=HCh.out w7 hC7
        have hV7:=HVX.out w7 hC7
        have ct:=hV7.typ
        have ck:=hV7.key
        have cst:=hV7.isSt
        clear hV7
        rw [h8] at cst
        cases h9 : (H.e.typ.toList == [109,46,114,111,111,109,46,112,111,119,101,114,95,108,101,118,101,108,115]) with
        | false =>
         go_wp2_with (go_at_call 50;refine (says_eq _ _).mono ?_;rintro e wn ⟨rfl,rfl⟩)
         exact ⟨rfl,by rw [HT3.out,h9];rfl,HBW.out _ hC7⟩
        | true =>
         cases h10 : (H.e.key.toList == []) with
         | false =>
          go_wp2_with (go_at_call 50;refine (says_eq _ _).mono ?_;rintro e wn ⟨rfl,rfl⟩)
          exact ⟨rfl,by rw [HT3.out,h9,h10];rfl,HBW.out _ hC7⟩
         | true =>
          go_wp2_with (go_at_call 60;refine hCh.mono ?_;rintro x w9 ⟨rfl,hb9⟩)
          exact ⟨rfl,by rw [HT3.out,h9,h10];rfl,HBW.out _ (belowP hC7 hb9)⟩
       | true =>
        generalize H.own = bo at hOw HT3 HOw
        cases bo with
        | false =>
         go_wp2_with (first | (go_at_call 58;refine (hasAt_any _ _).mono ?_;rintro x w7 ⟨hx7,hb7⟩;rw [ha] at hx7;subst hx7) | (go_at_call 59;refine (hOw _ hb7).mono ?_;rintro x w8 ⟨rfl,hb8⟩) | (go_at_call 54;refine (noIf_any _ _).mono ?_;rintro e wn ⟨he,rfl⟩;replace he : e = _:=he;subst he))
         exact ⟨rfl,by rw [HT3.out];rfl,HBW.out _ (belowP (belowP hC hb7) hb8)⟩
        | true =>
         go_upto_region 9 with (first | (go_at_call 58;refine (hasAt_any _ _).mono ?_;rintro x w6 ⟨hx7,hb7⟩;rw [ha] at hx7;subst hx7) | (go_at_call 59;refine (hOw _ hb7).mono ?_;rintro x w7 ⟨rfl,hb8⟩) | (go_at_call 54;refine (noIf_any _ _).mono ?_;rintro e wn ⟨he,rfl⟩;replace he : e = _:=he;subst he))
         have hC7:=belowP (belowP hC hb7) hb8
         replace HT3 : Hid (askT H.e l = (if (H.e.typ.toList == [109,46,114,111,111,109,46,112,111,119,101,114,95,108,101,118,101,108,115]) && (H.e.key.toList == []) then H.changes else true)):=by show _ = _;rw [HT3.out];rfl
         clear ck cst hOw
         have hCh:=HCh.out w7 hC7
         have hV7:=HVX.out w7 hC7
         have ct:=hV7.typ
         have ck:=hV7.key
         have cst:=hV7.isSt
         clear hV7
         rw [h8] at cst
         cases h9 : (H.e.typ.toList == [109,46,114,111,111,109,46,112,111,119,101,114,95,108,101,118,101,108,115]) with
         | false =>
          go_wp2_with (go_at_call 50;refine (says_eq _ _).mono ?_;rintro e wn ⟨rfl,rfl⟩)
          exact ⟨rfl,by rw [HT3.out,h9];rfl,HBW.out _ hC7⟩
         | true =>
          cases h10 : (H.e.key.toList == []) with
          | false =>
           go_wp2_with (go_at_call 50;refine (says_eq _ _).mono ?_;rintro e wn ⟨rfl,rfl⟩)
           exact ⟨rfl,by rw [HT3.out,h9,h10];rfl,HBW.out _ hC7⟩
          | true =>
           go_wp2_with (go_at_call 60;refine hCh.mono ?_;rintro x w9 ⟨rfl,hb9⟩)
           exact ⟨rfl,by rw [HT3.out,h9,h10];rfl,HBW.out _ (belowP hC7 hb9)⟩
theorem judge_any {O : Nat → Prop} {w : World} {e : Ev} {p : Pt} {ps : Option Addr} {cs : Nat} {l : List Kn} (h : IsE O w e p) (hst : RdE O w ps cs l) (hO : ∀ b, O b → b < w.heap.size) (hz : SzE e) (hk : SzK l) (hT : Tabs w) :
    Calls Tryz.prog 11 #[valE e p,.slice ps l.length cs] w fun x w' => x = .returned (.int .i64 (judgeT e l)) ∧ Below w.heap.size w w':=by
 refine (judge_of (b:=askT e l) h hO hz hT fun X hX => ask_any (h.carry fun k hk => ⟨hk,hX.block k (hO k hk)⟩) (hst.carry fun k hk => ⟨hk,hX.block k (hO k hk)⟩) (fun k hk => Nat.lt_of_lt_of_le (hO k hk) hX.size) hz hk).mono fun x w' hh => ⟨?_,hh.2⟩
 rw [hh.1]
 unfold judgeT
 rfl
end Go.Proofs.YtldegjjaknelgaaGreatDoor
namespace Go.Proofs.YtldegjjaknelgaaGreatDoor
open Go.ChangeShapes Go.WideShapes Go.ChangeAt Go.RowKit
theorem cellsJ : Tryz.prog.cellsOf 25 = 5:=by kernel_rfl
theorem cellsS : Tryz.prog.cellsOf 9 = 1:=by kernel_rfl
theorem cellsI3 : Tryz.prog.cellsOf 3 = 1:=by kernel_rfl
theorem cellsI2 : Tryz.prog.cellsOf 2 = 1:=by kernel_rfl
theorem cellsKs : Tryz.prog.cellsOf 22 = 1:=by kernel_rfl
theorem cellsLs : Tryz.prog.cellsOf 23 = 1:=by kernel_rfl
theorem cell_lt {w : World} {a : Addr} {v : Value} (h : w.cell? a = some v) : a.block < w.heap.size:=by
 rcases Nat.lt_or_ge a.block w.heap.size with h' | h'
 · exact h'
 · simp [World.cell?,Array.getElem?_eq_none h'] at h
theorem cell_none {w : World} {b o : Nat} {sp : Option Nat} {v : Value} (h : w.cell? ⟨b,o,sp⟩ = some v) : sp = none:=by
 cases sp with
 | none => rfl
 | some x =>
  unfold World.cell? at h
  split at h <;> simp at h
theorem isJs_of {O : Nat → Prop} {w : World} {b o : Nat} (hO : O b) : ∀ (l : List J) (n : Nat),(∀ i,i < l.length → ∃ cs,(∀ m v,cs[m]? = some v → w.cell? ⟨b,o + (n + i) * 5 + m,none⟩ = some v) ∧ isJ O w (l.getD i J.zero) cs) → isJs O w (some ⟨b,o,none⟩) n l
 | [],_,_ => by unfold isJs;trivial
 | j :: r,n,h => by
  unfold isJs
  obtain ⟨cs,h1,h2⟩:=h 0 (by simp)
  refine ⟨⟨b,o,cs,rfl,hO,fun m v hv => ?_,h2⟩,isJs_of hO r (n + 1) fun i hi => ?_⟩
  · have:=h1 m v hv
    simpa using this
  · obtain ⟨cs,h1,h2⟩:=h (i + 1) (by simp;omega)
    refine ⟨cs,fun m v hv => ?_,h2⟩
    have:=h1 m v hv
    rwa [show n + (i + 1) = n + 1 + i by omega] at this
theorem pick_list {α : Type} {z : α} {P : Nat → α → Prop} : ∀ n,(∀ i,i < n → ∃ x,P i x) → ∃ l : List α,l.length = n ∧ ∀ i,i < n → P i (l.getD i z)
 | 0,_ => ⟨[],rfl,fun i hi => absurd hi (by omega)⟩
 | n + 1,h => by
  obtain ⟨l,hl,hp⟩:=pick_list (z:=z) n fun i hi => h i (by omega)
  obtain ⟨x,hx⟩:=h n (by omega)
  refine ⟨l ++ [x],by simp [hl],fun i hi => ?_⟩
  by_cases hin : i < n
  · have : (l ++ [x]).getD i z = l.getD i z := by
      rw [List.getD_eq_getElem?_getD,List.getD_eq_getElem?_getD,List.getElem?_append_left (by omega)]
    rw [this]
    exact hp i hin
  · obtain rfl : i = n:=by omega
    have : (l ++ [x]).getD i z = x:=by
     rw [List.getD_eq_getElem?_getD,List.getElem?_append_right (by omega),hl]
     simp
    rw [this]
    exact hx
theorem viewJ {H : Type} {enc : TypeId × Value → H} {W : World} : ∀ (fuel : Nat) (cs : List Value) (x : DataW H × List MemPlace),DataW.trod enc Tryz.prog W 0 (fun _ => true) true fuel 25 cs = some x → ∃ j,isJ (fun b => b < W.heap.size) W j cs
 | 0,cs,x,h => by
  obtain ⟨_,n,hf,_⟩:=DataW.trod_struct Tryz.underlying25 h
  omega
 | fuel + 1,cs,x,h => by
  obtain ⟨xs,n,hf,_,hl,hlen,hfs⟩:=DataW.trod_struct Tryz.underlying25 h
  obtain rfl : fuel = n:=by omega
  rw [cellsJ] at hl
  match cs,hl with
  | [c0,c1,c2,c3,c4],_ =>
   match xs,hlen with
   | [y0,y1,y2,y3,y4],_ =>
    have g0 : DataW.trod enc Tryz.prog W 0 (fun _ => true) true fuel 3 (([c0,c1,c2,c3,c4].drop 0).take (Tryz.prog.cellsOf 3)) = some y0:=hfs 0 _ rfl
    rw [cellsI3] at g0
    have f0 : DataW.trod enc Tryz.prog W 0 (fun _ => true) true fuel 3 [c0] = some y0:=g0
    have g1 : DataW.trod enc Tryz.prog W 0 (fun _ => true) true fuel 2 (([c0,c1,c2,c3,c4].drop 1).take (Tryz.prog.cellsOf 2)) = some y1:=hfs 1 _ rfl
    rw [cellsI2] at g1
    have f1 : DataW.trod enc Tryz.prog W 0 (fun _ => true) true fuel 2 [c1] = some y1:=g1
    have g2 : DataW.trod enc Tryz.prog W 0 (fun _ => true) true fuel 9 (([c0,c1,c2,c3,c4].drop 2).take (Tryz.prog.cellsOf 9)) = some y2:=hfs 2 _ rfl
    rw [cellsS] at g2
    have f2 : DataW.trod enc Tryz.prog W 0 (fun _ => true) true fuel 9 [c2] = some y2:=g2
    have g3 : DataW.trod enc Tryz.prog W 0 (fun _ => true) true fuel 22 (([c0,c1,c2,c3,c4].drop 3).take (Tryz.prog.cellsOf 22)) = some y3:=hfs 3 _ rfl
    rw [cellsKs] at g3
    have f3 : DataW.trod enc Tryz.prog W 0 (fun _ => true) true fuel 22 [c3] = some y3:=g3
    have g4 : DataW.trod enc Tryz.prog W 0 (fun _ => true) true fuel 23 (([c0,c1,c2,c3,c4].drop 4).take (Tryz.prog.cellsOf 23)) = some y4:=hfs 4 _ rfl
    rw [cellsLs] at g4
    have f4 : DataW.trod enc Tryz.prog W 0 (fun _ => true) true fuel 23 [c4] = some y4:=g4
    obtain ⟨k,e0,_,_⟩:=DataW.trod_int Tryz.underlying3 f0
    obtain ⟨i,e1,_,_⟩:=DataW.trod_int Tryz.underlying2 f1
    obtain ⟨t,e2,_,_⟩:=DataW.trod_string Tryz.underlying9 f2
    simp only [List.cons.injEq,and_true] at e0 e1 e2
    subst e0 e1 e2
    have hkeys : ∃ pk nk ck ks,c3 = .slice pk nk ck ∧ nk = ks.length ∧ RdK (fun b => b < W.heap.size) W pk ck ks:=by
     rcases open_strings Tryz.underlying22 Tryz.underlying9 cellsS f3 with ⟨e3,_⟩ | ⟨a,len,cap,ss,e3,_,hlc,_,hss,_,hcell,_⟩
     · simp only [List.cons.injEq,and_true] at e3
       exact ⟨none,0,0,[],e3,rfl,RdK.nil _ _⟩
     · simp only [List.cons.injEq,and_true] at e3
       simp only [if_true] at hss
       refine ⟨some a,len,cap,ss.take len,e3,by simp;omega,by simp;omega,fun j hj => ⟨a,rfl,?_,?_⟩⟩
       · have hj' : j < len:=by simp at hj;omega
         have:=cell_lt (hcell j (by omega))
         rwa [add_block] at this
       · have hj' : j < len:=by simp at hj;omega
         rw [hcell j (by omega)]
         congr 2
         rw [List.getD_eq_getElem?_getD,List.getD_eq_getElem?_getD,List.getElem?_take,if_pos hj',List.getElem?_eq_getElem (by omega)]
         rfl
    have hlist : ∃ pl nl cl l,c4 = .slice pl nl cl ∧ nl = l.length ∧ l.length ≤ cl ∧ isJs (fun b => b < W.heap.size) W pl 0 l:=by
     rcases DataW.trod_slice Tryz.underlying23 f4 with ⟨e4,_⟩ | ⟨a,len,cap,elems,rest,n',hn',e4,_,_,hlc,_,hel,hget,_,_⟩
     · simp only [List.cons.injEq,and_true] at e4
       exact ⟨none,0,0,[],e4,rfl,Nat.le_refl _,by unfold isJs;trivial⟩
     · simp only [List.cons.injEq,and_true] at e4
       rw [cellsJ] at hget
       cases len with
       | zero => exact ⟨some a,0,cap,[],e4,rfl,Nat.zero_le _,by unfold isJs;trivial⟩
       | succ len =>
        obtain ⟨b,o,sp⟩:=a
        have hone : ∀ i,i < len + 1 → ∃ cs,W.cells? 0 ((⟨b,o,sp⟩ : Addr).add (i * 5)) 5 = some cs ∧ ∃ y,DataW.trod enc Tryz.prog W 0 (fun _ => true) true n' 25 cs = some y:=fun i hi => by
         have h1:=hget i hi
         rw [List.getElem?_eq_getElem (by omega),Option.bind_eq_some_iff] at h1
         obtain ⟨cs,h2,h3⟩:=h1
         exact ⟨cs,h2,_,h3⟩
        have hsp : sp = none:=by
         obtain ⟨cs,h2,_⟩:=hone 0 (by omega)
         have h3:=(World.cells?_some h2).2.2 0 (by omega)
         have h4 : (((⟨b,o,sp⟩ : Addr).add (0 * 5)).add 0) = ⟨b,o,sp⟩:=by
          unfold Addr.add
          simp
         rw [h4] at h3
         have hlen5:=(World.cells?_some h2).2.1
         rw [List.getElem?_eq_getElem (by omega)] at h3
         exact cell_none h3
        subst hsp
        have hadd : ∀ m,(⟨b,o,none⟩ : Addr).add m = ⟨b,o + m,none⟩:=fun m => by unfold Addr.add;split <;> simp_all
        have hadd2 : ∀ m m',((⟨b,o + m,none⟩ : Addr)).add m' = ⟨b,o + m + m',none⟩:=fun m m' => by unfold Addr.add;split <;> simp_all
        have hb : b < W.heap.size:=by
         obtain ⟨cs,h2,_⟩:=hone 0 (by omega)
         have:=World.cells?_block h2 (by decide)
         rwa [hadd] at this
        obtain ⟨l,hl1,hl2⟩:=pick_list (z:=J.zero) (P:=fun i j => ∃ cs,(∀ m v,cs[m]? = some v → W.cell? ⟨b,o + (0 + i) * 5 + m,none⟩ = some v) ∧ isJ (fun b => b < W.heap.size) W j cs) (len + 1) fun i hi => by
         obtain ⟨cs,h2,y,h3⟩:=hone i hi
         obtain ⟨j,hj⟩:=viewJ n' cs y h3
         refine ⟨j,cs,fun m v hv => ?_,hj⟩
         have h5:=(World.cells?_some h2).2.2
         have hlen5:=(World.cells?_some h2).2.1
         have hm : m < 5:=by
          have:=(List.getElem?_eq_some_iff.1 hv).1
          omega
         have h6:=h5 m hm
         rw [hadd,hadd2,hv] at h6
         rw [show o + (0 + i) * 5 + m = o + i * 5 + m by omega]
         exact h6
        exact ⟨some ⟨b,o,none⟩,len + 1,cap,l,e4,hl1.symm,by omega,isJs_of (O:=fun b => b < W.heap.size) hb l 0 fun i hi => hl2 i (by omega)⟩
    obtain ⟨pk,nk,ck,ks,rfl,rfl,hk⟩:=hkeys
    obtain ⟨pl,nl,cl,l,rfl,rfl,hlc,hll⟩:=hlist
    exact ⟨.mk k i t ks l,by unfold isJ;exact ⟨pk,ck,pl,cl,rfl,hk,hlc,hll⟩⟩
end Go.Proofs.YtldegjjaknelgaaGreatDoor

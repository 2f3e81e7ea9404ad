/-
  WindowSends, walked.
-/
import Derived.Test.YtnhgjgoldcplnaaDG04
set_option maxRecDepth 100000
set_option maxHeartbeats 16000000
namespace Go.Proofs.Ytnhgjgoldcplnaa
open Go.RowKit Go.Maps
theorem refWide_any (n : Int) (w : World) : Calls Try.prog 11 #[.int .i64 n] w fun e w' => e = .returned (.bool (wideT n)) ∧ w' = w := by
 unfold wideT
 by_cases h : 1 ≤ n
 · by_cases h2 : n ≤ 64
   · go_enter Try.func11, Try.ntmps11
     go_wp2
     go_ret
     exact ⟨by simp [h, h2], rfl⟩
   · go_enter Try.func11, Try.ntmps11
     go_wp2
     go_ret
     exact ⟨by simp [h2], rfl⟩
 · have h' : ¬ (1 ≤ n) := h
   go_enter Try.func11, Try.ntmps11
   go_wp2
   go_ret
   exact ⟨by simp; omega, rfl⟩
theorem sends_any {D : Nat → Prop} {w : World} {v : Value} {l : List Dd} (W Q : Int) (h : Sl ED (· < w.heap.size) D w v l) (hl : l.length ≤ 9223372036854775807) (hs : ∀ x ∈ l, x.data.size ≤ 9223372036854775807) :
    Calls Try.prog 3 #[.int .i64 W, .int .i64 Q, v] w fun e w' => e = .returned (.bool true) ∧ Below w.heap.size w w' := by
 have hfw := few_any h hl hs
 obtain ⟨p, c, rfl, hlc, hk⟩ := h.deeds
 cases hf : fewT l with
 | false =>
  rw [hf] at hfw
  clear hk h hf hlc
  generalize l.length = n at *
  go_enter Try.func3, Try.ntmps3
  go_wp2_with (go_at_call 9; refine hfw.mono ?_; rintro e w' ⟨rfl, rfl⟩)
  go_ret
  exact ⟨rfl, Below.refl _ _⟩
 | true =>
  have hf2 := hf
  unfold fewT at hf2
  rw [Bool.and_eq_true] at hf2
  have hn2 := of_decide_eq_true hf2.1
  have HK : Hid (∀ j, j < l.length → ∃ (b o : Nat) (x : Dd), p = some ⟨b, o, none⟩ ∧ b < w.heap.size ∧ w.cell? ⟨b, o + j * 3, none⟩ = some (.int .i64 x.kind) ∧ w.cell? ⟨b, o + j * 3 + 1, none⟩ = some (.int .i64 x.n) ∧ w.cell? ⟨b, o + j * 3 + 2, none⟩ = some (.string x.data) ∧ x.data.size ≤ 500) := fun j hj => by
   obtain ⟨b, o, h1, h2, h3, h4, h5⟩ := hk j hj
   refine ⟨b, o, l.getD j noDd, h1, h2, h3, h4, h5, of_decide_eq_true (List.all_eq_true.1 hf2.2 _ ?_)⟩
   rw [List.getD_eq_getElem?_getD, List.getElem?_eq_getElem hj]
   exact List.getElem_mem _
  have hns := newSender_any W Q
  unfold NewSP at hns
  rw [hf] at hfw
  clear hk h hf hf2 hs hl
  generalize l.length = n at *
  cases hok : okS W Q with
  | false =>
   rw [hok] at hns
   simp only [Bool.false_eq_true, if_false] at hns
   have hrw := refWide_any W w
   have haw := awake_any w
   have hk3 := hok
   unfold okS at hk3
   clear hok
   cases hwd : wideT W with
   | false =>
    rw [hwd] at hrw
    clear hk3
    go_enter Try.func3, Try.ntmps3
    go_wp2_with (first
     | (go_at_call 9; refine hfw.mono ?_; rintro e w2 ⟨rfl, rfl⟩)
     | (go_at_call 10; refine (hns _).mono ?_; rintro e w2 ⟨rfl, rfl⟩)
     | (go_at_call 11; refine hrw.mono ?_; rintro e w2 ⟨rfl, rfl⟩)
     | (go_at_call 12; refine haw.mono ?_; rintro e w3 ⟨rfl, hb3⟩))
    go_ret
    exact ⟨rfl, hb3⟩
   | true =>
    rw [hwd] at hrw hk3
    rw [Bool.true_and] at hk3
    by_cases hq0 : 0 ≤ Q
    · have hq1 : ¬ (Q ≤ 4096) := by intro h; rw [decide_eq_true hq0, decide_eq_true h] at hk3; cases hk3
      clear hk3
      have e1 : decide (0 ≤ Q) = true := decide_eq_true hq0
      have e2 : decide (Q ≤ 4096) = false := decide_eq_false hq1
      go_enter Try.func3, Try.ntmps3
      go_wp2_with (first
       | (go_at_call 9; refine hfw.mono ?_; rintro e w2 ⟨rfl, rfl⟩)
       | (go_at_call 10; refine (hns _).mono ?_; rintro e w2 ⟨rfl, rfl⟩)
       | (go_at_call 11; refine hrw.mono ?_; rintro e w2 ⟨rfl, rfl⟩)
       | (go_at_call 12; refine haw.mono ?_; rintro e w3 ⟨rfl, hb3⟩))
      go_ret
      exact ⟨rfl, hb3⟩
    · have e1 : decide (0 ≤ Q) = false := decide_eq_false hq0
      clear hk3
      go_enter Try.func3, Try.ntmps3
      go_wp2_with (first
       | (go_at_call 9; refine hfw.mono ?_; rintro e w2 ⟨rfl, rfl⟩)
       | (go_at_call 10; refine (hns _).mono ?_; rintro e w2 ⟨rfl, rfl⟩)
       | (go_at_call 11; refine hrw.mono ?_; rintro e w2 ⟨rfl, rfl⟩)
       | (go_at_call 12; refine haw.mono ?_; rintro e w3 ⟨rfl, hb3⟩))
      go_ret
      exact ⟨rfl, hb3⟩
  | true =>
   rw [hok] at hns
   simp only [if_true] at hns
   have hrw := fun X => refWide_any W X
   have hk3 := hok
   unfold okS at hk3
   rw [Bool.and_eq_true, Bool.and_eq_true] at hk3
   have e0 := hk3.1
   have e1 : decide (0 ≤ Q) = true := hk3.2.1
   have e2 : decide (Q ≤ 4096) = true := hk3.2.2
   have hq0 := of_decide_eq_true e1
   have hq1 := of_decide_eq_true e2
   have HOK : Hid (okS W Q = true) := hok
   rw [e0] at hrw
   clear hk3 hok
   go_enter Try.func3, Try.ntmps3
   go_upto_region 3 with (go_at_call 9; refine hfw.mono ?_; rintro e w' ⟨rfl, rfl⟩)
   go_upto_region 4 with (go_at_call 10; refine (hns _).mono ?_; rintro e w1 ⟨rfl, hw1⟩)
   have hp1 : PS 1 (paint (fun _ => 99) w' (some w'.heap.size) 1) w1 w'.heap.size W Q [] 0 := by rw [hw1]; exact PS.new HOK.out
   have he1 : Ev S7 (fun _ => 99) w' (paint (fun _ => 99) w' (some w'.heap.size) 1) w1 := by rw [hw1]; exact Ev.paint (Keep.of_below ((Below.refl _ _).alloc (Nat.le_refl _) _)) _ _
   have HP1 : Hid (PS 1 (paint (fun _ => 99) w' (some w'.heap.size) 1) w1 w'.heap.size W Q [] 0) := hp1
   have HE1 : Hid (Ev S7 (fun _ => 99) w' (paint (fun _ => 99) w' (some w'.heap.size) 1) w1) := he1
   generalize paint (fun _ => 99) w' (some w'.heap.size) 1 = c1 at *
   try rw [← hw1]
   clear hns hw1 hp1 he1 hfw
   obtain ⟨sb, hsb⟩ : ∃ sb, w'.heap.size = sb := ⟨_, rfl⟩
   have HP1' : Hid (PS 1 c1 w1 sb W Q [] 0) := by rw [← hsb]; exact HP1.out
   clear HP1
   try rw [hsb]
   clear hsb
   go_upto_region 10 with (go_at_call 11; refine (hrw _).mono ?_; rintro e w2 ⟨rfl, rfl⟩)
   have hr2 : RS 2 (paint c1 w2 (some w2.heap.size) 2) (w2.alloc (.cells #[.int .i64 W, .int .i64 Q, .slice none 0 0, .int .i64 0] 33)) w2.heap.size W Q [] 0 := RS.new HOK.out
   have he2 : Ev (fun _ => False) c1 w2 (paint c1 w2 (some w2.heap.size) 2) (w2.alloc (.cells #[.int .i64 W, .int .i64 Q, .slice none 0 0, .int .i64 0] 33)) := Ev.paint (Keep.of_below ((Below.refl _ _).alloc (Nat.le_refl _) _)) _ _
   have HS3 : Hid (PS 1 (paint c1 w2 (some w2.heap.size) 2) (w2.alloc (.cells #[.int .i64 W, .int .i64 Q, .slice none 0 0, .int .i64 0] 33)) sb W Q [] 0) := HP1'.out.ev he2 (fun h => h) fun h => h
   have HE3 : Hid (Ev S7 (fun _ => 99) w' (paint c1 w2 (some w2.heap.size) 2) (w2.alloc (.cells #[.int .i64 W, .int .i64 Q, .slice none 0 0, .int .i64 0] 33))) := HE1.out.trans he2 fun _ h => h.elim
   have HR3 : Hid (RS 2 (paint c1 w2 (some w2.heap.size) 2) (w2.alloc (.cells #[.int .i64 W, .int .i64 Q, .slice none 0 0, .int .i64 0] 33)) w2.heap.size W Q [] 0) := hr2
   generalize paint c1 w2 (some w2.heap.size) 2 = c3 at *
   generalize w2.alloc (.cells #[.int .i64 W, .int .i64 Q, .slice none 0 0, .int .i64 0] 33) = w3 at *
   clear hr2 he2 HE1 HP1'
   obtain ⟨rb, hrb⟩ : ∃ rb, w2.heap.size = rb := ⟨_, rfl⟩
   rw [hrb] at HR3
   rw [hrb]
   clear hrb
   go_loopw [10] (fun iv wr => ∃ (k : Nat) (c1 : Nat → Nat) (L : List (List Int)) (d : Nat), k ≤ n ∧ iv = .int .i64 (k : Int) ∧ Hid (PS 1 c1 wr sb W Q L d) ∧ Hid (RS 2 c1 wr rb W Q L d) ∧ Hid (L.length ≤ k ∧ ∀ x ∈ L, x.length ≤ 500) ∧ Hid (Ev S7 (fun _ => 99) w' c1 wr)) (fun iv _ => n - (intOf iv).toNat)
   case atStart => exact ⟨0, c3, [], 0, Nat.zero_le _, rfl, HS3.out, HR3.out, ⟨Nat.le_refl _, fun x h => by cases h⟩, HE3.out⟩
   case round =>
    obtain ⟨k, c1, L, d, hk, rfl, HSS, HRR, HLN0, HE⟩ := hrel
    obtain ⟨wy, rfl⟩ : ∃ z : World, z = wr := ⟨_, rfl⟩
    by_cases hkn : k < n
    · obtain ⟨db, do_, x, rfl, hdb, hd0, hd1, hd2, hdx⟩ := HK.out k hkn
      obtain ⟨kd, nn, sx⟩ := x
      simp only at hd0 hd1 hd2 hdx
      have HCC : Hid (∀ (c : Nat → Nat) (X : World), Ev S7 (fun _ => 99) w' c X → X.cell? ⟨db, do_ + k * 3 + 2, none⟩ = some (.string sx)) := fun c X h => (World.cell?_of_block (a := ⟨db, do_ + k * 3 + 2, none⟩) ((ev_below h (by unfold S7; omega)).block db hdb)).trans hd2
      have HCD : Hid (∀ (c : Nat → Nat) (X : World), Ev S7 (fun _ => 99) w' c X → X.cell? ⟨db, do_ + k * 3 + 1, none⟩ = some (.int .i64 nn)) := fun c X h => (World.cell?_of_block (a := ⟨db, do_ + k * 3 + 1, none⟩) ((ev_below h (by unfold S7; omega)).block db hdb)).trans hd1
      have y0 : wy.cell? ⟨db, do_ + k * 3, none⟩ = _ := (World.cell?_of_block (a := ⟨db, do_ + k * 3, none⟩) ((ev_below HE.out (by unfold S7; omega)).block db hdb)).trans hd0
      have hl200 := HLN0.out.1
      clear hd0 hd1 hd2
      by_cases hk0 : kd = 0
      · subst hk0
        obtain ⟨ml, hml⟩ : ∃ ml, sx.size = ml := ⟨_, rfl⟩
        have HML : Hid (sx.size = ml) := hml
        have hsx : sx.size ≤ 1000000 := by omega
        rw [hml] at hdx
        obtain ⟨ec, hec⟩ : ∃ ec, pushE W Q L d (ints sx) = ec := ⟨_, rfl⟩
        have HPE : Hid (pushE W Q L d (ints sx) = ec) := hec
        obtain ⟨L2, hL2⟩ : ∃ L2, pushL W Q L d (ints sx) = L2 := ⟨_, rfl⟩
        have HPL : Hid (pushL W Q L d (ints sx) = L2) := hL2
        have HLN : Hid (L2.length ≤ k + 1 ∧ ∀ x ∈ L2, x.length ≤ 500) := by
         rw [← hL2]
         show _ ∧ _
         unfold pushL
         split
         · refine ⟨by rw [List.length_append]; simp; omega, fun y hy => ?_⟩
           rcases List.mem_append.1 hy with h | h
           · exact HLN0.out.2 y h
           · rw [List.mem_singleton.1 h, ints_length]; omega
         · exact ⟨by omega, HLN0.out.2⟩
        clear hml hec hL2
        go_upto_region 14 with fail
        have HS1 : Hid (PS 1 c1 wy.drew sb W Q L d) := HSS.out.ev (Ev.drewN (fun _ => False) c1 wy 1) (fun h => h) fun h => h
        have HR1 : Hid (RS 2 c1 wy.drew rb W Q L d) := HRR.out.ev (Ev.drewN (fun _ => False) c1 wy 1) (fun h => h) fun h => h
        have HE1 : Hid (Ev S7 (fun _ => 99) w' c1 wy.drew) := HE.out.trans (Ev.drewN (fun _ => False) c1 wy 1) fun _ h => h.elim
        have hC1 := HCC.out c1 wy.drew HE1.out
        refine wp_region_J 99 (fun X => X.cell? ⟨db, do_ + k * 3 + 2, none⟩ = some (.string sx)) ?_
        change wpJ _ _ _ _ _ _ _ _ _ (World.drew _)
        generalize hw1 : wy.drew = W1 at *
        clear hw1
        refine wpJ_q (i := 0) (d := some 64) (v := .pointer (some ⟨sb, 0, none⟩)) rfl ?_
        refine wpJ_q (i := 1) (d := some 65) (v := .slice (some ⟨db, do_, none⟩) n c) rfl ?_
        refine wpJ_q (i := 2) (d := some 66) (v := .int .i64 (k : Int)) rfl ?_
        refine wpJ_q (i := 3) (d := some 67) (v := .pointer (some ⟨db, do_ + k * 3, none⟩)) rfl ?_
        refine wpJ_q (i := 4) (d := some 68) (v := .pointer (some ⟨db, do_ + k * 3 + 2, none⟩)) rfl ?_
        refine wpJ_r (i := 5) (d := some 69) (v := .string sx) rfl (by intro wq hq; have g := hq; go_simp; first | done | with_reducible rfl) ?_
        refine wpJ_q (i := 8) (d := some 72) (v := .pointer (some ⟨rb, 0, none⟩)) rfl ?_
        refine wpJ_q (i := 9) (d := some 73) (v := .slice (some ⟨db, do_, none⟩) n c) rfl ?_
        refine wpJ_q (i := 10) (d := some 74) (v := .int .i64 (k : Int)) rfl ?_
        refine wpJ_q (i := 11) (d := some 75) (v := .pointer (some ⟨db, do_ + k * 3, none⟩)) rfl ?_
        refine wpJ_q (i := 12) (d := some 76) (v := .pointer (some ⟨db, do_ + k * 3 + 2, none⟩)) rfl ?_
        refine wpJ_r (i := 13) (d := some 77) (v := .string sx) rfl (by intro wq hq; have g := hq; go_simp; first | done | with_reducible rfl) ?_
        refine wpJ_two (i := 6) (j := 14) (fun _ => hC1) (by kernel_rfl) rfl rfl (by rfl) (by rfl) ?_ ?_
        · intro K6 hK6
          obtain ⟨qa, ka, W2, hrun, hb, hv⟩ := conv_text W1 sx hsx
          have he : Ev (fun _ => False) c1 W1 (paint c1 W1 none 0) W2 := Ev.paint (Keep.of_below hb) _ _
          have HS2 : Hid (PS 1 (paint c1 W1 none 0) W2 sb W Q L d) := HS1.out.ev he (fun h => h) fun h => h
          have HR2 : Hid (RS 2 (paint c1 W1 none 0) W2 rb W Q L d) := HR1.out.ev he (fun h => h) fun h => h
          have HE2 : Hid (Ev S7 (fun _ => 99) w' (paint c1 W1 none 0) W2) := HE1.out.trans he fun _ h => h.elim
          have HVa2 : Hid (Vw EU (paint c1 W1 none 0) W2 (.slice qa ml ka) (ints sx)) := by
           have := (hv (New W1 W2)).carry (O' := Cl (paint c1 W1 none 0) 0 W2) (D' := Cl (paint c1 W1 none 0) 0 W2) (Same.refl _ _) (Same.refl _ _) (fun k hk => ⟨paint_none k hk, hk.2⟩) fun k hk => ⟨paint_none k hk, hk.2⟩
           rw [HML.out] at this
           exact this
          have hC2 := HCC.out (paint c1 W1 none 0) W2 HE2.out
          rw [HML.out] at hrun
          go_simp
          refine hK6 _ _ ?_
          clear hrun hv hb he
          generalize (paint c1 W1 none 0) = c2 at *
          refine wpJ_two (i := 7) (j := 14) (fun _ => hC2) (by kernel_rfl) rfl rfl (by rfl) (by rfl) ?_ ?_
          · intro K7 hK7
            have hpu := push_any HS2.out (by decide) (by omega) HVa2.out (by rw [ints_length, HML.out]; omega)
            rw [HPE.out, HPL.out] at hpu
            go_simp
            go_wp2_with (go_at_call 13; refine hpu.mono ?_; rintro e W3 ⟨rfl, c3, he, hps⟩)
            have HS3 : Hid (PS 1 c3 W3 sb W Q L2 d) := hps
            have HR3 : Hid (RS 2 c3 W3 rb W Q L d) := HR2.out.ev he (by decide) (by decide)
            have HE3 : Hid (Ev S7 (fun _ => 99) w' c3 W3) := HE2.out.trans he fun i hi => by rw [hi]; exact ⟨by decide, by decide⟩
            have HVa3 : Hid (Vw EU c3 W3 (.slice qa ml ka) (ints sx)) := Vw.ev HVa2.out he (by decide)
            have hC3 := HCC.out c3 W3 HE3.out
            clear hpu he hps
            refine wpJ_do (i := 14) (fun _ => hC3) (by kernel_rfl) rfl (by rfl) ?_
            intro K14 hK14
            obtain ⟨qb, kb, W4, hrun, hb, hv⟩ := conv_text W3 sx hsx
            have he : Ev (fun _ => False) c3 W3 (paint c3 W3 none 0) W4 := Ev.paint (Keep.of_below hb) _ _
            have HS4 : Hid (PS 1 (paint c3 W3 none 0) W4 sb W Q L2 d) := HS3.out.ev he (fun h => h) fun h => h
            have HR4 : Hid (RS 2 (paint c3 W3 none 0) W4 rb W Q L d) := HR3.out.ev he (fun h => h) fun h => h
            have HE4 : Hid (Ev S7 (fun _ => 99) w' (paint c3 W3 none 0) W4) := HE3.out.trans he fun _ h => h.elim
            have HVb4 : Hid (Vw EU (paint c3 W3 none 0) W4 (.slice qb ml kb) (ints sx)) := by
             have := (hv (New W3 W4)).carry (O' := Cl (paint c3 W3 none 0) 0 W4) (D' := Cl (paint c3 W3 none 0) 0 W4) (Same.refl _ _) (Same.refl _ _) (fun k hk => ⟨paint_none k hk, hk.2⟩) fun k hk => ⟨paint_none k hk, hk.2⟩
             rw [HML.out] at this
             exact this
            have HVa4 : Hid (Vw EU (paint c3 W3 none 0) W4 (.slice qa ml ka) (ints sx)) := Vw.ev HVa3.out he fun h => h
            have hC4 := HCC.out (paint c3 W3 none 0) W4 HE4.out
            rw [HML.out] at hrun
            go_simp
            refine hK14 _ _ ?_
            clear hrun hv hb he
            generalize (paint c3 W3 none 0) = c4 at *
            refine wpJ_do (i := 15) (fun _ => hC4) (by kernel_rfl) rfl (by rfl) ?_
            intro K15 hK15
            have hpu := rpush_any HR4.out (by decide) (by omega) HVb4.out (by rw [ints_length, HML.out]; omega)
            rw [HPE.out, HPL.out] at hpu
            go_simp
            go_wp2_with (go_at_call 14; refine hpu.mono ?_; rintro e W5 ⟨rfl, c5, he, hps⟩)
            have HS5 : Hid (PS 1 c5 W5 sb W Q L2 d) := HS4.out.ev he (by decide) (by decide)
            have HR5 : Hid (RS 2 c5 W5 rb W Q L2 d) := hps
            have HE5 : Hid (Ev S7 (fun _ => 99) w' c5 W5) := HE4.out.trans he fun i hi => by rw [hi]; exact ⟨by decide, by decide⟩
            have hC5 := HCC.out c5 W5 HE5.out
            clear hpu he hps
            refine wpJ_q (i := 16) (d := some 80) (v := .bool false) rfl ?_
            refine wpJ_done (fun _ => hC5) (by kernel_rfl) ?_ _
            obtain ⟨V0, hV0⟩ : ∃ V0, V0 = W5 := ⟨_, rfl⟩
            obtain ⟨LV, hLV⟩ : ∃ LV, LV = L2 := ⟨_, rfl⟩
            obtain ⟨dv, hdv⟩ : ∃ dv, dv = d := ⟨_, rfl⟩
            have HS20 : Hid (PS 1 c5 V0 sb W Q LV dv) := by rw [hV0, hLV, hdv]; exact HS5.out
            have HR20 : Hid (RS 2 c5 V0 rb W Q LV dv) := by rw [hV0, hLV, hdv]; exact HR5.out
            have HE20 : Hid (Ev S7 (fun _ => 99) w' c5 V0) := by rw [hV0]; exact HE5.out
            have HLL : Hid (LV.length ≤ k + 1 ∧ ∀ x ∈ LV, x.length ≤ 500) := by rw [hLV]; exact HLN.out
            try rw [← hV0]
            clear hV0 hLV hdv
            obtain ⟨c20, hc20⟩ : ∃ c20, c20 = c5 := ⟨_, rfl⟩
            rw [← hc20] at HS20 HR20 HE20
            clear hc20
            try go_upto_region 19 with fail
            have HS21 : Hid (PS 1 c20 V0.drew sb W Q LV dv) := HS20.out.ev (Ev.drewN (fun _ => False) c20 V0 1) (fun h => h) fun h => h
            have HR21 : Hid (RS 2 c20 V0.drew rb W Q LV dv) := HR20.out.ev (Ev.drewN (fun _ => False) c20 V0 1) (fun h => h) fun h => h
            have HE21 : Hid (Ev S7 (fun _ => 99) w' c20 V0.drew) := HE20.out.trans (Ev.drewN (fun _ => False) c20 V0 1) fun _ h => h.elim
            obtain ⟨qv, kv, r1, -, -⟩ := HR21.out.view
            obtain ⟨ll, hll⟩ : ∃ ll, LV.length = ll := ⟨_, rfl⟩
            have HLV : Hid (LV.length = ll) := hll
            obtain ⟨ud, hud⟩ : ∃ ud, undT W LV dv = ud := ⟨_, rfl⟩
            have HUD : Hid (undT W LV dv = ud) := hud
            rw [hll] at r1
            have hdl := HR21.out.le
            rw [hll] at hdl
            have hll2 : ll ≤ 201 := by have := HLL.out.1; omega
            have hC21 := r1
            clear r1 hll hud
            have hlds : IntKind.i64.wrap ((ll : Int) - (dv : Int)) = ((ll - dv : Nat) : Int) := by rw [IntWalk.i64_in _ (by omega)]; omega
            refine wp_region_J 99 (fun X => X.heap[rb]? = some (.cells #[.int .i64 W, .int .i64 Q, .slice qv ll kv, .int .i64 (dv : Int)] 33)) ?_
            change wpJ _ _ _ _ _ _ _ _ _ (World.drew _)
            generalize hw1 : V0.drew = V1 at *
            clear hw1
            refine wpJ_q (i := 0) (d := some 98) (v := .pointer (some ⟨sb, 0, none⟩)) rfl ?_
            refine wpJ_q (i := 2) (d := some 100) (v := .pointer (some ⟨rb, 0, none⟩)) rfl ?_
            refine wpJ_do (i := 1) (fun _ => hC21) (by kernel_rfl) rfl (by rfl) ?_
            intro K1 hK1
            have hou := out_any HS21.out (fun x hx => by have := HLL.out.2 x hx; omega)
            rw [HUD.out] at hou
            go_simp
            go_wp2_with (go_at_call 18; refine hou.mono ?_; rintro e V2 ⟨hb, vo, rfl, hvo⟩)
            have he : Ev (fun _ => False) c20 V1 (paint c20 V1 none 0) V2 := Ev.paint (Keep.of_below hb) _ _
            have HS22 : Hid (PS 1 (paint c20 V1 none 0) V2 sb W Q LV dv) := HS21.out.ev he (fun h => h) fun h => h
            have HR22 : Hid (RS 2 (paint c20 V1 none 0) V2 rb W Q LV dv) := HR21.out.ev he (fun h => h) fun h => h
            have HE22 : Hid (Ev S7 (fun _ => 99) w' (paint c20 V1 none 0) V2) := HE21.out.trans he fun _ h => h.elim
            obtain ⟨po, co, hpo⟩ := hvo.lenv
            rw [outK_len] at hpo
            subst hpo
            have HVO2 : Hid (Vw EP (paint c20 V1 none 0) V2 (.slice po ud co) (outK LV dv ud)) := hvo
            have hC22 := (hb.block rb (obj_lt hC21)).trans hC21
            clear hou hb hvo he
            generalize paint c20 V1 none 0 = c22 at *
            refine wpJ_do (i := 3) (fun _ => hC22) (by kernel_rfl) rfl (by rfl) ?_
            intro K3 hK3
            have hou := rout_any HR22.out (fun x hx => by have := HLL.out.2 x hx; omega)
            rw [HUD.out] at hou
            go_simp
            go_wp2_with (go_at_call 19; refine hou.mono ?_; rintro e V3 ⟨hb, vo, rfl, hvo⟩)
            have he : Ev (fun _ => False) c22 V2 (paint c22 V2 none 0) V3 := Ev.paint (Keep.of_below hb) _ _
            have HS23 : Hid (PS 1 (paint c22 V2 none 0) V3 sb W Q LV dv) := HS22.out.ev he (fun h => h) fun h => h
            have HR23 : Hid (RS 2 (paint c22 V2 none 0) V3 rb W Q LV dv) := HR22.out.ev he (fun h => h) fun h => h
            have HE23 : Hid (Ev S7 (fun _ => 99) w' (paint c22 V2 none 0) V3) := HE22.out.trans he fun _ h => h.elim
            have HVO3 : Hid (Vw EP (paint c22 V2 none 0) V3 (.slice po ud co) (outK LV dv ud)) := Vw.ev HVO2.out he fun h => h
            obtain ⟨pr, cr2, hpr⟩ := hvo.lenv
            rw [outK_len] at hpr
            subst hpr
            have HVR3 : Hid (Vw EP (paint c22 V2 none 0) V3 (.slice pr ud cr2) (outK LV dv ud)) := hvo
            have hC23 := (hb.block rb (obj_lt hC22)).trans hC22
            clear hou hb hvo he
            generalize paint c22 V2 none 0 = c23 at *
            refine wpJ_do (i := 4) (fun _ => hC23) (by kernel_rfl) rfl (by rfl) ?_
            intro K4 hK4
            have hpi := pieces_same HVO3.out HVR3.out (by rw [outK_len]; have := und_le W LV dv; have := HUD.out; have := HLV.out; omega)
            go_simp
            go_wp2_with (go_at_call 17; refine hpi.mono ?_; rintro e V4 ⟨rfl, m4, hV4⟩)
            have HS24 : Hid (PS 1 c23 V4 sb W Q LV dv) := by rw [hV4]; exact HS23.out.ev (Ev.drewN (fun _ => False) c23 V3 m4) (fun h => h) fun h => h
            have HR24 : Hid (RS 2 c23 V4 rb W Q LV dv) := by rw [hV4]; exact HR23.out.ev (Ev.drewN (fun _ => False) c23 V3 m4) (fun h => h) fun h => h
            have HE24 : Hid (Ev S7 (fun _ => 99) w' c23 V4) := by rw [hV4]; exact HE23.out.trans (Ev.drewN (fun _ => False) c23 V3 m4) fun _ h => h.elim
            have hC24 : V4.heap[rb]? = some (.cells #[.int .i64 W, .int .i64 Q, .slice qv ll kv, .int .i64 (dv : Int)] 33) := by rw [hV4]; exact hC23
            try rw [← hV4]
            clear hpi hV4
            refine wpJ_q (i := 5) (d := some 103) (v := .bool false) rfl ?_
            refine wpJ_q (i := 6) (d := some 104) (v := .bool false) rfl ?_
            refine wpJ_q (i := 7) (d := some 105) (v := .pointer (some ⟨sb, 0, none⟩)) rfl ?_
            refine wpJ_q (i := 9) (d := some 107) (v := .pointer (some ⟨rb, 0, none⟩)) rfl ?_
            refine wpJ_q (i := 10) (d := some 108) (v := .pointer (some ⟨rb, 0, none⟩)) rfl ?_
            refine wpJ_q (i := 11) (d := some 109) (v := .pointer (some ⟨rb, 3, none⟩)) rfl ?_
            refine wpJ_r (i := 12) (d := some 110) (v := .int .i64 (dv : Int)) rfl (by intro wq hq; have g := cell_row (cur := [_, _, _, _]) hq 3 _ rfl; go_simp; first | done | with_reducible rfl) ?_
            refine wpJ_do (i := 8) (fun _ => hC24) (by kernel_rfl) rfl (by rfl) ?_
            intro K8 hK8
            have hba := base_any HS24.out
            go_simp
            go_wp2_with (go_at_call 20; refine hba.mono ?_; rintro e V5 ⟨rfl, rfl⟩)
            clear hba
            refine wpJ_q (i := 13) (d := some 111) (v := .bool false) rfl ?_
            refine wpJ_q (i := 14) (d := some 112) (v := .bool false) rfl ?_
            refine wpJ_q (i := 15) (d := some 113) (v := .bool false) rfl ?_
            refine wpJ_q (i := 16) (d := some 114) (v := .pointer (some ⟨sb, 0, none⟩)) rfl ?_
            refine wpJ_q (i := 18) (d := some 116) (v := .pointer (some ⟨rb, 0, none⟩)) rfl ?_
            refine wpJ_q (i := 19) (d := some 117) (v := .pointer (some ⟨rb, 0, none⟩)) rfl ?_
            refine wpJ_q (i := 20) (d := some 118) (v := .pointer (some ⟨rb, 2, none⟩)) rfl ?_
            refine wpJ_r (i := 21) (d := some 119) (v := .slice qv ll kv) rfl (by intro wq hq; have g := cell_row (cur := [_, _, _, _]) hq 2 _ rfl; go_simp; first | done | with_reducible rfl) ?_
            refine wpJ_q (i := 22) (d := some 120) (v := .int .i64 (ll : Int)) rfl ?_
            refine wpJ_q (i := 23) (d := some 121) (v := .pointer (some ⟨rb, 0, none⟩)) rfl ?_
            refine wpJ_q (i := 24) (d := some 122) (v := .pointer (some ⟨rb, 0, none⟩)) rfl ?_
            refine wpJ_q (i := 25) (d := some 123) (v := .pointer (some ⟨rb, 3, none⟩)) rfl ?_
            refine wpJ_r (i := 26) (d := some 124) (v := .int .i64 (dv : Int)) rfl (by intro wq hq; have g := cell_row (cur := [_, _, _, _]) hq 3 _ rfl; go_simp; first | done | with_reducible rfl) ?_
            refine wpJ_r (i := 27) (d := some 125) (v := .int .i64 ((ll - dv : Nat) : Int)) rfl (by intro wq hq; have g := hlds; go_simp; first | done | with_reducible rfl) ?_
            refine wpJ_do (i := 17) (fun _ => hC24) (by kernel_rfl) rfl (by rfl) ?_
            intro K17 hK17
            have hle := left_any HS24.out
            rw [HLV.out] at hle
            go_simp
            go_wp2_with (go_at_call 21; refine hle.mono ?_; rintro e V6 ⟨rfl, rfl⟩)
            clear hle
            refine wpJ_q (i := 28) (d := some 126) (v := .bool false) rfl ?_
            refine wpJ_q (i := 29) (d := some 127) (v := .bool false) rfl ?_
            refine wpJ_done (fun _ => hC24) (by kernel_rfl) ?_ _
            go_wp2
            go_roundw
            case rel => exact ⟨k + 1, c23, LV, dv, by omega, by go_num, HS24.out, HR24.out, HLL.out, HE24.out⟩
            case measure => simp [intOf]; omega
          · intro K14 hK14
            obtain ⟨qb, kb, W3, hrun, hb, hv⟩ := conv_text W2 sx hsx
            have he : Ev (fun _ => False) c2 W2 (paint c2 W2 none 0) W3 := Ev.paint (Keep.of_below hb) _ _
            have HS3 : Hid (PS 1 (paint c2 W2 none 0) W3 sb W Q L d) := HS2.out.ev he (fun h => h) fun h => h
            have HR3 : Hid (RS 2 (paint c2 W2 none 0) W3 rb W Q L d) := HR2.out.ev he (fun h => h) fun h => h
            have HE3 : Hid (Ev S7 (fun _ => 99) w' (paint c2 W2 none 0) W3) := HE2.out.trans he fun _ h => h.elim
            have HVb3 : Hid (Vw EU (paint c2 W2 none 0) W3 (.slice qb ml kb) (ints sx)) := by
             have := (hv (New W2 W3)).carry (O' := Cl (paint c2 W2 none 0) 0 W3) (D' := Cl (paint c2 W2 none 0) 0 W3) (Same.refl _ _) (Same.refl _ _) (fun k hk => ⟨paint_none k hk, hk.2⟩) fun k hk => ⟨paint_none k hk, hk.2⟩
             rw [HML.out] at this
             exact this
            have HVa3 : Hid (Vw EU (paint c2 W2 none 0) W3 (.slice qa ml ka) (ints sx)) := Vw.ev HVa2.out he fun h => h
            have hC3 := HCC.out (paint c2 W2 none 0) W3 HE3.out
            rw [HML.out] at hrun
            go_simp
            refine hK14 _ _ ?_
            clear hrun hv hb he
            generalize (paint c2 W2 none 0) = c3 at *
            refine wpJ_do (i := 7) (fun _ => hC3) (by kernel_rfl) rfl (by rfl) ?_
            intro K7 hK7
            have hpu := push_any HS3.out (by decide) (by omega) HVa3.out (by rw [ints_length, HML.out]; omega)
            rw [HPE.out, HPL.out] at hpu
            go_simp
            go_wp2_with (go_at_call 13; refine hpu.mono ?_; rintro e W4 ⟨rfl, c4, he, hps⟩)
            have HS4 : Hid (PS 1 c4 W4 sb W Q L2 d) := hps
            have HR4 : Hid (RS 2 c4 W4 rb W Q L d) := HR3.out.ev he (by decide) (by decide)
            have HE4 : Hid (Ev S7 (fun _ => 99) w' c4 W4) := HE3.out.trans he fun i hi => by rw [hi]; exact ⟨by decide, by decide⟩
            have HVa4 : Hid (Vw EU c4 W4 (.slice qa ml ka) (ints sx)) := Vw.ev HVa3.out he (by decide)
            have HVb4 : Hid (Vw EU c4 W4 (.slice qb ml kb) (ints sx)) := Vw.ev HVb3.out he (by decide)
            have hC4 := HCC.out c4 W4 HE4.out
            clear hpu he hps
            refine wpJ_do (i := 15) (fun _ => hC4) (by kernel_rfl) rfl (by rfl) ?_
            intro K15 hK15
            have hpu := rpush_any HR4.out (by decide) (by omega) HVb4.out (by rw [ints_length, HML.out]; omega)
            rw [HPE.out, HPL.out] at hpu
            go_simp
            go_wp2_with (go_at_call 14; refine hpu.mono ?_; rintro e W5 ⟨rfl, c5, he, hps⟩)
            have HS5 : Hid (PS 1 c5 W5 sb W Q L2 d) := HS4.out.ev he (by decide) (by decide)
            have HR5 : Hid (RS 2 c5 W5 rb W Q L2 d) := hps
            have HE5 : Hid (Ev S7 (fun _ => 99) w' c5 W5) := HE4.out.trans he fun i hi => by rw [hi]; exact ⟨by decide, by decide⟩
            have hC5 := HCC.out c5 W5 HE5.out
            clear hpu he hps
            refine wpJ_q (i := 16) (d := some 80) (v := .bool false) rfl ?_
            refine wpJ_done (fun _ => hC5) (by kernel_rfl) ?_ _
            obtain ⟨V0, hV0⟩ : ∃ V0, V0 = W5 := ⟨_, rfl⟩
            obtain ⟨LV, hLV⟩ : ∃ LV, LV = L2 := ⟨_, rfl⟩
            obtain ⟨dv, hdv⟩ : ∃ dv, dv = d := ⟨_, rfl⟩
            have HS20 : Hid (PS 1 c5 V0 sb W Q LV dv) := by rw [hV0, hLV, hdv]; exact HS5.out
            have HR20 : Hid (RS 2 c5 V0 rb W Q LV dv) := by rw [hV0, hLV, hdv]; exact HR5.out
            have HE20 : Hid (Ev S7 (fun _ => 99) w' c5 V0) := by rw [hV0]; exact HE5.out
            have HLL : Hid (LV.length ≤ k + 1 ∧ ∀ x ∈ LV, x.length ≤ 500) := by rw [hLV]; exact HLN.out
            try rw [← hV0]
            clear hV0 hLV hdv
            obtain ⟨c20, hc20⟩ : ∃ c20, c20 = c5 := ⟨_, rfl⟩
            rw [← hc20] at HS20 HR20 HE20
            clear hc20
            try go_upto_region 19 with fail
            have HS21 : Hid (PS 1 c20 V0.drew sb W Q LV dv) := HS20.out.ev (Ev.drewN (fun _ => False) c20 V0 1) (fun h => h) fun h => h
            have HR21 : Hid (RS 2 c20 V0.drew rb W Q LV dv) := HR20.out.ev (Ev.drewN (fun _ => False) c20 V0 1) (fun h => h) fun h => h
            have HE21 : Hid (Ev S7 (fun _ => 99) w' c20 V0.drew) := HE20.out.trans (Ev.drewN (fun _ => False) c20 V0 1) fun _ h => h.elim
            obtain ⟨qv, kv, r1, -, -⟩ := HR21.out.view
            obtain ⟨ll, hll⟩ : ∃ ll, LV.length = ll := ⟨_, rfl⟩
            have HLV : Hid (LV.length = ll) := hll
            obtain ⟨ud, hud⟩ : ∃ ud, undT W LV dv = ud := ⟨_, rfl⟩
            have HUD : Hid (undT W LV dv = ud) := hud
            rw [hll] at r1
            have hdl := HR21.out.le
            rw [hll] at hdl
            have hll2 : ll ≤ 201 := by have := HLL.out.1; omega
            have hC21 := r1
            clear r1 hll hud
            have hlds : IntKind.i64.wrap ((ll : Int) - (dv : Int)) = ((ll - dv : Nat) : Int) := by rw [IntWalk.i64_in _ (by omega)]; omega
            refine wp_region_J 99 (fun X => X.heap[rb]? = some (.cells #[.int .i64 W, .int .i64 Q, .slice qv ll kv, .int .i64 (dv : Int)] 33)) ?_
            change wpJ _ _ _ _ _ _ _ _ _ (World.drew _)
            generalize hw1 : V0.drew = V1 at *
            clear hw1
            refine wpJ_q (i := 0) (d := some 98) (v := .pointer (some ⟨sb, 0, none⟩)) rfl ?_
            refine wpJ_q (i := 2) (d := some 100) (v := .pointer (some ⟨rb, 0, none⟩)) rfl ?_
            refine wpJ_do (i := 1) (fun _ => hC21) (by kernel_rfl) rfl (by rfl) ?_
            intro K1 hK1
            have hou := out_any HS21.out (fun x hx => by have := HLL.out.2 x hx; omega)
            rw [HUD.out] at hou
            go_simp
            go_wp2_with (go_at_call 18; refine hou.mono ?_; rintro e V2 ⟨hb, vo, rfl, hvo⟩)
            have he : Ev (fun _ => False) c20 V1 (paint c20 V1 none 0) V2 := Ev.paint (Keep.of_below hb) _ _
            have HS22 : Hid (PS 1 (paint c20 V1 none 0) V2 sb W Q LV dv) := HS21.out.ev he (fun h => h) fun h => h
            have HR22 : Hid (RS 2 (paint c20 V1 none 0) V2 rb W Q LV dv) := HR21.out.ev he (fun h => h) fun h => h
            have HE22 : Hid (Ev S7 (fun _ => 99) w' (paint c20 V1 none 0) V2) := HE21.out.trans he fun _ h => h.elim
            obtain ⟨po, co, hpo⟩ := hvo.lenv
            rw [outK_len] at hpo
            subst hpo
            have HVO2 : Hid (Vw EP (paint c20 V1 none 0) V2 (.slice po ud co) (outK LV dv ud)) := hvo
            have hC22 := (hb.block rb (obj_lt hC21)).trans hC21
            clear hou hb hvo he
            generalize paint c20 V1 none 0 = c22 at *
            refine wpJ_do (i := 3) (fun _ => hC22) (by kernel_rfl) rfl (by rfl) ?_
            intro K3 hK3
            have hou := rout_any HR22.out (fun x hx => by have := HLL.out.2 x hx; omega)
            rw [HUD.out] at hou
            go_simp
            go_wp2_with (go_at_call 19; refine hou.mono ?_; rintro e V3 ⟨hb, vo, rfl, hvo⟩)
            have he : Ev (fun _ => False) c22 V2 (paint c22 V2 none 0) V3 := Ev.paint (Keep.of_below hb) _ _
            have HS23 : Hid (PS 1 (paint c22 V2 none 0) V3 sb W Q LV dv) := HS22.out.ev he (fun h => h) fun h => h
            have HR23 : Hid (RS 2 (paint c22 V2 none 0) V3 rb W Q LV dv) := HR22.out.ev he (fun h => h) fun h => h
            have HE23 : Hid (Ev S7 (fun _ => 99) w' (paint c22 V2 none 0) V3) := HE22.out.trans he fun _ h => h.elim
            have HVO3 : Hid (Vw EP (paint c22 V2 none 0) V3 (.slice po ud co) (outK LV dv ud)) := Vw.ev HVO2.out he fun h => h
            obtain ⟨pr, cr2, hpr⟩ := hvo.lenv
            rw [outK_len] at hpr
            subst hpr
            have HVR3 : Hid (Vw EP (paint c22 V2 none 0) V3 (.slice pr ud cr2) (outK LV dv ud)) := hvo
            have hC23 := (hb.block rb (obj_lt hC22)).trans hC22
            clear hou hb hvo he
            generalize paint c22 V2 none 0 = c23 at *
            refine wpJ_do (i := 4) (fun _ => hC23) (by kernel_rfl) rfl (by rfl) ?_
            intro K4 hK4
            have hpi := pieces_same HVO3.out HVR3.out (by rw [outK_len]; have := und_le W LV dv; have := HUD.out; have := HLV.out; omega)
            go_simp
            go_wp2_with (go_at_call 17; refine hpi.mono ?_; rintro e V4 ⟨rfl, m4, hV4⟩)
            have HS24 : Hid (PS 1 c23 V4 sb W Q LV dv) := by rw [hV4]; exact HS23.out.ev (Ev.drewN (fun _ => False) c23 V3 m4) (fun h => h) fun h => h
            have HR24 : Hid (RS 2 c23 V4 rb W Q LV dv) := by rw [hV4]; exact HR23.out.ev (Ev.drewN (fun _ => False) c23 V3 m4) (fun h => h) fun h => h
            have HE24 : Hid (Ev S7 (fun _ => 99) w' c23 V4) := by rw [hV4]; exact HE23.out.trans (Ev.drewN (fun _ => False) c23 V3 m4) fun _ h => h.elim
            have hC24 : V4.heap[rb]? = some (.cells #[.int .i64 W, .int .i64 Q, .slice qv ll kv, .int .i64 (dv : Int)] 33) := by rw [hV4]; exact hC23
            try rw [← hV4]
            clear hpi hV4
            refine wpJ_q (i := 5) (d := some 103) (v := .bool false) rfl ?_
            refine wpJ_q (i := 6) (d := some 104) (v := .bool false) rfl ?_
            refine wpJ_q (i := 7) (d := some 105) (v := .pointer (some ⟨sb, 0, none⟩)) rfl ?_
            refine wpJ_q (i := 9) (d := some 107) (v := .pointer (some ⟨rb, 0, none⟩)) rfl ?_
            refine wpJ_q (i := 10) (d := some 108) (v := .pointer (some ⟨rb, 0, none⟩)) rfl ?_
            refine wpJ_q (i := 11) (d := some 109) (v := .pointer (some ⟨rb, 3, none⟩)) rfl ?_
            refine wpJ_r (i := 12) (d := some 110) (v := .int .i64 (dv : Int)) rfl (by intro wq hq; have g := cell_row (cur := [_, _, _, _]) hq 3 _ rfl; go_simp; first | done | with_reducible rfl) ?_
            refine wpJ_do (i := 8) (fun _ => hC24) (by kernel_rfl) rfl (by rfl) ?_
            intro K8 hK8
            have hba := base_any HS24.out
            go_simp
            go_wp2_with (go_at_call 20; refine hba.mono ?_; rintro e V5 ⟨rfl, rfl⟩)
            clear hba
            refine wpJ_q (i := 13) (d := some 111) (v := .bool false) rfl ?_
            refine wpJ_q (i := 14) (d := some 112) (v := .bool false) rfl ?_
            refine wpJ_q (i := 15) (d := some 113) (v := .bool false) rfl ?_
            refine wpJ_q (i := 16) (d := some 114) (v := .pointer (some ⟨sb, 0, none⟩)) rfl ?_
            refine wpJ_q (i := 18) (d := some 116) (v := .pointer (some ⟨rb, 0, none⟩)) rfl ?_
            refine wpJ_q (i := 19) (d := some 117) (v := .pointer (some ⟨rb, 0, none⟩)) rfl ?_
            refine wpJ_q (i := 20) (d := some 118) (v := .pointer (some ⟨rb, 2, none⟩)) rfl ?_
            refine wpJ_r (i := 21) (d := some 119) (v := .slice qv ll kv) rfl (by intro wq hq; have g := cell_row (cur := [_, _, _, _]) hq 2 _ rfl; go_simp; first | done | with_reducible rfl) ?_
            refine wpJ_q (i := 22) (d := some 120) (v := .int .i64 (ll : Int)) rfl ?_
            refine wpJ_q (i := 23) (d := some 121) (v := .pointer (some ⟨rb, 0, none⟩)) rfl ?_
            refine wpJ_q (i := 24) (d := some 122) (v := .pointer (some ⟨rb, 0, none⟩)) rfl ?_
            refine wpJ_q (i := 25) (d := some 123) (v := .pointer (some ⟨rb, 3, none⟩)) rfl ?_
            refine wpJ_r (i := 26) (d := some 124) (v := .int .i64 (dv : Int)) rfl (by intro wq hq; have g := cell_row (cur := [_, _, _, _]) hq 3 _ rfl; go_simp; first | done | with_reducible rfl) ?_
            refine wpJ_r (i := 27) (d := some 125) (v := .int .i64 ((ll - dv : Nat) : Int)) rfl (by intro wq hq; have g := hlds; go_simp; first | done | with_reducible rfl) ?_
            refine wpJ_do (i := 17) (fun _ => hC24) (by kernel_rfl) rfl (by rfl) ?_
            intro K17 hK17
            have hle := left_any HS24.out
            rw [HLV.out] at hle
            go_simp
            go_wp2_with (go_at_call 21; refine hle.mono ?_; rintro e V6 ⟨rfl, rfl⟩)
            clear hle
            refine wpJ_q (i := 28) (d := some 126) (v := .bool false) rfl ?_
            refine wpJ_q (i := 29) (d := some 127) (v := .bool false) rfl ?_
            refine wpJ_done (fun _ => hC24) (by kernel_rfl) ?_ _
            go_wp2
            go_roundw
            case rel => exact ⟨k + 1, c23, LV, dv, by omega, by go_num, HS24.out, HR24.out, HLL.out, HE24.out⟩
            case measure => simp [intOf]; omega
        · intro K14 hK14
          obtain ⟨qb, kb, W2, hrun, hb, hv⟩ := conv_text W1 sx hsx
          have he : Ev (fun _ => False) c1 W1 (paint c1 W1 none 0) W2 := Ev.paint (Keep.of_below hb) _ _
          have HS2 : Hid (PS 1 (paint c1 W1 none 0) W2 sb W Q L d) := HS1.out.ev he (fun h => h) fun h => h
          have HR2 : Hid (RS 2 (paint c1 W1 none 0) W2 rb W Q L d) := HR1.out.ev he (fun h => h) fun h => h
          have HE2 : Hid (Ev S7 (fun _ => 99) w' (paint c1 W1 none 0) W2) := HE1.out.trans he fun _ h => h.elim
          have HVb2 : Hid (Vw EU (paint c1 W1 none 0) W2 (.slice qb ml kb) (ints sx)) := by
           have := (hv (New W1 W2)).carry (O' := Cl (paint c1 W1 none 0) 0 W2) (D' := Cl (paint c1 W1 none 0) 0 W2) (Same.refl _ _) (Same.refl _ _) (fun k hk => ⟨paint_none k hk, hk.2⟩) fun k hk => ⟨paint_none k hk, hk.2⟩
           rw [HML.out] at this
           exact this
          have hC2 := HCC.out (paint c1 W1 none 0) W2 HE2.out
          rw [HML.out] at hrun
          go_simp
          refine hK14 _ _ ?_
          clear hrun hv hb he
          generalize (paint c1 W1 none 0) = c2 at *
          refine wpJ_do (i := 6) (fun _ => hC2) (by kernel_rfl) rfl (by rfl) ?_
          intro K6 hK6
          obtain ⟨qa, ka, W3, hrun, hb, hv⟩ := conv_text W2 sx hsx
          have he : Ev (fun _ => False) c2 W2 (paint c2 W2 none 0) W3 := Ev.paint (Keep.of_below hb) _ _
          have HS3 : Hid (PS 1 (paint c2 W2 none 0) W3 sb W Q L d) := HS2.out.ev he (fun h => h) fun h => h
          have HR3 : Hid (RS 2 (paint c2 W2 none 0) W3 rb W Q L d) := HR2.out.ev he (fun h => h) fun h => h
          have HE3 : Hid (Ev S7 (fun _ => 99) w' (paint c2 W2 none 0) W3) := HE2.out.trans he fun _ h => h.elim
          have HVa3 : Hid (Vw EU (paint c2 W2 none 0) W3 (.slice qa ml ka) (ints sx)) := by
           have := (hv (New W2 W3)).carry (O' := Cl (paint c2 W2 none 0) 0 W3) (D' := Cl (paint c2 W2 none 0) 0 W3) (Same.refl _ _) (Same.refl _ _) (fun k hk => ⟨paint_none k hk, hk.2⟩) fun k hk => ⟨paint_none k hk, hk.2⟩
           rw [HML.out] at this
           exact this
          have HVb3 : Hid (Vw EU (paint c2 W2 none 0) W3 (.slice qb ml kb) (ints sx)) := Vw.ev HVb2.out he fun h => h
          have hC3 := HCC.out (paint c2 W2 none 0) W3 HE3.out
          rw [HML.out] at hrun
          go_simp
          refine hK6 _ _ ?_
          clear hrun hv hb he
          generalize (paint c2 W2 none 0) = c3 at *
          refine wpJ_do (i := 7) (fun _ => hC3) (by kernel_rfl) rfl (by rfl) ?_
          intro K7 hK7
          have hpu := push_any HS3.out (by decide) (by omega) HVa3.out (by rw [ints_length, HML.out]; omega)
          rw [HPE.out, HPL.out] at hpu
          go_simp
          go_wp2_with (go_at_call 13; refine hpu.mono ?_; rintro e W4 ⟨rfl, c4, he, hps⟩)
          have HS4 : Hid (PS 1 c4 W4 sb W Q L2 d) := hps
          have HR4 : Hid (RS 2 c4 W4 rb W Q L d) := HR3.out.ev he (by decide) (by decide)
          have HE4 : Hid (Ev S7 (fun _ => 99) w' c4 W4) := HE3.out.trans he fun i hi => by rw [hi]; exact ⟨by decide, by decide⟩
          have HVb4 : Hid (Vw EU c4 W4 (.slice qb ml kb) (ints sx)) := Vw.ev HVb3.out he (by decide)
          have HVa4 : Hid (Vw EU c4 W4 (.slice qa ml ka) (ints sx)) := Vw.ev HVa3.out he (by decide)
          have hC4 := HCC.out c4 W4 HE4.out
          clear hpu he hps
          refine wpJ_do (i := 15) (fun _ => hC4) (by kernel_rfl) rfl (by rfl) ?_
          intro K15 hK15
          have hpu := rpush_any HR4.out (by decide) (by omega) HVb4.out (by rw [ints_length, HML.out]; omega)
          rw [HPE.out, HPL.out] at hpu
          go_simp
          go_wp2_with (go_at_call 14; refine hpu.mono ?_; rintro e W5 ⟨rfl, c5, he, hps⟩)
          have HS5 : Hid (PS 1 c5 W5 sb W Q L2 d) := HS4.out.ev he (by decide) (by decide)
          have HR5 : Hid (RS 2 c5 W5 rb W Q L2 d) := hps
          have HE5 : Hid (Ev S7 (fun _ => 99) w' c5 W5) := HE4.out.trans he fun i hi => by rw [hi]; exact ⟨by decide, by decide⟩
          have hC5 := HCC.out c5 W5 HE5.out
          clear hpu he hps
          refine wpJ_q (i := 16) (d := some 80) (v := .bool false) rfl ?_
          refine wpJ_done (fun _ => hC5) (by kernel_rfl) ?_ _
          obtain ⟨V0, hV0⟩ : ∃ V0, V0 = W5 := ⟨_, rfl⟩
          obtain ⟨LV, hLV⟩ : ∃ LV, LV = L2 := ⟨_, rfl⟩
          obtain ⟨dv, hdv⟩ : ∃ dv, dv = d := ⟨_, rfl⟩
          have HS20 : Hid (PS 1 c5 V0 sb W Q LV dv) := by rw [hV0, hLV, hdv]; exact HS5.out
          have HR20 : Hid (RS 2 c5 V0 rb W Q LV dv) := by rw [hV0, hLV, hdv]; exact HR5.out
          have HE20 : Hid (Ev S7 (fun _ => 99) w' c5 V0) := by rw [hV0]; exact HE5.out
          have HLL : Hid (LV.length ≤ k + 1 ∧ ∀ x ∈ LV, x.length ≤ 500) := by rw [hLV]; exact HLN.out
          try rw [← hV0]
          clear hV0 hLV hdv
          obtain ⟨c20, hc20⟩ : ∃ c20, c20 = c5 := ⟨_, rfl⟩
          rw [← hc20] at HS20 HR20 HE20
          clear hc20
          try go_upto_region 19 with fail
          have HS21 : Hid (PS 1 c20 V0.drew sb W Q LV dv) := HS20.out.ev (Ev.drewN (fun _ => False) c20 V0 1) (fun h => h) fun h => h
          have HR21 : Hid (RS 2 c20 V0.drew rb W Q LV dv) := HR20.out.ev (Ev.drewN (fun _ => False) c20 V0 1) (fun h => h) fun h => h
          have HE21 : Hid (Ev S7 (fun _ => 99) w' c20 V0.drew) := HE20.out.trans (Ev.drewN (fun _ => False) c20 V0 1) fun _ h => h.elim
          obtain ⟨qv, kv, r1, -, -⟩ := HR21.out.view
          obtain ⟨ll, hll⟩ : ∃ ll, LV.length = ll := ⟨_, rfl⟩
          have HLV : Hid (LV.length = ll) := hll
          obtain ⟨ud, hud⟩ : ∃ ud, undT W LV dv = ud := ⟨_, rfl⟩
          have HUD : Hid (undT W LV dv = ud) := hud
          rw [hll] at r1
          have hdl := HR21.out.le
          rw [hll] at hdl
          have hll2 : ll ≤ 201 := by have := HLL.out.1; omega
          have hC21 := r1
          clear r1 hll hud
          have hlds : IntKind.i64.wrap ((ll : Int) - (dv : Int)) = ((ll - dv : Nat) : Int) := by rw [IntWalk.i64_in _ (by omega)]; omega
          refine wp_region_J 99 (fun X => X.heap[rb]? = some (.cells #[.int .i64 W, .int .i64 Q, .slice qv ll kv, .int .i64 (dv : Int)] 33)) ?_
          change wpJ _ _ _ _ _ _ _ _ _ (World.drew _)
          generalize hw1 : V0.drew = V1 at *
          clear hw1
          refine wpJ_q (i := 0) (d := some 98) (v := .pointer (some ⟨sb, 0, none⟩)) rfl ?_
          refine wpJ_q (i := 2) (d := some 100) (v := .pointer (some ⟨rb, 0, none⟩)) rfl ?_
          refine wpJ_do (i := 1) (fun _ => hC21) (by kernel_rfl) rfl (by rfl) ?_
          intro K1 hK1
          have hou := out_any HS21.out (fun x hx => by have := HLL.out.2 x hx; omega)
          rw [HUD.out] at hou
          go_simp
          go_wp2_with (go_at_call 18; refine hou.mono ?_; rintro e V2 ⟨hb, vo, rfl, hvo⟩)
          have he : Ev (fun _ => False) c20 V1 (paint c20 V1 none 0) V2 := Ev.paint (Keep.of_below hb) _ _
          have HS22 : Hid (PS 1 (paint c20 V1 none 0) V2 sb W Q LV dv) := HS21.out.ev he (fun h => h) fun h => h
          have HR22 : Hid (RS 2 (paint c20 V1 none 0) V2 rb W Q LV dv) := HR21.out.ev he (fun h => h) fun h => h
          have HE22 : Hid (Ev S7 (fun _ => 99) w' (paint c20 V1 none 0) V2) := HE21.out.trans he fun _ h => h.elim
          obtain ⟨po, co, hpo⟩ := hvo.lenv
          rw [outK_len] at hpo
          subst hpo
          have HVO2 : Hid (Vw EP (paint c20 V1 none 0) V2 (.slice po ud co) (outK LV dv ud)) := hvo
          have hC22 := (hb.block rb (obj_lt hC21)).trans hC21
          clear hou hb hvo he
          generalize paint c20 V1 none 0 = c22 at *
          refine wpJ_do (i := 3) (fun _ => hC22) (by kernel_rfl) rfl (by rfl) ?_
          intro K3 hK3
          have hou := rout_any HR22.out (fun x hx => by have := HLL.out.2 x hx; omega)
          rw [HUD.out] at hou
          go_simp
          go_wp2_with (go_at_call 19; refine hou.mono ?_; rintro e V3 ⟨hb, vo, rfl, hvo⟩)
          have he : Ev (fun _ => False) c22 V2 (paint c22 V2 none 0) V3 := Ev.paint (Keep.of_below hb) _ _
          have HS23 : Hid (PS 1 (paint c22 V2 none 0) V3 sb W Q LV dv) := HS22.out.ev he (fun h => h) fun h => h
          have HR23 : Hid (RS 2 (paint c22 V2 none 0) V3 rb W Q LV dv) := HR22.out.ev he (fun h => h) fun h => h
          have HE23 : Hid (Ev S7 (fun _ => 99) w' (paint c22 V2 none 0) V3) := HE22.out.trans he fun _ h => h.elim
          have HVO3 : Hid (Vw EP (paint c22 V2 none 0) V3 (.slice po ud co) (outK LV dv ud)) := Vw.ev HVO2.out he fun h => h
          obtain ⟨pr, cr2, hpr⟩ := hvo.lenv
          rw [outK_len] at hpr
          subst hpr
          have HVR3 : Hid (Vw EP (paint c22 V2 none 0) V3 (.slice pr ud cr2) (outK LV dv ud)) := hvo
          have hC23 := (hb.block rb (obj_lt hC22)).trans hC22
          clear hou hb hvo he
          generalize paint c22 V2 none 0 = c23 at *
          refine wpJ_do (i := 4) (fun _ => hC23) (by kernel_rfl) rfl (by rfl) ?_
          intro K4 hK4
          have hpi := pieces_same HVO3.out HVR3.out (by rw [outK_len]; have := und_le W LV dv; have := HUD.out; have := HLV.out; omega)
          go_simp
          go_wp2_with (go_at_call 17; refine hpi.mono ?_; rintro e V4 ⟨rfl, m4, hV4⟩)
          have HS24 : Hid (PS 1 c23 V4 sb W Q LV dv) := by rw [hV4]; exact HS23.out.ev (Ev.drewN (fun _ => False) c23 V3 m4) (fun h => h) fun h => h
          have HR24 : Hid (RS 2 c23 V4 rb W Q LV dv) := by rw [hV4]; exact HR23.out.ev (Ev.drewN (fun _ => False) c23 V3 m4) (fun h => h) fun h => h
          have HE24 : Hid (Ev S7 (fun _ => 99) w' c23 V4) := by rw [hV4]; exact HE23.out.trans (Ev.drewN (fun _ => False) c23 V3 m4) fun _ h => h.elim
          have hC24 : V4.heap[rb]? = some (.cells #[.int .i64 W, .int .i64 Q, .slice qv ll kv, .int .i64 (dv : Int)] 33) := by rw [hV4]; exact hC23
          try rw [← hV4]
          clear hpi hV4
          refine wpJ_q (i := 5) (d := some 103) (v := .bool false) rfl ?_
          refine wpJ_q (i := 6) (d := some 104) (v := .bool false) rfl ?_
          refine wpJ_q (i := 7) (d := some 105) (v := .pointer (some ⟨sb, 0, none⟩)) rfl ?_
          refine wpJ_q (i := 9) (d := some 107) (v := .pointer (some ⟨rb, 0, none⟩)) rfl ?_
          refine wpJ_q (i := 10) (d := some 108) (v := .pointer (some ⟨rb, 0, none⟩)) rfl ?_
          refine wpJ_q (i := 11) (d := some 109) (v := .pointer (some ⟨rb, 3, none⟩)) rfl ?_
          refine wpJ_r (i := 12) (d := some 110) (v := .int .i64 (dv : Int)) rfl (by intro wq hq; have g := cell_row (cur := [_, _, _, _]) hq 3 _ rfl; go_simp; first | done | with_reducible rfl) ?_
          refine wpJ_do (i := 8) (fun _ => hC24) (by kernel_rfl) rfl (by rfl) ?_
          intro K8 hK8
          have hba := base_any HS24.out
          go_simp
          go_wp2_with (go_at_call 20; refine hba.mono ?_; rintro e V5 ⟨rfl, rfl⟩)
          clear hba
          refine wpJ_q (i := 13) (d := some 111) (v := .bool false) rfl ?_
          refine wpJ_q (i := 14) (d := some 112) (v := .bool false) rfl ?_
          refine wpJ_q (i := 15) (d := some 113) (v := .bool false) rfl ?_
          refine wpJ_q (i := 16) (d := some 114) (v := .pointer (some ⟨sb, 0, none⟩)) rfl ?_
          refine wpJ_q (i := 18) (d := some 116) (v := .pointer (some ⟨rb, 0, none⟩)) rfl ?_
          refine wpJ_q (i := 19) (d := some 117) (v := .pointer (some ⟨rb, 0, none⟩)) rfl ?_
          refine wpJ_q (i := 20) (d := some 118) (v := .pointer (some ⟨rb, 2, none⟩)) rfl ?_
          refine wpJ_r (i := 21) (d := some 119) (v := .slice qv ll kv) rfl (by intro wq hq; have g := cell_row (cur := [_, _, _, _]) hq 2 _ rfl; go_simp; first | done | with_reducible rfl) ?_
          refine wpJ_q (i := 22) (d := some 120) (v := .int .i64 (ll : Int)) rfl ?_
          refine wpJ_q (i := 23) (d := some 121) (v := .pointer (some ⟨rb, 0, none⟩)) rfl ?_
          refine wpJ_q (i := 24) (d := some 122) (v := .pointer (some ⟨rb, 0, none⟩)) rfl ?_
          refine wpJ_q (i := 25) (d := some 123) (v := .pointer (some ⟨rb, 3, none⟩)) rfl ?_
          refine wpJ_r (i := 26) (d := some 124) (v := .int .i64 (dv : Int)) rfl (by intro wq hq; have g := cell_row (cur := [_, _, _, _]) hq 3 _ rfl; go_simp; first | done | with_reducible rfl) ?_
          refine wpJ_r (i := 27) (d := some 125) (v := .int .i64 ((ll - dv : Nat) : Int)) rfl (by intro wq hq; have g := hlds; go_simp; first | done | with_reducible rfl) ?_
          refine wpJ_do (i := 17) (fun _ => hC24) (by kernel_rfl) rfl (by rfl) ?_
          intro K17 hK17
          have hle := left_any HS24.out
          rw [HLV.out] at hle
          go_simp
          go_wp2_with (go_at_call 21; refine hle.mono ?_; rintro e V6 ⟨rfl, rfl⟩)
          clear hle
          refine wpJ_q (i := 28) (d := some 126) (v := .bool false) rfl ?_
          refine wpJ_q (i := 29) (d := some 127) (v := .bool false) rfl ?_
          refine wpJ_done (fun _ => hC24) (by kernel_rfl) ?_ _
          go_wp2
          go_roundw
          case rel => exact ⟨k + 1, c23, LV, dv, by omega, by go_num, HS24.out, HR24.out, HLL.out, HE24.out⟩
          case measure => simp [intOf]; omega
      · have f0 : (kd == 0) = false := by simpa using hk0
        have f1 : decide (kd = 0) = false := decide_eq_false hk0
        by_cases hk1 : kd = 1
        · subst hk1
          obtain ⟨an, han⟩ : ∃ an, ackN W L d nn = an := ⟨_, rfl⟩
          have HAN : Hid (ackN W L d nn = an) := han
          obtain ⟨d2, hd2⟩ : ∃ d2, ackD W L d nn = d2 := ⟨_, rfl⟩
          have HAD : Hid (ackD W L d nn = d2) := hd2
          have HLN : Hid (L.length ≤ k + 1 ∧ ∀ x ∈ L, x.length ≤ 500) := ⟨by omega, HLN0.out.2⟩
          clear han hd2
          go_upto_region 17 with fail
          have HS1 : Hid (PS 1 c1 wy.drew sb W Q L d) := HSS.out.ev (Ev.drewN (fun _ => False) c1 wy 1) (fun h => h) fun h => h
          have HR1 : Hid (RS 2 c1 wy.drew rb W Q L d) := HRR.out.ev (Ev.drewN (fun _ => False) c1 wy 1) (fun h => h) fun h => h
          have HE1 : Hid (Ev S7 (fun _ => 99) w' c1 wy.drew) := HE.out.trans (Ev.drewN (fun _ => False) c1 wy 1) fun _ h => h.elim
          have hC1 := HCD.out c1 wy.drew HE1.out
          refine wp_region_J 99 (fun X => X.cell? ⟨db, do_ + k * 3 + 1, none⟩ = some (.int .i64 nn)) ?_
          change wpJ _ _ _ _ _ _ _ _ _ (World.drew _)
          generalize hw1 : wy.drew = W1 at *
          clear hw1
          refine wpJ_q (i := 0) (d := some 83) (v := .pointer (some ⟨sb, 0, none⟩)) rfl ?_
          refine wpJ_q (i := 1) (d := some 84) (v := .slice (some ⟨db, do_, none⟩) n c) rfl ?_
          refine wpJ_q (i := 2) (d := some 85) (v := .int .i64 (k : Int)) rfl ?_
          refine wpJ_q (i := 3) (d := some 86) (v := .pointer (some ⟨db, do_ + k * 3, none⟩)) rfl ?_
          refine wpJ_q (i := 4) (d := some 87) (v := .pointer (some ⟨db, do_ + k * 3 + 1, none⟩)) rfl ?_
          refine wpJ_r (i := 5) (d := some 88) (v := .int .i64 nn) rfl (by intro wq hq; have g := hq; go_simp; first | done | with_reducible rfl) ?_
          refine wpJ_q (i := 7) (d := some 90) (v := .pointer (some ⟨rb, 0, none⟩)) rfl ?_
          refine wpJ_q (i := 8) (d := some 91) (v := .slice (some ⟨db, do_, none⟩) n c) rfl ?_
          refine wpJ_q (i := 9) (d := some 92) (v := .int .i64 (k : Int)) rfl ?_
          refine wpJ_q (i := 10) (d := some 93) (v := .pointer (some ⟨db, do_ + k * 3, none⟩)) rfl ?_
          refine wpJ_q (i := 11) (d := some 94) (v := .pointer (some ⟨db, do_ + k * 3 + 1, none⟩)) rfl ?_
          refine wpJ_r (i := 12) (d := some 95) (v := .int .i64 nn) rfl (by intro wq hq; have g := hq; go_simp; first | done | with_reducible rfl) ?_
          refine wpJ_do (i := 6) (fun _ => hC1) (by kernel_rfl) rfl (by rfl) ?_
          intro K6 hK6
          have hak := ack_any HS1.out (by decide) nn
          rw [HAN.out, HAD.out] at hak
          go_simp
          go_wp2_with (go_at_call 15; refine hak.mono ?_; rintro e W2 ⟨rfl, he, hps⟩)
          have HS2 : Hid (PS 1 c1 W2 sb W Q L d2) := hps
          have HR2 : Hid (RS 2 c1 W2 rb W Q L d) := HR1.out.ev he (by decide) (by decide)
          have HE2 : Hid (Ev S7 (fun _ => 99) w' c1 W2) := HE1.out.trans he fun i hi => by rw [hi]; exact ⟨by decide, by decide⟩
          have hC2 := HCD.out c1 W2 HE2.out
          clear hak he hps
          refine wpJ_do (i := 13) (fun _ => hC2) (by kernel_rfl) rfl (by rfl) ?_
          intro K13 hK13
          have hak := rack_any HR2.out (by decide) nn
          rw [HAN.out, HAD.out] at hak
          go_simp
          go_wp2_with (go_at_call 16; refine hak.mono ?_; rintro e W3 ⟨rfl, he, hps⟩)
          have HS3 : Hid (PS 1 c1 W3 sb W Q L d2) := HS2.out.ev he (by decide) (by decide)
          have HR3 : Hid (RS 2 c1 W3 rb W Q L d2) := hps
          have HE3 : Hid (Ev S7 (fun _ => 99) w' c1 W3) := HE2.out.trans he fun i hi => by rw [hi]; exact ⟨by decide, by decide⟩
          have hC3 := HCD.out c1 W3 HE3.out
          clear hak he hps
          refine wpJ_q (i := 14) (d := some 97) (v := .bool false) rfl ?_
          refine wpJ_done (fun _ => hC3) (by kernel_rfl) ?_ _
          obtain ⟨V0, hV0⟩ : ∃ V0, V0 = W3 := ⟨_, rfl⟩
          obtain ⟨LV, hLV⟩ : ∃ LV, LV = L := ⟨_, rfl⟩
          obtain ⟨dv, hdv⟩ : ∃ dv, dv = d2 := ⟨_, rfl⟩
          have HS20 : Hid (PS 1 c1 V0 sb W Q LV dv) := by rw [hV0, hLV, hdv]; exact HS3.out
          have HR20 : Hid (RS 2 c1 V0 rb W Q LV dv) := by rw [hV0, hLV, hdv]; exact HR3.out
          have HE20 : Hid (Ev S7 (fun _ => 99) w' c1 V0) := by rw [hV0]; exact HE3.out
          have HLL : Hid (LV.length ≤ k + 1 ∧ ∀ x ∈ LV, x.length ≤ 500) := by rw [hLV]; exact HLN.out
          try rw [← hV0]
          clear hV0 hLV hdv
          obtain ⟨c20, hc20⟩ : ∃ c20, c20 = c1 := ⟨_, rfl⟩
          rw [← hc20] at HS20 HR20 HE20
          clear hc20
          try go_upto_region 19 with fail
          have HS21 : Hid (PS 1 c20 V0.drew sb W Q LV dv) := HS20.out.ev (Ev.drewN (fun _ => False) c20 V0 1) (fun h => h) fun h => h
          have HR21 : Hid (RS 2 c20 V0.drew rb W Q LV dv) := HR20.out.ev (Ev.drewN (fun _ => False) c20 V0 1) (fun h => h) fun h => h
          have HE21 : Hid (Ev S7 (fun _ => 99) w' c20 V0.drew) := HE20.out.trans (Ev.drewN (fun _ => False) c20 V0 1) fun _ h => h.elim
          obtain ⟨qv, kv, r1, -, -⟩ := HR21.out.view
          obtain ⟨ll, hll⟩ : ∃ ll, LV.length = ll := ⟨_, rfl⟩
          have HLV : Hid (LV.length = ll) := hll
          obtain ⟨ud, hud⟩ : ∃ ud, undT W LV dv = ud := ⟨_, rfl⟩
          have HUD : Hid (undT W LV dv = ud) := hud
          rw [hll] at r1
          have hdl := HR21.out.le
          rw [hll] at hdl
          have hll2 : ll ≤ 201 := by have := HLL.out.1; omega
          have hC21 := r1
          clear r1 hll hud
          have hlds : IntKind.i64.wrap ((ll : Int) - (dv : Int)) = ((ll - dv : Nat) : Int) := by rw [IntWalk.i64_in _ (by omega)]; omega
          refine wp_region_J 99 (fun X => X.heap[rb]? = some (.cells #[.int .i64 W, .int .i64 Q, .slice qv ll kv, .int .i64 (dv : Int)] 33)) ?_
          change wpJ _ _ _ _ _ _ _ _ _ (World.drew _)
          generalize hw1 : V0.drew = V1 at *
          clear hw1
          refine wpJ_q (i := 0) (d := some 98) (v := .pointer (some ⟨sb, 0, none⟩)) rfl ?_
          refine wpJ_q (i := 2) (d := some 100) (v := .pointer (some ⟨rb, 0, none⟩)) rfl ?_
          refine wpJ_do (i := 1) (fun _ => hC21) (by kernel_rfl) rfl (by rfl) ?_
          intro K1 hK1
          have hou := out_any HS21.out (fun x hx => by have := HLL.out.2 x hx; omega)
          rw [HUD.out] at hou
          go_simp
          go_wp2_with (go_at_call 18; refine hou.mono ?_; rintro e V2 ⟨hb, vo, rfl, hvo⟩)
          have he : Ev (fun _ => False) c20 V1 (paint c20 V1 none 0) V2 := Ev.paint (Keep.of_below hb) _ _
          have HS22 : Hid (PS 1 (paint c20 V1 none 0) V2 sb W Q LV dv) := HS21.out.ev he (fun h => h) fun h => h
          have HR22 : Hid (RS 2 (paint c20 V1 none 0) V2 rb W Q LV dv) := HR21.out.ev he (fun h => h) fun h => h
          have HE22 : Hid (Ev S7 (fun _ => 99) w' (paint c20 V1 none 0) V2) := HE21.out.trans he fun _ h => h.elim
          obtain ⟨po, co, hpo⟩ := hvo.lenv
          rw [outK_len] at hpo
          subst hpo
          have HVO2 : Hid (Vw EP (paint c20 V1 none 0) V2 (.slice po ud co) (outK LV dv ud)) := hvo
          have hC22 := (hb.block rb (obj_lt hC21)).trans hC21
          clear hou hb hvo he
          generalize paint c20 V1 none 0 = c22 at *
          refine wpJ_do (i := 3) (fun _ => hC22) (by kernel_rfl) rfl (by rfl) ?_
          intro K3 hK3
          have hou := rout_any HR22.out (fun x hx => by have := HLL.out.2 x hx; omega)
          rw [HUD.out] at hou
          go_simp
          go_wp2_with (go_at_call 19; refine hou.mono ?_; rintro e V3 ⟨hb, vo, rfl, hvo⟩)
          have he : Ev (fun _ => False) c22 V2 (paint c22 V2 none 0) V3 := Ev.paint (Keep.of_below hb) _ _
          have HS23 : Hid (PS 1 (paint c22 V2 none 0) V3 sb W Q LV dv) := HS22.out.ev he (fun h => h) fun h => h
          have HR23 : Hid (RS 2 (paint c22 V2 none 0) V3 rb W Q LV dv) := HR22.out.ev he (fun h => h) fun h => h
          have HE23 : Hid (Ev S7 (fun _ => 99) w' (paint c22 V2 none 0) V3) := HE22.out.trans he fun _ h => h.elim
          have HVO3 : Hid (Vw EP (paint c22 V2 none 0) V3 (.slice po ud co) (outK LV dv ud)) := Vw.ev HVO2.out he fun h => h
          obtain ⟨pr, cr2, hpr⟩ := hvo.lenv
          rw [outK_len] at hpr
          subst hpr
          have HVR3 : Hid (Vw EP (paint c22 V2 none 0) V3 (.slice pr ud cr2) (outK LV dv ud)) := hvo
          have hC23 := (hb.block rb (obj_lt hC22)).trans hC22
          clear hou hb hvo he
          generalize paint c22 V2 none 0 = c23 at *
          refine wpJ_do (i := 4) (fun _ => hC23) (by kernel_rfl) rfl (by rfl) ?_
          intro K4 hK4
          have hpi := pieces_same HVO3.out HVR3.out (by rw [outK_len]; have := und_le W LV dv; have := HUD.out; have := HLV.out; omega)
          go_simp
          go_wp2_with (go_at_call 17; refine hpi.mono ?_; rintro e V4 ⟨rfl, m4, hV4⟩)
          have HS24 : Hid (PS 1 c23 V4 sb W Q LV dv) := by rw [hV4]; exact HS23.out.ev (Ev.drewN (fun _ => False) c23 V3 m4) (fun h => h) fun h => h
          have HR24 : Hid (RS 2 c23 V4 rb W Q LV dv) := by rw [hV4]; exact HR23.out.ev (Ev.drewN (fun _ => False) c23 V3 m4) (fun h => h) fun h => h
          have HE24 : Hid (Ev S7 (fun _ => 99) w' c23 V4) := by rw [hV4]; exact HE23.out.trans (Ev.drewN (fun _ => False) c23 V3 m4) fun _ h => h.elim
          have hC24 : V4.heap[rb]? = some (.cells #[.int .i64 W, .int .i64 Q, .slice qv ll kv, .int .i64 (dv : Int)] 33) := by rw [hV4]; exact hC23
          try rw [← hV4]
          clear hpi hV4
          refine wpJ_q (i := 5) (d := some 103) (v := .bool false) rfl ?_
          refine wpJ_q (i := 6) (d := some 104) (v := .bool false) rfl ?_
          refine wpJ_q (i := 7) (d := some 105) (v := .pointer (some ⟨sb, 0, none⟩)) rfl ?_
          refine wpJ_q (i := 9) (d := some 107) (v := .pointer (some ⟨rb, 0, none⟩)) rfl ?_
          refine wpJ_q (i := 10) (d := some 108) (v := .pointer (some ⟨rb, 0, none⟩)) rfl ?_
          refine wpJ_q (i := 11) (d := some 109) (v := .pointer (some ⟨rb, 3, none⟩)) rfl ?_
          refine wpJ_r (i := 12) (d := some 110) (v := .int .i64 (dv : Int)) rfl (by intro wq hq; have g := cell_row (cur := [_, _, _, _]) hq 3 _ rfl; go_simp; first | done | with_reducible rfl) ?_
          refine wpJ_do (i := 8) (fun _ => hC24) (by kernel_rfl) rfl (by rfl) ?_
          intro K8 hK8
          have hba := base_any HS24.out
          go_simp
          go_wp2_with (go_at_call 20; refine hba.mono ?_; rintro e V5 ⟨rfl, rfl⟩)
          clear hba
          refine wpJ_q (i := 13) (d := some 111) (v := .bool false) rfl ?_
          refine wpJ_q (i := 14) (d := some 112) (v := .bool false) rfl ?_
          refine wpJ_q (i := 15) (d := some 113) (v := .bool false) rfl ?_
          refine wpJ_q (i := 16) (d := some 114) (v := .pointer (some ⟨sb, 0, none⟩)) rfl ?_
          refine wpJ_q (i := 18) (d := some 116) (v := .pointer (some ⟨rb, 0, none⟩)) rfl ?_
          refine wpJ_q (i := 19) (d := some 117) (v := .pointer (some ⟨rb, 0, none⟩)) rfl ?_
          refine wpJ_q (i := 20) (d := some 118) (v := .pointer (some ⟨rb, 2, none⟩)) rfl ?_
          refine wpJ_r (i := 21) (d := some 119) (v := .slice qv ll kv) rfl (by intro wq hq; have g := cell_row (cur := [_, _, _, _]) hq 2 _ rfl; go_simp; first | done | with_reducible rfl) ?_
          refine wpJ_q (i := 22) (d := some 120) (v := .int .i64 (ll : Int)) rfl ?_
          refine wpJ_q (i := 23) (d := some 121) (v := .pointer (some ⟨rb, 0, none⟩)) rfl ?_
          refine wpJ_q (i := 24) (d := some 122) (v := .pointer (some ⟨rb, 0, none⟩)) rfl ?_
          refine wpJ_q (i := 25) (d := some 123) (v := .pointer (some ⟨rb, 3, none⟩)) rfl ?_
          refine wpJ_r (i := 26) (d := some 124) (v := .int .i64 (dv : Int)) rfl (by intro wq hq; have g := cell_row (cur := [_, _, _, _]) hq 3 _ rfl; go_simp; first | done | with_reducible rfl) ?_
          refine wpJ_r (i := 27) (d := some 125) (v := .int .i64 ((ll - dv : Nat) : Int)) rfl (by intro wq hq; have g := hlds; go_simp; first | done | with_reducible rfl) ?_
          refine wpJ_do (i := 17) (fun _ => hC24) (by kernel_rfl) rfl (by rfl) ?_
          intro K17 hK17
          have hle := left_any HS24.out
          rw [HLV.out] at hle
          go_simp
          go_wp2_with (go_at_call 21; refine hle.mono ?_; rintro e V6 ⟨rfl, rfl⟩)
          clear hle
          refine wpJ_q (i := 28) (d := some 126) (v := .bool false) rfl ?_
          refine wpJ_q (i := 29) (d := some 127) (v := .bool false) rfl ?_
          refine wpJ_done (fun _ => hC24) (by kernel_rfl) ?_ _
          go_wp2
          go_roundw
          case rel => exact ⟨k + 1, c23, LV, dv, by omega, by go_num, HS24.out, HR24.out, HLL.out, HE24.out⟩
          case measure => simp [intOf]; omega
        · have f2 : (kd == 1) = false := by simpa using hk1
          have f3 : decide (kd = 1) = false := decide_eq_false hk1
          have HLN : Hid (L.length ≤ k + 1 ∧ ∀ x ∈ L, x.length ≤ 500) := ⟨by omega, HLN0.out.2⟩
          go_upto_region 19 with fail
          obtain ⟨V0, hV0⟩ : ∃ V0, V0 = wy := ⟨_, rfl⟩
          obtain ⟨LV, hLV⟩ : ∃ LV, LV = L := ⟨_, rfl⟩
          obtain ⟨dv, hdv⟩ : ∃ dv, dv = d := ⟨_, rfl⟩
          have HS20 : Hid (PS 1 c1 V0 sb W Q LV dv) := by rw [hV0, hLV, hdv]; exact HSS.out
          have HR20 : Hid (RS 2 c1 V0 rb W Q LV dv) := by rw [hV0, hLV, hdv]; exact HRR.out
          have HE20 : Hid (Ev S7 (fun _ => 99) w' c1 V0) := by rw [hV0]; exact HE.out
          have HLL : Hid (LV.length ≤ k + 1 ∧ ∀ x ∈ LV, x.length ≤ 500) := by rw [hLV]; exact HLN.out
          try rw [← hV0]
          clear hV0 hLV hdv
          obtain ⟨c20, hc20⟩ : ∃ c20, c20 = c1 := ⟨_, rfl⟩
          rw [← hc20] at HS20 HR20 HE20
          clear hc20
          try go_upto_region 19 with fail
          have HS21 : Hid (PS 1 c20 V0.drew sb W Q LV dv) := HS20.out.ev (Ev.drewN (fun _ => False) c20 V0 1) (fun h => h) fun h => h
          have HR21 : Hid (RS 2 c20 V0.drew rb W Q LV dv) := HR20.out.ev (Ev.drewN (fun _ => False) c20 V0 1) (fun h => h) fun h => h
          have HE21 : Hid (Ev S7 (fun _ => 99) w' c20 V0.drew) := HE20.out.trans (Ev.drewN (fun _ => False) c20 V0 1) fun _ h => h.elim
          obtain ⟨qv, kv, r1, -, -⟩ := HR21.out.view
          obtain ⟨ll, hll⟩ : ∃ ll, LV.length = ll := ⟨_, rfl⟩
          have HLV : Hid (LV.length = ll) := hll
          obtain ⟨ud, hud⟩ : ∃ ud, undT W LV dv = ud := ⟨_, rfl⟩
          have HUD : Hid (undT W LV dv = ud) := hud
          rw [hll] at r1
          have hdl := HR21.out.le
          rw [hll] at hdl
          have hll2 : ll ≤ 201 := by have := HLL.out.1; omega
          have hC21 := r1
          clear r1 hll hud
          have hlds : IntKind.i64.wrap ((ll : Int) - (dv : Int)) = ((ll - dv : Nat) : Int) := by rw [IntWalk.i64_in _ (by omega)]; omega
          refine wp_region_J 99 (fun X => X.heap[rb]? = some (.cells #[.int .i64 W, .int .i64 Q, .slice qv ll kv, .int .i64 (dv : Int)] 33)) ?_
          change wpJ _ _ _ _ _ _ _ _ _ (World.drew _)
          generalize hw1 : V0.drew = V1 at *
          clear hw1
          refine wpJ_q (i := 0) (d := some 98) (v := .pointer (some ⟨sb, 0, none⟩)) rfl ?_
          refine wpJ_q (i := 2) (d := some 100) (v := .pointer (some ⟨rb, 0, none⟩)) rfl ?_
          refine wpJ_do (i := 1) (fun _ => hC21) (by kernel_rfl) rfl (by rfl) ?_
          intro K1 hK1
          have hou := out_any HS21.out (fun x hx => by have := HLL.out.2 x hx; omega)
          rw [HUD.out] at hou
          go_simp
          go_wp2_with (go_at_call 18; refine hou.mono ?_; rintro e V2 ⟨hb, vo, rfl, hvo⟩)
          have he : Ev (fun _ => False) c20 V1 (paint c20 V1 none 0) V2 := Ev.paint (Keep.of_below hb) _ _
          have HS22 : Hid (PS 1 (paint c20 V1 none 0) V2 sb W Q LV dv) := HS21.out.ev he (fun h => h) fun h => h
          have HR22 : Hid (RS 2 (paint c20 V1 none 0) V2 rb W Q LV dv) := HR21.out.ev he (fun h => h) fun h => h
          have HE22 : Hid (Ev S7 (fun _ => 99) w' (paint c20 V1 none 0) V2) := HE21.out.trans he fun _ h => h.elim
          obtain ⟨po, co, hpo⟩ := hvo.lenv
          rw [outK_len] at hpo
          subst hpo
          have HVO2 : Hid (Vw EP (paint c20 V1 none 0) V2 (.slice po ud co) (outK LV dv ud)) := hvo
          have hC22 := (hb.block rb (obj_lt hC21)).trans hC21
          clear hou hb hvo he
          generalize paint c20 V1 none 0 = c22 at *
          refine wpJ_do (i := 3) (fun _ => hC22) (by kernel_rfl) rfl (by rfl) ?_
          intro K3 hK3
          have hou := rout_any HR22.out (fun x hx => by have := HLL.out.2 x hx; omega)
          rw [HUD.out] at hou
          go_simp
          go_wp2_with (go_at_call 19; refine hou.mono ?_; rintro e V3 ⟨hb, vo, rfl, hvo⟩)
          have he : Ev (fun _ => False) c22 V2 (paint c22 V2 none 0) V3 := Ev.paint (Keep.of_below hb) _ _
          have HS23 : Hid (PS 1 (paint c22 V2 none 0) V3 sb W Q LV dv) := HS22.out.ev he (fun h => h) fun h => h
          have HR23 : Hid (RS 2 (paint c22 V2 none 0) V3 rb W Q LV dv) := HR22.out.ev he (fun h => h) fun h => h
          have HE23 : Hid (Ev S7 (fun _ => 99) w' (paint c22 V2 none 0) V3) := HE22.out.trans he fun _ h => h.elim
          have HVO3 : Hid (Vw EP (paint c22 V2 none 0) V3 (.slice po ud co) (outK LV dv ud)) := Vw.ev HVO2.out he fun h => h
          obtain ⟨pr, cr2, hpr⟩ := hvo.lenv
          rw [outK_len] at hpr
          subst hpr
          have HVR3 : Hid (Vw EP (paint c22 V2 none 0) V3 (.slice pr ud cr2) (outK LV dv ud)) := hvo
          have hC23 := (hb.block rb (obj_lt hC22)).trans hC22
          clear hou hb hvo he
          generalize paint c22 V2 none 0 = c23 at *
          refine wpJ_do (i := 4) (fun _ => hC23) (by kernel_rfl) rfl (by rfl) ?_
          intro K4 hK4
          have hpi := pieces_same HVO3.out HVR3.out (by rw [outK_len]; have := und_le W LV dv; have := HUD.out; have := HLV.out; omega)
          go_simp
          go_wp2_with (go_at_call 17; refine hpi.mono ?_; rintro e V4 ⟨rfl, m4, hV4⟩)
          have HS24 : Hid (PS 1 c23 V4 sb W Q LV dv) := by rw [hV4]; exact HS23.out.ev (Ev.drewN (fun _ => False) c23 V3 m4) (fun h => h) fun h => h
          have HR24 : Hid (RS 2 c23 V4 rb W Q LV dv) := by rw [hV4]; exact HR23.out.ev (Ev.drewN (fun _ => False) c23 V3 m4) (fun h => h) fun h => h
          have HE24 : Hid (Ev S7 (fun _ => 99) w' c23 V4) := by rw [hV4]; exact HE23.out.trans (Ev.drewN (fun _ => False) c23 V3 m4) fun _ h => h.elim
          have hC24 : V4.heap[rb]? = some (.cells #[.int .i64 W, .int .i64 Q, .slice qv ll kv, .int .i64 (dv : Int)] 33) := by rw [hV4]; exact hC23
          try rw [← hV4]
          clear hpi hV4
          refine wpJ_q (i := 5) (d := some 103) (v := .bool false) rfl ?_
          refine wpJ_q (i := 6) (d := some 104) (v := .bool false) rfl ?_
          refine wpJ_q (i := 7) (d := some 105) (v := .pointer (some ⟨sb, 0, none⟩)) rfl ?_
          refine wpJ_q (i := 9) (d := some 107) (v := .pointer (some ⟨rb, 0, none⟩)) rfl ?_
          refine wpJ_q (i := 10) (d := some 108) (v := .pointer (some ⟨rb, 0, none⟩)) rfl ?_
          refine wpJ_q (i := 11) (d := some 109) (v := .pointer (some ⟨rb, 3, none⟩)) rfl ?_
          refine wpJ_r (i := 12) (d := some 110) (v := .int .i64 (dv : Int)) rfl (by intro wq hq; have g := cell_row (cur := [_, _, _, _]) hq 3 _ rfl; go_simp; first | done | with_reducible rfl) ?_
          refine wpJ_do (i := 8) (fun _ => hC24) (by kernel_rfl) rfl (by rfl) ?_
          intro K8 hK8
          have hba := base_any HS24.out
          go_simp
          go_wp2_with (go_at_call 20; refine hba.mono ?_; rintro e V5 ⟨rfl, rfl⟩)
          clear hba
          refine wpJ_q (i := 13) (d := some 111) (v := .bool false) rfl ?_
          refine wpJ_q (i := 14) (d := some 112) (v := .bool false) rfl ?_
          refine wpJ_q (i := 15) (d := some 113) (v := .bool false) rfl ?_
          refine wpJ_q (i := 16) (d := some 114) (v := .pointer (some ⟨sb, 0, none⟩)) rfl ?_
          refine wpJ_q (i := 18) (d := some 116) (v := .pointer (some ⟨rb, 0, none⟩)) rfl ?_
          refine wpJ_q (i := 19) (d := some 117) (v := .pointer (some ⟨rb, 0, none⟩)) rfl ?_
          refine wpJ_q (i := 20) (d := some 118) (v := .pointer (some ⟨rb, 2, none⟩)) rfl ?_
          refine wpJ_r (i := 21) (d := some 119) (v := .slice qv ll kv) rfl (by intro wq hq; have g := cell_row (cur := [_, _, _, _]) hq 2 _ rfl; go_simp; first | done | with_reducible rfl) ?_
          refine wpJ_q (i := 22) (d := some 120) (v := .int .i64 (ll : Int)) rfl ?_
          refine wpJ_q (i := 23) (d := some 121) (v := .pointer (some ⟨rb, 0, none⟩)) rfl ?_
          refine wpJ_q (i := 24) (d := some 122) (v := .pointer (some ⟨rb, 0, none⟩)) rfl ?_
          refine wpJ_q (i := 25) (d := some 123) (v := .pointer (some ⟨rb, 3, none⟩)) rfl ?_
          refine wpJ_r (i := 26) (d := some 124) (v := .int .i64 (dv : Int)) rfl (by intro wq hq; have g := cell_row (cur := [_, _, _, _]) hq 3 _ rfl; go_simp; first | done | with_reducible rfl) ?_
          refine wpJ_r (i := 27) (d := some 125) (v := .int .i64 ((ll - dv : Nat) : Int)) rfl (by intro wq hq; have g := hlds; go_simp; first | done | with_reducible rfl) ?_
          refine wpJ_do (i := 17) (fun _ => hC24) (by kernel_rfl) rfl (by rfl) ?_
          intro K17 hK17
          have hle := left_any HS24.out
          rw [HLV.out] at hle
          go_simp
          go_wp2_with (go_at_call 21; refine hle.mono ?_; rintro e V6 ⟨rfl, rfl⟩)
          clear hle
          refine wpJ_q (i := 28) (d := some 126) (v := .bool false) rfl ?_
          refine wpJ_q (i := 29) (d := some 127) (v := .bool false) rfl ?_
          refine wpJ_done (fun _ => hC24) (by kernel_rfl) ?_ _
          go_wp2
          go_roundw
          case rel => exact ⟨k + 1, c23, LV, dv, by omega, by go_num, HS24.out, HR24.out, HLL.out, HE24.out⟩
          case measure => simp [intOf]; omega
    · obtain rfl : k = n := by omega
      have HBW : Hid (Below w'.heap.size w' wy) := ev_below HE.out (by unfold S7; omega)
      have haw := awake_any wy
      go_wp2_with (go_at_call 12; refine haw.mono ?_; rintro e w3 ⟨rfl, hb3⟩)
      go_ret
      exact ⟨rfl, belowP HBW.out hb3⟩
end Go.Proofs.Ytnhgjgoldcplnaa

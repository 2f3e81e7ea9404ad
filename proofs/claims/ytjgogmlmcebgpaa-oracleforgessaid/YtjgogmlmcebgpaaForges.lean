/-
  OracleForges, walked.
-/
import Derived.Test.YtjgogmlmcebgpaaApart
import Derived.Test.YtjgogmlmcebgpaaStays
import Derived.Test.YtjgogmlmcebgpaaToken
namespace Go.Proofs.Ytjgogmlmcebgpaa
open Go.RowKit Go.Maps

section
variable {P : Program} {ops : Array Oper} {Q : Exit → Act → World → Prop} {md : Region.Mode} {C : World → Prop}
/-- Two may come up. -/
theorem wpIn_two {i j : Nat} {o u : Oper} {n : Nat} {listed : Array Bool} {a : Act} {w : World} (hC : C w) (hr : Region.ready md ops listed = [i, j]) (hi : ops[i]? = some o) (hj : ops[j]? = some u)
    (hw : Region.wanted o (yielded ops a.tmps) = true) (hv : Region.wanted u (yielded ops a.tmps) = true)
    (h : ∀ K' : Act → World → Prop, (∀ a w, wpIn P md ops Q C n (listed.setIfInBounds i true) a w → K' a w) → Oper.wp P o a w K' Q)
    (h' : ∀ K' : Act → World → Prop, (∀ a w, wpIn P md ops Q C n (listed.setIfInBounds j true) a w → K' a w) → Oper.wp P u a w K' Q) : wpIn P md ops Q C (n + 1) listed a w := by
  refine ⟨hC, fun h0 => (by rw [hr] at h0; cases h0), fun m hm => ?_⟩
  rw [hr] at hm
  unfold wpOp
  rcases List.mem_cons.1 hm with rfl | hm
  · rw [hi]
    simp only
    rw [if_pos hw]
    exact .inl (h _ fun _ _ h' => h')
  · rw [List.mem_singleton.1 hm, hj]
    simp only
    rw [if_pos hv]
    exact .inl (h' _ fun _ _ h' => h')
end
theorem verify_some {B tb b1 b2 : Nat} {v : Value} {w : World} {S D : List ByteArray} {G : List (Nat × ByteArray)} {s : ByteArray} {p : Option Addr} {cap : Nat} (t k : ByteArray) (h : Tab B w tb v b1 b2 S D G) (hrd : Rd w.heap.size w p cap (ints s)) (hs : s.size ≤ 1000) (hG : G.length ≤ 100000) :
    Calls Try.prog 19 #[.pointer (some ⟨tb, 0, none⟩), .string t, .slice p s.size cap, .string k] w fun e w' => (∃ b, e = .returned (.bool b)) ∧ Below w.heap.size w w' := by
  have := verify_any t (ints s) k p cap w h hrd (by rw [ints_length]; exact hs) hG
  rw [ints_length] at this
  refine this.mono ?_
  rintro e w' ⟨rfl, hb⟩
  exact ⟨⟨_, rfl⟩, hb⟩
theorem ver_no {S : List ByteArray} {G : List (Nat × ByteArray)} {s t k : ByteArray} (h : inn S s = true → (plc S s, t) ∉ G) : ver S G s t k = false := by
  unfold ver
  cases hs : inn S s with
  | false => rfl
  | true => rw [inn_not.2 (h hs)]; rfl

set_option maxRecDepth 100000 in
set_option maxHeartbeats 8000000 in
theorem oracleForges_any (S : List ByteArray) (p0 : Option Addr) (c0 : Nat) (l : List Dd) (p1 : Option Addr) (c1 : Nat) (x : Dd) (w : World)
    (hS : S.length ≤ 140737488351232) (hSs : ∀ x ∈ S, x.size ≤ 140737488351232) (hl : l.length ≤ 140737488351232) (hx : x.fit) (hn0 : p0 = none → c0 = 0)
    (hrS : RdS w.heap.size w p0 c0 S) (hrl : RdD w.heap.size w p1 c1 l) :
    Calls Try.prog 5 #[.slice p0 S.length c0, .slice p1 l.length c1, .agg #[.int .i64 x.kind, .string x.srv, .string x.txt, .string x.tok, .int .i64 x.n]] w fun e w' => e = .returned (.bool true) ∧ Below w.heap.size w w' := by
  have HBX : Hid (Below w.heap.size w (w.alloc (.cells #[.int .i64 x.kind, .string x.srv, .string x.txt, .string x.tok, .int .i64 x.n] 35))) := (Below.refl _ _).alloc (Nat.le_refl _) _
  have HATX : Hid (x.at (w.alloc (.cells #[.int .i64 x.kind, .string x.srv, .string x.txt, .string x.tok, .int .i64 x.n] 35)) ⟨w.heap.size, 0, none⟩) := at_box w x 35
  cases hf1 : fewB l S with
  | false =>
    go_enter Try.func5, Try.ntmps5
    go_wp2_with (go_at_call 9; refine (few_any l _ _ S _ _ _ w.heap.size hl hS hSs (hrl.carry HBX.out) (hrS.carry HBX.out)).mono ?_; rintro e w' ⟨rfl, rfl⟩)
    go_ret
    exact ⟨rfl, HBX.out⟩
  | true =>
    have HF := Hid.out (show Hid (fewB l S = true) from hf1)
    obtain ⟨hl100, hS100, hSz, hlz⟩ := fewB_iff.1 HF
    have HLZ : Hid (∀ d ∈ l, d.txt.size ≤ 500 ∧ d.srv.size ≤ 100 ∧ d.tok.size ≤ 100) := hlz
    clear HF hSz hlz
    cases hf2 : fewB [x] [] with
    | false =>
      go_enter Try.func5, Try.ntmps5
      go_wp2_with (first
        | (go_at_call 9; have _h := hB1; refine (few_x _ x hx).mono ?_; rintro e w' ⟨rfl, rfl⟩)
        | (go_at_call 9; refine (few_any l _ _ S _ _ _ w.heap.size hl hS hSs (hrl.carry HBX.out) (hrS.carry HBX.out)).mono ?_; rintro e w' ⟨rfl, rfl⟩; have hB1 := HBX))
      go_ret
      exact ⟨rfl, HBX.out.alloc HBX.out.size _⟩
    | true =>
      obtain ⟨_, _, _, hxz⟩ := fewB_iff.1 hf2
      obtain ⟨hx1, hx2, hx3⟩ := hxz x (by simp)
      clear hxz
      obtain ⟨W2, hW2⟩ : ∃ W2, W2 = (w.alloc (.cells #[.int .i64 x.kind, .string x.srv, .string x.txt, .string x.tok, .int .i64 x.n] 35)).alloc (.cells #[.int .i64 x.kind, .string x.srv, .string x.txt, .string x.tok, .int .i64 x.n] 35) := ⟨_, rfl⟩
      have hb2 : Below w.heap.size w W2 := by rw [hW2]; exact HBX.out.alloc HBX.out.size _
      have hsz2 : W2.heap.size = w.heap.size + 2 := by rw [hW2]; simp
      have hat2 : x.at W2 ⟨w.heap.size, 0, none⟩ := by
        rw [hW2]
        exact HATX.out.kept (B := w.heap.size + 1) (by simp) ((Below.refl _ _).alloc (by simp) _)
      have HFX : Hid (Calls Try.prog 9 #[.slice (some ⟨w.heap.size + 1, 0, none⟩) 1 1, .slice none 0 0] ((w.alloc (.cells #[.int .i64 x.kind, .string x.srv, .string x.txt, .string x.tok, .int .i64 x.n] 35)).alloc (.cells #[.int .i64 x.kind, .string x.srv, .string x.txt, .string x.tok, .int .i64 x.n] 35)) fun e w' => e = .returned (.bool true) ∧ W2 = w') := by
        have := few_x w x hx
        rw [hf2, ← hW2] at this
        rw [← hW2]
        exact this
      have HAT2 : Hid (x.at W2 ⟨w.heap.size, 0, none⟩) := hat2
      have HSZ2 : Hid (W2.heap.size = w.heap.size + 2) := hsz2
      have hwlt : w.heap.size < W2.heap.size := by omega
      clear hW2 hat2 hsz2 hf2
      by_cases hgood : S.length ≤ 64 ∧ once S = true
      case neg =>
        go_enter Try.func5, Try.ntmps5
        go_wp2_with (first
          | (go_at_call 9; have _h := hB1; refine HFX.out.mono ?_; rintro e w' ⟨rfl, rfl⟩)
          | (go_at_call 9; refine (few_any l _ _ S _ _ _ w.heap.size hl hS hSs (hrl.carry HBX.out) (hrS.carry HBX.out)).mono ?_; rintro e w' ⟨rfl, rfl⟩; have hB1 := HBX)
          | (go_at_call 10; refine (new_bad S _ _ _ (by omega) ((hrS.carry hb2).grow (by omega)) hgood).mono ?_; rintro e w' ⟨rfl, rfl⟩)
          | (go_at_call 12; refine (awake_any _).mono ?_; rintro e w3 ⟨rfl, hb3⟩))
        go_ret
        exact ⟨rfl, hb2.trans (hb3.mono hb2.size)⟩
      obtain ⟨h64, hone⟩ := hgood
      go_enter Try.func5, Try.ntmps5
      go_wp2_with (first
        | (go_at_call 9; have _h := hB1; refine HFX.out.mono ?_; rintro e w' ⟨rfl, rfl⟩)
        | (go_at_call 9; refine (few_any l _ _ S _ _ _ w.heap.size hl hS hSs (hrl.carry HBX.out) (hrS.carry HBX.out)).mono ?_; rintro e w' ⟨rfl, rfl⟩; have hB1 := HBX)
        | (go_at_call 10; refine (new_good S _ _ _ h64 hone ((hrS.carry hb2).grow (by omega)) hn0).mono ?_; rintro e w1 ⟨tb, rfl, ⟨vv, b1, b2, ht1⟩, hb1⟩))
      have hlo := ht1.lo
      obtain ⟨B2, hB2⟩ : ∃ B2, B2 = w1.heap.size := ⟨_, rfl⟩
      rw [← hB2] at hlo
      have hBB : W2.heap.size ≤ B2 := by rw [hB2]; exact hb1.size
      have HB2 : Hid (B2 = w1.heap.size) := hB2
      have HXC : Hid (∀ w', Below W2.heap.size W2 w' → w'.cell? ⟨w.heap.size, 1, none⟩ = some (.string x.srv) ∧ w'.cell? ⟨w.heap.size, 2, none⟩ = some (.string x.txt) ∧ w'.cell? ⟨w.heap.size, 3, none⟩ = some (.string x.tok)) := fun w' h => by
        obtain ⟨_, h1, h2, h3, _⟩ := HAT2.out.kept hwlt h
        simp only [Nat.zero_add] at h1 h2 h3
        exact ⟨h1, h2, h3⟩
      clear hB2
      go_loopw [9, 10, 11] (fun v b i wr => ∃ (k : Nat) (D : List ByteArray) (G : List (Nat × ByteArray)) (T : List ByteArray) (sg : Bool), k ≤ l.length ∧ i = .int .i64 k ∧ b = .bool sg ∧ wr.ownsRow B2 9 1 v T.length (T.map Value.string) ∧ T.length ≤ k ∧ Tab W2.heap.size wr tb vv b1 b2 S D G ∧ (sg = false → inn S x.srv = true → (plc S x.srv, x.txt) ∉ G) ∧ G.length ≤ k ∧ D.length ≤ k ∧ Below W2.heap.size W2 wr ∧ B2 ≤ wr.heap.size) (fun _ _ i _ => l.length - (intOf i).toNat)
      case atStart => exact ⟨0, [], [], [], false, Nat.zero_le _, rfl, rfl, World.ownsRow_nil _ _ _ _, by simp, ht1, by simp, by simp, by simp, hb1, Nat.le_of_eq HB2.out⟩
      case round =>
        clear ht1 hb1
        obtain ⟨k, D, G, T, sg, hk, rfl, rfl, hown, hTl, ht, hinv, hGl, hDl, hb, hBr⟩ := hrel
        have HI : Hid (sg = false → inn S x.srv = true → (plc S x.srv, x.txt) ∉ G) := hinv
        clear hinv
        obtain ⟨q, cq, rfl, hrdT, _⟩ := own_rds hown
        by_cases hlt : k < l.length
        · obtain ⟨ad, rfl, had, hatd, hfd⟩ := hrl.2 k hlt
          have hdm := getD_mem (d := Dd.none) hlt
          obtain ⟨d, hd⟩ : ∃ d, l.getD k Dd.none = d := ⟨_, rfl⟩
          rw [hd] at hatd hfd hdm
          obtain ⟨hd1, hd2, hd3⟩ := HLZ.out d hdm
          have HD : Hid (∀ w', Below W2.heap.size W2 w' → d.at w' (ad.add (k * 5))) := fun w' h => hatd.kept (by rw [add_block]; exact had) (hb2.trans (h.mono hb2.size))
          clear hd hatd hdm
          obtain ⟨y0, y1, y2, y3, y4⟩ := HD.out wr hb
          have hbd : Below W2.heap.size W2 wr.drew := hb.drew
          have htd := ht.grown (grown_drew wr none)
          have hownd : wr.drew.ownsRow B2 9 1 (.slice q T.length cq) T.length (T.map Value.string) := hown.kept (grown_drew wr none) (by cases Value.ownBlock (.slice q T.length cq) <;> simp)
          by_cases hk0 : d.kind = 0
          · rw [hk0] at y0
            clear y1 y3 y4
            obtain ⟨capd, wcd, hcvd⟩ := bytes_any d.txt wr
            have hrund := hcvd.run
            go_wp2_with (go_at_call 14; refine (digest_text ht hcvd (by omega) (by omega)).mono ?_; rintro e w9 ⟨rfl, ht9, hg9⟩)
            have hb9 : Below W2.heap.size W2 w9 := hb.trans (ht.under1 hg9)
            have hown9 := hown.kept hg9 (ht.texts.row hown)
            have hBr9 : B2 ≤ w9.heap.size := by have := hg9.size; omega
            go_roundw
            case rel => exact ⟨k + 1, _, G, T, sg, by omega, by go_num, rfl, hown9, by omega, ht9, HI.out, by omega, by have := add_len D d.txt; omega, hb9, hBr9⟩
            case measure => simp [intOf]; omega
          · by_cases hk1 : d.kind = 1
            · clear y1 y2 y3 y4
              rw [hk1] at y0
              obtain ⟨cap, wc, hconv⟩ := bytes_any d.txt wr.drew
              have hbc : Below W2.heap.size W2 wc := hbd.trans (hconv.below.mono htd.le)
              have htc := htd.below hconv.below
              have hownc := own_below hownd hconv.below
              have hC0 := HD.out _ hbd
              have hC1 := HD.out _ hbc
              have hrun := hconv.run
              have hszc : B2 ≤ wc.heap.size := by have h9 := hconv.below.size; have h7 : wr.drew.heap.size = wr.heap.size := rfl; omega
              cases hsd : inn S d.srv with
              | false =>
                have hb4 := hbc
                cases sg with
                | true =>
                  go_wp2
                  refine wp_region_in (by kernel_rfl) (fun w' => d.at w' (ad.add (k * 5))) ?_
                  change wpIn _ _ _ _ _ _ _ _ (World.drew _)
                  refine wpIn_take (i := 0) (d := (some 57)) (v := ?vqa10) (a' := ?aqa10) rfl rfl (by kernel_rfl) (by kernel_rfl) (by kernel_rfl) (fun _ _ _ h => h) (Or.inl ⟨by rfl, ?yqa10⟩) ?fqa10 ?_
                  case yqa10 => (intro wq hq; go_simp; first | done | with_reducible rfl)
                  case fqa10 => (go_frame; rfl)
                  refine wpIn_take (i := 1) (d := (some 58)) (v := ?vqa11) (a' := ?aqa11) rfl rfl (by kernel_rfl) (by kernel_rfl) (by kernel_rfl) (fun _ _ _ h => h) (Or.inl ⟨by rfl, ?yqa11⟩) ?fqa11 ?_
                  case yqa11 => (intro wq hq; go_simp; first | done | with_reducible rfl)
                  case fqa11 => (go_frame; rfl)
                  refine wpIn_take (i := 2) (d := (some 59)) (v := ?vqa12) (a' := ?aqa12) rfl rfl (by kernel_rfl) (by kernel_rfl) (by kernel_rfl) (fun _ _ _ h => h) (Or.inl ⟨by rfl, ?yqa12⟩) ?fqa12 ?_
                  case yqa12 => (intro wq hq; go_simp; first | done | with_reducible rfl)
                  case fqa12 => (go_frame; rfl)
                  refine wpIn_take (i := 3) (d := (some 60)) (v := ?vqa13) (a' := ?aqa13) rfl rfl (by kernel_rfl) (by kernel_rfl) (by kernel_rfl) (fun _ _ _ h => h) (Or.inl ⟨by rfl, ?yqa13⟩) ?fqa13 ?_
                  case yqa13 => (intro wq hq; go_simp; first | done | with_reducible rfl)
                  case fqa13 => (go_frame; rfl)
                  refine wpIn_take (i := 4) (d := (some 61)) (v := ?vqa14) (a' := ?aqa14) rfl rfl (by kernel_rfl) (by kernel_rfl) (by kernel_rfl) (fun _ _ _ h => h) (Or.inl ⟨by rfl, ?yqa14⟩) ?fqa14 ?_
                  case yqa14 => (intro wq hq; go_simp; first | done | with_reducible rfl)
                  case fqa14 => (go_frame; rfl)
                  refine wpIn_take (i := 5) (d := (some 62)) (v := ?vqa15) (a' := ?aqa15) rfl rfl (by kernel_rfl) (by kernel_rfl) (by kernel_rfl) (fun _ _ _ h => h) (Or.inl ⟨by rfl, ?yqa15⟩) ?fqa15 ?_
                  case yqa15 => (intro wq hq; obtain ⟨f0, f1, f2, f3, f4⟩ := hq; go_simp; first | done | with_reducible rfl)
                  case fqa15 => (go_frame; rfl)
                  refine wpIn_take (i := 6) (d := (some 63)) (v := ?vqa16) (a' := ?aqa16) rfl rfl (by kernel_rfl) (by kernel_rfl) (by kernel_rfl) (fun _ _ _ h => h) (Or.inl ⟨by rfl, ?yqa16⟩) ?fqa16 ?_
                  case yqa16 => (intro wq hq; go_simp; first | done | with_reducible rfl)
                  case fqa16 => (go_frame; rfl)
                  refine wpIn_take (i := 7) (d := (some 64)) (v := ?vqa17) (a' := ?aqa17) rfl rfl (by kernel_rfl) (by kernel_rfl) (by kernel_rfl) (fun _ _ _ h => h) (Or.inl ⟨by rfl, ?yqa17⟩) ?fqa17 ?_
                  case yqa17 => (intro wq hq; go_simp; first | done | with_reducible rfl)
                  case fqa17 => (go_frame; rfl)
                  refine wpIn_take (i := 8) (d := (some 65)) (v := ?vqa18) (a' := ?aqa18) rfl rfl (by kernel_rfl) (by kernel_rfl) (by kernel_rfl) (fun _ _ _ h => h) (Or.inl ⟨by rfl, ?yqa18⟩) ?fqa18 ?_
                  case yqa18 => (intro wq hq; go_simp; first | done | with_reducible rfl)
                  case fqa18 => (go_frame; rfl)
                  refine wpIn_take (i := 9) (d := (some 66)) (v := ?vqa19) (a' := ?aqa19) rfl rfl (by kernel_rfl) (by kernel_rfl) (by kernel_rfl) (fun _ _ _ h => h) (Or.inl ⟨by rfl, ?yqa19⟩) ?fqa19 ?_
                  case yqa19 => (intro wq hq; go_simp; first | done | with_reducible rfl)
                  case fqa19 => (go_frame; rfl)
                  refine wpIn_take (i := 10) (d := (some 67)) (v := ?vqa110) (a' := ?aqa110) rfl rfl (by kernel_rfl) (by kernel_rfl) (by kernel_rfl) (fun _ _ _ h => h) (Or.inl ⟨by rfl, ?yqa110⟩) ?fqa110 ?_
                  case yqa110 => (intro wq hq; obtain ⟨f0, f1, f2, f3, f4⟩ := hq; go_simp; first | done | with_reducible rfl)
                  case fqa110 => (go_frame; rfl)
                  refine wpIn_do (i := 11) hC0 (by kernel_rfl) rfl (by rfl) ?_
                  intro K hK
                  go_simp
                  refine hK _ _ ?_
                  clear hK K
                  refine wpIn_do (i := 12) hC1 (by kernel_rfl) rfl (by rfl) ?_
                  intro K hK
                  go_simp
                  go_wp2_with (go_at_call 16; refine (sign_none d.srv _ _ htc hsd).mono ?_; rintro e w' ⟨rfl, rfl⟩)
                  refine wpIn_take (i := 13) (d := (some 56)) (v := ?vqb113) (a' := ?aqb113) rfl rfl (by kernel_rfl) (by kernel_rfl) (by kernel_rfl) (fun _ _ _ h => h) (Or.inl ⟨by rfl, ?yqb113⟩) ?fqb113 ?_
                  case yqb113 => (intro wq hq; go_simp; first | done | with_reducible rfl)
                  case fqb113 => (go_frame; rfl)
                  refine wpIn_take (i := 14) (d := (some 70)) (v := ?vqb114) (a' := ?aqb114) rfl rfl (by kernel_rfl) (by kernel_rfl) (by kernel_rfl) (fun _ _ _ h => h) (Or.inl ⟨by rfl, ?yqb114⟩) ?fqb114 ?_
                  case yqb114 => (intro wq hq; go_simp; first | done | with_reducible rfl)
                  case fqb114 => (go_frame; rfl)
                  refine wpIn_take (i := 15) (d := (some 71)) (v := ?vqb115) (a' := ?aqb115) rfl rfl (by kernel_rfl) (by kernel_rfl) (by kernel_rfl) (fun _ _ _ h => h) (Or.inl ⟨by rfl, ?yqb115⟩) ?fqb115 ?_
                  case yqb115 => (intro wq hq; go_simp; first | done | with_reducible rfl)
                  case fqb115 => (go_frame; rfl)
                  refine wpIn_take (i := 16) (d := (some 12)) (v := ?vqb116) (a' := ?aqb116) rfl rfl (by kernel_rfl) (by kernel_rfl) (by kernel_rfl) (fun _ _ _ h => h) (Or.inl ⟨by rfl, ?yqb116⟩) ?fqb116 ?_
                  case yqb116 => (intro wq hq; go_simp; first | done | with_reducible rfl)
                  case fqb116 => (go_frame; rfl)
                  refine wpIn_take (i := 17) (d := (some 13)) (v := ?vqb117) (a' := ?aqb117) rfl rfl (by kernel_rfl) (by kernel_rfl) (by kernel_rfl) (fun _ _ _ h => h) (Or.inl ⟨by rfl, ?yqb117⟩) ?fqb117 ?_
                  case yqb117 => (intro wq hq; go_simp; first | done | with_reducible rfl)
                  case fqb117 => (go_frame; rfl)
                  refine wpIn_done hC1 (by kernel_rfl) ?_ _
                  go_wp2_with (at_builtin; refine wpList_append_rds rfl _ _ rfl B2 _ T rfl ?a0 _ _ _ [(⟨#[]⟩ : ByteArray)] rfl (rds_one _ _ _) ?a2 ?a3 ?a4 ?_)
                  case a0 => exact hownc.alloc _
                  case a2 => intro h; cases h
                  case a3 => simp; omega
                  case a4 => have := hszc; simp; omega
                  intro v6 w6 hown6 hgrow6
                  have hbB : Below B2 wc w6 := ((Below.refl _ _).alloc (by have := hszc; omega) _).grown hgrow6 (by have := hszc; simp; omega) (own_base hown)
                  have ht6 := htc.low hlo hbB
                  have hb6 : Below W2.heap.size W2 w6 := hb4.trans (hbB.mono hBB)
                  have hBr6 : B2 ≤ w6.heap.size := by have := hszc; have := hbB.size; omega
                  have hown6' : w6.ownsRow B2 9 1 v6 (T ++ [(⟨#[]⟩ : ByteArray)]).length ((T ++ [(⟨#[]⟩ : ByteArray)]).map Value.string) := by simpa using hown6
                  clear hgrow6 hown6 hbB
                  go_wp2
                  have hbe : Below W2.heap.size W2 w6.drew := hb6.drew
                  have hC4 := And.intro (HD.out _ hbe) (And.intro (HXC.out _ hbe).1 (HXC.out _ hbe).2.1)
                  refine wp_region_in (by kernel_rfl) (fun w' => d.at w' (ad.add (k * 5)) ∧ w'.cell? ⟨w.heap.size, 1, none⟩ = some (.string x.srv) ∧ w'.cell? ⟨w.heap.size, 2, none⟩ = some (.string x.txt)) ?_
                  change wpIn _ _ _ _ _ _ _ _ (World.drew _)
                  refine wpIn_take (i := 0) (d := (some 76)) (v := ?vqc10) (a' := ?aqc10) rfl rfl (by kernel_rfl) (by kernel_rfl) (by kernel_rfl) (fun _ _ _ h => h) (Or.inl ⟨by rfl, ?yqc10⟩) ?fqc10 ?_
                  case yqc10 => (intro wq hq; go_simp; first | done | with_reducible rfl)
                  case fqc10 => (go_frame; rfl)
                  refine wpIn_take (i := 1) (d := (some 77)) (v := ?vqc11) (a' := ?aqc11) rfl rfl (by kernel_rfl) (by kernel_rfl) (by kernel_rfl) (fun _ _ _ h => h) (Or.inl ⟨by rfl, ?yqc11⟩) ?fqc11 ?_
                  case yqc11 => (intro wq hq; go_simp; first | done | with_reducible rfl)
                  case fqc11 => (go_frame; rfl)
                  refine wpIn_take (i := 2) (d := (some 78)) (v := undef) (a' := ?aqc12) rfl rfl (by kernel_rfl) (by kernel_rfl) (by kernel_rfl) (fun _ _ _ h => h) (Or.inr ⟨by rfl, rfl⟩) ?fqc12 ?_
                  case fqc12 => (go_frame; rfl)
                  refine wpIn_take (i := 3) (d := (some 79)) (v := undef) (a' := ?aqc13) rfl rfl (by kernel_rfl) (by kernel_rfl) (by kernel_rfl) (fun _ _ _ h => h) (Or.inr ⟨by rfl, rfl⟩) ?fqc13 ?_
                  case fqc13 => (go_frame; rfl)
                  refine wpIn_take (i := 4) (d := (some 80)) (v := undef) (a' := ?aqc14) rfl rfl (by kernel_rfl) (by kernel_rfl) (by kernel_rfl) (fun _ _ _ h => h) (Or.inr ⟨by rfl, rfl⟩) ?fqc14 ?_
                  case fqc14 => (go_frame; rfl)
                  refine wpIn_take (i := 5) (d := (some 81)) (v := undef) (a' := ?aqc15) rfl rfl (by kernel_rfl) (by kernel_rfl) (by kernel_rfl) (fun _ _ _ h => h) (Or.inr ⟨by rfl, rfl⟩) ?fqc15 ?_
                  case fqc15 => (go_frame; rfl)
                  refine wpIn_take (i := 6) (d := (some 82)) (v := undef) (a' := ?aqc16) rfl rfl (by kernel_rfl) (by kernel_rfl) (by kernel_rfl) (fun _ _ _ h => h) (Or.inr ⟨by rfl, rfl⟩) ?fqc16 ?_
                  case fqc16 => (go_frame; rfl)
                  refine wpIn_take (i := 7) (d := (some 83)) (v := undef) (a' := ?aqc17) rfl rfl (by kernel_rfl) (by kernel_rfl) (by kernel_rfl) (fun _ _ _ h => h) (Or.inr ⟨by rfl, rfl⟩) ?fqc17 ?_
                  case fqc17 => (go_frame; rfl)
                  refine wpIn_take (i := 8) (d := (some 84)) (v := undef) (a' := ?aqc18) rfl rfl (by kernel_rfl) (by kernel_rfl) (by kernel_rfl) (fun _ _ _ h => h) (Or.inr ⟨by rfl, rfl⟩) ?fqc18 ?_
                  case fqc18 => (go_frame; rfl)
                  refine wpIn_take (i := 9) (d := (some 85)) (v := undef) (a' := ?aqc19) rfl rfl (by kernel_rfl) (by kernel_rfl) (by kernel_rfl) (fun _ _ _ h => h) (Or.inr ⟨by rfl, rfl⟩) ?fqc19 ?_
                  case fqc19 => (go_frame; rfl)
                  refine wpIn_take (i := 10) (d := (some 86)) (v := undef) (a' := ?aqc110) rfl rfl (by kernel_rfl) (by kernel_rfl) (by kernel_rfl) (fun _ _ _ h => h) (Or.inr ⟨by rfl, rfl⟩) ?fqc110 ?_
                  case fqc110 => (go_frame; rfl)
                  refine wpIn_take (i := 11) (d := (some 87)) (v := undef) (a' := ?aqc111) rfl rfl (by kernel_rfl) (by kernel_rfl) (by kernel_rfl) (fun _ _ _ h => h) (Or.inr ⟨by rfl, rfl⟩) ?fqc111 ?_
                  case fqc111 => (go_frame; rfl)
                  refine wpIn_take (i := 12) (d := (some 88)) (v := undef) (a' := ?aqc112) rfl rfl (by kernel_rfl) (by kernel_rfl) (by kernel_rfl) (fun _ _ _ h => h) (Or.inr ⟨by rfl, rfl⟩) ?fqc112 ?_
                  case fqc112 => (go_frame; rfl)
                  refine wpIn_take (i := 13) (d := (some 89)) (v := undef) (a' := ?aqc113) rfl rfl (by kernel_rfl) (by kernel_rfl) (by kernel_rfl) (fun _ _ _ h => h) (Or.inr ⟨by rfl, rfl⟩) ?fqc113 ?_
                  case fqc113 => (go_frame; rfl)
                  refine wpIn_take (i := 14) (d := (some 90)) (v := undef) (a' := ?aqc114) rfl rfl (by kernel_rfl) (by kernel_rfl) (by kernel_rfl) (fun _ _ _ h => h) (Or.inr ⟨by rfl, rfl⟩) ?fqc114 ?_
                  case fqc114 => (go_frame; rfl)
                  refine wpIn_take (i := 15) (d := (some 91)) (v := undef) (a' := ?aqc115) rfl rfl (by kernel_rfl) (by kernel_rfl) (by kernel_rfl) (fun _ _ _ h => h) (Or.inr ⟨by rfl, rfl⟩) ?fqc115 ?_
                  case fqc115 => (go_frame; rfl)
                  refine wpIn_take (i := 16) (d := (some 92)) (v := undef) (a' := ?aqc116) rfl rfl (by kernel_rfl) (by kernel_rfl) (by kernel_rfl) (fun _ _ _ h => h) (Or.inr ⟨by rfl, rfl⟩) ?fqc116 ?_
                  case fqc116 => (go_frame; rfl)
                  refine wpIn_take (i := 17) (d := (some 93)) (v := undef) (a' := ?aqc117) rfl rfl (by kernel_rfl) (by kernel_rfl) (by kernel_rfl) (fun _ _ _ h => h) (Or.inr ⟨by rfl, rfl⟩) ?fqc117 ?_
                  case fqc117 => (go_frame; rfl)
                  refine wpIn_take (i := 18) (d := (some 94)) (v := undef) (a' := ?aqc118) rfl rfl (by kernel_rfl) (by kernel_rfl) (by kernel_rfl) (fun _ _ _ h => h) (Or.inr ⟨by rfl, rfl⟩) ?fqc118 ?_
                  case fqc118 => (go_frame; rfl)
                  refine wpIn_take (i := 19) (d := (some 95)) (v := undef) (a' := ?aqc119) rfl rfl (by kernel_rfl) (by kernel_rfl) (by kernel_rfl) (fun _ _ _ h => h) (Or.inr ⟨by rfl, rfl⟩) ?fqc119 ?_
                  case fqc119 => (go_frame; rfl)
                  refine wpIn_take (i := 20) (d := (some 96)) (v := undef) (a' := ?aqc120) rfl rfl (by kernel_rfl) (by kernel_rfl) (by kernel_rfl) (fun _ _ _ h => h) (Or.inr ⟨by rfl, rfl⟩) ?fqc120 ?_
                  case fqc120 => (go_frame; rfl)
                  refine wpIn_take (i := 21) (d := (some 97)) (v := undef) (a' := ?aqc121) rfl rfl (by kernel_rfl) (by kernel_rfl) (by kernel_rfl) (fun _ _ _ h => h) (Or.inr ⟨by rfl, rfl⟩) ?fqc121 ?_
                  case fqc121 => (go_frame; rfl)
                  refine wpIn_take (i := 22) (d := (some 98)) (v := undef) (a' := ?aqc122) rfl rfl (by kernel_rfl) (by kernel_rfl) (by kernel_rfl) (fun _ _ _ h => h) (Or.inr ⟨by rfl, rfl⟩) ?fqc122 ?_
                  case fqc122 => (go_frame; rfl)
                  refine wpIn_take (i := 23) (d := (some 99)) (v := undef) (a' := ?aqc123) rfl rfl (by kernel_rfl) (by kernel_rfl) (by kernel_rfl) (fun _ _ _ h => h) (Or.inr ⟨by rfl, rfl⟩) ?fqc123 ?_
                  case fqc123 => (go_frame; rfl)
                  refine wpIn_take (i := 24) (d := (some 100)) (v := ?vqc124) (a' := ?aqc124) rfl rfl (by kernel_rfl) (by kernel_rfl) (by kernel_rfl) (fun _ _ _ h => h) (Or.inl ⟨by rfl, ?yqc124⟩) ?fqc124 ?_
                  case yqc124 => (intro wq hq; go_simp; first | done | with_reducible rfl)
                  case fqc124 => (go_frame; rfl)
                  refine wpIn_take (i := 25) (d := (some 10)) (v := ?vqc125) (a' := ?aqc125) rfl rfl (by kernel_rfl) (by kernel_rfl) (by kernel_rfl) (fun _ _ _ h => h) (Or.inl ⟨by rfl, ?yqc125⟩) ?fqc125 ?_
                  case yqc125 => (intro wq hq; go_simp; first | done | with_reducible rfl)
                  case fqc125 => (go_frame; rfl)
                  refine wpIn_done hC4 (by kernel_rfl) ?_ _
                  have hown7 := hown6'.kept (grown_drew w6 none) (by cases v6.ownBlock <;> simp)
                  have ht7 := ht6.grown (grown_drew w6 none)
                  go_wp2
                  go_roundw
                  case rel => exact ⟨k + 1, D, G, T ++ [(⟨#[]⟩ : ByteArray)], true, by omega, by go_num, rfl, hown7, by simp; omega, ht7, by simp, by omega, by omega, hbe, hBr6⟩
                  case measure => simp [intOf]; omega
                | false =>
                  go_wp2
                  refine wp_region_in (by kernel_rfl) (fun w' => d.at w' (ad.add (k * 5))) ?_
                  change wpIn _ _ _ _ _ _ _ _ (World.drew _)
                  refine wpIn_take (i := 0) (d := (some 57)) (v := ?vqa20) (a' := ?aqa20) rfl rfl (by kernel_rfl) (by kernel_rfl) (by kernel_rfl) (fun _ _ _ h => h) (Or.inl ⟨by rfl, ?yqa20⟩) ?fqa20 ?_
                  case yqa20 => (intro wq hq; go_simp; first | done | with_reducible rfl)
                  case fqa20 => (go_frame; rfl)
                  refine wpIn_take (i := 1) (d := (some 58)) (v := ?vqa21) (a' := ?aqa21) rfl rfl (by kernel_rfl) (by kernel_rfl) (by kernel_rfl) (fun _ _ _ h => h) (Or.inl ⟨by rfl, ?yqa21⟩) ?fqa21 ?_
                  case yqa21 => (intro wq hq; go_simp; first | done | with_reducible rfl)
                  case fqa21 => (go_frame; rfl)
                  refine wpIn_take (i := 2) (d := (some 59)) (v := ?vqa22) (a' := ?aqa22) rfl rfl (by kernel_rfl) (by kernel_rfl) (by kernel_rfl) (fun _ _ _ h => h) (Or.inl ⟨by rfl, ?yqa22⟩) ?fqa22 ?_
                  case yqa22 => (intro wq hq; go_simp; first | done | with_reducible rfl)
                  case fqa22 => (go_frame; rfl)
                  refine wpIn_take (i := 3) (d := (some 60)) (v := ?vqa23) (a' := ?aqa23) rfl rfl (by kernel_rfl) (by kernel_rfl) (by kernel_rfl) (fun _ _ _ h => h) (Or.inl ⟨by rfl, ?yqa23⟩) ?fqa23 ?_
                  case yqa23 => (intro wq hq; go_simp; first | done | with_reducible rfl)
                  case fqa23 => (go_frame; rfl)
                  refine wpIn_take (i := 4) (d := (some 61)) (v := ?vqa24) (a' := ?aqa24) rfl rfl (by kernel_rfl) (by kernel_rfl) (by kernel_rfl) (fun _ _ _ h => h) (Or.inl ⟨by rfl, ?yqa24⟩) ?fqa24 ?_
                  case yqa24 => (intro wq hq; go_simp; first | done | with_reducible rfl)
                  case fqa24 => (go_frame; rfl)
                  refine wpIn_take (i := 5) (d := (some 62)) (v := ?vqa25) (a' := ?aqa25) rfl rfl (by kernel_rfl) (by kernel_rfl) (by kernel_rfl) (fun _ _ _ h => h) (Or.inl ⟨by rfl, ?yqa25⟩) ?fqa25 ?_
                  case yqa25 => (intro wq hq; obtain ⟨f0, f1, f2, f3, f4⟩ := hq; go_simp; first | done | with_reducible rfl)
                  case fqa25 => (go_frame; rfl)
                  refine wpIn_take (i := 6) (d := (some 63)) (v := ?vqa26) (a' := ?aqa26) rfl rfl (by kernel_rfl) (by kernel_rfl) (by kernel_rfl) (fun _ _ _ h => h) (Or.inl ⟨by rfl, ?yqa26⟩) ?fqa26 ?_
                  case yqa26 => (intro wq hq; go_simp; first | done | with_reducible rfl)
                  case fqa26 => (go_frame; rfl)
                  refine wpIn_take (i := 7) (d := (some 64)) (v := ?vqa27) (a' := ?aqa27) rfl rfl (by kernel_rfl) (by kernel_rfl) (by kernel_rfl) (fun _ _ _ h => h) (Or.inl ⟨by rfl, ?yqa27⟩) ?fqa27 ?_
                  case yqa27 => (intro wq hq; go_simp; first | done | with_reducible rfl)
                  case fqa27 => (go_frame; rfl)
                  refine wpIn_take (i := 8) (d := (some 65)) (v := ?vqa28) (a' := ?aqa28) rfl rfl (by kernel_rfl) (by kernel_rfl) (by kernel_rfl) (fun _ _ _ h => h) (Or.inl ⟨by rfl, ?yqa28⟩) ?fqa28 ?_
                  case yqa28 => (intro wq hq; go_simp; first | done | with_reducible rfl)
                  case fqa28 => (go_frame; rfl)
                  refine wpIn_take (i := 9) (d := (some 66)) (v := ?vqa29) (a' := ?aqa29) rfl rfl (by kernel_rfl) (by kernel_rfl) (by kernel_rfl) (fun _ _ _ h => h) (Or.inl ⟨by rfl, ?yqa29⟩) ?fqa29 ?_
                  case yqa29 => (intro wq hq; go_simp; first | done | with_reducible rfl)
                  case fqa29 => (go_frame; rfl)
                  refine wpIn_take (i := 10) (d := (some 67)) (v := ?vqa210) (a' := ?aqa210) rfl rfl (by kernel_rfl) (by kernel_rfl) (by kernel_rfl) (fun _ _ _ h => h) (Or.inl ⟨by rfl, ?yqa210⟩) ?fqa210 ?_
                  case yqa210 => (intro wq hq; obtain ⟨f0, f1, f2, f3, f4⟩ := hq; go_simp; first | done | with_reducible rfl)
                  case fqa210 => (go_frame; rfl)
                  refine wpIn_do (i := 11) hC0 (by kernel_rfl) rfl (by rfl) ?_
                  intro K hK
                  go_simp
                  refine hK _ _ ?_
                  clear hK K
                  refine wpIn_do (i := 12) hC1 (by kernel_rfl) rfl (by rfl) ?_
                  intro K hK
                  go_simp
                  go_wp2_with (go_at_call 16; refine (sign_none d.srv _ _ htc hsd).mono ?_; rintro e w' ⟨rfl, rfl⟩)
                  refine wpIn_take (i := 13) (d := (some 56)) (v := ?vqb213) (a' := ?aqb213) rfl rfl (by kernel_rfl) (by kernel_rfl) (by kernel_rfl) (fun _ _ _ h => h) (Or.inl ⟨by rfl, ?yqb213⟩) ?fqb213 ?_
                  case yqb213 => (intro wq hq; go_simp; first | done | with_reducible rfl)
                  case fqb213 => (go_frame; rfl)
                  refine wpIn_take (i := 14) (d := (some 70)) (v := ?vqb214) (a' := ?aqb214) rfl rfl (by kernel_rfl) (by kernel_rfl) (by kernel_rfl) (fun _ _ _ h => h) (Or.inl ⟨by rfl, ?yqb214⟩) ?fqb214 ?_
                  case yqb214 => (intro wq hq; go_simp; first | done | with_reducible rfl)
                  case fqb214 => (go_frame; rfl)
                  refine wpIn_take (i := 15) (d := (some 71)) (v := ?vqb215) (a' := ?aqb215) rfl rfl (by kernel_rfl) (by kernel_rfl) (by kernel_rfl) (fun _ _ _ h => h) (Or.inl ⟨by rfl, ?yqb215⟩) ?fqb215 ?_
                  case yqb215 => (intro wq hq; go_simp; first | done | with_reducible rfl)
                  case fqb215 => (go_frame; rfl)
                  refine wpIn_take (i := 16) (d := (some 12)) (v := ?vqb216) (a' := ?aqb216) rfl rfl (by kernel_rfl) (by kernel_rfl) (by kernel_rfl) (fun _ _ _ h => h) (Or.inl ⟨by rfl, ?yqb216⟩) ?fqb216 ?_
                  case yqb216 => (intro wq hq; go_simp; first | done | with_reducible rfl)
                  case fqb216 => (go_frame; rfl)
                  refine wpIn_take (i := 17) (d := (some 13)) (v := ?vqb217) (a' := ?aqb217) rfl rfl (by kernel_rfl) (by kernel_rfl) (by kernel_rfl) (fun _ _ _ h => h) (Or.inl ⟨by rfl, ?yqb217⟩) ?fqb217 ?_
                  case yqb217 => (intro wq hq; go_simp; first | done | with_reducible rfl)
                  case fqb217 => (go_frame; rfl)
                  refine wpIn_done hC1 (by kernel_rfl) ?_ _
                  go_wp2_with (at_builtin; refine wpList_append_rds rfl _ _ rfl B2 _ T rfl ?a0 _ _ _ [(⟨#[]⟩ : ByteArray)] rfl (rds_one _ _ _) ?a2 ?a3 ?a4 ?_)
                  case a0 => exact hownc.alloc _
                  case a2 => intro h; cases h
                  case a3 => simp; omega
                  case a4 => have := hszc; simp; omega
                  intro v6 w6 hown6 hgrow6
                  have hbB : Below B2 wc w6 := ((Below.refl _ _).alloc (by have := hszc; omega) _).grown hgrow6 (by have := hszc; simp; omega) (own_base hown)
                  have ht6 := htc.low hlo hbB
                  have hb6 : Below W2.heap.size W2 w6 := hb4.trans (hbB.mono hBB)
                  have hBr6 : B2 ≤ w6.heap.size := by have := hszc; have := hbB.size; omega
                  have hown6' : w6.ownsRow B2 9 1 v6 (T ++ [(⟨#[]⟩ : ByteArray)]).length ((T ++ [(⟨#[]⟩ : ByteArray)]).map Value.string) := by simpa using hown6
                  clear hgrow6 hown6 hbB
                  go_wp2
                  have hbe : Below W2.heap.size W2 w6.drew := hb6.drew
                  have hC4 := And.intro (HD.out _ hbe) (And.intro (HXC.out _ hbe).1 (HXC.out _ hbe).2.1)
                  refine wp_region_in (by kernel_rfl) (fun w' => d.at w' (ad.add (k * 5)) ∧ w'.cell? ⟨w.heap.size, 1, none⟩ = some (.string x.srv) ∧ w'.cell? ⟨w.heap.size, 2, none⟩ = some (.string x.txt)) ?_
                  change wpIn _ _ _ _ _ _ _ _ (World.drew _)
                  refine wpIn_take (i := 0) (d := (some 76)) (v := ?vqc20) (a' := ?aqc20) rfl rfl (by kernel_rfl) (by kernel_rfl) (by kernel_rfl) (fun _ _ _ h => h) (Or.inl ⟨by rfl, ?yqc20⟩) ?fqc20 ?_
                  case yqc20 => (intro wq hq; go_simp; first | done | with_reducible rfl)
                  case fqc20 => (go_frame; rfl)
                  refine wpIn_take (i := 1) (d := (some 77)) (v := ?vqc21) (a' := ?aqc21) rfl rfl (by kernel_rfl) (by kernel_rfl) (by kernel_rfl) (fun _ _ _ h => h) (Or.inl ⟨by rfl, ?yqc21⟩) ?fqc21 ?_
                  case yqc21 => (intro wq hq; go_simp; first | done | with_reducible rfl)
                  case fqc21 => (go_frame; rfl)
                  refine wpIn_take (i := 2) (d := (some 78)) (v := ?vqc22) (a' := ?aqc22) rfl rfl (by kernel_rfl) (by kernel_rfl) (by kernel_rfl) (fun _ _ _ h => h) (Or.inl ⟨by rfl, ?yqc22⟩) ?fqc22 ?_
                  case yqc22 => (intro wq hq; go_simp; first | done | with_reducible rfl)
                  case fqc22 => (go_frame; rfl)
                  refine wpIn_take (i := 3) (d := (some 79)) (v := ?vqc23) (a' := ?aqc23) rfl rfl (by kernel_rfl) (by kernel_rfl) (by kernel_rfl) (fun _ _ _ h => h) (Or.inl ⟨by rfl, ?yqc23⟩) ?fqc23 ?_
                  case yqc23 => (intro wq hq; go_simp; first | done | with_reducible rfl)
                  case fqc23 => (go_frame; rfl)
                  refine wpIn_take (i := 4) (d := (some 80)) (v := ?vqc24) (a' := ?aqc24) rfl rfl (by kernel_rfl) (by kernel_rfl) (by kernel_rfl) (fun _ _ _ h => h) (Or.inl ⟨by rfl, ?yqc24⟩) ?fqc24 ?_
                  case yqc24 => (intro wq hq; go_simp; first | done | with_reducible rfl)
                  case fqc24 => (go_frame; rfl)
                  refine wpIn_take (i := 5) (d := (some 81)) (v := undef) (a' := ?aqc25) rfl rfl (by kernel_rfl) (by kernel_rfl) (by kernel_rfl) (fun _ _ _ h => h) (Or.inr ⟨by rfl, rfl⟩) ?fqc25 ?_
                  case fqc25 => (go_frame; rfl)
                  refine wpIn_take (i := 6) (d := (some 82)) (v := undef) (a' := ?aqc26) rfl rfl (by kernel_rfl) (by kernel_rfl) (by kernel_rfl) (fun _ _ _ h => h) (Or.inr ⟨by rfl, rfl⟩) ?fqc26 ?_
                  case fqc26 => (go_frame; rfl)
                  refine wpIn_take (i := 7) (d := (some 83)) (v := undef) (a' := ?aqc27) rfl rfl (by kernel_rfl) (by kernel_rfl) (by kernel_rfl) (fun _ _ _ h => h) (Or.inr ⟨by rfl, rfl⟩) ?fqc27 ?_
                  case fqc27 => (go_frame; rfl)
                  refine wpIn_take (i := 8) (d := (some 84)) (v := undef) (a' := ?aqc28) rfl rfl (by kernel_rfl) (by kernel_rfl) (by kernel_rfl) (fun _ _ _ h => h) (Or.inr ⟨by rfl, rfl⟩) ?fqc28 ?_
                  case fqc28 => (go_frame; rfl)
                  refine wpIn_take (i := 9) (d := (some 85)) (v := undef) (a' := ?aqc29) rfl rfl (by kernel_rfl) (by kernel_rfl) (by kernel_rfl) (fun _ _ _ h => h) (Or.inr ⟨by rfl, rfl⟩) ?fqc29 ?_
                  case fqc29 => (go_frame; rfl)
                  refine wpIn_take (i := 10) (d := (some 86)) (v := undef) (a' := ?aqc210) rfl rfl (by kernel_rfl) (by kernel_rfl) (by kernel_rfl) (fun _ _ _ h => h) (Or.inr ⟨by rfl, rfl⟩) ?fqc210 ?_
                  case fqc210 => (go_frame; rfl)
                  refine wpIn_take (i := 11) (d := (some 87)) (v := undef) (a' := ?aqc211) rfl rfl (by kernel_rfl) (by kernel_rfl) (by kernel_rfl) (fun _ _ _ h => h) (Or.inr ⟨by rfl, rfl⟩) ?fqc211 ?_
                  case fqc211 => (go_frame; rfl)
                  refine wpIn_take (i := 12) (d := (some 88)) (v := undef) (a' := ?aqc212) rfl rfl (by kernel_rfl) (by kernel_rfl) (by kernel_rfl) (fun _ _ _ h => h) (Or.inr ⟨by rfl, rfl⟩) ?fqc212 ?_
                  case fqc212 => (go_frame; rfl)
                  refine wpIn_take (i := 13) (d := (some 89)) (v := ?vqc213) (a' := ?aqc213) rfl rfl (by kernel_rfl) (by kernel_rfl) (by kernel_rfl) (fun _ _ _ h => h) (Or.inl ⟨by rfl, ?yqc213⟩) ?fqc213 ?_
                  case yqc213 => (intro wq hq; go_simp; first | done | with_reducible rfl)
                  case fqc213 => (go_frame; rfl)
                  refine wpIn_take (i := 14) (d := (some 90)) (v := ?vqc214) (a' := ?aqc214) rfl rfl (by kernel_rfl) (by kernel_rfl) (by kernel_rfl) (fun _ _ _ h => h) (Or.inl ⟨by rfl, ?yqc214⟩) ?fqc214 ?_
                  case yqc214 => (intro wq hq; go_simp; first | done | with_reducible rfl)
                  case fqc214 => (go_frame; rfl)
                  refine wpIn_take (i := 15) (d := (some 91)) (v := undef) (a' := ?aqc215) rfl rfl (by kernel_rfl) (by kernel_rfl) (by kernel_rfl) (fun _ _ _ h => h) (Or.inr ⟨by rfl, rfl⟩) ?fqc215 ?_
                  case fqc215 => (go_frame; rfl)
                  refine wpIn_take (i := 16) (d := (some 92)) (v := undef) (a' := ?aqc216) rfl rfl (by kernel_rfl) (by kernel_rfl) (by kernel_rfl) (fun _ _ _ h => h) (Or.inr ⟨by rfl, rfl⟩) ?fqc216 ?_
                  case fqc216 => (go_frame; rfl)
                  refine wpIn_take (i := 17) (d := (some 93)) (v := undef) (a' := ?aqc217) rfl rfl (by kernel_rfl) (by kernel_rfl) (by kernel_rfl) (fun _ _ _ h => h) (Or.inr ⟨by rfl, rfl⟩) ?fqc217 ?_
                  case fqc217 => (go_frame; rfl)
                  refine wpIn_take (i := 18) (d := (some 94)) (v := undef) (a' := ?aqc218) rfl rfl (by kernel_rfl) (by kernel_rfl) (by kernel_rfl) (fun _ _ _ h => h) (Or.inr ⟨by rfl, rfl⟩) ?fqc218 ?_
                  case fqc218 => (go_frame; rfl)
                  refine wpIn_take (i := 19) (d := (some 95)) (v := undef) (a' := ?aqc219) rfl rfl (by kernel_rfl) (by kernel_rfl) (by kernel_rfl) (fun _ _ _ h => h) (Or.inr ⟨by rfl, rfl⟩) ?fqc219 ?_
                  case fqc219 => (go_frame; rfl)
                  refine wpIn_take (i := 20) (d := (some 96)) (v := undef) (a' := ?aqc220) rfl rfl (by kernel_rfl) (by kernel_rfl) (by kernel_rfl) (fun _ _ _ h => h) (Or.inr ⟨by rfl, rfl⟩) ?fqc220 ?_
                  case fqc220 => (go_frame; rfl)
                  refine wpIn_take (i := 21) (d := (some 97)) (v := undef) (a' := ?aqc221) rfl rfl (by kernel_rfl) (by kernel_rfl) (by kernel_rfl) (fun _ _ _ h => h) (Or.inr ⟨by rfl, rfl⟩) ?fqc221 ?_
                  case fqc221 => (go_frame; rfl)
                  refine wpIn_take (i := 22) (d := (some 98)) (v := undef) (a' := ?aqc222) rfl rfl (by kernel_rfl) (by kernel_rfl) (by kernel_rfl) (fun _ _ _ h => h) (Or.inr ⟨by rfl, rfl⟩) ?fqc222 ?_
                  case fqc222 => (go_frame; rfl)
                  refine wpIn_take (i := 23) (d := (some 99)) (v := ?vqc223) (a' := ?aqc223) rfl rfl (by kernel_rfl) (by kernel_rfl) (by kernel_rfl) (fun _ _ _ h => h) (Or.inl ⟨by rfl, ?yqc223⟩) ?fqc223 ?_
                  case yqc223 => (intro wq hq; go_simp; first | done | with_reducible rfl)
                  case fqc223 => (go_frame; rfl)
                  refine wpIn_take (i := 24) (d := (some 100)) (v := ?vqc224) (a' := ?aqc224) rfl rfl (by kernel_rfl) (by kernel_rfl) (by kernel_rfl) (fun _ _ _ h => h) (Or.inl ⟨by rfl, ?yqc224⟩) ?fqc224 ?_
                  case yqc224 => (intro wq hq; go_simp; first | done | with_reducible rfl)
                  case fqc224 => (go_frame; rfl)
                  refine wpIn_take (i := 25) (d := (some 10)) (v := ?vqc225) (a' := ?aqc225) rfl rfl (by kernel_rfl) (by kernel_rfl) (by kernel_rfl) (fun _ _ _ h => h) (Or.inl ⟨by rfl, ?yqc225⟩) ?fqc225 ?_
                  case yqc225 => (intro wq hq; go_simp; first | done | with_reducible rfl)
                  case fqc225 => (go_frame; rfl)
                  refine wpIn_done hC4 (by kernel_rfl) ?_ _
                  have hown7 := hown6'.kept (grown_drew w6 none) (by cases v6.ownBlock <;> simp)
                  have ht7 := ht6.grown (grown_drew w6 none)
                  go_wp2
                  go_roundw
                  case rel => exact ⟨k + 1, D, G, T ++ [(⟨#[]⟩ : ByteArray)], false, by omega, by go_num, rfl, hown7, by simp; omega, ht7, fun _ => HI.out trivial, by omega, by omega, hbe, hBr6⟩
                  case measure => simp [intOf]; omega
              | true =>
                have hGl' := add_len G (plc S d.srv, d.txt)
                have HIN : Hid (sg = false → ¬ (d.srv = x.srv ∧ d.txt = x.txt) → inn S x.srv = true → (plc S x.srv, x.txt) ∉ (add G (plc S d.srv, d.txt))) := fun h1 h2 h3 hm => by
                  rcases (mem_add _ _ _).1 hm with h4 | h4
                  · exact HI.out h1 h3 h4
                  · simp only [Prod.mk.injEq] at h4
                    exact h2 ⟨(plc_inj (inn_iff.1 h3) (inn_iff.1 hsd) h4.1).symm, h4.2.symm⟩
                obtain ⟨G', hG'⟩ : ∃ G', G' = (add G (plc S d.srv, d.txt)) := ⟨_, rfl⟩
                rw [← hG'] at hGl' HIN
                obtain ⟨tk, htk⟩ : ∃ tk, tk = lt (no G (plc S d.srv, d.txt)) := ⟨_, rfl⟩
                have HS : Hid (Calls Try.prog 16 #[.pointer (some ⟨tb, 0, none⟩), .string d.srv, .slice (some ⟨wr.drew.heap.size, 0, none⟩) d.txt.size cap] wc fun e w' => e = .returned (.tuple #[.string tk, .int .i64 0]) ∧ Tab W2.heap.size w' tb vv b1 b2 S D G' ∧ wr.drew.grownBy w' (some b2)) := by
                  rw [htk, hG']
                  exact sign_text d.srv htd hconv (by omega) (by omega) hsd
                clear hG' htk hownc hszc
                cases sg with
                | true =>
                  go_wp2
                  refine wp_region_in (by kernel_rfl) (fun w' => d.at w' (ad.add (k * 5))) ?_
                  change wpIn _ _ _ _ _ _ _ _ (World.drew _)
                  refine wpIn_take (i := 0) (d := (some 57)) (v := ?vqa30) (a' := ?aqa30) rfl rfl (by kernel_rfl) (by kernel_rfl) (by kernel_rfl) (fun _ _ _ h => h) (Or.inl ⟨by rfl, ?yqa30⟩) ?fqa30 ?_
                  case yqa30 => (intro wq hq; go_simp; first | done | with_reducible rfl)
                  case fqa30 => (go_frame; rfl)
                  refine wpIn_take (i := 1) (d := (some 58)) (v := ?vqa31) (a' := ?aqa31) rfl rfl (by kernel_rfl) (by kernel_rfl) (by kernel_rfl) (fun _ _ _ h => h) (Or.inl ⟨by rfl, ?yqa31⟩) ?fqa31 ?_
                  case yqa31 => (intro wq hq; go_simp; first | done | with_reducible rfl)
                  case fqa31 => (go_frame; rfl)
                  refine wpIn_take (i := 2) (d := (some 59)) (v := ?vqa32) (a' := ?aqa32) rfl rfl (by kernel_rfl) (by kernel_rfl) (by kernel_rfl) (fun _ _ _ h => h) (Or.inl ⟨by rfl, ?yqa32⟩) ?fqa32 ?_
                  case yqa32 => (intro wq hq; go_simp; first | done | with_reducible rfl)
                  case fqa32 => (go_frame; rfl)
                  refine wpIn_take (i := 3) (d := (some 60)) (v := ?vqa33) (a' := ?aqa33) rfl rfl (by kernel_rfl) (by kernel_rfl) (by kernel_rfl) (fun _ _ _ h => h) (Or.inl ⟨by rfl, ?yqa33⟩) ?fqa33 ?_
                  case yqa33 => (intro wq hq; go_simp; first | done | with_reducible rfl)
                  case fqa33 => (go_frame; rfl)
                  refine wpIn_take (i := 4) (d := (some 61)) (v := ?vqa34) (a' := ?aqa34) rfl rfl (by kernel_rfl) (by kernel_rfl) (by kernel_rfl) (fun _ _ _ h => h) (Or.inl ⟨by rfl, ?yqa34⟩) ?fqa34 ?_
                  case yqa34 => (intro wq hq; go_simp; first | done | with_reducible rfl)
                  case fqa34 => (go_frame; rfl)
                  refine wpIn_take (i := 5) (d := (some 62)) (v := ?vqa35) (a' := ?aqa35) rfl rfl (by kernel_rfl) (by kernel_rfl) (by kernel_rfl) (fun _ _ _ h => h) (Or.inl ⟨by rfl, ?yqa35⟩) ?fqa35 ?_
                  case yqa35 => (intro wq hq; obtain ⟨f0, f1, f2, f3, f4⟩ := hq; go_simp; first | done | with_reducible rfl)
                  case fqa35 => (go_frame; rfl)
                  refine wpIn_take (i := 6) (d := (some 63)) (v := ?vqa36) (a' := ?aqa36) rfl rfl (by kernel_rfl) (by kernel_rfl) (by kernel_rfl) (fun _ _ _ h => h) (Or.inl ⟨by rfl, ?yqa36⟩) ?fqa36 ?_
                  case yqa36 => (intro wq hq; go_simp; first | done | with_reducible rfl)
                  case fqa36 => (go_frame; rfl)
                  refine wpIn_take (i := 7) (d := (some 64)) (v := ?vqa37) (a' := ?aqa37) rfl rfl (by kernel_rfl) (by kernel_rfl) (by kernel_rfl) (fun _ _ _ h => h) (Or.inl ⟨by rfl, ?yqa37⟩) ?fqa37 ?_
                  case yqa37 => (intro wq hq; go_simp; first | done | with_reducible rfl)
                  case fqa37 => (go_frame; rfl)
                  refine wpIn_take (i := 8) (d := (some 65)) (v := ?vqa38) (a' := ?aqa38) rfl rfl (by kernel_rfl) (by kernel_rfl) (by kernel_rfl) (fun _ _ _ h => h) (Or.inl ⟨by rfl, ?yqa38⟩) ?fqa38 ?_
                  case yqa38 => (intro wq hq; go_simp; first | done | with_reducible rfl)
                  case fqa38 => (go_frame; rfl)
                  refine wpIn_take (i := 9) (d := (some 66)) (v := ?vqa39) (a' := ?aqa39) rfl rfl (by kernel_rfl) (by kernel_rfl) (by kernel_rfl) (fun _ _ _ h => h) (Or.inl ⟨by rfl, ?yqa39⟩) ?fqa39 ?_
                  case yqa39 => (intro wq hq; go_simp; first | done | with_reducible rfl)
                  case fqa39 => (go_frame; rfl)
                  refine wpIn_take (i := 10) (d := (some 67)) (v := ?vqa310) (a' := ?aqa310) rfl rfl (by kernel_rfl) (by kernel_rfl) (by kernel_rfl) (fun _ _ _ h => h) (Or.inl ⟨by rfl, ?yqa310⟩) ?fqa310 ?_
                  case yqa310 => (intro wq hq; obtain ⟨f0, f1, f2, f3, f4⟩ := hq; go_simp; first | done | with_reducible rfl)
                  case fqa310 => (go_frame; rfl)
                  refine wpIn_do (i := 11) hC0 (by kernel_rfl) rfl (by rfl) ?_
                  intro K hK
                  go_simp
                  refine hK _ _ ?_
                  clear hK K
                  refine wpIn_do (i := 12) hC1 (by kernel_rfl) rfl (by rfl) ?_
                  intro K hK
                  go_simp
                  go_wp2_with (go_at_call 16; refine HS.out.mono ?_; rintro e w4 ⟨rfl, ht4, hg4⟩)
                  have hb4 : Below W2.heap.size W2 w4 := hbd.trans (htd.under2 hg4)
                  have hC2 := HD.out _ hb4
                  have hown4 := hownd.kept hg4 (htd.tokens.row hownd)
                  have hsz4 : B2 ≤ w4.heap.size := by have h9 := hg4.size; have h7 : wr.drew.heap.size = wr.heap.size := rfl; omega
                  refine wpIn_take (i := 13) (d := (some 56)) (v := ?vqb313) (a' := ?aqb313) rfl rfl (by kernel_rfl) (by kernel_rfl) (by kernel_rfl) (fun _ _ _ h => h) (Or.inl ⟨by rfl, ?yqb313⟩) ?fqb313 ?_
                  case yqb313 => (intro wq hq; go_simp; first | done | with_reducible rfl)
                  case fqb313 => (go_frame; rfl)
                  refine wpIn_take (i := 14) (d := (some 70)) (v := ?vqb314) (a' := ?aqb314) rfl rfl (by kernel_rfl) (by kernel_rfl) (by kernel_rfl) (fun _ _ _ h => h) (Or.inl ⟨by rfl, ?yqb314⟩) ?fqb314 ?_
                  case yqb314 => (intro wq hq; go_simp; first | done | with_reducible rfl)
                  case fqb314 => (go_frame; rfl)
                  refine wpIn_take (i := 15) (d := (some 71)) (v := ?vqb315) (a' := ?aqb315) rfl rfl (by kernel_rfl) (by kernel_rfl) (by kernel_rfl) (fun _ _ _ h => h) (Or.inl ⟨by rfl, ?yqb315⟩) ?fqb315 ?_
                  case yqb315 => (intro wq hq; go_simp; first | done | with_reducible rfl)
                  case fqb315 => (go_frame; rfl)
                  refine wpIn_take (i := 16) (d := (some 12)) (v := ?vqb316) (a' := ?aqb316) rfl rfl (by kernel_rfl) (by kernel_rfl) (by kernel_rfl) (fun _ _ _ h => h) (Or.inl ⟨by rfl, ?yqb316⟩) ?fqb316 ?_
                  case yqb316 => (intro wq hq; go_simp; first | done | with_reducible rfl)
                  case fqb316 => (go_frame; rfl)
                  refine wpIn_take (i := 17) (d := (some 13)) (v := ?vqb317) (a' := ?aqb317) rfl rfl (by kernel_rfl) (by kernel_rfl) (by kernel_rfl) (fun _ _ _ h => h) (Or.inl ⟨by rfl, ?yqb317⟩) ?fqb317 ?_
                  case yqb317 => (intro wq hq; go_simp; first | done | with_reducible rfl)
                  case fqb317 => (go_frame; rfl)
                  refine wpIn_done hC2 (by kernel_rfl) ?_ _
                  go_wp2_with (at_builtin; refine wpList_append_rds rfl _ _ rfl B2 _ T rfl ?a0 _ _ _ [tk] rfl (rds_one _ _ _) ?a2 ?a3 ?a4 ?_)
                  case a0 => exact hown4.alloc _
                  case a2 => intro h; cases h
                  case a3 => simp; omega
                  case a4 => have := hsz4; simp; omega
                  intro v6 w6 hown6 hgrow6
                  have hbB : Below B2 w4 w6 := ((Below.refl _ _).alloc (by have := hsz4; omega) _).grown hgrow6 (by have := hsz4; simp; omega) (own_base hown)
                  have ht6 := ht4.low hlo hbB
                  have hb6 : Below W2.heap.size W2 w6 := hb4.trans (hbB.mono hBB)
                  have hBr6 : B2 ≤ w6.heap.size := by have := hsz4; have := hbB.size; omega
                  have hown6' : w6.ownsRow B2 9 1 v6 (T ++ [tk]).length ((T ++ [tk]).map Value.string) := by simpa using hown6
                  clear hgrow6 hown6 hbB
                  go_wp2
                  have hbe : Below W2.heap.size W2 w6.drew := hb6.drew
                  have hC4 := And.intro (HD.out _ hbe) (And.intro (HXC.out _ hbe).1 (HXC.out _ hbe).2.1)
                  refine wp_region_in (by kernel_rfl) (fun w' => d.at w' (ad.add (k * 5)) ∧ w'.cell? ⟨w.heap.size, 1, none⟩ = some (.string x.srv) ∧ w'.cell? ⟨w.heap.size, 2, none⟩ = some (.string x.txt)) ?_
                  change wpIn _ _ _ _ _ _ _ _ (World.drew _)
                  refine wpIn_take (i := 0) (d := (some 76)) (v := ?vqc30) (a' := ?aqc30) rfl rfl (by kernel_rfl) (by kernel_rfl) (by kernel_rfl) (fun _ _ _ h => h) (Or.inl ⟨by rfl, ?yqc30⟩) ?fqc30 ?_
                  case yqc30 => (intro wq hq; go_simp; first | done | with_reducible rfl)
                  case fqc30 => (go_frame; rfl)
                  refine wpIn_take (i := 1) (d := (some 77)) (v := ?vqc31) (a' := ?aqc31) rfl rfl (by kernel_rfl) (by kernel_rfl) (by kernel_rfl) (fun _ _ _ h => h) (Or.inl ⟨by rfl, ?yqc31⟩) ?fqc31 ?_
                  case yqc31 => (intro wq hq; go_simp; first | done | with_reducible rfl)
                  case fqc31 => (go_frame; rfl)
                  refine wpIn_take (i := 2) (d := (some 78)) (v := undef) (a' := ?aqc32) rfl rfl (by kernel_rfl) (by kernel_rfl) (by kernel_rfl) (fun _ _ _ h => h) (Or.inr ⟨by rfl, rfl⟩) ?fqc32 ?_
                  case fqc32 => (go_frame; rfl)
                  refine wpIn_take (i := 3) (d := (some 79)) (v := undef) (a' := ?aqc33) rfl rfl (by kernel_rfl) (by kernel_rfl) (by kernel_rfl) (fun _ _ _ h => h) (Or.inr ⟨by rfl, rfl⟩) ?fqc33 ?_
                  case fqc33 => (go_frame; rfl)
                  refine wpIn_take (i := 4) (d := (some 80)) (v := undef) (a' := ?aqc34) rfl rfl (by kernel_rfl) (by kernel_rfl) (by kernel_rfl) (fun _ _ _ h => h) (Or.inr ⟨by rfl, rfl⟩) ?fqc34 ?_
                  case fqc34 => (go_frame; rfl)
                  refine wpIn_take (i := 5) (d := (some 81)) (v := undef) (a' := ?aqc35) rfl rfl (by kernel_rfl) (by kernel_rfl) (by kernel_rfl) (fun _ _ _ h => h) (Or.inr ⟨by rfl, rfl⟩) ?fqc35 ?_
                  case fqc35 => (go_frame; rfl)
                  refine wpIn_take (i := 6) (d := (some 82)) (v := undef) (a' := ?aqc36) rfl rfl (by kernel_rfl) (by kernel_rfl) (by kernel_rfl) (fun _ _ _ h => h) (Or.inr ⟨by rfl, rfl⟩) ?fqc36 ?_
                  case fqc36 => (go_frame; rfl)
                  refine wpIn_take (i := 7) (d := (some 83)) (v := undef) (a' := ?aqc37) rfl rfl (by kernel_rfl) (by kernel_rfl) (by kernel_rfl) (fun _ _ _ h => h) (Or.inr ⟨by rfl, rfl⟩) ?fqc37 ?_
                  case fqc37 => (go_frame; rfl)
                  refine wpIn_take (i := 8) (d := (some 84)) (v := undef) (a' := ?aqc38) rfl rfl (by kernel_rfl) (by kernel_rfl) (by kernel_rfl) (fun _ _ _ h => h) (Or.inr ⟨by rfl, rfl⟩) ?fqc38 ?_
                  case fqc38 => (go_frame; rfl)
                  refine wpIn_take (i := 9) (d := (some 85)) (v := undef) (a' := ?aqc39) rfl rfl (by kernel_rfl) (by kernel_rfl) (by kernel_rfl) (fun _ _ _ h => h) (Or.inr ⟨by rfl, rfl⟩) ?fqc39 ?_
                  case fqc39 => (go_frame; rfl)
                  refine wpIn_take (i := 10) (d := (some 86)) (v := undef) (a' := ?aqc310) rfl rfl (by kernel_rfl) (by kernel_rfl) (by kernel_rfl) (fun _ _ _ h => h) (Or.inr ⟨by rfl, rfl⟩) ?fqc310 ?_
                  case fqc310 => (go_frame; rfl)
                  refine wpIn_take (i := 11) (d := (some 87)) (v := undef) (a' := ?aqc311) rfl rfl (by kernel_rfl) (by kernel_rfl) (by kernel_rfl) (fun _ _ _ h => h) (Or.inr ⟨by rfl, rfl⟩) ?fqc311 ?_
                  case fqc311 => (go_frame; rfl)
                  refine wpIn_take (i := 12) (d := (some 88)) (v := undef) (a' := ?aqc312) rfl rfl (by kernel_rfl) (by kernel_rfl) (by kernel_rfl) (fun _ _ _ h => h) (Or.inr ⟨by rfl, rfl⟩) ?fqc312 ?_
                  case fqc312 => (go_frame; rfl)
                  refine wpIn_take (i := 13) (d := (some 89)) (v := undef) (a' := ?aqc313) rfl rfl (by kernel_rfl) (by kernel_rfl) (by kernel_rfl) (fun _ _ _ h => h) (Or.inr ⟨by rfl, rfl⟩) ?fqc313 ?_
                  case fqc313 => (go_frame; rfl)
                  refine wpIn_take (i := 14) (d := (some 90)) (v := undef) (a' := ?aqc314) rfl rfl (by kernel_rfl) (by kernel_rfl) (by kernel_rfl) (fun _ _ _ h => h) (Or.inr ⟨by rfl, rfl⟩) ?fqc314 ?_
                  case fqc314 => (go_frame; rfl)
                  refine wpIn_take (i := 15) (d := (some 91)) (v := undef) (a' := ?aqc315) rfl rfl (by kernel_rfl) (by kernel_rfl) (by kernel_rfl) (fun _ _ _ h => h) (Or.inr ⟨by rfl, rfl⟩) ?fqc315 ?_
                  case fqc315 => (go_frame; rfl)
                  refine wpIn_take (i := 16) (d := (some 92)) (v := undef) (a' := ?aqc316) rfl rfl (by kernel_rfl) (by kernel_rfl) (by kernel_rfl) (fun _ _ _ h => h) (Or.inr ⟨by rfl, rfl⟩) ?fqc316 ?_
                  case fqc316 => (go_frame; rfl)
                  refine wpIn_take (i := 17) (d := (some 93)) (v := undef) (a' := ?aqc317) rfl rfl (by kernel_rfl) (by kernel_rfl) (by kernel_rfl) (fun _ _ _ h => h) (Or.inr ⟨by rfl, rfl⟩) ?fqc317 ?_
                  case fqc317 => (go_frame; rfl)
                  refine wpIn_take (i := 18) (d := (some 94)) (v := undef) (a' := ?aqc318) rfl rfl (by kernel_rfl) (by kernel_rfl) (by kernel_rfl) (fun _ _ _ h => h) (Or.inr ⟨by rfl, rfl⟩) ?fqc318 ?_
                  case fqc318 => (go_frame; rfl)
                  refine wpIn_take (i := 19) (d := (some 95)) (v := undef) (a' := ?aqc319) rfl rfl (by kernel_rfl) (by kernel_rfl) (by kernel_rfl) (fun _ _ _ h => h) (Or.inr ⟨by rfl, rfl⟩) ?fqc319 ?_
                  case fqc319 => (go_frame; rfl)
                  refine wpIn_take (i := 20) (d := (some 96)) (v := undef) (a' := ?aqc320) rfl rfl (by kernel_rfl) (by kernel_rfl) (by kernel_rfl) (fun _ _ _ h => h) (Or.inr ⟨by rfl, rfl⟩) ?fqc320 ?_
                  case fqc320 => (go_frame; rfl)
                  refine wpIn_take (i := 21) (d := (some 97)) (v := undef) (a' := ?aqc321) rfl rfl (by kernel_rfl) (by kernel_rfl) (by kernel_rfl) (fun _ _ _ h => h) (Or.inr ⟨by rfl, rfl⟩) ?fqc321 ?_
                  case fqc321 => (go_frame; rfl)
                  refine wpIn_take (i := 22) (d := (some 98)) (v := undef) (a' := ?aqc322) rfl rfl (by kernel_rfl) (by kernel_rfl) (by kernel_rfl) (fun _ _ _ h => h) (Or.inr ⟨by rfl, rfl⟩) ?fqc322 ?_
                  case fqc322 => (go_frame; rfl)
                  refine wpIn_take (i := 23) (d := (some 99)) (v := undef) (a' := ?aqc323) rfl rfl (by kernel_rfl) (by kernel_rfl) (by kernel_rfl) (fun _ _ _ h => h) (Or.inr ⟨by rfl, rfl⟩) ?fqc323 ?_
                  case fqc323 => (go_frame; rfl)
                  refine wpIn_take (i := 24) (d := (some 100)) (v := ?vqc324) (a' := ?aqc324) rfl rfl (by kernel_rfl) (by kernel_rfl) (by kernel_rfl) (fun _ _ _ h => h) (Or.inl ⟨by rfl, ?yqc324⟩) ?fqc324 ?_
                  case yqc324 => (intro wq hq; go_simp; first | done | with_reducible rfl)
                  case fqc324 => (go_frame; rfl)
                  refine wpIn_take (i := 25) (d := (some 10)) (v := ?vqc325) (a' := ?aqc325) rfl rfl (by kernel_rfl) (by kernel_rfl) (by kernel_rfl) (fun _ _ _ h => h) (Or.inl ⟨by rfl, ?yqc325⟩) ?fqc325 ?_
                  case yqc325 => (intro wq hq; go_simp; first | done | with_reducible rfl)
                  case fqc325 => (go_frame; rfl)
                  refine wpIn_done hC4 (by kernel_rfl) ?_ _
                  have hown7 := hown6'.kept (grown_drew w6 none) (by cases v6.ownBlock <;> simp)
                  have ht7 := ht6.grown (grown_drew w6 none)
                  go_wp2
                  go_roundw
                  case rel => exact ⟨k + 1, D, G', T ++ [tk], true, by omega, by go_num, rfl, hown7, by simp; omega, ht7, by simp, by omega, by omega, hbe, hBr6⟩
                  case measure => simp [intOf]; omega
                | false =>
                  cases hbs : decide (d.srv = x.srv) with
                  | true =>
                    have e_s : (d.srv.toList == x.srv.toList) = true := by rw [beqS, hbs]
                    obtain ⟨bt, hbt⟩ : ∃ b, b = decide (d.txt = x.txt) := ⟨_, rfl⟩
                    have e_t : (d.txt.toList == x.txt.toList) = bt := by rw [beqS, hbt]
                    have HIB : Hid (bt = false → inn S x.srv = true → (plc S x.srv, x.txt) ∉ G') := fun h => HIN.out rfl (fun h' => by rw [hbt] at h; simp [h'.2] at h)
                    clear hbs hbt
                    go_wp2
                    refine wp_region_in (by kernel_rfl) (fun w' => d.at w' (ad.add (k * 5))) ?_
                    change wpIn _ _ _ _ _ _ _ _ (World.drew _)
                    refine wpIn_take (i := 0) (d := (some 57)) (v := ?vqa40) (a' := ?aqa40) rfl rfl (by kernel_rfl) (by kernel_rfl) (by kernel_rfl) (fun _ _ _ h => h) (Or.inl ⟨by rfl, ?yqa40⟩) ?fqa40 ?_
                    case yqa40 => (intro wq hq; go_simp; first | done | with_reducible rfl)
                    case fqa40 => (go_frame; rfl)
                    refine wpIn_take (i := 1) (d := (some 58)) (v := ?vqa41) (a' := ?aqa41) rfl rfl (by kernel_rfl) (by kernel_rfl) (by kernel_rfl) (fun _ _ _ h => h) (Or.inl ⟨by rfl, ?yqa41⟩) ?fqa41 ?_
                    case yqa41 => (intro wq hq; go_simp; first | done | with_reducible rfl)
                    case fqa41 => (go_frame; rfl)
                    refine wpIn_take (i := 2) (d := (some 59)) (v := ?vqa42) (a' := ?aqa42) rfl rfl (by kernel_rfl) (by kernel_rfl) (by kernel_rfl) (fun _ _ _ h => h) (Or.inl ⟨by rfl, ?yqa42⟩) ?fqa42 ?_
                    case yqa42 => (intro wq hq; go_simp; first | done | with_reducible rfl)
                    case fqa42 => (go_frame; rfl)
                    refine wpIn_take (i := 3) (d := (some 60)) (v := ?vqa43) (a' := ?aqa43) rfl rfl (by kernel_rfl) (by kernel_rfl) (by kernel_rfl) (fun _ _ _ h => h) (Or.inl ⟨by rfl, ?yqa43⟩) ?fqa43 ?_
                    case yqa43 => (intro wq hq; go_simp; first | done | with_reducible rfl)
                    case fqa43 => (go_frame; rfl)
                    refine wpIn_take (i := 4) (d := (some 61)) (v := ?vqa44) (a' := ?aqa44) rfl rfl (by kernel_rfl) (by kernel_rfl) (by kernel_rfl) (fun _ _ _ h => h) (Or.inl ⟨by rfl, ?yqa44⟩) ?fqa44 ?_
                    case yqa44 => (intro wq hq; go_simp; first | done | with_reducible rfl)
                    case fqa44 => (go_frame; rfl)
                    refine wpIn_take (i := 5) (d := (some 62)) (v := ?vqa45) (a' := ?aqa45) rfl rfl (by kernel_rfl) (by kernel_rfl) (by kernel_rfl) (fun _ _ _ h => h) (Or.inl ⟨by rfl, ?yqa45⟩) ?fqa45 ?_
                    case yqa45 => (intro wq hq; obtain ⟨f0, f1, f2, f3, f4⟩ := hq; go_simp; first | done | with_reducible rfl)
                    case fqa45 => (go_frame; rfl)
                    refine wpIn_take (i := 6) (d := (some 63)) (v := ?vqa46) (a' := ?aqa46) rfl rfl (by kernel_rfl) (by kernel_rfl) (by kernel_rfl) (fun _ _ _ h => h) (Or.inl ⟨by rfl, ?yqa46⟩) ?fqa46 ?_
                    case yqa46 => (intro wq hq; go_simp; first | done | with_reducible rfl)
                    case fqa46 => (go_frame; rfl)
                    refine wpIn_take (i := 7) (d := (some 64)) (v := ?vqa47) (a' := ?aqa47) rfl rfl (by kernel_rfl) (by kernel_rfl) (by kernel_rfl) (fun _ _ _ h => h) (Or.inl ⟨by rfl, ?yqa47⟩) ?fqa47 ?_
                    case yqa47 => (intro wq hq; go_simp; first | done | with_reducible rfl)
                    case fqa47 => (go_frame; rfl)
                    refine wpIn_take (i := 8) (d := (some 65)) (v := ?vqa48) (a' := ?aqa48) rfl rfl (by kernel_rfl) (by kernel_rfl) (by kernel_rfl) (fun _ _ _ h => h) (Or.inl ⟨by rfl, ?yqa48⟩) ?fqa48 ?_
                    case yqa48 => (intro wq hq; go_simp; first | done | with_reducible rfl)
                    case fqa48 => (go_frame; rfl)
                    refine wpIn_take (i := 9) (d := (some 66)) (v := ?vqa49) (a' := ?aqa49) rfl rfl (by kernel_rfl) (by kernel_rfl) (by kernel_rfl) (fun _ _ _ h => h) (Or.inl ⟨by rfl, ?yqa49⟩) ?fqa49 ?_
                    case yqa49 => (intro wq hq; go_simp; first | done | with_reducible rfl)
                    case fqa49 => (go_frame; rfl)
                    refine wpIn_take (i := 10) (d := (some 67)) (v := ?vqa410) (a' := ?aqa410) rfl rfl (by kernel_rfl) (by kernel_rfl) (by kernel_rfl) (fun _ _ _ h => h) (Or.inl ⟨by rfl, ?yqa410⟩) ?fqa410 ?_
                    case yqa410 => (intro wq hq; obtain ⟨f0, f1, f2, f3, f4⟩ := hq; go_simp; first | done | with_reducible rfl)
                    case fqa410 => (go_frame; rfl)
                    refine wpIn_do (i := 11) hC0 (by kernel_rfl) rfl (by rfl) ?_
                    intro K hK
                    go_simp
                    refine hK _ _ ?_
                    clear hK K
                    refine wpIn_do (i := 12) hC1 (by kernel_rfl) rfl (by rfl) ?_
                    intro K hK
                    go_simp
                    go_wp2_with (go_at_call 16; refine HS.out.mono ?_; rintro e w4 ⟨rfl, ht4, hg4⟩)
                    have hb4 : Below W2.heap.size W2 w4 := hbd.trans (htd.under2 hg4)
                    have hC2 := HD.out _ hb4
                    have hown4 := hownd.kept hg4 (htd.tokens.row hownd)
                    have hsz4 : B2 ≤ w4.heap.size := by have h9 := hg4.size; have h7 : wr.drew.heap.size = wr.heap.size := rfl; omega
                    refine wpIn_take (i := 13) (d := (some 56)) (v := ?vqb413) (a' := ?aqb413) rfl rfl (by kernel_rfl) (by kernel_rfl) (by kernel_rfl) (fun _ _ _ h => h) (Or.inl ⟨by rfl, ?yqb413⟩) ?fqb413 ?_
                    case yqb413 => (intro wq hq; go_simp; first | done | with_reducible rfl)
                    case fqb413 => (go_frame; rfl)
                    refine wpIn_take (i := 14) (d := (some 70)) (v := ?vqb414) (a' := ?aqb414) rfl rfl (by kernel_rfl) (by kernel_rfl) (by kernel_rfl) (fun _ _ _ h => h) (Or.inl ⟨by rfl, ?yqb414⟩) ?fqb414 ?_
                    case yqb414 => (intro wq hq; go_simp; first | done | with_reducible rfl)
                    case fqb414 => (go_frame; rfl)
                    refine wpIn_take (i := 15) (d := (some 71)) (v := ?vqb415) (a' := ?aqb415) rfl rfl (by kernel_rfl) (by kernel_rfl) (by kernel_rfl) (fun _ _ _ h => h) (Or.inl ⟨by rfl, ?yqb415⟩) ?fqb415 ?_
                    case yqb415 => (intro wq hq; go_simp; first | done | with_reducible rfl)
                    case fqb415 => (go_frame; rfl)
                    refine wpIn_take (i := 16) (d := (some 12)) (v := ?vqb416) (a' := ?aqb416) rfl rfl (by kernel_rfl) (by kernel_rfl) (by kernel_rfl) (fun _ _ _ h => h) (Or.inl ⟨by rfl, ?yqb416⟩) ?fqb416 ?_
                    case yqb416 => (intro wq hq; go_simp; first | done | with_reducible rfl)
                    case fqb416 => (go_frame; rfl)
                    refine wpIn_take (i := 17) (d := (some 13)) (v := ?vqb417) (a' := ?aqb417) rfl rfl (by kernel_rfl) (by kernel_rfl) (by kernel_rfl) (fun _ _ _ h => h) (Or.inl ⟨by rfl, ?yqb417⟩) ?fqb417 ?_
                    case yqb417 => (intro wq hq; go_simp; first | done | with_reducible rfl)
                    case fqb417 => (go_frame; rfl)
                    refine wpIn_done hC2 (by kernel_rfl) ?_ _
                    go_wp2_with (at_builtin; refine wpList_append_rds rfl _ _ rfl B2 _ T rfl ?a0 _ _ _ [tk] rfl (rds_one _ _ _) ?a2 ?a3 ?a4 ?_)
                    case a0 => exact hown4.alloc _
                    case a2 => intro h; cases h
                    case a3 => simp; omega
                    case a4 => have := hsz4; simp; omega
                    intro v6 w6 hown6 hgrow6
                    have hbB : Below B2 w4 w6 := ((Below.refl _ _).alloc (by have := hsz4; omega) _).grown hgrow6 (by have := hsz4; simp; omega) (own_base hown)
                    have ht6 := ht4.low hlo hbB
                    have hb6 : Below W2.heap.size W2 w6 := hb4.trans (hbB.mono hBB)
                    have hBr6 : B2 ≤ w6.heap.size := by have := hsz4; have := hbB.size; omega
                    have hown6' : w6.ownsRow B2 9 1 v6 (T ++ [tk]).length ((T ++ [tk]).map Value.string) := by simpa using hown6
                    clear hgrow6 hown6 hbB
                    go_wp2
                    have hbe : Below W2.heap.size W2 w6.drew := hb6.drew
                    have hC4 := And.intro (HD.out _ hbe) (And.intro (HXC.out _ hbe).1 (HXC.out _ hbe).2.1)
                    refine wp_region_in (by kernel_rfl) (fun w' => d.at w' (ad.add (k * 5)) ∧ w'.cell? ⟨w.heap.size, 1, none⟩ = some (.string x.srv) ∧ w'.cell? ⟨w.heap.size, 2, none⟩ = some (.string x.txt)) ?_
                    change wpIn _ _ _ _ _ _ _ _ (World.drew _)
                    refine wpIn_take (i := 0) (d := (some 76)) (v := ?vqc40) (a' := ?aqc40) rfl rfl (by kernel_rfl) (by kernel_rfl) (by kernel_rfl) (fun _ _ _ h => h) (Or.inl ⟨by rfl, ?yqc40⟩) ?fqc40 ?_
                    case yqc40 => (intro wq hq; go_simp; first | done | with_reducible rfl)
                    case fqc40 => (go_frame; rfl)
                    refine wpIn_take (i := 1) (d := (some 77)) (v := ?vqc41) (a' := ?aqc41) rfl rfl (by kernel_rfl) (by kernel_rfl) (by kernel_rfl) (fun _ _ _ h => h) (Or.inl ⟨by rfl, ?yqc41⟩) ?fqc41 ?_
                    case yqc41 => (intro wq hq; go_simp; first | done | with_reducible rfl)
                    case fqc41 => (go_frame; rfl)
                    refine wpIn_take (i := 2) (d := (some 78)) (v := ?vqc42) (a' := ?aqc42) rfl rfl (by kernel_rfl) (by kernel_rfl) (by kernel_rfl) (fun _ _ _ h => h) (Or.inl ⟨by rfl, ?yqc42⟩) ?fqc42 ?_
                    case yqc42 => (intro wq hq; go_simp; first | done | with_reducible rfl)
                    case fqc42 => (go_frame; rfl)
                    refine wpIn_take (i := 3) (d := (some 79)) (v := ?vqc43) (a' := ?aqc43) rfl rfl (by kernel_rfl) (by kernel_rfl) (by kernel_rfl) (fun _ _ _ h => h) (Or.inl ⟨by rfl, ?yqc43⟩) ?fqc43 ?_
                    case yqc43 => (intro wq hq; go_simp; first | done | with_reducible rfl)
                    case fqc43 => (go_frame; rfl)
                    refine wpIn_take (i := 4) (d := (some 80)) (v := ?vqc44) (a' := ?aqc44) rfl rfl (by kernel_rfl) (by kernel_rfl) (by kernel_rfl) (fun _ _ _ h => h) (Or.inl ⟨by rfl, ?yqc44⟩) ?fqc44 ?_
                    case yqc44 => (intro wq hq; go_simp; first | done | with_reducible rfl)
                    case fqc44 => (go_frame; rfl)
                    refine wpIn_take (i := 5) (d := (some 81)) (v := ?vqc45) (a' := ?aqc45) rfl rfl (by kernel_rfl) (by kernel_rfl) (by kernel_rfl) (fun _ _ _ h => h) (Or.inl ⟨by rfl, ?yqc45⟩) ?fqc45 ?_
                    case yqc45 => (intro wq hq; go_simp; first | done | with_reducible rfl)
                    case fqc45 => (go_frame; rfl)
                    refine wpIn_take (i := 6) (d := (some 82)) (v := ?vqc46) (a' := ?aqc46) rfl rfl (by kernel_rfl) (by kernel_rfl) (by kernel_rfl) (fun _ _ _ h => h) (Or.inl ⟨by rfl, ?yqc46⟩) ?fqc46 ?_
                    case yqc46 => (intro wq hq; go_simp; first | done | with_reducible rfl)
                    case fqc46 => (go_frame; rfl)
                    refine wpIn_take (i := 7) (d := (some 83)) (v := ?vqc47) (a' := ?aqc47) rfl rfl (by kernel_rfl) (by kernel_rfl) (by kernel_rfl) (fun _ _ _ h => h) (Or.inl ⟨by rfl, ?yqc47⟩) ?fqc47 ?_
                    case yqc47 => (intro wq hq; go_simp; first | done | with_reducible rfl)
                    case fqc47 => (go_frame; rfl)
                    refine wpIn_take (i := 8) (d := (some 84)) (v := ?vqc48) (a' := ?aqc48) rfl rfl (by kernel_rfl) (by kernel_rfl) (by kernel_rfl) (fun _ _ _ h => h) (Or.inl ⟨by rfl, ?yqc48⟩) ?fqc48 ?_
                    case yqc48 => (intro wq hq; go_simp; first | done | with_reducible rfl)
                    case fqc48 => (go_frame; rfl)
                    refine wpIn_take (i := 9) (d := (some 85)) (v := ?vqc49) (a' := ?aqc49) rfl rfl (by kernel_rfl) (by kernel_rfl) (by kernel_rfl) (fun _ _ _ h => h) (Or.inl ⟨by rfl, ?yqc49⟩) ?fqc49 ?_
                    case yqc49 => (intro wq hq; obtain ⟨⟨f0, f1, f2, f3, f4⟩, g1, g2⟩ := hq; go_simp; first | done | with_reducible rfl)
                    case fqc49 => (go_frame; rfl)
                    refine wpIn_take (i := 10) (d := (some 86)) (v := ?vqc410) (a' := ?aqc410) rfl rfl (by kernel_rfl) (by kernel_rfl) (by kernel_rfl) (fun _ _ _ h => h) (Or.inl ⟨by rfl, ?yqc410⟩) ?fqc410 ?_
                    case yqc410 => (intro wq hq; go_simp; first | done | with_reducible rfl)
                    case fqc410 => (go_frame; rfl)
                    refine wpIn_take (i := 11) (d := (some 87)) (v := ?vqc411) (a' := ?aqc411) rfl rfl (by kernel_rfl) (by kernel_rfl) (by kernel_rfl) (fun _ _ _ h => h) (Or.inl ⟨by rfl, ?yqc411⟩) ?fqc411 ?_
                    case yqc411 => (intro wq hq; obtain ⟨⟨f0, f1, f2, f3, f4⟩, g1, g2⟩ := hq; go_simp; first | done | with_reducible rfl)
                    case fqc411 => (go_frame; rfl)
                    refine wpIn_take (i := 12) (d := (some 88)) (v := ?vqc412) (a' := ?aqc412) rfl rfl (by kernel_rfl) (by kernel_rfl) (by kernel_rfl) (fun _ _ _ h => h) (Or.inl ⟨by rfl, ?yqc412⟩) ?fqc412 ?_
                    case yqc412 => (intro wq hq; go_simp; first | done | with_reducible rfl)
                    case fqc412 => (go_frame; rfl)
                    refine wpIn_take (i := 13) (d := (some 89)) (v := ?vqc413) (a' := ?aqc413) rfl rfl (by kernel_rfl) (by kernel_rfl) (by kernel_rfl) (fun _ _ _ h => h) (Or.inl ⟨by rfl, ?yqc413⟩) ?fqc413 ?_
                    case yqc413 => (intro wq hq; go_simp; first | done | with_reducible rfl)
                    case fqc413 => (go_frame; rfl)
                    refine wpIn_take (i := 14) (d := (some 90)) (v := ?vqc414) (a' := ?aqc414) rfl rfl (by kernel_rfl) (by kernel_rfl) (by kernel_rfl) (fun _ _ _ h => h) (Or.inl ⟨by rfl, ?yqc414⟩) ?fqc414 ?_
                    case yqc414 => (intro wq hq; go_simp; first | done | with_reducible rfl)
                    case fqc414 => (go_frame; rfl)
                    refine wpIn_take (i := 15) (d := (some 91)) (v := ?vqc415) (a' := ?aqc415) rfl rfl (by kernel_rfl) (by kernel_rfl) (by kernel_rfl) (fun _ _ _ h => h) (Or.inl ⟨by rfl, ?yqc415⟩) ?fqc415 ?_
                    case yqc415 => (intro wq hq; go_simp; first | done | with_reducible rfl)
                    case fqc415 => (go_frame; rfl)
                    refine wpIn_take (i := 16) (d := (some 92)) (v := ?vqc416) (a' := ?aqc416) rfl rfl (by kernel_rfl) (by kernel_rfl) (by kernel_rfl) (fun _ _ _ h => h) (Or.inl ⟨by rfl, ?yqc416⟩) ?fqc416 ?_
                    case yqc416 => (intro wq hq; go_simp; first | done | with_reducible rfl)
                    case fqc416 => (go_frame; rfl)
                    refine wpIn_take (i := 17) (d := (some 93)) (v := ?vqc417) (a' := ?aqc417) rfl rfl (by kernel_rfl) (by kernel_rfl) (by kernel_rfl) (fun _ _ _ h => h) (Or.inl ⟨by rfl, ?yqc417⟩) ?fqc417 ?_
                    case yqc417 => (intro wq hq; go_simp; first | done | with_reducible rfl)
                    case fqc417 => (go_frame; rfl)
                    refine wpIn_take (i := 18) (d := (some 94)) (v := ?vqc418) (a' := ?aqc418) rfl rfl (by kernel_rfl) (by kernel_rfl) (by kernel_rfl) (fun _ _ _ h => h) (Or.inl ⟨by rfl, ?yqc418⟩) ?fqc418 ?_
                    case yqc418 => (intro wq hq; go_simp; first | done | with_reducible rfl)
                    case fqc418 => (go_frame; rfl)
                    refine wpIn_take (i := 19) (d := (some 95)) (v := ?vqc419) (a' := ?aqc419) rfl rfl (by kernel_rfl) (by kernel_rfl) (by kernel_rfl) (fun _ _ _ h => h) (Or.inl ⟨by rfl, ?yqc419⟩) ?fqc419 ?_
                    case yqc419 => (intro wq hq; obtain ⟨⟨f0, f1, f2, f3, f4⟩, g1, g2⟩ := hq; go_simp; first | done | with_reducible rfl)
                    case fqc419 => (go_frame; rfl)
                    refine wpIn_take (i := 20) (d := (some 96)) (v := ?vqc420) (a' := ?aqc420) rfl rfl (by kernel_rfl) (by kernel_rfl) (by kernel_rfl) (fun _ _ _ h => h) (Or.inl ⟨by rfl, ?yqc420⟩) ?fqc420 ?_
                    case yqc420 => (intro wq hq; go_simp; first | done | with_reducible rfl)
                    case fqc420 => (go_frame; rfl)
                    refine wpIn_take (i := 21) (d := (some 97)) (v := ?vqc421) (a' := ?aqc421) rfl rfl (by kernel_rfl) (by kernel_rfl) (by kernel_rfl) (fun _ _ _ h => h) (Or.inl ⟨by rfl, ?yqc421⟩) ?fqc421 ?_
                    case yqc421 => (intro wq hq; obtain ⟨⟨f0, f1, f2, f3, f4⟩, g1, g2⟩ := hq; go_simp; first | done | with_reducible rfl)
                    case fqc421 => (go_frame; rfl)
                    refine wpIn_take (i := 22) (d := (some 98)) (v := ?vqc422) (a' := ?aqc422) rfl rfl (by kernel_rfl) (by kernel_rfl) (by kernel_rfl) (fun _ _ _ h => h) (Or.inl ⟨by rfl, ?yqc422⟩) ?fqc422 ?_
                    case yqc422 => (intro wq hq; go_simp; first | done | with_reducible rfl)
                    case fqc422 => (go_frame; rfl)
                    refine wpIn_take (i := 23) (d := (some 99)) (v := ?vqc423) (a' := ?aqc423) rfl rfl (by kernel_rfl) (by kernel_rfl) (by kernel_rfl) (fun _ _ _ h => h) (Or.inl ⟨by rfl, ?yqc423⟩) ?fqc423 ?_
                    case yqc423 => (intro wq hq; go_simp; first | done | with_reducible rfl)
                    case fqc423 => (go_frame; rfl)
                    refine wpIn_take (i := 24) (d := (some 100)) (v := ?vqc424) (a' := ?aqc424) rfl rfl (by kernel_rfl) (by kernel_rfl) (by kernel_rfl) (fun _ _ _ h => h) (Or.inl ⟨by rfl, ?yqc424⟩) ?fqc424 ?_
                    case yqc424 => (intro wq hq; go_simp; first | done | with_reducible rfl)
                    case fqc424 => (go_frame; rfl)
                    refine wpIn_take (i := 25) (d := (some 10)) (v := ?vqc425) (a' := ?aqc425) rfl rfl (by kernel_rfl) (by kernel_rfl) (by kernel_rfl) (fun _ _ _ h => h) (Or.inl ⟨by rfl, ?yqc425⟩) ?fqc425 ?_
                    case yqc425 => (intro wq hq; go_simp; first | done | with_reducible rfl)
                    case fqc425 => (go_frame; rfl)
                    refine wpIn_done hC4 (by kernel_rfl) ?_ _
                    have hown7 := hown6'.kept (grown_drew w6 none) (by cases v6.ownBlock <;> simp)
                    have ht7 := ht6.grown (grown_drew w6 none)
                    go_wp2
                    go_roundw
                    case rel => exact ⟨k + 1, D, G', T ++ [tk], bt, by omega, by go_num, rfl, hown7, by simp; omega, ht7, HIB.out, by omega, by omega, hbe, hBr6⟩
                    case measure => simp [intOf]; omega
                  | false =>
                    have e_s : (d.srv.toList == x.srv.toList) = false := by rw [beqS, hbs]
                    have HIB : Hid (inn S x.srv = true → (plc S x.srv, x.txt) ∉ G') := HIN.out rfl (fun h' => by simp [h'.1] at hbs)
                    clear hbs
                    go_wp2
                    refine wp_region_in (by kernel_rfl) (fun w' => d.at w' (ad.add (k * 5))) ?_
                    change wpIn _ _ _ _ _ _ _ _ (World.drew _)
                    refine wpIn_take (i := 0) (d := (some 57)) (v := ?vqa50) (a' := ?aqa50) rfl rfl (by kernel_rfl) (by kernel_rfl) (by kernel_rfl) (fun _ _ _ h => h) (Or.inl ⟨by rfl, ?yqa50⟩) ?fqa50 ?_
                    case yqa50 => (intro wq hq; go_simp; first | done | with_reducible rfl)
                    case fqa50 => (go_frame; rfl)
                    refine wpIn_take (i := 1) (d := (some 58)) (v := ?vqa51) (a' := ?aqa51) rfl rfl (by kernel_rfl) (by kernel_rfl) (by kernel_rfl) (fun _ _ _ h => h) (Or.inl ⟨by rfl, ?yqa51⟩) ?fqa51 ?_
                    case yqa51 => (intro wq hq; go_simp; first | done | with_reducible rfl)
                    case fqa51 => (go_frame; rfl)
                    refine wpIn_take (i := 2) (d := (some 59)) (v := ?vqa52) (a' := ?aqa52) rfl rfl (by kernel_rfl) (by kernel_rfl) (by kernel_rfl) (fun _ _ _ h => h) (Or.inl ⟨by rfl, ?yqa52⟩) ?fqa52 ?_
                    case yqa52 => (intro wq hq; go_simp; first | done | with_reducible rfl)
                    case fqa52 => (go_frame; rfl)
                    refine wpIn_take (i := 3) (d := (some 60)) (v := ?vqa53) (a' := ?aqa53) rfl rfl (by kernel_rfl) (by kernel_rfl) (by kernel_rfl) (fun _ _ _ h => h) (Or.inl ⟨by rfl, ?yqa53⟩) ?fqa53 ?_
                    case yqa53 => (intro wq hq; go_simp; first | done | with_reducible rfl)
                    case fqa53 => (go_frame; rfl)
                    refine wpIn_take (i := 4) (d := (some 61)) (v := ?vqa54) (a' := ?aqa54) rfl rfl (by kernel_rfl) (by kernel_rfl) (by kernel_rfl) (fun _ _ _ h => h) (Or.inl ⟨by rfl, ?yqa54⟩) ?fqa54 ?_
                    case yqa54 => (intro wq hq; go_simp; first | done | with_reducible rfl)
                    case fqa54 => (go_frame; rfl)
                    refine wpIn_take (i := 5) (d := (some 62)) (v := ?vqa55) (a' := ?aqa55) rfl rfl (by kernel_rfl) (by kernel_rfl) (by kernel_rfl) (fun _ _ _ h => h) (Or.inl ⟨by rfl, ?yqa55⟩) ?fqa55 ?_
                    case yqa55 => (intro wq hq; obtain ⟨f0, f1, f2, f3, f4⟩ := hq; go_simp; first | done | with_reducible rfl)
                    case fqa55 => (go_frame; rfl)
                    refine wpIn_take (i := 6) (d := (some 63)) (v := ?vqa56) (a' := ?aqa56) rfl rfl (by kernel_rfl) (by kernel_rfl) (by kernel_rfl) (fun _ _ _ h => h) (Or.inl ⟨by rfl, ?yqa56⟩) ?fqa56 ?_
                    case yqa56 => (intro wq hq; go_simp; first | done | with_reducible rfl)
                    case fqa56 => (go_frame; rfl)
                    refine wpIn_take (i := 7) (d := (some 64)) (v := ?vqa57) (a' := ?aqa57) rfl rfl (by kernel_rfl) (by kernel_rfl) (by kernel_rfl) (fun _ _ _ h => h) (Or.inl ⟨by rfl, ?yqa57⟩) ?fqa57 ?_
                    case yqa57 => (intro wq hq; go_simp; first | done | with_reducible rfl)
                    case fqa57 => (go_frame; rfl)
                    refine wpIn_take (i := 8) (d := (some 65)) (v := ?vqa58) (a' := ?aqa58) rfl rfl (by kernel_rfl) (by kernel_rfl) (by kernel_rfl) (fun _ _ _ h => h) (Or.inl ⟨by rfl, ?yqa58⟩) ?fqa58 ?_
                    case yqa58 => (intro wq hq; go_simp; first | done | with_reducible rfl)
                    case fqa58 => (go_frame; rfl)
                    refine wpIn_take (i := 9) (d := (some 66)) (v := ?vqa59) (a' := ?aqa59) rfl rfl (by kernel_rfl) (by kernel_rfl) (by kernel_rfl) (fun _ _ _ h => h) (Or.inl ⟨by rfl, ?yqa59⟩) ?fqa59 ?_
                    case yqa59 => (intro wq hq; go_simp; first | done | with_reducible rfl)
                    case fqa59 => (go_frame; rfl)
                    refine wpIn_take (i := 10) (d := (some 67)) (v := ?vqa510) (a' := ?aqa510) rfl rfl (by kernel_rfl) (by kernel_rfl) (by kernel_rfl) (fun _ _ _ h => h) (Or.inl ⟨by rfl, ?yqa510⟩) ?fqa510 ?_
                    case yqa510 => (intro wq hq; obtain ⟨f0, f1, f2, f3, f4⟩ := hq; go_simp; first | done | with_reducible rfl)
                    case fqa510 => (go_frame; rfl)
                    refine wpIn_do (i := 11) hC0 (by kernel_rfl) rfl (by rfl) ?_
                    intro K hK
                    go_simp
                    refine hK _ _ ?_
                    clear hK K
                    refine wpIn_do (i := 12) hC1 (by kernel_rfl) rfl (by rfl) ?_
                    intro K hK
                    go_simp
                    go_wp2_with (go_at_call 16; refine HS.out.mono ?_; rintro e w4 ⟨rfl, ht4, hg4⟩)
                    have hb4 : Below W2.heap.size W2 w4 := hbd.trans (htd.under2 hg4)
                    have hC2 := HD.out _ hb4
                    have hown4 := hownd.kept hg4 (htd.tokens.row hownd)
                    have hsz4 : B2 ≤ w4.heap.size := by have h9 := hg4.size; have h7 : wr.drew.heap.size = wr.heap.size := rfl; omega
                    refine wpIn_take (i := 13) (d := (some 56)) (v := ?vqb513) (a' := ?aqb513) rfl rfl (by kernel_rfl) (by kernel_rfl) (by kernel_rfl) (fun _ _ _ h => h) (Or.inl ⟨by rfl, ?yqb513⟩) ?fqb513 ?_
                    case yqb513 => (intro wq hq; go_simp; first | done | with_reducible rfl)
                    case fqb513 => (go_frame; rfl)
                    refine wpIn_take (i := 14) (d := (some 70)) (v := ?vqb514) (a' := ?aqb514) rfl rfl (by kernel_rfl) (by kernel_rfl) (by kernel_rfl) (fun _ _ _ h => h) (Or.inl ⟨by rfl, ?yqb514⟩) ?fqb514 ?_
                    case yqb514 => (intro wq hq; go_simp; first | done | with_reducible rfl)
                    case fqb514 => (go_frame; rfl)
                    refine wpIn_take (i := 15) (d := (some 71)) (v := ?vqb515) (a' := ?aqb515) rfl rfl (by kernel_rfl) (by kernel_rfl) (by kernel_rfl) (fun _ _ _ h => h) (Or.inl ⟨by rfl, ?yqb515⟩) ?fqb515 ?_
                    case yqb515 => (intro wq hq; go_simp; first | done | with_reducible rfl)
                    case fqb515 => (go_frame; rfl)
                    refine wpIn_take (i := 16) (d := (some 12)) (v := ?vqb516) (a' := ?aqb516) rfl rfl (by kernel_rfl) (by kernel_rfl) (by kernel_rfl) (fun _ _ _ h => h) (Or.inl ⟨by rfl, ?yqb516⟩) ?fqb516 ?_
                    case yqb516 => (intro wq hq; go_simp; first | done | with_reducible rfl)
                    case fqb516 => (go_frame; rfl)
                    refine wpIn_take (i := 17) (d := (some 13)) (v := ?vqb517) (a' := ?aqb517) rfl rfl (by kernel_rfl) (by kernel_rfl) (by kernel_rfl) (fun _ _ _ h => h) (Or.inl ⟨by rfl, ?yqb517⟩) ?fqb517 ?_
                    case yqb517 => (intro wq hq; go_simp; first | done | with_reducible rfl)
                    case fqb517 => (go_frame; rfl)
                    refine wpIn_done hC2 (by kernel_rfl) ?_ _
                    go_wp2_with (at_builtin; refine wpList_append_rds rfl _ _ rfl B2 _ T rfl ?a0 _ _ _ [tk] rfl (rds_one _ _ _) ?a2 ?a3 ?a4 ?_)
                    case a0 => exact hown4.alloc _
                    case a2 => intro h; cases h
                    case a3 => simp; omega
                    case a4 => have := hsz4; simp; omega
                    intro v6 w6 hown6 hgrow6
                    have hbB : Below B2 w4 w6 := ((Below.refl _ _).alloc (by have := hsz4; omega) _).grown hgrow6 (by have := hsz4; simp; omega) (own_base hown)
                    have ht6 := ht4.low hlo hbB
                    have hb6 : Below W2.heap.size W2 w6 := hb4.trans (hbB.mono hBB)
                    have hBr6 : B2 ≤ w6.heap.size := by have := hsz4; have := hbB.size; omega
                    have hown6' : w6.ownsRow B2 9 1 v6 (T ++ [tk]).length ((T ++ [tk]).map Value.string) := by simpa using hown6
                    clear hgrow6 hown6 hbB
                    go_wp2
                    have hbe : Below W2.heap.size W2 w6.drew := hb6.drew
                    have hC4 := And.intro (HD.out _ hbe) (And.intro (HXC.out _ hbe).1 (HXC.out _ hbe).2.1)
                    refine wp_region_in (by kernel_rfl) (fun w' => d.at w' (ad.add (k * 5)) ∧ w'.cell? ⟨w.heap.size, 1, none⟩ = some (.string x.srv) ∧ w'.cell? ⟨w.heap.size, 2, none⟩ = some (.string x.txt)) ?_
                    change wpIn _ _ _ _ _ _ _ _ (World.drew _)
                    refine wpIn_take (i := 0) (d := (some 76)) (v := ?vqc50) (a' := ?aqc50) rfl rfl (by kernel_rfl) (by kernel_rfl) (by kernel_rfl) (fun _ _ _ h => h) (Or.inl ⟨by rfl, ?yqc50⟩) ?fqc50 ?_
                    case yqc50 => (intro wq hq; go_simp; first | done | with_reducible rfl)
                    case fqc50 => (go_frame; rfl)
                    refine wpIn_take (i := 1) (d := (some 77)) (v := ?vqc51) (a' := ?aqc51) rfl rfl (by kernel_rfl) (by kernel_rfl) (by kernel_rfl) (fun _ _ _ h => h) (Or.inl ⟨by rfl, ?yqc51⟩) ?fqc51 ?_
                    case yqc51 => (intro wq hq; go_simp; first | done | with_reducible rfl)
                    case fqc51 => (go_frame; rfl)
                    refine wpIn_take (i := 2) (d := (some 78)) (v := ?vqc52) (a' := ?aqc52) rfl rfl (by kernel_rfl) (by kernel_rfl) (by kernel_rfl) (fun _ _ _ h => h) (Or.inl ⟨by rfl, ?yqc52⟩) ?fqc52 ?_
                    case yqc52 => (intro wq hq; go_simp; first | done | with_reducible rfl)
                    case fqc52 => (go_frame; rfl)
                    refine wpIn_take (i := 3) (d := (some 79)) (v := ?vqc53) (a' := ?aqc53) rfl rfl (by kernel_rfl) (by kernel_rfl) (by kernel_rfl) (fun _ _ _ h => h) (Or.inl ⟨by rfl, ?yqc53⟩) ?fqc53 ?_
                    case yqc53 => (intro wq hq; go_simp; first | done | with_reducible rfl)
                    case fqc53 => (go_frame; rfl)
                    refine wpIn_take (i := 4) (d := (some 80)) (v := ?vqc54) (a' := ?aqc54) rfl rfl (by kernel_rfl) (by kernel_rfl) (by kernel_rfl) (fun _ _ _ h => h) (Or.inl ⟨by rfl, ?yqc54⟩) ?fqc54 ?_
                    case yqc54 => (intro wq hq; go_simp; first | done | with_reducible rfl)
                    case fqc54 => (go_frame; rfl)
                    refine wpIn_take (i := 5) (d := (some 81)) (v := ?vqc55) (a' := ?aqc55) rfl rfl (by kernel_rfl) (by kernel_rfl) (by kernel_rfl) (fun _ _ _ h => h) (Or.inl ⟨by rfl, ?yqc55⟩) ?fqc55 ?_
                    case yqc55 => (intro wq hq; go_simp; first | done | with_reducible rfl)
                    case fqc55 => (go_frame; rfl)
                    refine wpIn_take (i := 6) (d := (some 82)) (v := ?vqc56) (a' := ?aqc56) rfl rfl (by kernel_rfl) (by kernel_rfl) (by kernel_rfl) (fun _ _ _ h => h) (Or.inl ⟨by rfl, ?yqc56⟩) ?fqc56 ?_
                    case yqc56 => (intro wq hq; go_simp; first | done | with_reducible rfl)
                    case fqc56 => (go_frame; rfl)
                    refine wpIn_take (i := 7) (d := (some 83)) (v := ?vqc57) (a' := ?aqc57) rfl rfl (by kernel_rfl) (by kernel_rfl) (by kernel_rfl) (fun _ _ _ h => h) (Or.inl ⟨by rfl, ?yqc57⟩) ?fqc57 ?_
                    case yqc57 => (intro wq hq; go_simp; first | done | with_reducible rfl)
                    case fqc57 => (go_frame; rfl)
                    refine wpIn_take (i := 8) (d := (some 84)) (v := ?vqc58) (a' := ?aqc58) rfl rfl (by kernel_rfl) (by kernel_rfl) (by kernel_rfl) (fun _ _ _ h => h) (Or.inl ⟨by rfl, ?yqc58⟩) ?fqc58 ?_
                    case yqc58 => (intro wq hq; go_simp; first | done | with_reducible rfl)
                    case fqc58 => (go_frame; rfl)
                    refine wpIn_take (i := 9) (d := (some 85)) (v := ?vqc59) (a' := ?aqc59) rfl rfl (by kernel_rfl) (by kernel_rfl) (by kernel_rfl) (fun _ _ _ h => h) (Or.inl ⟨by rfl, ?yqc59⟩) ?fqc59 ?_
                    case yqc59 => (intro wq hq; obtain ⟨⟨f0, f1, f2, f3, f4⟩, g1, g2⟩ := hq; go_simp; first | done | with_reducible rfl)
                    case fqc59 => (go_frame; rfl)
                    refine wpIn_take (i := 10) (d := (some 86)) (v := ?vqc510) (a' := ?aqc510) rfl rfl (by kernel_rfl) (by kernel_rfl) (by kernel_rfl) (fun _ _ _ h => h) (Or.inl ⟨by rfl, ?yqc510⟩) ?fqc510 ?_
                    case yqc510 => (intro wq hq; go_simp; first | done | with_reducible rfl)
                    case fqc510 => (go_frame; rfl)
                    refine wpIn_take (i := 11) (d := (some 87)) (v := ?vqc511) (a' := ?aqc511) rfl rfl (by kernel_rfl) (by kernel_rfl) (by kernel_rfl) (fun _ _ _ h => h) (Or.inl ⟨by rfl, ?yqc511⟩) ?fqc511 ?_
                    case yqc511 => (intro wq hq; obtain ⟨⟨f0, f1, f2, f3, f4⟩, g1, g2⟩ := hq; go_simp; first | done | with_reducible rfl)
                    case fqc511 => (go_frame; rfl)
                    refine wpIn_take (i := 12) (d := (some 88)) (v := ?vqc512) (a' := ?aqc512) rfl rfl (by kernel_rfl) (by kernel_rfl) (by kernel_rfl) (fun _ _ _ h => h) (Or.inl ⟨by rfl, ?yqc512⟩) ?fqc512 ?_
                    case yqc512 => (intro wq hq; go_simp; first | done | with_reducible rfl)
                    case fqc512 => (go_frame; rfl)
                    refine wpIn_take (i := 13) (d := (some 89)) (v := ?vqc513) (a' := ?aqc513) rfl rfl (by kernel_rfl) (by kernel_rfl) (by kernel_rfl) (fun _ _ _ h => h) (Or.inl ⟨by rfl, ?yqc513⟩) ?fqc513 ?_
                    case yqc513 => (intro wq hq; go_simp; first | done | with_reducible rfl)
                    case fqc513 => (go_frame; rfl)
                    refine wpIn_take (i := 14) (d := (some 90)) (v := ?vqc514) (a' := ?aqc514) rfl rfl (by kernel_rfl) (by kernel_rfl) (by kernel_rfl) (fun _ _ _ h => h) (Or.inl ⟨by rfl, ?yqc514⟩) ?fqc514 ?_
                    case yqc514 => (intro wq hq; go_simp; first | done | with_reducible rfl)
                    case fqc514 => (go_frame; rfl)
                    refine wpIn_take (i := 15) (d := (some 91)) (v := undef) (a' := ?aqc515) rfl rfl (by kernel_rfl) (by kernel_rfl) (by kernel_rfl) (fun _ _ _ h => h) (Or.inr ⟨by rfl, rfl⟩) ?fqc515 ?_
                    case fqc515 => (go_frame; rfl)
                    refine wpIn_take (i := 16) (d := (some 92)) (v := undef) (a' := ?aqc516) rfl rfl (by kernel_rfl) (by kernel_rfl) (by kernel_rfl) (fun _ _ _ h => h) (Or.inr ⟨by rfl, rfl⟩) ?fqc516 ?_
                    case fqc516 => (go_frame; rfl)
                    refine wpIn_take (i := 17) (d := (some 93)) (v := undef) (a' := ?aqc517) rfl rfl (by kernel_rfl) (by kernel_rfl) (by kernel_rfl) (fun _ _ _ h => h) (Or.inr ⟨by rfl, rfl⟩) ?fqc517 ?_
                    case fqc517 => (go_frame; rfl)
                    refine wpIn_take (i := 18) (d := (some 94)) (v := undef) (a' := ?aqc518) rfl rfl (by kernel_rfl) (by kernel_rfl) (by kernel_rfl) (fun _ _ _ h => h) (Or.inr ⟨by rfl, rfl⟩) ?fqc518 ?_
                    case fqc518 => (go_frame; rfl)
                    refine wpIn_take (i := 19) (d := (some 95)) (v := undef) (a' := ?aqc519) rfl rfl (by kernel_rfl) (by kernel_rfl) (by kernel_rfl) (fun _ _ _ h => h) (Or.inr ⟨by rfl, rfl⟩) ?fqc519 ?_
                    case fqc519 => (go_frame; rfl)
                    refine wpIn_take (i := 20) (d := (some 96)) (v := undef) (a' := ?aqc520) rfl rfl (by kernel_rfl) (by kernel_rfl) (by kernel_rfl) (fun _ _ _ h => h) (Or.inr ⟨by rfl, rfl⟩) ?fqc520 ?_
                    case fqc520 => (go_frame; rfl)
                    refine wpIn_take (i := 21) (d := (some 97)) (v := undef) (a' := ?aqc521) rfl rfl (by kernel_rfl) (by kernel_rfl) (by kernel_rfl) (fun _ _ _ h => h) (Or.inr ⟨by rfl, rfl⟩) ?fqc521 ?_
                    case fqc521 => (go_frame; rfl)
                    refine wpIn_take (i := 22) (d := (some 98)) (v := undef) (a' := ?aqc522) rfl rfl (by kernel_rfl) (by kernel_rfl) (by kernel_rfl) (fun _ _ _ h => h) (Or.inr ⟨by rfl, rfl⟩) ?fqc522 ?_
                    case fqc522 => (go_frame; rfl)
                    refine wpIn_take (i := 23) (d := (some 99)) (v := ?vqc523) (a' := ?aqc523) rfl rfl (by kernel_rfl) (by kernel_rfl) (by kernel_rfl) (fun _ _ _ h => h) (Or.inl ⟨by rfl, ?yqc523⟩) ?fqc523 ?_
                    case yqc523 => (intro wq hq; go_simp; first | done | with_reducible rfl)
                    case fqc523 => (go_frame; rfl)
                    refine wpIn_take (i := 24) (d := (some 100)) (v := ?vqc524) (a' := ?aqc524) rfl rfl (by kernel_rfl) (by kernel_rfl) (by kernel_rfl) (fun _ _ _ h => h) (Or.inl ⟨by rfl, ?yqc524⟩) ?fqc524 ?_
                    case yqc524 => (intro wq hq; go_simp; first | done | with_reducible rfl)
                    case fqc524 => (go_frame; rfl)
                    refine wpIn_take (i := 25) (d := (some 10)) (v := ?vqc525) (a' := ?aqc525) rfl rfl (by kernel_rfl) (by kernel_rfl) (by kernel_rfl) (fun _ _ _ h => h) (Or.inl ⟨by rfl, ?yqc525⟩) ?fqc525 ?_
                    case yqc525 => (intro wq hq; go_simp; first | done | with_reducible rfl)
                    case fqc525 => (go_frame; rfl)
                    refine wpIn_done hC4 (by kernel_rfl) ?_ _
                    have hown7 := hown6'.kept (grown_drew w6 none) (by cases v6.ownBlock <;> simp)
                    have ht7 := ht6.grown (grown_drew w6 none)
                    go_wp2
                    go_roundw
                    case rel => exact ⟨k + 1, D, G', T ++ [tk], false, by omega, by go_num, rfl, hown7, by simp; omega, ht7, fun _ => HIB.out, by omega, by omega, hbe, hBr6⟩
                    case measure => simp [intOf]; omega
            · by_cases hk2 : d.kind = 2
              · clear y1 y2 y3 y4
                rw [hk2] at y0
                obtain ⟨cap, wc, hconv⟩ := bytes_any d.txt wr.drew
                have hbc : Below W2.heap.size W2 wc := hbd.trans (hconv.below.mono htd.le)
                have htc := htd.below hconv.below
                have hownc := own_below hownd hconv.below
                have hC0 := HD.out _ hbd
                have hC1 := HD.out _ hbc
                have hrun := hconv.run
                have hrdd : RdS wr.drew.heap.size wr.drew q cq T := hrdT.carry (Below.refl _ _).drew
                have hrdc : RdS wc.heap.size wc q cq T := (hrdd.carry hconv.below).grow hconv.below.size
                have hszc : B2 ≤ wc.heap.size := by have h9 := hconv.below.size; have h7 : wr.drew.heap.size = wr.heap.size := rfl; omega
                go_wp2
                refine wp_region_in (by kernel_rfl) (fun w' => d.at w' (ad.add (k * 5))) ?_
                change wpIn _ _ _ _ _ _ _ _ (World.drew _)
                refine wpIn_take (i := 0) (d := (some 103)) (v := ?vqe0) (a' := ?aqe0) rfl rfl (by kernel_rfl) (by kernel_rfl) (by kernel_rfl) (fun _ _ _ h => h) (Or.inl ⟨by rfl, ?yqe0⟩) ?fqe0 ?_
                case yqe0 => (intro wq hq; go_simp; first | done | with_reducible rfl)
                case fqe0 => (go_frame; rfl)
                refine wpIn_take (i := 1) (d := (some 104)) (v := ?vqe1) (a' := ?aqe1) rfl rfl (by kernel_rfl) (by kernel_rfl) (by kernel_rfl) (fun _ _ _ h => h) (Or.inl ⟨by rfl, ?yqe1⟩) ?fqe1 ?_
                case yqe1 => (intro wq hq; go_simp; first | done | with_reducible rfl)
                case fqe1 => (go_frame; rfl)
                refine wpIn_take (i := 2) (d := (some 105)) (v := ?vqe2) (a' := ?aqe2) rfl rfl (by kernel_rfl) (by kernel_rfl) (by kernel_rfl) (fun _ _ _ h => h) (Or.inl ⟨by rfl, ?yqe2⟩) ?fqe2 ?_
                case yqe2 => (intro wq hq; go_simp; first | done | with_reducible rfl)
                case fqe2 => (go_frame; rfl)
                refine wpIn_take (i := 3) (d := (some 106)) (v := ?vqe3) (a' := ?aqe3) rfl rfl (by kernel_rfl) (by kernel_rfl) (by kernel_rfl) (fun _ _ _ h => h) (Or.inl ⟨by rfl, ?yqe3⟩) ?fqe3 ?_
                case yqe3 => (intro wq hq; go_simp; first | done | with_reducible rfl)
                case fqe3 => (go_frame; rfl)
                refine wpIn_take (i := 4) (d := (some 107)) (v := ?vqe4) (a' := ?aqe4) rfl rfl (by kernel_rfl) (by kernel_rfl) (by kernel_rfl) (fun _ _ _ h => h) (Or.inl ⟨by rfl, ?yqe4⟩) ?fqe4 ?_
                case yqe4 => (intro wq hq; go_simp; first | done | with_reducible rfl)
                case fqe4 => (go_frame; rfl)
                refine wpIn_take (i := 5) (d := (some 108)) (v := ?vqe5) (a' := ?aqe5) rfl rfl (by kernel_rfl) (by kernel_rfl) (by kernel_rfl) (fun _ _ _ h => h) (Or.inl ⟨by rfl, ?yqe5⟩) ?fqe5 ?_
                case yqe5 => (intro wq hq; obtain ⟨f0, f1, f2, f3, f4⟩ := hq; go_simp; first | done | with_reducible rfl)
                case fqe5 => (go_frame; rfl)
                refine wpIn_take (i := 6) (d := (some 109)) (v := ?vqe6) (a' := ?aqe6) rfl rfl (by kernel_rfl) (by kernel_rfl) (by kernel_rfl) (fun _ _ _ h => h) (Or.inl ⟨by rfl, ?yqe6⟩) ?fqe6 ?_
                case yqe6 => (intro wq hq; go_simp; first | done | with_reducible rfl)
                case fqe6 => (go_frame; rfl)
                refine wpIn_take (i := 7) (d := (some 110)) (v := ?vqe7) (a' := ?aqe7) rfl rfl (by kernel_rfl) (by kernel_rfl) (by kernel_rfl) (fun _ _ _ h => h) (Or.inl ⟨by rfl, ?yqe7⟩) ?fqe7 ?_
                case yqe7 => (intro wq hq; go_simp; first | done | with_reducible rfl)
                case fqe7 => (go_frame; rfl)
                refine wpIn_take (i := 8) (d := (some 111)) (v := ?vqe8) (a' := ?aqe8) rfl rfl (by kernel_rfl) (by kernel_rfl) (by kernel_rfl) (fun _ _ _ h => h) (Or.inl ⟨by rfl, ?yqe8⟩) ?fqe8 ?_
                case yqe8 => (intro wq hq; go_simp; first | done | with_reducible rfl)
                case fqe8 => (go_frame; rfl)
                refine wpIn_take (i := 9) (d := (some 112)) (v := ?vqe9) (a' := ?aqe9) rfl rfl (by kernel_rfl) (by kernel_rfl) (by kernel_rfl) (fun _ _ _ h => h) (Or.inl ⟨by rfl, ?yqe9⟩) ?fqe9 ?_
                case yqe9 => (intro wq hq; go_simp; first | done | with_reducible rfl)
                case fqe9 => (go_frame; rfl)
                refine wpIn_take (i := 10) (d := (some 113)) (v := ?vqe10) (a' := ?aqe10) rfl rfl (by kernel_rfl) (by kernel_rfl) (by kernel_rfl) (fun _ _ _ h => h) (Or.inl ⟨by rfl, ?yqe10⟩) ?fqe10 ?_
                case yqe10 => (intro wq hq; obtain ⟨f0, f1, f2, f3, f4⟩ := hq; go_simp; first | done | with_reducible rfl)
                case fqe10 => (go_frame; rfl)
                refine wpIn_take (i := 12) (d := (some 115)) (v := ?vqe12) (a' := ?aqe12) rfl rfl (by kernel_rfl) (by kernel_rfl) (by kernel_rfl) (fun _ _ _ h => h) (Or.inl ⟨by rfl, ?yqe12⟩) ?fqe12 ?_
                case yqe12 => (intro wq hq; go_simp; first | done | with_reducible rfl)
                case fqe12 => (go_frame; rfl)
                refine wpIn_take (i := 13) (d := (some 116)) (v := ?vqe13) (a' := ?aqe13) rfl rfl (by kernel_rfl) (by kernel_rfl) (by kernel_rfl) (fun _ _ _ h => h) (Or.inl ⟨by rfl, ?yqe13⟩) ?fqe13 ?_
                case yqe13 => (intro wq hq; go_simp; first | done | with_reducible rfl)
                case fqe13 => (go_frame; rfl)
                refine wpIn_take (i := 14) (d := (some 117)) (v := ?vqe14) (a' := ?aqe14) rfl rfl (by kernel_rfl) (by kernel_rfl) (by kernel_rfl) (fun _ _ _ h => h) (Or.inl ⟨by rfl, ?yqe14⟩) ?fqe14 ?_
                case yqe14 => (intro wq hq; go_simp; first | done | with_reducible rfl)
                case fqe14 => (go_frame; rfl)
                refine wpIn_take (i := 15) (d := (some 118)) (v := ?vqe15) (a' := ?aqe15) rfl rfl (by kernel_rfl) (by kernel_rfl) (by kernel_rfl) (fun _ _ _ h => h) (Or.inl ⟨by rfl, ?yqe15⟩) ?fqe15 ?_
                case yqe15 => (intro wq hq; obtain ⟨f0, f1, f2, f3, f4⟩ := hq; go_simp; first | done | with_reducible rfl)
                case fqe15 => (go_frame; rfl)
                refine wpIn_take (i := 16) (d := (some 119)) (v := ?vqe16) (a' := ?aqe16) rfl rfl (by kernel_rfl) (by kernel_rfl) (by kernel_rfl) (fun _ _ _ h => h) (Or.inl ⟨by rfl, ?yqe16⟩) ?fqe16 ?_
                case yqe16 => (intro wq hq; go_simp; first | done | with_reducible rfl)
                case fqe16 => (go_frame; rfl)
                refine wpIn_two (i := 11) (j := 17) hC0 (by kernel_rfl) rfl rfl (by rfl) (by rfl) ?_ ?_
                · intro K hK
                  go_simp
                  refine hK _ _ ?_
                  clear hK K
                  refine wpIn_do (i := 17) hC1 (by kernel_rfl) rfl (by rfl) ?_
                  intro K hK
                  go_simp
                  go_wp2_with (go_at_call 18; refine (token_any _ d T _ _ _ hfd (by omega) hrdc).mono ?_; rintro e w5 ⟨tk, rfl, hb5⟩)
                  have hb5' := hbc.trans (hb5.mono htc.le)
                  have ht5 := htc.below hb5
                  have hown5 := own_below hownc hb5
                  have hBr5 : B2 ≤ w5.heap.size := by have := hb5.size; omega
                  refine wpIn_do (i := 18) (HD.out _ hb5') (by kernel_rfl) rfl (by rfl) ?_
                  intro K hK
                  go_simp
                  go_wp2_with (go_at_call 19; refine (verify_some d.srv tk ht5 ((hconv.rd.carry hb5).grow hb5.size) (by omega) (by omega)).mono ?_; rintro e w8 ⟨⟨bv, rfl⟩, hb8⟩)
                  have hb8' := hb5'.trans (hb8.mono ht5.le)
                  have ht8 := ht5.below hb8
                  have hown8 := own_below (hown5) hb8
                  have hBr8 : B2 ≤ w8.heap.size := by have := hb8.size; omega
                  refine wpIn_done (HD.out _ hb8') (by kernel_rfl) ?_ _
                  go_wp2
                  go_roundw
                  case rel => exact ⟨k + 1, D, G, T, sg, by omega, by go_num, rfl, hown8, by omega, ht8, HI.out, by omega, by omega, hb8', hBr8⟩
                  case measure => simp [intOf]; omega
                · intro K hK
                  go_simp
                  go_wp2_with (go_at_call 18; refine (token_any _ d T _ _ _ hfd (by omega) hrdd).mono ?_; rintro e w5 ⟨tk, rfl, hb5⟩)
                  have hb5' := hbd.trans (hb5.mono htd.le)
                  have ht5 := htd.below hb5
                  have hown5 := own_below hownd hb5
                  obtain ⟨cap2, wc2, hconv2⟩ := bytes_any d.txt w5
                  have hrun2 := hconv2.run
                  have hb5c := hb5'.trans (hconv2.below.mono ht5.le)
                  have ht5c := ht5.below hconv2.below
                  have hown5c := own_below hown5 hconv2.below
                  have hBr5 : B2 ≤ wc2.heap.size := by have h9 := hb5.size; have h8 := hconv2.below.size; have h7 : wr.drew.heap.size = wr.heap.size := rfl; omega
                  refine wpIn_do (i := 11) (HD.out _ hb5') (by kernel_rfl) rfl (by rfl) ?_
                  intro K hK
                  go_simp
                  refine hK _ _ ?_
                  clear hK K
                  refine wpIn_do (i := 18) (HD.out _ hb5c) (by kernel_rfl) rfl (by rfl) ?_
                  intro K hK
                  go_simp
                  go_wp2_with (go_at_call 19; refine (verify_some d.srv tk ht5c hconv2.rd (by omega) (by omega)).mono ?_; rintro e w8 ⟨⟨bv, rfl⟩, hb8⟩)
                  have hb8' := hb5c.trans (hb8.mono ht5c.le)
                  have ht8 := ht5c.below hb8
                  have hown8 := own_below (hown5c) hb8
                  have hBr8 : B2 ≤ w8.heap.size := by have := hb8.size; omega
                  refine wpIn_done (HD.out _ hb8') (by kernel_rfl) ?_ _
                  go_wp2
                  go_roundw
                  case rel => exact ⟨k + 1, D, G, T, sg, by omega, by go_num, rfl, hown8, by omega, ht8, HI.out, by omega, by omega, hb8', hBr8⟩
                  case measure => simp [intOf]; omega
              · clear y1 y2 y3 y4
                go_wp2
                go_roundw
                case rel => exact ⟨k + 1, D, G, T, sg, by omega, by go_num, rfl, hown, by omega, ht, HI.out, by omega, by omega, hb, hBr⟩
                case measure => simp [intOf]; omega
        · obtain rfl : k = l.length := by omega
          obtain ⟨W3, hW3⟩ : ∃ W3, W3 = wr := ⟨_, rfl⟩
          have hrd3 : RdS W3.heap.size W3 q cq T := by rw [hW3]; exact hrdT
          have hb3 : Below W3.heap.size W3 wr := by rw [hW3]; exact Below.refl _ _
          clear hW3 hrdT
          cases sg with
          | true =>
            go_wp2
            go_loopw [14] (fun i w' => ∃ m : Nat, m ≤ T.length ∧ i = .int .i64 m ∧ Below W2.heap.size W2 w') (fun i _ => T.length - (intOf i).toNat)
            case atStart => exact ⟨0, Nat.zero_le _, rfl, hb⟩
            case round =>
              obtain ⟨m, hm, rfl, hbw⟩ := hrel
              by_cases hmt : m < T.length
              · go_wp2
                refine wp_region_in (by kernel_rfl) (fun _ => True) ?_
                change wpIn _ _ _ _ _ _ _ _ (World.drew _)
                refine wpIn_take (i := 0) (d := (some 128)) (v := ?vqg0) (a' := ?aqg0) rfl rfl (by kernel_rfl) (by kernel_rfl) (by kernel_rfl) (fun _ _ _ h => h) (Or.inl ⟨by rfl, ?yqg0⟩) ?fqg0 ?_
                case yqg0 => (intro wq hq; go_simp; first | done | with_reducible rfl)
                case fqg0 => (go_frame; rfl)
                refine wpIn_take (i := 1) (d := (some 129)) (v := ?vqg1) (a' := ?aqg1) rfl rfl (by kernel_rfl) (by kernel_rfl) (by kernel_rfl) (fun _ _ _ h => h) (Or.inl ⟨by rfl, ?yqg1⟩) ?fqg1 ?_
                case yqg1 => (intro wq hq; go_simp; first | done | with_reducible rfl)
                case fqg1 => (go_frame; rfl)
                refine wpIn_take (i := 2) (d := (some 130)) (v := ?vqg2) (a' := ?aqg2) rfl rfl (by kernel_rfl) (by kernel_rfl) (by kernel_rfl) (fun _ _ _ h => h) (Or.inl ⟨by rfl, ?yqg2⟩) ?fqg2 ?_
                case yqg2 => (intro wq hq; go_simp; first | done | with_reducible rfl)
                case fqg2 => (go_frame; rfl)
                refine wpIn_take (i := 3) (d := (some 131)) (v := undef) (a' := ?aqg3) rfl rfl (by kernel_rfl) (by kernel_rfl) (by kernel_rfl) (fun _ _ _ h => h) (Or.inr ⟨by rfl, rfl⟩) ?fqg3 ?_
                case fqg3 => (go_frame; rfl)
                refine wpIn_take (i := 4) (d := (some 132)) (v := undef) (a' := ?aqg4) rfl rfl (by kernel_rfl) (by kernel_rfl) (by kernel_rfl) (fun _ _ _ h => h) (Or.inr ⟨by rfl, rfl⟩) ?fqg4 ?_
                case fqg4 => (go_frame; rfl)
                refine wpIn_take (i := 5) (d := (some 133)) (v := undef) (a' := ?aqg5) rfl rfl (by kernel_rfl) (by kernel_rfl) (by kernel_rfl) (fun _ _ _ h => h) (Or.inr ⟨by rfl, rfl⟩) ?fqg5 ?_
                case fqg5 => (go_frame; rfl)
                refine wpIn_take (i := 6) (d := (some 134)) (v := undef) (a' := ?aqg6) rfl rfl (by kernel_rfl) (by kernel_rfl) (by kernel_rfl) (fun _ _ _ h => h) (Or.inr ⟨by rfl, rfl⟩) ?fqg6 ?_
                case fqg6 => (go_frame; rfl)
                refine wpIn_take (i := 7) (d := (some 135)) (v := undef) (a' := ?aqg7) rfl rfl (by kernel_rfl) (by kernel_rfl) (by kernel_rfl) (fun _ _ _ h => h) (Or.inr ⟨by rfl, rfl⟩) ?fqg7 ?_
                case fqg7 => (go_frame; rfl)
                refine wpIn_take (i := 8) (d := (some 136)) (v := undef) (a' := ?aqg8) rfl rfl (by kernel_rfl) (by kernel_rfl) (by kernel_rfl) (fun _ _ _ h => h) (Or.inr ⟨by rfl, rfl⟩) ?fqg8 ?_
                case fqg8 => (go_frame; rfl)
                refine wpIn_take (i := 9) (d := (some 137)) (v := undef) (a' := ?aqg9) rfl rfl (by kernel_rfl) (by kernel_rfl) (by kernel_rfl) (fun _ _ _ h => h) (Or.inr ⟨by rfl, rfl⟩) ?fqg9 ?_
                case fqg9 => (go_frame; rfl)
                refine wpIn_take (i := 10) (d := (some 138)) (v := undef) (a' := ?aqg10) rfl rfl (by kernel_rfl) (by kernel_rfl) (by kernel_rfl) (fun _ _ _ h => h) (Or.inr ⟨by rfl, rfl⟩) ?fqg10 ?_
                case fqg10 => (go_frame; rfl)
                refine wpIn_take (i := 11) (d := (some 139)) (v := undef) (a' := ?aqg11) rfl rfl (by kernel_rfl) (by kernel_rfl) (by kernel_rfl) (fun _ _ _ h => h) (Or.inr ⟨by rfl, rfl⟩) ?fqg11 ?_
                case fqg11 => (go_frame; rfl)
                refine wpIn_take (i := 12) (d := (some 140)) (v := undef) (a' := ?aqg12) rfl rfl (by kernel_rfl) (by kernel_rfl) (by kernel_rfl) (fun _ _ _ h => h) (Or.inr ⟨by rfl, rfl⟩) ?fqg12 ?_
                case fqg12 => (go_frame; rfl)
                refine wpIn_take (i := 13) (d := (some 141)) (v := undef) (a' := ?aqg13) rfl rfl (by kernel_rfl) (by kernel_rfl) (by kernel_rfl) (fun _ _ _ h => h) (Or.inr ⟨by rfl, rfl⟩) ?fqg13 ?_
                case fqg13 => (go_frame; rfl)
                refine wpIn_take (i := 14) (d := (some 142)) (v := ?vqg14) (a' := ?aqg14) rfl rfl (by kernel_rfl) (by kernel_rfl) (by kernel_rfl) (fun _ _ _ h => h) (Or.inl ⟨by rfl, ?yqg14⟩) ?fqg14 ?_
                case yqg14 => (intro wq hq; go_simp; first | done | with_reducible rfl)
                case fqg14 => (go_frame; rfl)
                refine wpIn_done trivial (by kernel_rfl) ?_ _
                go_wp2
                go_roundw
                case rel => exact ⟨m + 1, by omega, by go_num, hbw.drew⟩
                case measure => simp [intOf]; omega
              · obtain rfl : m = T.length := by omega
                go_wp2_with (go_at_call 12; refine (awake_any _).mono ?_; rintro e w7 ⟨rfl, hb7⟩)
                go_ret
                have q1 := hb2.trans (hbw.mono hb2.size)
                exact ⟨rfl, q1.trans (hb7.mono q1.size)⟩
          | false =>
            have HNV : Hid (inn S x.srv = true → (plc S x.srv, x.txt) ∉ G) := HI.out (by first | rfl | trivial)
            clear HI
            go_wp2
            go_loopw [14] (fun i w' => ∃ m : Nat, m ≤ T.length ∧ i = .int .i64 m ∧ Below W2.heap.size W2 w' ∧ Below W3.heap.size W3 w' ∧ Tab W2.heap.size w' tb vv b1 b2 S D G) (fun i _ => T.length - (intOf i).toNat)
            case atStart => exact ⟨0, Nat.zero_le _, rfl, hb, hb3, ht⟩
            case round =>
              clear hb ht hb3
              obtain ⟨m, hm, rfl, hbw, hbr, ht⟩ := hrel
              by_cases hmt : m < T.length
              · obtain ⟨a, rfl, ha, _⟩ := hrd3.2 m hmt
                obtain ⟨tm, htm⟩ : ∃ t, T.getD m ⟨#[]⟩ = t := ⟨_, rfl⟩
                have HCT : Hid (∀ w', Below W3.heap.size W3 w' → w'.cell? (a.add m) = some (.string tm)) := fun w' h => by
                  obtain ⟨a', e, _, hc⟩ := (hrd3.carry h).2 m hmt
                  cases e
                  rw [← htm]; exact hc
                clear htm
                have hbd := hbw.drew
                have hbr' := hbr.drew
                have htd := ht.grown (grown_drew _ none)
                obtain ⟨cap, wc, hconv⟩ := bytes_any x.txt (World.drew _)
                have hbc := hbd.trans (hconv.below.mono htd.le)
                have hbr2 := hbr'.trans (hconv.below.mono hbr'.size)
                have hC0 := And.intro (And.intro (HXC.out _ hbd).1 (HXC.out _ hbd).2.1) (HCT.out _ hbr')
                have hC1 := And.intro (And.intro (HXC.out _ hbc).1 (HXC.out _ hbc).2.1) (HCT.out _ hbr2)
                have hrun := hconv.run
                go_wp2
                refine wp_region_in (by kernel_rfl) (fun w' => (w'.cell? ⟨w.heap.size, 1, none⟩ = some (.string x.srv) ∧ w'.cell? ⟨w.heap.size, 2, none⟩ = some (.string x.txt)) ∧ w'.cell? (a.add m) = some (.string tm)) ?_
                change wpIn _ _ _ _ _ _ _ _ (World.drew _)
                refine wpIn_take (i := 0) (d := (some 128)) (v := ?vqh0) (a' := ?aqh0) rfl rfl (by kernel_rfl) (by kernel_rfl) (by kernel_rfl) (fun _ _ _ h => h) (Or.inl ⟨by rfl, ?yqh0⟩) ?fqh0 ?_
                case yqh0 => (intro wq hq; go_simp; first | done | with_reducible rfl)
                case fqh0 => (go_frame; rfl)
                refine wpIn_take (i := 1) (d := (some 129)) (v := ?vqh1) (a' := ?aqh1) rfl rfl (by kernel_rfl) (by kernel_rfl) (by kernel_rfl) (fun _ _ _ h => h) (Or.inl ⟨by rfl, ?yqh1⟩) ?fqh1 ?_
                case yqh1 => (intro wq hq; go_simp; first | done | with_reducible rfl)
                case fqh1 => (go_frame; rfl)
                refine wpIn_take (i := 2) (d := (some 130)) (v := ?vqh2) (a' := ?aqh2) rfl rfl (by kernel_rfl) (by kernel_rfl) (by kernel_rfl) (fun _ _ _ h => h) (Or.inl ⟨by rfl, ?yqh2⟩) ?fqh2 ?_
                case yqh2 => (intro wq hq; go_simp; first | done | with_reducible rfl)
                case fqh2 => (go_frame; rfl)
                refine wpIn_take (i := 3) (d := (some 131)) (v := ?vqh3) (a' := ?aqh3) rfl rfl (by kernel_rfl) (by kernel_rfl) (by kernel_rfl) (fun _ _ _ h => h) (Or.inl ⟨by rfl, ?yqh3⟩) ?fqh3 ?_
                case yqh3 => (intro wq hq; go_simp; first | done | with_reducible rfl)
                case fqh3 => (go_frame; rfl)
                refine wpIn_take (i := 4) (d := (some 132)) (v := ?vqh4) (a' := ?aqh4) rfl rfl (by kernel_rfl) (by kernel_rfl) (by kernel_rfl) (fun _ _ _ h => h) (Or.inl ⟨by rfl, ?yqh4⟩) ?fqh4 ?_
                case yqh4 => (intro wq hq; go_simp; first | done | with_reducible rfl)
                case fqh4 => (go_frame; rfl)
                refine wpIn_take (i := 5) (d := (some 133)) (v := ?vqh5) (a' := ?aqh5) rfl rfl (by kernel_rfl) (by kernel_rfl) (by kernel_rfl) (fun _ _ _ h => h) (Or.inl ⟨by rfl, ?yqh5⟩) ?fqh5 ?_
                case yqh5 => (intro wq hq; obtain ⟨⟨g1, g2⟩, g3⟩ := hq; go_simp; first | done | with_reducible rfl)
                case fqh5 => (go_frame; rfl)
                refine wpIn_take (i := 6) (d := (some 134)) (v := ?vqh6) (a' := ?aqh6) rfl rfl (by kernel_rfl) (by kernel_rfl) (by kernel_rfl) (fun _ _ _ h => h) (Or.inl ⟨by rfl, ?yqh6⟩) ?fqh6 ?_
                case yqh6 => (intro wq hq; go_simp; first | done | with_reducible rfl)
                case fqh6 => (go_frame; rfl)
                refine wpIn_take (i := 7) (d := (some 135)) (v := ?vqh7) (a' := ?aqh7) rfl rfl (by kernel_rfl) (by kernel_rfl) (by kernel_rfl) (fun _ _ _ h => h) (Or.inl ⟨by rfl, ?yqh7⟩) ?fqh7 ?_
                case yqh7 => (intro wq hq; obtain ⟨⟨g1, g2⟩, g3⟩ := hq; go_simp; first | done | with_reducible rfl)
                case fqh7 => (go_frame; rfl)
                refine wpIn_take (i := 9) (d := (some 137)) (v := ?vqh9) (a' := ?aqh9) rfl rfl (by kernel_rfl) (by kernel_rfl) (by kernel_rfl) (fun _ _ _ h => h) (Or.inl ⟨by rfl, ?yqh9⟩) ?fqh9 ?_
                case yqh9 => (intro wq hq; go_simp; first | done | with_reducible rfl)
                case fqh9 => (go_frame; rfl)
                refine wpIn_take (i := 10) (d := (some 138)) (v := ?vqh10) (a' := ?aqh10) rfl rfl (by kernel_rfl) (by kernel_rfl) (by kernel_rfl) (fun _ _ _ h => h) (Or.inl ⟨by rfl, ?yqh10⟩) ?fqh10 ?_
                case yqh10 => (intro wq hq; go_simp; first | done | with_reducible rfl)
                case fqh10 => (go_frame; rfl)
                refine wpIn_take (i := 11) (d := (some 139)) (v := ?vqh11) (a' := ?aqh11) rfl rfl (by kernel_rfl) (by kernel_rfl) (by kernel_rfl) (fun _ _ _ h => h) (Or.inl ⟨by rfl, ?yqh11⟩) ?fqh11 ?_
                case yqh11 => (intro wq hq; go_simp; first | done | with_reducible rfl)
                case fqh11 => (go_frame; rfl)
                refine wpIn_take (i := 12) (d := (some 140)) (v := ?vqh12) (a' := ?aqh12) rfl rfl (by kernel_rfl) (by kernel_rfl) (by kernel_rfl) (fun _ _ _ h => h) (Or.inl ⟨by rfl, ?yqh12⟩) ?fqh12 ?_
                case yqh12 => (intro wq hq; obtain ⟨⟨g1, g2⟩, g3⟩ := hq; go_simp; first | done | with_reducible rfl)
                case fqh12 => (go_frame; rfl)
                refine wpIn_do (i := 8) hC0 (by kernel_rfl) rfl (by rfl) ?_
                intro K hK
                go_simp
                refine hK _ _ ?_
                clear hK K
                refine wpIn_do (i := 13) hC1 (by kernel_rfl) rfl (by rfl) ?_
                intro K hK
                go_simp
                go_wp2_with (go_at_call 19; refine (verify_text x.srv tm htd hconv (by omega) (by omega)).mono ?_; rw [ver_no HNV.out]; rintro e w5 ⟨rfl, ht5, hb5⟩)
                have hb5' := hbd.trans (hb5.mono htd.le)
                have hbr5 := hbr'.trans (hb5.mono hbr'.size)
                have hC2 := And.intro (And.intro (HXC.out _ hb5').1 (HXC.out _ hb5').2.1) (HCT.out _ hbr5)
                refine wpIn_take (i := 14) (d := (some 142)) (v := ?vqh14) (a' := ?aqh14) rfl rfl (by kernel_rfl) (by kernel_rfl) (by kernel_rfl) (fun _ _ _ h => h) (Or.inl ⟨by rfl, ?yqh14⟩) ?fqh14 ?_
                case yqh14 => (intro wq hq; go_simp; first | done | with_reducible rfl)
                case fqh14 => (go_frame; rfl)
                refine wpIn_done hC2 (by kernel_rfl) ?_ _
                go_wp2
                go_roundw
                case rel => exact ⟨m + 1, by omega, by go_num, hb5', hbr5, ht5⟩
                case measure => simp [intOf]; omega
              · obtain rfl : m = T.length := by omega
                obtain ⟨y1, y2, y3⟩ := HXC.out _ hbw
                obtain ⟨cap, wc, hconv⟩ := bytes_any x.txt wr
                have hrun := hconv.run
                have z3 := (HXC.out wc (hbw.trans (hconv.below.mono ht.le))).2.2
                go_wp2_with (first
                  | (go_at_call 19; refine (verify_text x.srv x.tok ht hconv (by omega) (by omega)).mono ?_; rw [ver_no HNV.out]; rintro e w5 ⟨rfl, ht5, hb5⟩)
                  | (go_at_call 12; refine (awake_any _).mono ?_; rintro e w7 ⟨rfl, hb7⟩))
                go_ret
                have q0 := hbw.trans (hb5.mono ht.le)
                have q1 := hb2.trans (q0.mono hb2.size)
                exact ⟨rfl, q1.trans (hb7.mono q1.size)⟩
end Go.Proofs.Ytjgogmlmcebgpaa

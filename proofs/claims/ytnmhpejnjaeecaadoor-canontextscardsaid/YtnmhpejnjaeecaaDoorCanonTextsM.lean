/-
  CanonTexts: whatever the text, a map of it as a key and as a value is decoded as it was encoded, or refused if the text is not of letters; and chapter 1's examples hold.
-/
import Derived.Test.YtnmhpejnjaeecaaDoorM8
import Derived.Test.YtnmhpejnjaeecaaDoorLaidM
namespace Go.Proofs.YtnmhpejnjaeecaaDoor
open Go.RowKit

def jOne (s : ByteArray) : J := .mk 5 0 nix [s] [.mk 3 0 s [] []]
theorem good_one (s : ByteArray) : goodJ 12 (jOne s) = letters s := by
  unfold jOne
  have e : goodJ 11 (.mk 3 0 s [] []) = letters s := by
    rw [goodJ, if_neg (by decide), if_neg (by decide), if_neg (by decide), if_pos rfl]
    simp [bare]
  rw [goodJ, if_neg (by decide), if_neg (by decide), if_neg (by decide), if_neg (by decide), if_neg (by decide), if_pos rfl, List.all_cons, List.all_cons, e]
  simp [bare, noKeyTwice, nix, ByteArray.size]
theorem ord_one (s : ByteArray) : ord (jOne s) = jOne s := by
  unfold jOne
  rw [ord, if_pos rfl, ordL, ordL, ord, if_neg (by decide), ordL]
  rfl
theorem enc_text (s : ByteArray) : enc' (.mk 3 0 s [] []) = quote (ints s) := by
  rw [enc', if_neg (by decide), if_neg (by decide), if_neg (by decide), if_pos rfl]
theorem enc_one (s : ByteArray) : enc' (jOne s) = 123 :: ((quote (ints s) ++ (58 :: quote (ints s))) ++ [125]) := by
  unfold jOne
  rw [enc', if_neg (by decide), if_neg (by decide), if_neg (by decide), if_neg (by decide), if_neg (by decide), if_pos rfl, encP_cons, encP, show enc' (.mk 3 0 s [] []) = quote (ints s) from enc_text s]
  simp
theorem flat_len : ∀ l : List Int, (∀ c ∈ l, 0 ≤ c ∧ c ≤ 255) → (l.flatMap escByte).length ≤ 6 * l.length
  | [], _ => Nat.le_refl _
  | c :: l, h => by
    have h1 := (escByte_bd (h c (List.mem_cons_self ..))).2
    have h2 := flat_len l fun x hx => h x (List.mem_cons_of_mem _ hx)
    rw [List.flatMap_cons, List.length_append, List.length_cons]
    omega
theorem quote_len (s : ByteArray) : (quote (ints s)).length ≤ 6 * s.size + 2 := by
  have := flat_len (ints s) (ints_bytes s)
  rw [ints_length] at this
  unfold quote
  rw [List.length_cons, List.length_append]
  simp only [List.length_cons, List.length_nil]
  omega
theorem enc_one_len {s : ByteArray} (hs : s.size ≤ 1000) : (enc' (jOne s)).length ≤ 16384 := by
  have := quote_len s
  rw [enc_one]
  simp
  omega
theorem sz_one {s : ByteArray} (hs : s.size ≤ 1000) : szJ 12 (jOne s) = true := by
  unfold jOne
  have h1 : decide (s.size ≤ 1000000000) = true := decide_eq_true (by omega)
  have h0 : decide (nix.size ≤ 1000000000) = true := by decide
  rw [szJ, h0]
  simp only [List.length_cons, List.length_nil, List.all_cons, List.all_nil, h1, szJ]
  rfl
theorem isJ_pair {w : World} {O : Nat → Prop} {s : ByteArray} {a b : Nat} {fa fb : Nat × Nat} {ta tb : Nat} (ha : O a) (hb : O b) (hca : w.heap[a]? = some (.cells #[.string s] ta fa)) (hcb : w.heap[b]? = some (.cells #[.int .i64 3, .int .i64 0, .string s, .slice none 0 0, .slice none 0 0] tb fb)) :
    isJ O w (jOne s) [.int .i64 5, .int .i64 0, .string ⟨#[]⟩, .slice (some ⟨a, 0, none⟩) 1 1, .slice (some ⟨b, 0, none⟩) 1 1] := by
  unfold jOne isJ
  refine ⟨some ⟨a, 0, none⟩, 1, some ⟨b, 0, none⟩, 1, rfl, ⟨Nat.le_refl _, fun j hj => ⟨_, rfl, ha, ?_⟩⟩, Nat.le_refl _, ?_⟩
  · obtain rfl : j = 0 := by simp at hj; omega
    exact cell_row (cur := [.string s]) hca 0 _ rfl
  · unfold isJs
    refine ⟨⟨b, 0, _, rfl, hb, fun i v hi => ?_, isJ_text⟩, by unfold isJs; trivial⟩
    rw [show 0 + 0 * 5 + i = i by omega]
    exact cell_row (cur := [.int .i64 3, .int .i64 0, .string s, .slice none 0 0, .slice none 0 0]) hcb i v hi
where
  isJ_text {w : World} {O : Nat → Prop} {s : ByteArray} : isJ O w (.mk 3 0 s [] []) [.int .i64 3, .int .i64 0, .string s, .slice none 0 0, .slice none 0 0] := by
    unfold isJ
    exact ⟨none, 0, none, 0, rfl, RdK.nil _ _, Nat.le_refl _, by unfold isJs; trivial⟩
/-- What is read back of it. -/
theorem isJ_pair_at {w : World} {O : Nat → Prop} {s : ByteArray} {k i : Int} {t : ByteArray} {pk pl : Option Addr} {nk ck nl cl : Nat} (h : isJ O w (jOne s) [.int .i64 k, .int .i64 i, .string t, .slice pk nk ck, .slice pl nl cl]) :
    nk = 1 ∧ nl = 1 ∧ 1 ≤ ck ∧ 1 ≤ cl ∧ (∃ a, pk = some a ∧ O a.block ∧ w.cell? (a.add 0) = some (.string s)) ∧ (∃ b o, pl = some ⟨b, o, none⟩ ∧ O b ∧ w.cell? ⟨b, o + 2, none⟩ = some (.string s)) := by
  unfold jOne isJ at h
  obtain ⟨pk', ck', pl', cl', e, h1, h2, h3⟩ := h
  simp only [List.cons.injEq, Value.int.injEq, Value.string.injEq, Value.slice.injEq, true_and, and_true] at e
  obtain ⟨_, _, _, ⟨rfl, rfl, rfl⟩, rfl, rfl, rfl⟩ := e
  refine ⟨rfl, rfl, h1.1, h2, h1.2 0 (by simp), ?_⟩
  unfold isJs at h3
  obtain ⟨⟨b, o, cs, rfl, hb, hc, hj⟩, _⟩ := h3
  refine ⟨b, o, rfl, hb, ?_⟩
  unfold isJ at hj
  obtain ⟨_, _, _, _, rfl, _⟩ := hj
  exact hc 2 _ rfl
theorem tab_on {w w2 : World} (hT : Tab w.heap.size w) (hb : Below w.heap.size w w2) : Tab w2.heap.size w2 := fun w' h' => hT w' (below_in hb h')
end Go.Proofs.YtnmhpejnjaeecaaDoor
namespace Go.Proofs.YtnmhpejnjaeecaaDoor
open Go.RowKit

theorem add_zero_at (a : Addr) : a.add 0 = a := by
  unfold Addr.add
  split <;> simp_all
set_option maxRecDepth 100000 in
set_option maxHeartbeats 8000000 in
theorem texts_long {w : World} (s : ByteArray) (hs : 1000 < s.size) : Calls Tryd.prog 7 #[.string s] w fun x w' => x = .returned (.bool true) ∧ Below w.heap.size w w' := by
  have hi : (1000 : Int) < s.size := by omega
  go_enter Tryd.func7, Tryd.ntmps7
  go_wp2
  go_ret
  exact ⟨rfl, Below.refl _ _⟩
def wOne (w : World) (s : ByteArray) : World := ((w.alloc (.cells #[.string s] 9)).alloc (.cells #[.int .i64 3, .int .i64 0, .string s, .slice none 0 0, .slice none 0 0] 25)).alloc (.cells #[.int .i64 5, .int .i64 0, .string ⟨#[]⟩, .slice (some ⟨w.heap.size, 0, none⟩) 1 1, .slice (some ⟨w.heap.size + 1, 0, none⟩) 1 1] 25)
theorem wOne_below (w : World) (s : ByteArray) : Below w.heap.size w (wOne w s) := by
  unfold wOne
  exact (((Below.refl _ _).alloc (Nat.le_refl _) _).alloc (by simp) _).alloc (by simp; omega) _
theorem wOne_enc {w : World} (hT : Tab w.heap.size w) {s : ByteArray} (hs : s.size ≤ 1000) :
    Calls Tryd.prog 9 #[.agg #[.int .i64 5, .int .i64 0, .string ⟨#[]⟩, .slice (some ⟨w.heap.size, 0, none⟩) 1 1, .slice (some ⟨w.heap.size + 1, 0, none⟩) 1 1]] (wOne w s) fun x w' => encTold (wOne w s) w' (jOne s) x := by
  have hsz := sz_one hs
  refine encode_any (O := fun x => x < (wOne w s).heap.size) (fun x hx => hx) hsz (tab_on hT (wOne_below w s)) (fun h => fit_ord h hsz) ?_
  have e1 : (wOne w s).heap[w.heap.size]? = some (.cells #[.string s] 9 (0, 0)) := by
    unfold wOne
    rw [Below.heap_alloc _ _ _ (by simp; omega), Below.heap_alloc _ _ _ (by simp)]
    exact heap_alloc_new _ _
  have e2 : (wOne w s).heap[w.heap.size + 1]? = some (.cells #[.int .i64 3, .int .i64 0, .string s, .slice none 0 0, .slice none 0 0] 25 (0, 0)) := by
    unfold wOne
    rw [Below.heap_alloc _ _ _ (by simp)]
    have := heap_alloc_new (w.alloc (.cells #[.string s] 9)) (.cells #[.int .i64 3, .int .i64 0, .string s, .slice none 0 0, .slice none 0 0] 25)
    simpa using this
  exact isJ_pair (by unfold wOne; simp; omega) (by unfold wOne; simp) e1 e2
set_option maxRecDepth 100000 in
set_option maxHeartbeats 8000000 in
theorem texts_bad {w : World} (hT : Tab w.heap.size w) (s : ByteArray) (hs : s.size ≤ 1000) (hl : letters s = false) : Calls Tryd.prog 7 #[.string s] w fun x w' => x = .returned (.bool true) ∧ Below w.heap.size w w' := by
  have hi : (s.size : Int) ≤ 1000 := by omega
  have hEn := wOne_enc hT hs
  have hb0 := wOne_below w s
  unfold wOne at hEn hb0
  have HG : Hid (goodJ 12 (jOne s) = false) := by show _ = _; rw [good_one]; exact hl
  obtain ⟨p, hp⟩ : ∃ p, stray (ints s) = some p := by
    unfold letters at hl
    cases h : stray (ints s) with
    | none => rw [h] at hl; cases hl
    | some p => exact ⟨p, rfl⟩
  have hB := fun w' : World => bad_any runes s w' (by omega)
  rw [hp] at hB
  clear hp hl
  go_enter Tryd.func7, Tryd.ntmps7
  go_wp2_with (first
    | (go_at_call 9; refine hEn.mono ?_; rintro x w2 ⟨h1, _, _, hb2⟩
       obtain rfl := h1 HG.out
       clear h1 hEn
       have hb02 := below_in hb0 hb2
       have hAw := awake_any (tab_on hT hb02))
    | (go_at_call 17; refine (hB _).mono ?_; rintro x w' ⟨rfl, rfl⟩)
    | (go_at_call 10; refine hAw.mono ?_; rintro x w4 ⟨rfl, hb4⟩))
  go_ret
  exact ⟨rfl, below_in hb02 hb4⟩
set_option maxRecDepth 100000 in
set_option maxHeartbeats 8000000 in
theorem texts_good {w : World} (hT : Tab w.heap.size w) (s : ByteArray) (hs : s.size ≤ 1000) (hl : letters s = true) : Calls Tryd.prog 7 #[.string s] w fun x w' => x = .returned (.bool true) ∧ Below w.heap.size w w' := by
  have hi : (s.size : Int) ≤ 1000 := by omega
  have hEn := wOne_enc hT hs
  have hb0 := wOne_below w s
  unfold wOne at hEn hb0
  have HG : Hid (goodJ 12 (jOne s) = true) := by show _ = _; rw [good_one]; exact hl
  have HL : Hid ((enc' (ord (jOne s))).length ≤ 16384) := by show _ ≤ _; rw [ord_one]; exact enc_one_len hs
  have hp : stray (ints s) = none := by
    unfold letters at hl
    exact Option.isNone_iff_eq_none.1 hl
  have hB := fun w' : World => bad_any runes s w' (by omega)
  rw [hp] at hB
  clear hp hl
  go_enter Tryd.func7, Tryd.ntmps7
  go_wp2_with (first
    | (go_at_call 9; refine hEn.mono ?_; rintro x w2 ⟨_, _, h3, hb2⟩
       obtain ⟨v, rfl, hown⟩ := h3 HG.out HL.out
       clear h3 hEn
       obtain ⟨q, c, rfl, hrd⟩ := enc_rd HG.out hown
       have hD := decode_any hrd (by have := HL.out; omega)
       rw [decode_enc HG.out HL.out, ord_one] at hD
       rw [ord_one]
       obtain ⟨n, hn⟩ : ∃ n, (enc' (jOne s)).length = n := ⟨_, rfl⟩
       rw [hn] at hD ⊢
       clear hown hrd hn
       have hb02 := below_in hb0 hb2)
    | (go_at_call 17; refine (hB _).mono ?_; rintro x w' ⟨rfl, rfl⟩)
    | (go_at_call 11; refine hD.mono ?_; rintro x w3 ⟨⟨kv, iv, tv, pk, nk, ck, pl, nl, cl, rfl, hj⟩, hb3⟩
       clear hD
       obtain ⟨rfl, rfl, hck, hcl, ⟨a, rfl, ha, hca⟩, b, o, rfl, hOb, hcb⟩ := isJ_pair_at hj
       have hA1 : (w3.alloc (.cells #[.int .i64 kv, .int .i64 iv, .string tv, .slice (some a) 1 ck, .slice (some ⟨b, o, none⟩) 1 cl] 25)).cell? (a.add 0) = some (.string s) := (World.cell?_of_block (Below.heap_alloc _ _ _ (by rw [add_block]; exact ha.2))).trans hca
       have hA0 : (w3.alloc (.cells #[.int .i64 kv, .int .i64 iv, .string tv, .slice (some a) 1 ck, .slice (some ⟨b, o, none⟩) 1 cl] 25)).cell? a = some (.string s) := by rw [← hA1, add_zero_at]
       have hA2 : (w3.alloc (.cells #[.int .i64 kv, .int .i64 iv, .string tv, .slice (some a) 1 ck, .slice (some ⟨b, o, none⟩) 1 cl] 25)).cell? ⟨b, o + 2, none⟩ = some (.string s) := (World.cell?_of_block (Below.heap_alloc _ _ _ hOb.2)).trans hcb
       have hb03 : Below w.heap.size w (w3.alloc (.cells #[.int .i64 kv, .int .i64 iv, .string tv, .slice (some a) 1 ck, .slice (some ⟨b, o, none⟩) 1 cl] 25)) := (below_in hb02 hb3).alloc (below_in hb02 hb3).size _
       have hAw := awake_any (tab_on hT hb03))
    | (go_at_call 10; refine hAw.mono ?_; rintro x w4 ⟨rfl, hb4⟩))
  go_ret
  exact ⟨rfl, below_in hb03 hb4⟩
theorem texts_any {w : World} (hT : Tab w.heap.size w) (s : ByteArray) : Calls Tryd.prog 7 #[.string s] w fun x w' => x = .returned (.bool true) ∧ Below w.heap.size w w' := by
  rcases Nat.lt_or_ge 1000 s.size with h | h
  · exact texts_long s h
  · cases hl : letters s with
    | false => exact texts_bad hT s h hl
    | true => exact texts_good hT s h hl
end Go.Proofs.YtnmhpejnjaeecaaDoor
namespace Go.Proofs.YtnmhpejnjaeecaaDoor
open Go.ChangeShapes Go.WideShapes Go.ChangeAt Go.RowKit
open Go.ChangeMaps (open_string shut_string)

set_option maxRecDepth 100000 in
theorem canonTexts_lifted (os : Os) (started : os.Started) (H : Type) (enc : TypeId × Value → H) :
    ReturnsInHanded {} Tryd.checked os 7 .any (fun w args => (Rows.canonTextsSpec.pre enc Tryd.prog Tryd.f7 [] false w args ∧ laidMetH Tryd.prog laid3 w) ∧ sizedMet enc Tryd.prog Tryd.f7 (OpenSpec.ofChange Rows.canonTextsSpec) false w args)
      (Rows.canonTextsSpec.post enc Tryd.prog Tryd.f7 false true false false) := by
  refine returnsInHanded_of_change_and (C := Tryd.checked) (X := fun w _ => laidMetH Tryd.prog laid3 w) (fun _ _ _ hh h => h.of_heap hh) ownK started (by kernel_rfl) Tryd.func7
    (ChangeSpec.witness_shaped (enc := enc) (C := Tryd.checked) (os := os) (X := fun w _ => laidMetH Tryd.prog laid3 w) false (World.doorLaid Tryd.prog 400 os) #[.string ⟨#[]⟩] 8 rfl (World.shaped_of_RefB (by kernel_rfl) (by kernel_rfl)) (by kernel_rfl) (by kernel_rfl) (by kernel_rfl) (door_met os _)) ?_
  intro W base args ds gs before hval0 hW _ _ hL _
  have hval : ∀ (j : Nat) t v, Tryd.f7.params[j]? = some t → args[j]? = some v → Value.okWide Tryd.prog W .any base t v := hval0
  have hW' := hW
  obtain ⟨p, q, hA0, hV, rfl, _, _⟩ := hW
  have hA : DataW.TrodAll enc Tryd.prog W 0 (fun _ => true) true Tryd.f7.params.toList args.toList ds p := hA0
  rw [Tryd.params7] at hA hval
  obtain ⟨v0, d0, rfl, rfl, h0⟩ := trodAll_one hA
  obtain ⟨rfl, rfl⟩ := trodVars_none hV
  clear hA0 hval0
  simp only [List.append_nil] at hW'
  obtain ⟨s, rfl, rfl, rfl, hz⟩ := open_string Tryd.underlying9 (hval 0 9 v0 rfl rfl) h0
  refine (texts_any (tab_of_laid hL) s).mono fun e W' ⟨he, hnx⟩ => ?_
  subst he
  exact ⟨_, rfl, _, _, _, [], [], [], hW', trodAll_mk1 (shut_bool Tryd.underlying4 true), trodAll_mk1 (shut_string Tryd.underlying9 hz), rfl, hnx.frame _, fun h => by cases h⟩

theorem canonTexts_holds : Rows.CanonTextsSaid :=
  OpenClaim.holds_of_wide 7 Tryd.f7 rfl rfl rfl rfl rfl rfl rfl ⟨rfl, rfl, rfl, rfl, rfl⟩ rfl rfl rfl rfl rfl (by kernel_rfl) Tryd.func7 (by kernel_rfl)
    (of_decide_eq_true (by kernel_rfl)) (by unfold Func.isWrapper; first | (rw [if_pos (by decide +kernel)]; kernel_rfl) | (rw [if_neg (by decide +kernel)]; exact ⟨rfl, rfl⟩))
    (fun os started H enc _ => canonTexts_lifted os started H enc)
/-- The tied card. -/
theorem canonTexts_card : Rows.CanonTextsCardSaid :=
  Claim7.holds_tied_plain_at .later [] [.data, .data, .data] true (true, "dc26126e0be186c1bdbd85ed75ecf10e95360e209ce5a2f45387d45e782b16df") false
    canonTexts_holds (fun _ h => by cases h) (by kernel_rfl) (fun _ h => by cases h) canonTexts_row_tie rfl ⟨rfl, rfl⟩ (by kernel_rfl) rfl
    (fun f fn hf hfn => by
      obtain rfl : f = 7 := Option.some.inj ((show Tryd.prog.funcNamed "agora/agoralaw01.CanonTexts" = some 7 by kernel_rfl).symm.trans hf) |>.symm
      obtain rfl : fn = Tryd.f7 := (Option.some.inj (Tryd.func7.symm.trans hfn)).symm
      exact ⟨by kernel_rfl, fun j t ht => by
        rw [Tryd.params7] at ht
        have hm : t ∈ [9] := by simpa using Array.mem_of_getElem? ht
        have hall : ([9].all fun u => !Tryd.prog.wantsStandIn u) = true := by kernel_rfl
        exact (show Tryd.prog.wantsStandIn t = false by simpa using List.all_eq_true.1 hall t hm)⟩)
    (by kernel_rfl)
end Go.Proofs.YtnmhpejnjaeecaaDoor

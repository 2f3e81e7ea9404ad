/-
  On which types and keys an event hangs: the law, walked.
  What the listed variables hold, as the walks want it; and a world that meets the condition.
  An event that came in, as the walks read it.
  Events and values that came in, as the laws are handed them.
-/
import Derived.Test.YtldegjjaknelgaaGreatDoorAW25
import Derived.Test.YtldegjjaknelgaaGreatDoorTie
import Derived.Test.YtldegjjaknelgaaGreatDoorCards
import Derived.LaidMore
import Derived.OpenShut
import Derived.Stop.Joined
import Derived.Lib.LaidTab
import Derived.Lib.LaidU8T
import Derived.Lay
set_option maxRecDepth 100000
set_option maxHeartbeats 16000000
namespace Go.Proofs.YtldegjjaknelgaaGreatDoor
open Go.RowKit
theorem fieldsEnt : Tryz.prog.underlying 39 = some (.struct (Tryz.prog.fieldsOf 39)) := by kernel_rfl
theorem stoodEnt : Tryz.prog.stoodInHeld 39 = false := by kernel_rfl
theorem fieldsE3 : (Tryz.prog.fieldsOf 39).toList = [{ name := "Type", type := 9, offset := 0, embedded := false, tag := "", pkgPath := "", byteOffset := 0 }, { name := "Key", type := 9, offset := 1, embedded := false, tag := "", pkgPath := "", byteOffset := 16 }, { name := "Id", type := 9, offset := 2, embedded := false, tag := "", pkgPath := "", byteOffset := 32 }] := by kernel_rfl
theorem ent_neq (w : World) (u v : ByteArray) : (binOp .neq 39 (.agg #[.string u, .string v, .string ⟨#[]⟩]) (.agg #[.string u, .string v, .string ⟨#[]⟩])).run Tryz.prog w = .ok (.bool false) w := by
 have h9 : Tryz.prog.underlying 9 = some .string := by kernel_rfl
 rw [run_neq_struct, run_equalIn_agg w 9999 39 _ _ fieldsEnt stoodEnt, fieldsE3]
 have p0 : ∀ W, (part 9 #[.string u, .string v, .string ⟨#[]⟩] 0).run Tryz.prog W = .ok (.string u) W := fun W => by simp [go_sem, part]
 have p1 : ∀ W, (part 9 #[.string u, .string v, .string ⟨#[]⟩] 1).run Tryz.prog W = .ok (.string v) W := fun W => by simp [go_sem, part]
 have p2 : ∀ W, (part 9 #[.string u, .string v, .string ⟨#[]⟩] 2).run Tryz.prog W = .ok (.string ⟨#[]⟩) W := fun W => by simp [go_sem, part]
 have e : ∀ (W : World) (a : ByteArray), (Op.equalIn 9999 9 (.string a) (.string a)).run Tryz.prog W = .ok true W := fun W a => by rw [run_equalIn_string W 9998 9 a a h9]; simp
 simp [Op.eqFields, p0, p1, p2, e, Result.andThen]
theorem want_len (e : Ev) : (wantT e).length ≤ 5 := by
 unfold wantT
 split
 · exact Nat.zero_le _
 · simp only [List.length_append]
   split
   · simp only [List.length_append]
     split <;> split <;> simp
   · simp
theorem wants_any {O : Nat → Prop} {w : World} {e : Ev} {p : Pt} (h : IsE O w e p) (hO : ∀ b, O b → b < w.heap.size) (hz : BigE e) (hT : Tabs w) :
    Calls Tryz.prog 4 #[valE e p] w fun x w' => x = .returned (.bool true) ∧ Below w.heap.size w w' := by
 obtain ⟨W0, hW0⟩ : ∃ W0, W0 = w.alloc (.cells (cellsE e p).toArray 28) := ⟨_, rfl⟩
 have hb0 : Below w.heap.size w W0 := by rw [hW0]; exact (Below.refl _ _).alloc (Nat.le_refl _) _
 have hX0 : W0.heap[w.heap.size]? = some (.cells (cellsE e p).toArray 28 (0, 0)) := by rw [hW0]; exact newP _
 have hV := isV_new h hO hb0 hX0
 have HV : Hid (∀ X, Below W0.heap.size W0 X → IsV X w.heap.size e p) := fun X hX => hV.below hX
 have HRG := (show Hid _ from hV.rangeE)
 have hFew := eFew_any e p W0 hV.ev (fun _ h => h) hz
 have HAW : Hid (∀ X, Below W0.heap.size W0 X → Calls Tryz.prog 13 #[] X fun x w' => x = .returned (.bool true) ∧ Below X.heap.size X w') := fun X hX => awake11_any X (hT.below (belowP hb0 hX))
 obtain ⟨L, hL⟩ : ∃ L, wantT e = L := ⟨_, rfl⟩
 have HLN : Hid (L.length ≤ 5) := hL ▸ want_len e
 have HWA : Hid (∀ X, Below W0.heap.size W0 X → FewE e → Calls Tryz.prog 14 #[.agg (cellsE e p).toArray] X fun x w' => (∃ q c, x = .returned (.slice q L.length c) ∧ RdT (fun b => b < w'.heap.size) w' q c L) ∧ Below X.heap.size X w') := fun X hX h1 => by
  refine (wanted_any (HV.out X hX).ev (fun _ h => h) h1.sz).mono fun x w' hh => ⟨?_, hh.2⟩
  obtain ⟨⟨q, c, hx, hr⟩, _⟩ := hh
  rw [hL] at hx hr
  exact ⟨q, c, hx, hr.carry fun k hk => ⟨hk.2, rfl⟩⟩
 have HWB : Hid (∀ X, Below W0.heap.size W0 X → FewE e → Calls Tryz.prog 15 #[.agg (cellsE e p).toArray] X fun x w' => (∃ q c, x = .returned (.slice q L.length c) ∧ RdT (fun b => b < w'.heap.size) w' q c L) ∧ Below X.heap.size X w') := fun X hX h1 => by
  refine (rwanted_any (HV.out X hX).ev (fun _ h => h) (sz_less 13 20 _ (by decide) h1.cont)).mono fun x w' hh => ⟨?_, hh.2⟩
  obtain ⟨⟨q, c, hx, hr⟩, _⟩ := hh
  rw [hL] at hx hr
  exact ⟨q, c, hx, hr.carry fun k hk => ⟨hk.2, rfl⟩⟩
 clear h hV hX0 hz hT hL
 unfold valE at hFew ⊢
 go_enter Tryz.func4, Tryz.ntmps4
 go_upto_region 1 with fail
 rw [← hW0]
 clear hW0
 go_upto_region 3 with (first | (refine wpList_load_mid rfl 28 _ rfl w.heap.size 0 rfl (cellsE e p) _ HRG.out Tryz.underlying28 rfl infoE ?_) | (go_at_call 9; refine hFew.mono ?_; rintro x W ⟨⟨b1, rfl, hf1⟩, hB1⟩; cases b1; have hN1 := hB1; clear hB1))
 · go_wp2
   go_ret
   exact ⟨rfl, belowP hb0 hN1⟩
 · have HW1 : Hid (∀ X, Below W.heap.size W X → FewE e → Calls Tryz.prog 14 #[.agg (cellsE e p).toArray] X fun x w' => (∃ q c, x = .returned (.slice q L.length c) ∧ RdT (fun b => b < w'.heap.size) w' q c L) ∧ Below X.heap.size X w') := fun X hX => HWA.out X (belowP hB1 hX)
   have HW2 : Hid (∀ X, Below W.heap.size W X → FewE e → Calls Tryz.prog 15 #[.agg (cellsE e p).toArray] X fun x w' => (∃ q c, x = .returned (.slice q L.length c) ∧ RdT (fun b => b < w'.heap.size) w' q c L) ∧ Below X.heap.size X w') := fun X hX => HWB.out X (belowP hB1 hX)
   have HLD : Hid (∀ X, Below W.heap.size W X → (Instr.loadAt 28 (.pointer (some ⟨w.heap.size, 0, none⟩))).run Tryz.prog X = .ok (.agg (cellsE e p).toArray) X) := fun X hX => run_loadAt_mid X w.heap.size 0 28 (cellsE e p) _ (HV.out X (belowP hB1 hX)).rangeE Tryz.underlying28 rfl infoE
   clear HWA HWB
   refine wp_region_in (by kernel_rfl) (fun w' => Below W.heap.size W w') ?_
   change wpIn _ _ _ _ _ _ _ _ (World.drew _)
   have hD : Below W.heap.size W W.drew := (Below.refl _ _).drew
   refine wpIn_take (i := 0) (d := (some 9)) (v := (.agg (cellsE e p).toArray)) (a' := ?aqw0) rfl rfl (by kernel_rfl) (by kernel_rfl) (by kernel_rfl) (fun _ _ _ h => h) (Or.inl ⟨by rfl, ?yqw0⟩) ?fqw0 ?_
   case yqw0 => exact fun wq hq => exec_loadR rfl rfl (HLD.out wq hq)
   case fqw0 => (go_frame; rfl)
   refine wpIn_take (i := 2) (d := (some 11)) (v := (.agg (cellsE e p).toArray)) (a' := ?aqw2) rfl rfl (by kernel_rfl) (by kernel_rfl) (by kernel_rfl) (fun _ _ _ h => h) (Or.inl ⟨by rfl, ?yqw2⟩) ?fqw2 ?_
   case yqw2 => exact fun wq hq => exec_loadR rfl rfl (HLD.out wq hq)
   case fqw2 => (go_frame; rfl)
   refine wpIn_do (i := 1) hD (by kernel_rfl) rfl (by rfl) ?_
   intro K hK
   go_simp
   go_wp2_with (go_at_call 14; refine (HW1.out _ hD (hf1 (by trivial))).mono ?_; rintro x w2 ⟨⟨q1, c1, rfl, hr1⟩, hbw2⟩)
   have hD1 : Below W.heap.size W w2 := belowP hD hbw2
   refine wpIn_do (i := 3) hD1 (by kernel_rfl) rfl (by rfl) ?_
   intro K hK
   go_simp
   go_wp2_with (go_at_call 15; refine (HW2.out _ hD1 (hf1 (by trivial))).mono ?_; rintro x w3 ⟨⟨q2, c2, rfl, hr2⟩, hbw3⟩)
   have hD13 : Below W.heap.size W w3 := belowP hD1 hbw3
   refine wpIn_tk (i := 4) (d := some 3) rfl ?_
   refine wpIn_tk (i := 5) (d := some 4) rfl ?_
   refine wpIn_done hD13 (by kernel_rfl) ?_ _
   have hB3 : Below W0.heap.size W0 w3 := belowP hB1 hD13
   have HR1 : Hid (∀ X, Below w3.heap.size w3 X → RdT (fun b => b < X.heap.size) X q1 c1 L) := fun X hX => hr1.carry fun k hk => ⟨Nat.lt_of_lt_of_le hk (belowP hbw3 hX).size, (belowP hbw3 hX).block k hk⟩
   have HR2 : Hid (∀ X, Below w3.heap.size w3 X → RdT (fun b => b < X.heap.size) X q2 c2 L) := fun X hX => hr2.carry fun k hk => ⟨Nat.lt_of_lt_of_le hk hX.size, hX.block k hk⟩
   have h1c := hr1.1
   have h2c := hr2.1
   obtain ⟨n, hn⟩ : ∃ n, L.length = n := ⟨_, rfl⟩
   have HN : Hid (L.length = n) := hn
   have hn5 : n ≤ 5 := hn ▸ HLN.out
   rw [hn] at h1c h2c ⊢
   clear hn hr1 hr2 HW1 HW2 HLD hbw2 hbw3
   go_upto_region 7 with fail
   go_loopw [5] (fun v wr => ∃ m : Nat, v = .int .i64 m ∧ m ≤ n ∧ Below w3.heap.size w3 wr) (fun v _ => n - (intOf v).toNat)
   case atStart => exact ⟨0, rfl, Nat.zero_le _, Below.refl _ _⟩
   case round =>
    obtain ⟨m, rfl, hm, gr⟩ := hrel
    by_cases hlt : m < n
    · have hmi : (m : Int) < (n : Int) := by omega
      have hml : m < L.length := by rw [HN.out]; exact hlt
      obtain ⟨b, o, rfl, _, x0, x1, x2⟩ := (HR1.out wr gr).2 m hml
      obtain ⟨b2, o2, rfl, _, y0, y1, y2⟩ := (HR2.out wr gr).2 m hml
      generalize (L.getD m (nix, nix)).1 = u at x0 y0
      generalize (L.getD m (nix, nix)).2 = v at x1 y1
      have hneq : ∀ W, (binOp .neq 39 (.agg #[.string u, .string v, .string ⟨#[]⟩]) (.agg #[.string u, .string v, .string ⟨#[]⟩])).run Tryz.prog W = .ok (.bool false) W := fun W => ent_neq W u v
      go_wp2
      refine wp_region_quiet_lit (by kernel_rfl) (by kernel_rfl) ?_
      repeat (any_goals (first | go_big_quiet_step (fail) | quiet_step (fail)))
      refine wpQuiet_nil ?_
      intro _ hw
      obtain ⟨nq, hw⟩ := hw
      subst hw
      go_wp2
      go_roundw
      case rel => exact ⟨m + 1, by go_num, hlt, belowP gr (belowN _ _)⟩
      case measure => simp [intOf]; omega
    · obtain rfl : m = n := by omega
      have hA := HAW.out wr (belowP hB3 gr)
      go_wp2_with (go_at_call 13; refine hA.mono ?_; rintro x w9 ⟨rfl, hb9⟩)
      go_ret
      exact ⟨rfl, belowP hb0 (belowP hB3 (belowP gr hb9))⟩
end Go.Proofs.YtldegjjaknelgaaGreatDoor
namespace Go.Proofs.YtldegjjaknelgaaGreatDoor
open Go Go.RowKit
theorem ownK : ownKnob Tryz.prog.godebug = none := by kernel_rfl
def laid5 : List (String × DataW Unit) := [("math/bits.deBruijn32tab", Rows.laid_math_bits_deBruijn32tab), ("math/bits.deBruijn64tab", Rows.laid_math_bits_deBruijn64tab), ("internal/strconv.uint64pow10", Rows.laid_internal_strconv_uint64pow10), ("unicode/utf8.acceptRanges", Rows.laid_unicode_utf8_acceptRanges), ("unicode/utf8.first", Rows.laid_unicode_utf8_first)]
theorem gPow : Tryz.prog.globalNamed "internal/strconv.uint64pow10" = some 2 := by kernel_rfl
theorem tPow : (Tryz.prog.globals[2]?).map (·.type) = some 207 := by kernel_rfl
theorem laid_met (os : Os) (args : Array Value) : laidMetH Tryz.prog laid5 ((World.laidAll Tryz.prog os laid5).forCall (fun _ _ => 0) ⟨#[], args, []⟩).memory := by
 rw [MakeChecks.laidMetH_plain _ _ _ (by kernel_rfl)]
 exact laidMet_laidAll _ (by kernel_rfl) (by kernel_rfl)
theorem pow_data : (Rows.laid_internal_strconv_uint64pow10 : DataW Unit) = Lib.tabData .u64 Lib.pow10Tab := by kernel_rfl
theorem first_data : (Rows.laid_unicode_utf8_first : DataW Unit) = Lib.firstData := by kernel_rfl
theorem accept_data : (Rows.laid_unicode_utf8_acceptRanges : DataW Unit) = Lib.acceptData := by kernel_rfl
theorem laid5_plain {W : World} (h : laidMetH Tryz.prog laid5 W) : laidMet Tryz.prog laid5 W := by
 rw [MakeChecks.laidMetH_plain _ _ _ (by kernel_rfl)] at h
 exact h
theorem tab_of_laid {W : World} (h : laidMetH Tryz.prog laid5 W) : Tab W.heap.size W := by
 refine Lib.tabBelow_of_tabIs ?_
 obtain ⟨g2, t2, cs2, f2, p2, hg2, ht2, hv2, hd2⟩ := Lib.laidMet.reads (laid5_plain h) (.tail _ (.tail _ (.head _)))
 obtain rfl := Option.some.inj (gPow.symm.trans hg2)
 obtain rfl := Option.some.inj (tPow.symm.trans ht2)
 rw [pow_data] at hd2
 unfold Lib.TabIs
 rw [hv2, ← Lib.cells_of_tab Tryz.underlying207 Tryz.underlying183 (by kernel_rfl) (by kernel_rfl) hd2]
theorem utab_of_laid {W : World} (h : laidMetH Tryz.prog laid5 W) : UTab W.heap.size W := by
 have hL := laid5_plain h
 have h1 := Lib.laidMet.reads hL (.tail _ (.tail _ (.tail _ (.tail _ (.head _)))))
 have h2 := Lib.laidMet.reads hL (.tail _ (.tail _ (.tail _ (.head _))))
 rw [first_data] at h1
 rw [accept_data] at h2
 have ht : Lib.Utf8Tabs (Tryz.laysValid_ren.g 3) (Tryz.laysValid_ren.g 4) W := utf8Tabs_of_readsT (U8Types.of196 Tryz.laysValid) ⟨by kernel_rfl, by kernel_rfl, by kernel_rfl, by kernel_rfl, by kernel_rfl, by kernel_rfl, by kernel_rfl⟩ h1 h2
 intro W' hb
 refine ⟨fun c hc => (hb.cell (p := ⟨_, c, none⟩) (cell_lt (ht.1 c hc))).trans (ht.1 c hc), fun i hi => ⟨(hb.cell (p := ⟨_, 2 * i, none⟩) (cell_lt (ht.2 i hi).1)).trans (ht.2 i hi).1, (hb.cell (p := ⟨_, 2 * i + 1, none⟩) (cell_lt (ht.2 i hi).2)).trans (ht.2 i hi).2⟩⟩
theorem tabs_of_laid {W : World} (h : laidMetH Tryz.prog laid5 W) : Tabs W := ⟨tab_of_laid h, utab_of_laid h⟩
end Go.Proofs.YtldegjjaknelgaaGreatDoor
namespace Go.Proofs.YtldegjjaknelgaaGreatDoor
open Go.ChangeShapes Go.WideShapes Go.ChangeAt Go.RowKit
theorem cellsEv : Tryz.prog.cellsOf 28 = 16 := by kernel_rfl
theorem cellsB : Tryz.prog.cellsOf 4 = 1 := by kernel_rfl
theorem cellsGs : Tryz.prog.cellsOf 26 = 1 := by kernel_rfl
theorem cellsG : Tryz.prog.cellsOf 54 = 2 := by kernel_rfl
section
variable {H : Type} {enc : TypeId × Value → H} {W : World}
abbrev Wt (d : DataW H) (t : TypeId) : Prop := (d.weights Tryz.prog t).all (· ≤ reachBytes) = true
theorem wt_part {ts : List TypeId} {ds : List (DataW H)} (h : (DataW.weightsEach Tryz.prog ts ds).all (· ≤ reachBytes) = true) {j : Nat} {t : TypeId} {d : DataW H} (ht : ts[j]? = some t) (hd : ds[j]? = some d) : Wt d t :=
 List.all_eq_true.2 fun n hn => List.all_eq_true.1 h n (DataW.weights_mem_each ht hd n hn)
theorem wt_all {e : TypeId} : ∀ {ds : List (DataW H)}, (DataW.weightsAll Tryz.prog e ds).all (· ≤ reachBytes) = true → ∀ d ∈ ds, Wt d e
 | [], _, d, hd => by cases hd
 | a :: r, h, d, hd => by
  simp only [DataW.weightsAll, List.all_append, Bool.and_eq_true] at h
  rcases List.mem_cons.1 hd with rfl | hd
  · exact h.1
  · exact wt_all h.2 d hd
theorem wt_str {s : ByteArray} {t : TypeId} (h : Wt (.lit (.string s.data.toList) : DataW H) t) : s.size ≤ 140737488355328 := by
 have h1 := List.all_eq_true.1 h s.data.toList.length (by simp [DataW.weights])
 have h2 : s.data.toList.length ≤ reachBytes := by simpa using h1
 have h3 := reachBytes_lt
 have h4 : s.data.toList.length = s.size := by simp
 omega
theorem viewKs {fuel : Nat} {c : Value} {y : DataW H × List MemPlace} (h : DataW.trod enc Tryz.prog W 0 (fun _ => true) true fuel 22 [c] = some y) : ∃ pk ck ks, c = .slice pk (List.length ks) ck ∧ RdK (fun b => b < W.heap.size) W pk ck ks := by
 rcases open_strings Tryz.underlying22 Tryz.underlying9 cellsS h with ⟨e3, _⟩ | ⟨a, len, cap, ss, e3, _, hlc, _, hss, _, hcell, _⟩
 · simp only [List.cons.injEq, and_true] at e3
   exact ⟨none, 0, [], e3, RdK.nil _ _⟩
 · simp only [List.cons.injEq, and_true] at e3
   simp only [if_true] at hss
   have hl : (ss.take len).length = len := by simp; omega
   refine ⟨some a, cap, ss.take len, by rw [hl]; exact e3, by rw [hl]; exact hlc, fun j hj => ⟨a, rfl, ?_, ?_⟩⟩
   · have hj' : j < len := by rw [hl] at hj; exact hj
     have := cell_lt (hcell j (by omega))
     rwa [add_block] at this
   · have hj' : j < len := by rw [hl] at hj; exact hj
     rw [hcell j (by omega)]
     congr 2
     rw [List.getD_eq_getElem?_getD, List.getD_eq_getElem?_getD, List.getElem?_take, if_pos hj', List.getElem?_eq_getElem (by omega)]
     rfl
theorem viewS {fuel : Nat} {c : Value} {y : DataW H × List MemPlace} (h : DataW.trod enc Tryz.prog W 0 (fun _ => true) true fuel 26 [c] = some y) (hw : Wt y.1 26) : ∃ p k l, c = .slice p (List.length l) k ∧ RdS (fun b => b < W.heap.size) W p k l ∧ ∀ x ∈ l, x.1.size ≤ 140737488355328 ∧ x.2.size ≤ 140737488355328 := by
 rcases DataW.trod_slice Tryz.underlying26 h with ⟨e4, _⟩ | ⟨a, len, cap, elems, rest, n', hn', e4, hy, _, hlc, _, hel, hget, _, _⟩
 · simp only [List.cons.injEq, and_true] at e4
   exact ⟨none, 0, [], e4, RdS.nil _ _ _ _, fun x hx => by cases hx⟩
 · simp only [List.cons.injEq, and_true] at e4
   rw [cellsG] at hget
   have hwe : ∀ d ∈ elems.map (·.1), Wt d 54 := by
    rw [hy] at hw
    have hw' : ((((elems.map (·.1)).length + (rest.map (·.1)).length) * Tryz.prog.bytesOf 54) :: (DataW.weightsAll Tryz.prog 54 (elems.map (·.1)) ++ DataW.weightsAll Tryz.prog 54 (rest.map (·.1)))).all (· ≤ reachBytes) = true := by
     have e : DataW.weights Tryz.prog 26 (.slice (elems.map (·.1)) (rest.map (·.1))) = (((elems.map (·.1)).length + (rest.map (·.1)).length) * Tryz.prog.bytesOf 54) :: (DataW.weightsAll Tryz.prog 54 (elems.map (·.1)) ++ DataW.weightsAll Tryz.prog 54 (rest.map (·.1))) := by
      simp only [DataW.weights, Tryz.underlying26]
     rw [← e]
     exact hw
    simp only [List.all_cons, List.all_append, Bool.and_eq_true] at hw'
    exact wt_all hw'.2.1
   cases len with
   | zero => exact ⟨some a, cap, [], e4, RdS.nil _ _ _ _, fun x hx => by cases hx⟩
   | succ len =>
    obtain ⟨b, o, sp⟩ := a
    have hone : ∀ i, i < len + 1 → ∃ u v, W.cell? ((⟨b, o, sp⟩ : Addr).add (i * 2)) = some (.string u) ∧ W.cell? (((⟨b, o, sp⟩ : Addr).add (i * 2)).add 1) = some (.string v) ∧ u.size ≤ 140737488355328 ∧ v.size ≤ 140737488355328 := fun i hi => by
     have h1 := hget i hi
     rw [List.getElem?_eq_getElem (by omega), Option.bind_eq_some_iff] at h1
     obtain ⟨cs, h2, h3⟩ := h1
     have hwi := hwe (elems[i]'(by omega)).1 (List.mem_map_of_mem (List.getElem_mem _))
     obtain ⟨xs, n, _, hx, hl, hlen, hfs⟩ := DataW.trod_struct Tryz.underlying54 h3
     rw [cellsG] at hl
     rw [hx] at hwi
     have hwi2 : (DataW.weightsEach Tryz.prog [9, 9] (xs.map (·.1))).all (· ≤ reachBytes) = true := by
      have e : DataW.weights Tryz.prog 54 (.agg (xs.map (·.1))) = DataW.weightsEach Tryz.prog [9, 9] (xs.map (·.1)) := by
       simp only [DataW.weights, Tryz.underlying54]
       rfl
      rw [← e]
      exact hwi
     obtain ⟨c0, c1, rfl⟩ : ∃ c0 c1, cs = [c0, c1] := by
      match cs, hl with
      | [c0, c1], _ => exact ⟨c0, c1, rfl⟩
     obtain ⟨y0, y1, rfl⟩ : ∃ y0 y1, xs = [y0, y1] := by
      match xs, hlen with
      | [y0, y1], _ => exact ⟨y0, y1, rfl⟩
     · · have g0 : DataW.trod enc Tryz.prog W 0 (fun _ => true) true n 9 (([c0, c1].drop 0).take (Tryz.prog.cellsOf 9)) = some y0 := hfs 0 _ rfl
         have g1 : DataW.trod enc Tryz.prog W 0 (fun _ => true) true n 9 (([c0, c1].drop 1).take (Tryz.prog.cellsOf 9)) = some y1 := hfs 1 _ rfl
         rw [cellsS] at g0 g1
         obtain ⟨u, e0, x0, _⟩ := DataW.trod_string Tryz.underlying9 (show DataW.trod enc Tryz.prog W 0 (fun _ => true) true n 9 [c0] = some y0 from g0)
         obtain ⟨v, e1, x1, _⟩ := DataW.trod_string Tryz.underlying9 (show DataW.trod enc Tryz.prog W 0 (fun _ => true) true n 9 [c1] = some y1 from g1)
         simp only [List.cons.injEq, and_true] at e0 e1
         subst e0 e1
         have h5 := (World.cells?_some h2).2.2
         have a0 := h5 0 (by decide)
         have a1 := h5 1 (by decide)
         have ez : ((⟨b, o, sp⟩ : Addr).add (i * 2)).add 0 = (⟨b, o, sp⟩ : Addr).add (i * 2) := by unfold Addr.add; simp
         rw [ez] at a0
         have z0 := wt_part hwi2 (j := 0) rfl rfl
         have z1 := wt_part hwi2 (j := 1) rfl rfl
         rw [x0] at z0
         rw [x1] at z1
         exact ⟨u, v, a0, a1, wt_str z0, wt_str z1⟩
    have hsp : sp = none := by
     obtain ⟨u, v, h1, _⟩ := hone 0 (by omega)
     have h4 : (⟨b, o, sp⟩ : Addr).add (0 * 2) = ⟨b, o, sp⟩ := by unfold Addr.add; simp
     rw [h4] at h1
     exact cell_none h1
    subst hsp
    have hadd : ∀ m, (⟨b, o, none⟩ : Addr).add m = ⟨b, o + m, none⟩ := fun m => by unfold Addr.add; split <;> simp_all
    have hadd2 : ∀ m m', ((⟨b, o + m, none⟩ : Addr)).add m' = ⟨b, o + m + m', none⟩ := fun m m' => by unfold Addr.add; split <;> simp_all
    obtain ⟨l, hl1, hl2⟩ := pick_list (z := (nix, nix)) (P := fun i (x : ByteArray × ByteArray) => W.cell? ⟨b, o + i * 2, none⟩ = some (.string x.1) ∧ W.cell? ⟨b, o + i * 2 + 1, none⟩ = some (.string x.2) ∧ x.1.size ≤ 140737488355328 ∧ x.2.size ≤ 140737488355328) (len + 1) fun i hi => by
     obtain ⟨u, v, h1, h2, h3, h4⟩ := hone i hi
     rw [hadd] at h1
     rw [hadd, hadd2] at h2
     exact ⟨(u, v), h1, h2, h3, h4⟩
    refine ⟨some ⟨b, o, none⟩, cap, l, by rw [hl1]; exact e4, ⟨by omega, fun j hj => ⟨b, o, rfl, ?_, (hl2 j (by omega)).1, (hl2 j (by omega)).2.1⟩⟩, fun x hx => ?_⟩
    · exact cell_lt (hl2 j (by omega)).1
    · obtain ⟨y, hy, rfl⟩ := List.getElem_of_mem hx
      have := hl2 y (by omega)
      rw [List.getD_eq_getElem?_getD, List.getElem?_eq_getElem hy] at this
      exact this.2.2
theorem viewE : ∀ (fuel : Nat) (cs : List Value) (x : DataW H × List MemPlace), DataW.trod enc Tryz.prog W 0 (fun _ => true) true fuel 28 cs = some x → Wt x.1 28 → ∃ e p, cs = cellsE e p ∧ IsE (fun b => b < W.heap.size) W e p ∧ BigE e := by
 intro fuel cs x h hw0
 obtain ⟨xs, fuel, _, hx, hl, hlen, hfs⟩ := DataW.trod_struct Tryz.underlying28 h
 rw [cellsEv] at hl
 have hw : (DataW.weightsEach Tryz.prog [9, 9, 9, 4, 9, 25, 22, 22, 2, 2, 9, 26] (xs.map (·.1))).all (· ≤ reachBytes) = true := by
  have e : DataW.weights Tryz.prog 28 (.agg (xs.map (·.1))) = DataW.weightsEach Tryz.prog [9, 9, 9, 4, 9, 25, 22, 22, 2, 2, 9, 26] (xs.map (·.1)) := by
   simp only [DataW.weights, Tryz.underlying28]
   rfl
  rw [← e]
  rw [hx] at hw0
  exact hw0
 clear hx hw0 h
 match cs, hl with
 | [c0, c1, c2, c3, c4, c5, c6, c7, c8, c9, c10, c11, c12, c13, c14, c15], _ =>
  match xs, hlen with
  | [y0, y1, y2, y3, y4, y5, y6, y7, y8, y9, y10, y11], _ =>
   have g0 : DataW.trod enc Tryz.prog W 0 (fun _ => true) true fuel 9 (([c0, c1, c2, c3, c4, c5, c6, c7, c8, c9, c10, c11, c12, c13, c14, c15].drop 0).take (Tryz.prog.cellsOf 9)) = some y0 := hfs 0 _ rfl
   rw [cellsS] at g0
   have f0 : DataW.trod enc Tryz.prog W 0 (fun _ => true) true fuel 9 [c0] = some y0 := g0
   have g1 : DataW.trod enc Tryz.prog W 0 (fun _ => true) true fuel 9 (([c0, c1, c2, c3, c4, c5, c6, c7, c8, c9, c10, c11, c12, c13, c14, c15].drop 1).take (Tryz.prog.cellsOf 9)) = some y1 := hfs 1 _ rfl
   rw [cellsS] at g1
   have f1 : DataW.trod enc Tryz.prog W 0 (fun _ => true) true fuel 9 [c1] = some y1 := g1
   have g2 : DataW.trod enc Tryz.prog W 0 (fun _ => true) true fuel 9 (([c0, c1, c2, c3, c4, c5, c6, c7, c8, c9, c10, c11, c12, c13, c14, c15].drop 2).take (Tryz.prog.cellsOf 9)) = some y2 := hfs 2 _ rfl
   rw [cellsS] at g2
   have f2 : DataW.trod enc Tryz.prog W 0 (fun _ => true) true fuel 9 [c2] = some y2 := g2
   have g3 : DataW.trod enc Tryz.prog W 0 (fun _ => true) true fuel 4 (([c0, c1, c2, c3, c4, c5, c6, c7, c8, c9, c10, c11, c12, c13, c14, c15].drop 3).take (Tryz.prog.cellsOf 4)) = some y3 := hfs 3 _ rfl
   rw [cellsB] at g3
   have f3 : DataW.trod enc Tryz.prog W 0 (fun _ => true) true fuel 4 [c3] = some y3 := g3
   have g4 : DataW.trod enc Tryz.prog W 0 (fun _ => true) true fuel 9 (([c0, c1, c2, c3, c4, c5, c6, c7, c8, c9, c10, c11, c12, c13, c14, c15].drop 4).take (Tryz.prog.cellsOf 9)) = some y4 := hfs 4 _ rfl
   rw [cellsS] at g4
   have f4 : DataW.trod enc Tryz.prog W 0 (fun _ => true) true fuel 9 [c4] = some y4 := g4
   have g5 : DataW.trod enc Tryz.prog W 0 (fun _ => true) true fuel 25 (([c0, c1, c2, c3, c4, c5, c6, c7, c8, c9, c10, c11, c12, c13, c14, c15].drop 5).take (Tryz.prog.cellsOf 25)) = some y5 := hfs 5 _ rfl
   rw [cellsJ] at g5
   have f5 : DataW.trod enc Tryz.prog W 0 (fun _ => true) true fuel 25 [c5, c6, c7, c8, c9] = some y5 := g5
   have g6 : DataW.trod enc Tryz.prog W 0 (fun _ => true) true fuel 22 (([c0, c1, c2, c3, c4, c5, c6, c7, c8, c9, c10, c11, c12, c13, c14, c15].drop 10).take (Tryz.prog.cellsOf 22)) = some y6 := hfs 6 _ rfl
   rw [cellsKs] at g6
   have f6 : DataW.trod enc Tryz.prog W 0 (fun _ => true) true fuel 22 [c10] = some y6 := g6
   have g7 : DataW.trod enc Tryz.prog W 0 (fun _ => true) true fuel 22 (([c0, c1, c2, c3, c4, c5, c6, c7, c8, c9, c10, c11, c12, c13, c14, c15].drop 11).take (Tryz.prog.cellsOf 22)) = some y7 := hfs 7 _ rfl
   rw [cellsKs] at g7
   have f7 : DataW.trod enc Tryz.prog W 0 (fun _ => true) true fuel 22 [c11] = some y7 := g7
   have g8 : DataW.trod enc Tryz.prog W 0 (fun _ => true) true fuel 2 (([c0, c1, c2, c3, c4, c5, c6, c7, c8, c9, c10, c11, c12, c13, c14, c15].drop 12).take (Tryz.prog.cellsOf 2)) = some y8 := hfs 8 _ rfl
   rw [cellsI2] at g8
   have f8 : DataW.trod enc Tryz.prog W 0 (fun _ => true) true fuel 2 [c12] = some y8 := g8
   have g9 : DataW.trod enc Tryz.prog W 0 (fun _ => true) true fuel 2 (([c0, c1, c2, c3, c4, c5, c6, c7, c8, c9, c10, c11, c12, c13, c14, c15].drop 13).take (Tryz.prog.cellsOf 2)) = some y9 := hfs 9 _ rfl
   rw [cellsI2] at g9
   have f9 : DataW.trod enc Tryz.prog W 0 (fun _ => true) true fuel 2 [c13] = some y9 := g9
   have g10 : DataW.trod enc Tryz.prog W 0 (fun _ => true) true fuel 9 (([c0, c1, c2, c3, c4, c5, c6, c7, c8, c9, c10, c11, c12, c13, c14, c15].drop 14).take (Tryz.prog.cellsOf 9)) = some y10 := hfs 10 _ rfl
   rw [cellsS] at g10
   have f10 : DataW.trod enc Tryz.prog W 0 (fun _ => true) true fuel 9 [c14] = some y10 := g10
   have g11 : DataW.trod enc Tryz.prog W 0 (fun _ => true) true fuel 26 (([c0, c1, c2, c3, c4, c5, c6, c7, c8, c9, c10, c11, c12, c13, c14, c15].drop 15).take (Tryz.prog.cellsOf 26)) = some y11 := hfs 11 _ rfl
   rw [cellsGs] at g11
   have f11 : DataW.trod enc Tryz.prog W 0 (fun _ => true) true fuel 26 [c15] = some y11 := g11
   obtain ⟨room, e0, x0, _⟩ := DataW.trod_string Tryz.underlying9 f0
   obtain ⟨typ, e1, x1, _⟩ := DataW.trod_string Tryz.underlying9 f1
   obtain ⟨sender, e2, x2, _⟩ := DataW.trod_string Tryz.underlying9 f2
   obtain ⟨st, e3, x3⟩ := DataW.trod_bool Tryz.underlying4 f3
   obtain ⟨key, e4, x4, _⟩ := DataW.trod_string Tryz.underlying9 f4
   obtain ⟨cont, hj⟩ := viewJ fuel _ _ f5
   obtain ⟨k, i, t, pk, nk, ck, pl, nl, cl, e5⟩ := isJ_shape hj
   rw [e5] at hj
   obtain ⟨q1, q2, q3, q4, q5, _⟩ := isJ_at hj
   obtain ⟨pprev, kprev, prev, e6, hprev⟩ := viewKs f6
   obtain ⟨pauth, kauth, auth, e7, hauth⟩ := viewKs f7
   obtain ⟨depth, e8, _, _⟩ := DataW.trod_int Tryz.underlying2 f8
   obtain ⟨ts, e9, _, _⟩ := DataW.trod_int Tryz.underlying2 f9
   obtain ⟨hash, e10, x10, _⟩ := DataW.trod_string Tryz.underlying9 f10
   obtain ⟨psigs, ksigs, sigs, e11, hsigs, hbsigs⟩ := viewS f11 (wt_part hw (j := 11) rfl rfl)
   simp only [List.cons.injEq, and_true] at e0 e1 e2 e3 e4 e5 e8 e9 e10
   obtain ⟨w0, w1, w2, w3, w4⟩ := e5
   subst e0 e1 e2 e3 e4 e6 e7 e8 e9 e10 e11 w0 w1 w2 w3 w4
   have z0 : room.size ≤ 140737488355328 := by
    have h := wt_part hw (j := 0) rfl rfl
    rw [x0] at h
    exact wt_str h
   have z1 : typ.size ≤ 140737488355328 := by
    have h := wt_part hw (j := 1) rfl rfl
    rw [x1] at h
    exact wt_str h
   have z2 : sender.size ≤ 140737488355328 := by
    have h := wt_part hw (j := 2) rfl rfl
    rw [x2] at h
    exact wt_str h
   have z4 : key.size ≤ 140737488355328 := by
    have h := wt_part hw (j := 4) rfl rfl
    rw [x4] at h
    exact wt_str h
   have z10 : hash.size ≤ 140737488355328 := by
    have h := wt_part hw (j := 10) rfl rfl
    rw [x10] at h
    exact wt_str h
   subst q4 q5
   refine ⟨⟨room, typ, sender, st, key, cont, prev, auth, depth, ts, hash, sigs⟩, ⟨pk, ck, pl, cl, pprev, kprev, pauth, kauth, psigs, ksigs⟩, ?_, ⟨?_, hprev, hauth, hsigs⟩, ⟨z0, z1, z2, z4, z10, hbsigs⟩⟩
   · unfold cellsE
     simp only [q1, q2, q3]
   · unfold five
     simp only [q1, q2, q3]
     exact hj
end
theorem viewEV {H : Type} {enc : TypeId × Value → H} {W : World} {base : Nat} {v : Value} {d : DataW H} {p0 : List MemPlace} (hval : Value.okWide Tryz.prog W .any base 28 v)
    (h0 : DataW.Trod enc Tryz.prog W 0 (fun _ => true) true 28 v d p0) (hw : Wt d 28) : ∃ e p, v = valE e p ∧ IsE (fun b => b < W.heap.size) W e p ∧ BigE e := by
 obtain ⟨cs, rfl, _⟩ := okWide_struct Tryz.underlying28 hval
 obtain ⟨fuel, hf⟩ := h0
 have hf' : DataW.trod enc Tryz.prog W 0 (fun _ => true) true fuel 28 cs.toList = some (d, p0) := by simpa [Value.cells] using hf
 obtain ⟨e, p, hcs, hI, hB⟩ := viewE fuel cs.toList _ hf' hw
 refine ⟨e, p, ?_, hI, hB⟩
 unfold valE
 rw [← hcs]
theorem laidOutE : laidOutB Tryz.prog = true := by kernel_rfl
end Go.Proofs.YtldegjjaknelgaaGreatDoor

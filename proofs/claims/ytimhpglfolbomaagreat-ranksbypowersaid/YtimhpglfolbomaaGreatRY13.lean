/-
  On which event of a type one leans; the level of its sender: by contracts.
  The line of a place, gone along by a function: by a contract.
  Maps of numbers, and where each place of a row stands: by contracts.
-/
import Derived.Test.YtimhpglfolbomaaGreatRY12
set_option maxRecDepth 100000
set_option maxHeartbeats 16000000
namespace Go.Proofs.YtimhpglfolbomaaGreat.Od
open Go.RowKit Go.Maps
structure SzEs (p : Pa) : Prop where
 ev : ∀ e ∈ p.evs, SzE e
def evT (p : Pa) (i : Nat) : Ev := p.evs.getD i Ev.zero
def leansT (p : Pa) (i : Nat) (kind : ByteArray) : Option Nat := (par (toQ p.auth) i).find? fun j => isT (evT p j) kind
theorem leans_mem {p : Pa} {i j : Nat} {kind : ByteArray} (h : leansT p i kind = some j) : j ∈ par (toQ p.auth) i := List.mem_of_find?_eq_some h
def levelT (p : Pa) (i : Nat) : Int :=
 match leansT p i tPower with
 | some j => if (parseT (ordT (evT p j).content)).2 = 0 then usr (parseT (ordT (evT p j).content)).1 (evT p i).sender else 0
 | none => match leansT p i tCreate with
  | some j => usr (startL (evT p j).sender) (evT p i).sender
  | none => 0
def leanV : Option Nat → Ending
 | some j => .returned (.tuple #[.int .i64 (j : Int), .bool true])
 | none => .returned (.tuple #[.int .i64 0, .bool false])
theorem find_none {f : Nat → Bool} {l : List Nat} {k : Nat} (h : (l.take k).find? f = none) (hk : k < l.length) (he : f (l.getD k 0) = false) : (l.take (k + 1)).find? f = none := by
 rw [take_snoc l k 0 hk, List.find?_append, h, List.find?_cons, he]
 rfl
theorem find_some {f : Nat → Bool} {l : List Nat} {k : Nat} (h : (l.take k).find? f = none) (hk : k < l.length) (he : f (l.getD k 0) = true) : l.find? f = some (l.getD k 0) := by
 have e : l = l.take k ++ l.getD k 0 :: l.drop (k + 1) := by
  conv => lhs; rw [← List.take_append_drop k l]
  rw [getD_in hk, List.drop_eq_getElem_cons hk]
 conv => lhs; rw [e, List.find?_append, h, List.find?_cons, he]
 rfl
theorem row_at {O : Nat → Prop} {w : World} {p : Pa} {a : Option Addr} {c : Nat} (h : RdR O w a c p.auth) (hr : backT p.auth p.evs.length = true) {i : Nat} (hi : i < p.evs.length) :
    ∃ ad p1 c1, a = some ad ∧ O ad.block ∧ w.cell? (ad.add i) = some (.slice p1 (par (toQ p.auth) i).length c1) ∧ RdI O w p1 c1 (zs (par (toQ p.auth) i)) ∧ (∀ x ∈ par (toQ p.auth) i, x < i) := by
 obtain ⟨hI, hQ, hA⟩ := back_of hr
 obtain ⟨ad, p1, c1, h1, h2, h3, h4⟩ := h.at i (by omega)
 rw [← par_toQ hI i] at h3 h4
 rw [zs_len] at h3
 exact ⟨ad, p1, c1, h1, h2, h3, h4, hQ i⟩
theorem row_len {p : Pa} (hz : SzPa p) (hr : backT p.auth p.evs.length = true) {i : Nat} (hi : i < p.evs.length) : (par (toQ p.auth) i).length ≤ 30 := by
 obtain ⟨hI, hQ, hA⟩ := back_of hr
 have h1 := par_toQ hI i
 have h2 : (par (toQ p.auth) i).length = (p.auth.getD i []).length := by rw [← h1, zs_len]
 rw [h2]
 exact hz.auths _ (getD_inm (by omega))
theorem leansOn_any {w : World} {p : Pa} {q : Pq} (h : IsPa (· < w.heap.size) w p q) (hz : SzPa p) (hr : backT p.auth p.evs.length = true) (i : Nat) (hi : i < p.evs.length) (kind : ByteArray) :
    Calls Tryz.prog 62 #[valPa p q, .int .i64 (i : Int), .string kind] w fun e w' => e = leanV (leansT p i kind) ∧ Below w.heap.size w w' := by
 obtain ⟨W0, hW0⟩ : ∃ W0, W0 = w.alloc (.cells (cellsPa p q).toArray 27) := ⟨_, rfl⟩
 have hb0 : Below w.heap.size w W0 := by rw [hW0]; exact (Below.refl _ _).alloc (Nat.le_refl _) _
 have V : IsVP W0 w.heap.size p q := by rw [hW0]; exact isVP_new h
 have c1 := V.c1; have c3 := V.c3
 obtain ⟨ad, p1, k1, hqa, _, hcr, hrr, hlt⟩ := row_at V.pa.auth hr hi
 have hrl := row_len hz hr hi
 have HLT : Hid (∀ x ∈ par (toQ p.auth) i, x < i) := hlt
 have HEV : Hid (∀ j, j < p.evs.length → ∃ b o q', q.e = some ⟨b, o, none⟩ ∧ W0.cell? ⟨b, o + j * 16 + 1, none⟩ = some (.string (evT p j).typ) ∧ W0.cell? ⟨b, o + j * 16 + 3, none⟩ = some (.bool (evT p j).st) ∧ W0.cell? ⟨b, o + j * 16 + 4, none⟩ = some (.string (evT p j).key) ∧ IsE (· < W0.heap.size) W0 (evT p j) q') := fun j hj => by
  obtain ⟨b, o, q', h1, _, h3, h4⟩ := V.pa.evs.2 j hj
  exact ⟨b, o, q', h1, h3 1 _ rfl, h3 3 _ rfl, h3 4 _ rfl, h4⟩
 have HF : Hid (leansT p i kind = (par (toQ p.auth) i).find? fun j => isT (evT p j) kind) := rfl
 have hel := V.pa.evs.1
 have hzl := zs_len (par (toQ p.auth) i)
 have hen := hz.evs
 rw [hqa, (back_of hr).2.2] at c3
 generalize toQ p.auth = Q at *
 generalize p.evs.length = n1 at *
 obtain ⟨m, hm⟩ : ∃ m, (par Q i).length = m := ⟨_, rfl⟩
 have HM : Hid ((par Q i).length = m) := hm
 have hcm := hrr.1
 rw [hm] at hcr hrl hzl
 rw [hzl] at hcm
 clear hm V h hz hr hlt hqa
 unfold valPa
 generalize hCP : cellsPa p q = CP at *
 clear hCP
 go_enter Tryz.func62, Tryz.ntmps62
 go_upto_region 1 with fail
 rw [← hW0]
 clear hW0
 go_wp2
 go_loopw [16] (fun v wr => ∃ k : Nat, k ≤ m ∧ v = .int .i64 k ∧ wr = W0 ∧ Hid (((par Q i).take k).find? (fun j => isT (evT p j) kind) = none)) (fun v _ => m - (intOf v).toNat)
 case atStart => exact ⟨0, Nat.zero_le _, rfl, rfl, by show _ = _; simp⟩
 case round =>
  obtain ⟨k, hk, rfl, rfl, HN⟩ := hrel
  by_cases hlt : k < m
  · have hkl : k < (par Q i).length := by rw [HM.out]; exact hlt
    obtain ⟨ad2, rfl, _, hcj⟩ := hrr.at k 0 (by rw [hzl]; exact hlt)
    rw [zs_getD] at hcj
    have hx := HLT.out _ (getD_inm (d := 0) hkl)
    have HN1 : Hid (isT (evT p ((par Q i).getD k 0)) kind = false → ((par Q i).take (k + 1)).find? (fun j => isT (evT p j) kind) = none) := fun h => find_none HN.out hkl h
    have HN2 : Hid (isT (evT p ((par Q i).getD k 0)) kind = true → (par Q i).find? (fun j => isT (evT p j) kind) = some ((par Q i).getD k 0)) := fun h => find_some HN.out hkl h
    generalize (par Q i).getD k 0 = x at *
    have hxn : x < n1 := by omega
    obtain ⟨b, o, q', hqe, e1, e3, e4, _⟩ := HEV.out x hxn
    have hI := isOf_any (w := wr) (b := b) (o := o + x * 16) (e := evT p x) kind e1 e3 e4
    rw [hqe] at c1
    clear e1 e3 e4
    cases hb : isT (evT p x) kind with
    | true =>
     rw [hb] at hI
     have HR : Hid (leansT p i kind = some x) := by show _ = _; rw [HF.out, HN2.out hb]
     clear HN1 HN2
     go_wp2_with (go_at_call 35; refine hI.mono ?_; rintro e w1 ⟨rfl, rfl⟩)
     go_ret2
     exact ⟨by rw [HR.out]; rfl, hb0⟩
    | false =>
     rw [hb] at hI
     have HN3 : Hid _ := HN1.out hb
     clear HN1 HN2
     go_wp2_with (go_at_call 35; refine hI.mono ?_; rintro e w1 ⟨rfl, rfl⟩)
     go_roundw
     case rel => exact ⟨k + 1, by omega, by go_num, by first | rfl | trivial, HN3⟩
     case measure => simp [intOf]; try omega
  · obtain rfl : k = m := by omega
    have HR : Hid (leansT p i kind = none) := by
     have := HN.out
     rw [← HM.out, List.take_length] at this
     show _ = _
     rw [HF.out, this]
    go_wp2
    go_ret2
    exact ⟨by rw [HR.out]; rfl, hb0⟩
theorem infoLv : (Tryz.prog.info? 60).map (·.size) = some 9 := by kernel_rfl
theorem szL_startK {s : ByteArray} (h : s.size ≤ 1000000000) : SzL (startL s) := ⟨⟨by simp, fun p hp => by simp at hp; subst hp; exact h⟩, ⟨by simp, fun p hp => by simp at hp⟩⟩
theorem level_any {w : World} {p : Pa} {q : Pq} (h : IsPa (· < w.heap.size) w p q) (hz : SzPa p) (hs : SzEs p) (hr : backT p.auth p.evs.length = true) (i : Nat) (hi : i < p.evs.length) :
    Calls Tryz.prog 39 #[valPa p q, .int .i64 (i : Int)] w fun e w' => e = .returned (.int .i64 (levelT p i)) ∧ Below w.heap.size w w' := by
 obtain ⟨W0, hW0⟩ : ∃ W0, W0 = w.alloc (.cells (cellsPa p q).toArray 27) := ⟨_, rfl⟩
 have hb0 : Below w.heap.size w W0 := by rw [hW0]; exact (Below.refl _ _).alloc (Nat.le_refl _) _
 have V : IsVP W0 w.heap.size p q := by rw [hW0]; exact isVP_new h
 have HV : Hid (∀ X, Below W0.heap.size W0 X → IsVP X w.heap.size p q) := fun X hX => V.below hX
 have HLD : Hid (∀ X, Below W0.heap.size W0 X → (Instr.loadAt 27 (.pointer (some ⟨w.heap.size, 0, none⟩))).run Tryz.prog X = .ok (.agg (cellsPa p q).toArray) X) := fun X hX => (V.below hX).load
 have HLN : Hid (∀ X kind, Below W0.heap.size W0 X → Calls Tryz.prog 62 #[.agg (cellsPa p q).toArray, .int .i64 (i : Int), .string kind] X fun e w' => e = leanV (leansT p i kind) ∧ Below X.heap.size X w') := fun X kind hX => leansOn_any (V.below hX).pa hz hr i hi kind
 have HIN : Hid (∀ kind j, leansT p i kind = some j → j < p.evs.length) := fun kind j hj => Nat.lt_trans ((back_of hr).2.1 i j (leans_mem hj)) hi
 have HSZ : Hid (∀ j, j < p.evs.length → SzE (evT p j)) := fun j hj => hs.ev _ (getD_inm hj)
 have HLV : Hid (levelT p i = match leansT p i tPower with
  | some j => if (parseT (ordT (evT p j).content)).2 = 0 then usr (parseT (ordT (evT p j).content)).1 (evT p i).sender else 0
  | none => match leansT p i tCreate with
   | some j => usr (startL (evT p j).sender) (evT p i).sender
   | none => 0) := rfl
 have hen := hz.evs
 obtain ⟨bi, oi, qi, hqe, _, hci, _⟩ := V.pa.evs.2 i hi
 have HCI : Hid (∀ X, Below W0.heap.size W0 X → ∀ j, j < p.evs.length → ∃ q', X.rangeAt bi (oi + j * 16) (cellsE (evT p j) q') ∧ IsE (· < X.heap.size) X (evT p j) q') := fun X hX j hj => by
  obtain ⟨b, o, q', h1, _, h3, h4⟩ := (V.below hX).pa.evs.2 j hj
  rw [hqe] at h1
  cases h1
  exact ⟨q', h3, h4⟩
 have HC1 : Hid (∀ X, Below W0.heap.size W0 X → X.cell? ⟨w.heap.size, 1, none⟩ = some (.slice (some ⟨bi, oi, none⟩) p.evs.length q.ce)) := fun X hX => by rw [← hqe]; exact (V.below hX).c1
 have d2 : W0.cell? ⟨bi, oi + i * 16 + 2, none⟩ = some (.string (evT p i).sender) := hci 2 _ rfl
 have c1 := HC1.out W0 (Below.refl _ _)
 have hel := V.pa.evs.1
 have hB0 : Below W0.heap.size W0 W0 := Below.refl _ _
 clear V h hz hs hr hci
 unfold valPa
 generalize p.evs.length = n1 at *
 generalize (evT p i).sender = snd at *
 generalize levelT p i = R at *
 generalize cellsPa p q = CP at *
 go_enter Tryz.func39, Tryz.ntmps39
 go_upto_region 1 with fail
 rw [← hW0]
 clear hW0
 have hL1 := HLN.out W0 tPower hB0
 cases hp : leansT p i tPower with
 | some j =>
  have hj := HIN.out _ _ hp
  rw [hp] at HLV hL1
  have HLV2 : Hid (R = if (parseT (ordT (evT p j).content)).2 = 0 then usr (parseT (ordT (evT p j).content)).1 snd else 0) := HLV.out
  simp only [leanV] at hL1
  clear HLV HLN HIN hp
  go_upto_region 4 with (first
   | (refine wpList_loadK rfl 27 _ rfl w.heap.size 0 rfl CP (HLD.out _ hB0) ?_)
   | (go_at_call 62; refine hL1.mono ?_; rintro e w1 ⟨rfl, hb1⟩; clear hL1))
  clear d2 c1
  have c1 := HC1.out w1 hb1
  obtain ⟨q', hcj, hEj⟩ := HCI.out w1 hb1 j hj
  have hcont := hEj.cont
  have e5 : w1.cell? ⟨bi, oi + j * 16 + 5, none⟩ = some (.int .i64 (evT p j).content.kind) := hcj 5 _ rfl
  have e6 : w1.cell? ⟨bi, oi + j * 16 + 5 + 1, none⟩ = some (.int .i64 (evT p j).content.int) := hcj 6 _ rfl
  have e7 : w1.cell? ⟨bi, oi + j * 16 + 5 + 2, none⟩ = some (.string (evT p j).content.text) := hcj 7 _ rfl
  have e8 : w1.cell? ⟨bi, oi + j * 16 + 5 + 3, none⟩ = some (.slice q'.pk (evT p j).content.keys.length q'.ck) := hcj 8 _ rfl
  have e9 : w1.cell? ⟨bi, oi + j * 16 + 5 + 4, none⟩ = some (.slice q'.pl (evT p j).content.list.length q'.cl) := hcj 9 _ rfl
  have hP := parse_any (O := (· < w1.heap.size)) (w := w1) (c := (evT p j).content) hcont (fun _ h => h) (HSZ.out j hj).cont
  have HSL : Hid (SzL (parseT (ordT (evT p j).content)).1) := parse_sz (HSZ.out j hj).cont
  have HE2 := parse_err (ordT (evT p j).content)
  clear hcj hEj hcont
  generalize parseT (ordT (evT p j).content) = PR at *
  obtain ⟨L, E⟩ := PR
  simp only at hP HSL HE2 HLV2
  generalize (evT p j).content.kind = k at *
  generalize (evT p j).content.int = ii at *
  generalize (evT p j).content.text = tt at *
  generalize (evT p j).content.keys.length = nk at *
  generalize (evT p j).content.list.length = nl at *
  go_upto_region 5 with (go_at_call 63; refine hP.mono ?_; rintro e w2 ⟨⟨⟨pu, pc, pt, pd⟩, rfl, hI2⟩, hb2⟩; simp only [valL, cellsL]; clear hP)
  obtain ⟨W2, hW2⟩ : ∃ W2, W2 = w2.alloc (.cells #[.int .i64 L.ban, .int .i64 L.kick, .int .i64 L.invite, .int .i64 L.redact, .int .i64 L.state, .int .i64 L.events, .int .i64 L.users, .slice pu L.byUser.length pc, .slice pt L.byType.length pd] 60) := ⟨_, rfl⟩
  have hbW2 : Below w2.heap.size w2 W2 := by rw [hW2]; exact (Below.refl _ _).alloc (Nat.le_refl _) _
  have hX2 : W2.heap[w2.heap.size]? = some (.cells (cellsL L ⟨pu, pc, pt, pd⟩).toArray 60 (0, 0)) := by rw [hW2]; exact heap_alloc_new _ _
  have hLL := run_loadAt_mid (P := Tryz.prog) W2 w2.heap.size 0 60 (cellsL L ⟨pu, pc, pt, pd⟩) _ (rangeK_of hX2) Tryz.underlying60 rfl infoLv
  have hU := user_lv (hI2.carry (O' := (· < W2.heap.size)) (w' := W2) fun b hb => ⟨Nat.lt_of_lt_of_le hb.2 hbW2.size, hbW2.block b hb.2⟩) (fun _ h => h) HSL.out snd
  unfold valL at hU
  rw [← hW2]
  clear hW2 e5 e6 e7 e8 e9 hI2 hX2 c1
  have hB3 : Below w.heap.size w W2 := belowP hb0 (belowP hb1 (belowP hb2 hbW2))
  rcases HE2 with rfl | rfl
  · go_wp2_with (first
      | (refine wpList_loadK rfl 60 _ rfl w2.heap.size 0 rfl (cellsL L ⟨pu, pc, pt, pd⟩) hLL ?_)
      | (go_at_call 64; refine hU.mono ?_; rintro e w3 ⟨rfl, hb3⟩))
    go_ret
    exact ⟨ret_int (by rw [HLV2.out]; rfl), belowP hB3 hb3⟩
  · go_wp2
    go_ret
    exact ⟨ret_int (by rw [HLV2.out]; rfl), hB3⟩
 | none =>
  rw [hp] at HLV hL1
  have HLV1 : Hid (R = match leansT p i tCreate with | some j => usr (startL (evT p j).sender) snd | none => 0) := HLV.out
  simp only [leanV] at hL1
  clear HLV hp
  go_upto_region 8 with (first
   | (refine wpList_loadK rfl 27 _ rfl w.heap.size 0 rfl CP (HLD.out _ hB0) ?_)
   | (go_at_call 62; refine hL1.mono ?_; rintro e w1 ⟨rfl, hb1⟩; clear hL1))
  clear d2 c1
  have c1 := HC1.out w1 hb1
  have hL2 := HLN.out w1 tCreate hb1
  cases hc : leansT p i tCreate with
  | some j =>
   have hj := HIN.out _ _ hc
   rw [hc] at HLV1 hL2
   have HLV2 : Hid (R = usr (startL (evT p j).sender) snd) := HLV1.out
   simp only [leanV] at hL2
   clear HLV1 HLN HIN hc
   go_upto_region 10 with (first
    | (refine wpList_loadK rfl 27 _ rfl w.heap.size 0 rfl CP (HLD.out _ hb1) ?_)
    | (go_at_call 62; refine hL2.mono ?_; rintro e w2 ⟨rfl, hb2⟩; clear hL2))
   clear c1
   have hB2 := belowP hb1 hb2
   have c1 := HC1.out w2 hB2
   obtain ⟨q', hcj, _⟩ := HCI.out w2 hB2 j hj
   have e2 : w2.cell? ⟨bi, oi + j * 16 + 2, none⟩ = some (.string (evT p j).sender) := hcj 2 _ rfl
   clear hcj
   have HSS : Hid (SzL (startL (evT p j).sender)) := szL_startK (HSZ.out j hj).sender
   generalize (evT p j).sender = sj at *
   have hSt := start_lv (w := w2) sj
   have HUS : Hid (∀ X pl, IsL (fun b => w2.heap.size ≤ b ∧ b < X.heap.size) X (startL sj) pl → Calls Tryz.prog 64 #[valL (startL sj) pl, .string snd] X fun e w' => e = .returned (.int .i64 (usr (startL sj) snd)) ∧ Below X.heap.size X w') := fun X pl hI => user_lv hI (fun _ h => h.2) HSS.out snd
   generalize startL sj = SL at *
   go_wp2_with (first
    | (go_at_call 65; refine hSt.mono ?_; rintro e w3 ⟨⟨pl, rfl, hI3⟩, hb3⟩; have hU := HUS.out w3 pl hI3; clear hSt)
    | (go_at_call 64; refine hU.mono ?_; rintro e w4 ⟨rfl, hb4⟩))
   go_ret
   exact ⟨ret_int HLV2.out.symm, belowP hb0 (belowP hB2 (belowP hb3 hb4))⟩
  | none =>
   rw [hc] at HLV1 hL2
   have HLV2 : Hid (R = 0) := HLV1.out
   simp only [leanV] at hL2
   clear HLV1 HLN HIN hc
   go_wp2_with (first
    | (refine wpList_loadK rfl 27 _ rfl w.heap.size 0 rfl CP (HLD.out _ hb1) ?_)
    | (go_at_call 62; refine hL2.mono ?_; rintro e w2 ⟨rfl, hb2⟩; clear hL2))
   go_ret
   exact ⟨ret_int HLV2.out.symm, belowP hb0 (belowP hb1 hb2)⟩
end Go.Proofs.YtimhpglfolbomaaGreat.Od
namespace Go.Proofs.YtimhpglfolbomaaGreat.Od
open Go.RowKit Go.Maps Go.Shelf
section
attribute [local go_sem] Oper.semAt_some
def lineF (p : Pa) : Nat → Nat → List Nat
 | 0, i => [i]
 | f + 1, i => i :: match leansT p i tPower with | some j => lineF p f j | none => []
def lineT (p : Pa) (i : Nat) : List Nat := lineF p i i
theorem leans_lt {p : Pa} {i j : Nat} {kind : ByteArray} (hr : backT p.auth p.evs.length = true) (h : leansT p i kind = some j) : j < i := (back_of hr).2.1 i j (leans_mem h)
theorem lineF_more {p : Pa} (hr : backT p.auth p.evs.length = true) : ∀ (f i : Nat), i ≤ f → lineF p f i = lineF p i i
 | 0, i, h => by rw [show i = 0 by omega]
 | f + 1, i, h => by
  cases i with
  | zero =>
   unfold lineF
   cases hj : leansT p 0 tPower with
   | none => rfl
   | some j => exact absurd (leans_lt hr hj) (by omega)
  | succ i =>
   unfold lineF
   cases hj : leansT p (i + 1) tPower with
   | none => rfl
   | some j =>
    have := leans_lt hr hj
    show (i + 1) :: lineF p f j = (i + 1) :: lineF p i j
    rw [lineF_more hr f j (by omega), lineF_more hr i j (by omega)]
theorem lineT_eq {p : Pa} (hr : backT p.auth p.evs.length = true) (i : Nat) : lineT p i = i :: match leansT p i tPower with | some j => lineT p j | none => [] := by
 unfold lineT
 cases i with
 | zero =>
  unfold lineF
  cases hj : leansT p 0 tPower with
  | none => rfl
  | some j => exact absurd (leans_lt hr hj) (by omega)
 | succ i =>
  conv => lhs; unfold lineF
  cases hj : leansT p (i + 1) tPower with
  | none => rfl
  | some j =>
   have := leans_lt hr hj
   show (i + 1) :: lineF p i j = (i + 1) :: lineF p j j
   rw [lineF_more hr i j (by omega)]
theorem lineT_len {p : Pa} (hr : backT p.auth p.evs.length = true) : ∀ i, (lineT p i).length ≤ i + 1
 | i => by
  rw [lineT_eq hr]
  cases hj : leansT p i tPower with
  | none => simp
  | some j =>
   have h1 := leans_lt hr hj
   have := lineT_len hr j
   simp
   omega
def leftV (a b : Value) : Nat := match b with | .bool true => (intOf a).toNat + 1 | _ => 0
def wayT (p : Pa) (i : Int) : List Nat := if 0 ≤ i ∧ i < (p.evs.length : Int) then lineT p i.toNat else []
structure LayP (P : Nat → Prop) (W W' : World) : Prop where
 size : W.heap.size ≤ W'.heap.size
 same : ∀ k, P k → W'.heap[k]? = W.heap[k]?
theorem LayP.refl (P : Nat → Prop) (W : World) : LayP P W W := ⟨Nat.le_refl _, fun _ _ => rfl⟩
theorem LayP.trans {P : Nat → Prop} {A B C : World} (h : LayP P A B) (k : LayP P B C) : LayP P A C := ⟨Nat.le_trans h.size k.size, fun i hi => (k.same i hi).trans (h.same i hi)⟩
theorem LayP.putObj {P : Nat → Prop} {n : Nat} (hP : ∀ k, P k → k < n) (W : World) (l : Nat) (o' : Obj) (hl : n ≤ l) : LayP P W (W.putObj l o') := by
 refine ⟨by unfold World.putObj; simp, fun k hk => ?_⟩
 have := hP k hk
 unfold World.putObj
 simp only [Array.getElem?_setIfInBounds]
 rw [if_neg (by omega)]
theorem LayP.of_below {P : Nat → Prop} {W W' : World} (hP : ∀ k, P k → k < W.heap.size) (h : Below W.heap.size W W') : LayP P W W' := ⟨h.size, fun k hk => h.block k (hP k hk)⟩
theorem LayP.pa {P : Nat → Prop} {W W' : World} {p : Pa} {q : Pq} (h : LayP P W W') (hp : IsPa P W p q) : IsPa P W' p q := hp.carry fun k hk => ⟨hk, h.same k hk⟩
theorem way_fn {w : World} {CP : List Value} (i : Int) :
    Calls Tryz.prog 53 #[.agg CP.toArray, .int .i64 i] w fun e w' => e = .returned (.func (.func 87) #[] #[.pointer (some ⟨w.heap.size + 1, 0, none⟩), .pointer (some ⟨w.heap.size, 0, none⟩)]) ∧ w' = (w.alloc (.cells CP.toArray 27)).alloc (.cells #[.int .i64 i] 3) := by
 go_enter Tryz.func53, Tryz.ntmps53
 go_wp2
 go_ret
 exact ⟨rfl, rfl⟩
theorem way_in (n l B1 B2 : Nat) (hn : 1 ≤ n) {P : Nat → Prop} {p : Pa} {q : Pq} (i : Int) (J Jx : List Nat → World → Prop) (W : World) (hJ : AbidesFrom W.heap.size J)
    (hp : IsPa P W p q) (hP : ∀ k, P k → k < W.heap.size) (hz : SzPa p) (hr : backT p.auth p.evs.length = true) (h1 : W.cell? ⟨B1, 0, none⟩ = some (.int .i64 i)) (h2 : W.heap[B2]? = some (.cells (cellsPa p q).toArray 27 (0, 0))) (hB1 : P B1) (hB2 : P B2)
    (hY : ∀ pre (x : Nat) W1, J pre W1 → pre.length < 40 → YieldAt Fence.wide (n - 1) Tryz.prog l #[.int .i64 ((x % 64 : Nat) : Int)] W1 fun e W' => (e = .returned (.bool true) ∧ J (pre ++ [x]) W' ∧ LayP P W1 W') ∨ (e = .returned (.bool false) ∧ Jx (pre ++ [x]) W'))
    (h0 : J [] W) :
    CallsIn Fence.wide n Tryz.prog 87 #[.func (.yield l) #[] #[], .pointer (some ⟨B1, 0, none⟩), .pointer (some ⟨B2, 0, none⟩)] W fun e W' => (∃ v, e = .returned v) ∧ ((∃ xs, xs = wayT p i ∧ J xs W') ∨ (∃ pre, pre <+: wayT p i ∧ Jx pre W')) := by
 refine callsIn_wide.2 ?_
 have HPX : Hid (∀ X, LayP P W X → IsPa (· < X.heap.size) X p q) := fun X hX => (hX.pa hp).carry fun k hk => ⟨Nat.lt_of_lt_of_le (hP k hk) hX.size, rfl⟩
 have HLD : Hid (∀ X, LayP P W X → (Instr.loadAt 27 (.pointer (some ⟨B2, 0, none⟩))).run Tryz.prog X = .ok (.agg (cellsPa p q).toArray) X) := fun X hX => run_loadAt_mid X B2 0 27 (cellsPa p q) _ (rangeK_of ((hX.same B2 hB2).trans h2)) Tryz.underlying27 rfl infoPa
 have HC1 : Hid (∀ X, LayP P W X → X.cell? ⟨B1, 0, none⟩ = some (.int .i64 i)) := fun X hX => (World.cell?_of_block (a := ⟨B1, 0, none⟩) (hX.same B1 hB1)).trans h1
 have HHA : Hid (∀ X, LayP P W X → Calls Tryz.prog 38 #[.agg (cellsPa p q).toArray, .int .i64 i] X fun e w' => e = .returned (.bool (decide (0 ≤ i ∧ i < (p.evs.length : Int)))) ∧ Below X.heap.size X w') := fun X hX => has_any (HPX.out X hX) i
 have HLN : Hid (∀ X (x : Nat), LayP P W X → x < p.evs.length → Calls Tryz.prog 62 #[.agg (cellsPa p q).toArray, .int .i64 (x : Int), .string tPower] X fun e w' => e = leanV (leansT p x tPower) ∧ Below X.heap.size X w') := fun X x hX hx => leansOn_any (HPX.out X hX) hz hr x hx tPower
 have HBL : Hid (∀ X Y, LayP P W X → Below X.heap.size X Y → LayP P W Y) := fun X Y hX hY => hX.trans (LayP.of_below (fun k hk => Nat.lt_of_lt_of_le (hP k hk) hX.size) hY)
 have HLT : Hid (∀ x, lineT p x = x :: match leansT p x tPower with | some j => lineT p j | none => []) := lineT_eq hr
 have HLE : Hid (∀ x, (lineT p x).length ≤ x + 1) := lineT_len hr
 have HLS : Hid (∀ x j, leansT p x tPower = some j → j < x) := fun x j h => leans_lt hr h
 have HJ0 : Hid (J [] W) := h0
 have HJ : Hid (AbidesFrom W.heap.size J) := hJ
 have HY : Hid (∀ pre (x : Nat) W1, J pre W1 → pre.length < 40 → YieldAt Fence.wide (n - 1) Tryz.prog l #[.int .i64 ((x % 64 : Nat) : Int)] W1 fun e W' => (e = .returned (.bool true) ∧ J (pre ++ [x]) W' ∧ LayP P W1 W') ∨ (e = .returned (.bool false) ∧ Jx (pre ++ [x]) W')) := hY
 have hen := hz.evs
 clear hJ hp hz hr h1 h2 hY h0
 have HWT : Hid (wayT p i = if 0 ≤ i ∧ i < (p.evs.length : Int) then lineT p i.toNat else []) := rfl
 generalize p.evs.length = n1 at *
 generalize cellsPa p q = CP at *
 go_enter Tryz.func87, Tryz.ntmps87
 go_upto_region 0 with fail
 refine wp_region_in (by kernel_rfl) (fun w' => Below W.heap.size W w') ?_
 change wpIn _ _ _ _ _ _ _ _ (World.drew _)
 have hD : Below W.heap.size W W.drew := (Below.refl _ _).drew
 have HBD : Hid (∀ X, Below W.heap.size W X → LayP P W X) := fun X hX => HBL.out W X (LayP.refl _ _) hX
 refine wpIn_take (i := 0) (d := (some 6)) (v := .int .i64 i) (a' := ?aw0) rfl rfl (by kernel_rfl) (by kernel_rfl) (by kernel_rfl) (fun _ _ _ h => h) (Or.inl ⟨by rfl, ?yw0⟩) ?fw0 ?_
 case yw0 => (intro wq hq; have z1 := HC1.out wq (HBD.out wq hq); go_simp; first | done | with_reducible rfl)
 case fw0 => (go_frame; rfl)
 refine wpIn_take (i := 1) (d := (some 7)) (v := .agg CP.toArray) (a' := ?aw1) rfl rfl (by kernel_rfl) (by kernel_rfl) (by kernel_rfl) (fun _ _ _ h => h) (Or.inl ⟨by rfl, ?yw1⟩) ?fw1 ?_
 case yw1 => exact fun wq hq => exec_loadR rfl rfl (HLD.out wq (HBD.out wq hq))
 case fw1 => (go_frame; rfl)
 refine wpIn_take (i := 2) (d := (some 8)) (v := .int .i64 i) (a' := ?aw2) rfl rfl (by kernel_rfl) (by kernel_rfl) (by kernel_rfl) (fun _ _ _ h => h) (Or.inl ⟨by rfl, ?yw2⟩) ?fw2 ?_
 case yw2 => (intro wq hq; have z1 := HC1.out wq (HBD.out wq hq); go_simp; first | done | with_reducible rfl)
 case fw2 => (go_frame; rfl)
 refine wpIn_do (i := 3) hD (by kernel_rfl) rfl (by rfl) ?_
 intro K hK
 go_simp
 go_wp2_with (go_at_call 38; refine (HHA.out _ (HBD.out _ hD)).mono ?_; rintro e w1 ⟨rfl, hb1⟩)
 have hD1 : Below W.heap.size W w1 := belowP hD hb1
 refine wpIn_tk (i := 4) (d := some 4) rfl ?_
 refine wpIn_tk (i := 5) (d := some 5) rfl ?_
 refine wpIn_done hD1 (by kernel_rfl) ?_ _
 have HD1 : Hid (LayP P W w1) := HBD.out w1 hD1
 have hJ1 : J [] w1 := HJ.out [] W w1 none HJ0.out (below_grown hD1) (fun r e => by cases e)
 have HJ1 : Hid (J [] w1) := hJ1
 clear hJ1 hb1 hD hD1
 by_cases hin : 0 ≤ i ∧ i < (n1 : Int)
 · obtain ⟨x0, rfl⟩ := Int.eq_ofNat_of_zero_le hin.1
   have hx0 : x0 < n1 := by omega
   have HW2 : Hid (wayT p (x0 : Int) = lineT p x0) := by show _ = _; rw [HWT.out, if_pos hin]; simp
   have d1 : decide ((0 : Int) ≤ (x0 : Int)) = true := decide_eq_true hin.1
   have d2 : decide ((x0 : Int) < (n1 : Int)) = true := decide_eq_true hin.2
   have d3 : (decide ((0 : Int) ≤ (x0 : Int)) && decide ((x0 : Int) < (n1 : Int))) = true := by rw [d1, d2]; rfl
   have d4 : decide (x0 < n1) = true := decide_eq_true hx0
   rw [d3]
   clear d1 d2 d3 d4
   go_wp2
   go_loopw [4, 5] (fun a b wr => (∃ (pre : List Nat) (x : Nat), a = .int .i64 (x : Int) ∧ b = .bool true ∧ x < n1 ∧ pre.length + x ≤ x0 ∧ Hid (lineT p x0 = pre ++ lineT p x) ∧ Hid (J pre wr) ∧ Hid (LayP P W wr)) ∨ (b = .bool false ∧ Hid (J (lineT p x0) wr) ∧ Hid (LayP P W wr))) (fun a b _ => leftV a b)
   case atStart => exact .inl ⟨[], x0, rfl, rfl, hx0, by simp, rfl, HJ1, HD1⟩
   case round =>
    rcases hrel with ⟨pre, x, rfl, rfl, hx, hpl, HLP, HJJ, HLY⟩ | ⟨rfl, HJJ, HLY⟩
    · have hYY : YieldAt Fence.wide (n - 1) Tryz.prog l #[.int .i64 (x : Int)] wr fun e W' => (e = .returned (.bool true) ∧ J (pre ++ [x]) W' ∧ LayP P wr W') ∨ (e = .returned (.bool false) ∧ Jx (pre ++ [x]) W') := by
        have h := HY.out pre x wr HJJ.out (by omega)
        rw [Nat.mod_eq_of_lt (show x < 64 by omega)] at h
        exact h
      obtain ⟨fn, tm, asg, bod, hy, hR⟩ := hYY
      refine (wpIn_wide (n := n)).1 ?_
      gi_wp2
      refine hR.mono ?_
      rintro e W6 (⟨rfl, hJ6, hk6⟩ | ⟨rfl, hJx6⟩)
      · have hL6 : LayP P W W6 := HLY.out.trans hk6
        have HL6 : Hid (LayP P W W6) := hL6
        have HJ6 : Hid (J (pre ++ [x]) W6) := hJ6
        have hln := HLN.out W6 x hL6 hx
        clear hL6 hk6 hJ6
        cases hlx : leansT p x tPower with
        | some j =>
         rw [hlx] at hln
         have hjx := HLS.out x j hlx
         have HP2 : Hid (lineT p x0 = (pre ++ [x]) ++ lineT p j) := by show _ = _; rw [HLP.out, HLT.out x, hlx]; simp
         simp only [leanV] at hln
         clear hlx
         gi_upto_region 2 with fail
         refine wpIn_wide.2 ?_
         go_wp2_with (first
          | (refine wpList_loadK rfl 27 _ rfl B2 0 rfl CP (HLD.out _ HL6.out) ?_)
          | (go_at_call 62; refine hln.mono ?_; rintro e W7 ⟨rfl, hb7⟩))
         have hJ7 := HJ.out (pre ++ [x]) W6 W7 none HJ6.out (below_grown hb7) (fun r e => by cases e)
         go_roundw
         case rel => exact .inl ⟨pre ++ [x], j, rfl, rfl, by omega, by simp; omega, HP2, hJ7, HBL.out _ _ HL6.out hb7⟩
         case measure => simp [leftV, intOf]; try omega
        | none =>
         rw [hlx] at hln
         have HP2 : Hid (lineT p x0 = pre ++ [x]) := by show _ = _; rw [HLP.out, HLT.out x, hlx]
         simp only [leanV] at hln
         clear hlx
         gi_upto_region 2 with fail
         refine wpIn_wide.2 ?_
         go_wp2_with (first
          | (refine wpList_loadK rfl 27 _ rfl B2 0 rfl CP (HLD.out _ HL6.out) ?_)
          | (go_at_call 62; refine hln.mono ?_; rintro e W7 ⟨rfl, hb7⟩))
         have hJ7 := HJ.out (pre ++ [x]) W6 W7 none HJ6.out (below_grown hb7) (fun r e => by cases e)
         go_roundw
         case rel => exact .inr ⟨rfl, by rw [HP2.out]; exact hJ7, HBL.out _ _ HL6.out hb7⟩
         case measure => simp [leftV, intOf]; try omega
      · have HPR : Hid (pre ++ [x] <+: lineT p x0) := by
          show _ <+: _
          rw [HLP.out, HLT.out x]
          exact ⟨_, by rw [List.append_assoc]; rfl⟩
        have HJX : Hid (Jx (pre ++ [x]) W6) := hJx6
        clear hJx6
        gi_wp2
        go_end0
        exact ⟨⟨_, rfl⟩, .inr ⟨_, by rw [HW2.out]; exact HPR.out, HJX.out⟩⟩
    · clear HLN
      go_wp2
      go_end0
      exact ⟨⟨_, rfl⟩, .inl ⟨_, rfl, by rw [HW2.out]; exact HJJ.out⟩⟩
 · have HW2 : Hid (wayT p i = []) := by show _ = _; rw [HWT.out, if_neg hin]
   have d3 : (decide (0 ≤ i) && decide (i < (n1 : Int))) = false := by
    rw [← Bool.decide_and]
    exact decide_eq_false hin
   rw [d3]
   clear d3
   go_wp2
   refine wp_loop_rounds 1 ?_
   rw [rounds_succ]
   go_wp2
   go_end0
   exact ⟨⟨_, rfl⟩, .inl ⟨_, rfl, by rw [HW2.out]; exact HJ1.out⟩⟩
theorem way_seq (n B1 B2 : Nat) (hn : 1 ≤ n) {P : Nat → Prop} {p : Pa} {q : Pq} (i : Int) {w : World} (hp : IsPa P w p q) (hP : ∀ k, P k → k < w.heap.size) (hz : SzPa p) (hr : backT p.auth p.evs.length = true) (h1 : w.cell? ⟨B1, 0, none⟩ = some (.int .i64 i)) (h2 : w.heap[B2]? = some (.cells (cellsPa p q).toArray 27 (0, 0))) (hB1 : P B1) (hB2 : P B2) :
    SeqStopsK Fence.wide n Tryz.prog 87 #[.pointer (some ⟨B1, 0, none⟩), .pointer (some ⟨B2, 0, none⟩)] (fun x : Nat => #[.int .i64 ((x % 64 : Nat) : Int)]) (LayP P) (fun ys => ys = wayT p i) (fun pre => pre <+: wayT p i) 40 w := fun l J Jx W hW hJ _ hY h0 =>
 way_in n l B1 B2 hn i J Jx W hJ (hp.carry fun k hk => ⟨hk, hW.block k (hP k hk)⟩) (fun k hk => Nat.lt_of_lt_of_le (hP k hk) hW.size) hz hr ((World.cell?_of_block (a := ⟨B1, 0, none⟩) (hW.block B1 (hP B1 hB1))).trans h1) ((hW.block B2 (hP B2 hB2)).trans h2) hB1 hB2 hY h0
end
end Go.Proofs.YtimhpglfolbomaaGreat.Od
namespace Go.Proofs.YtimhpglfolbomaaGreat.Od
open Go.RowKit Go.Maps
theorem run_makeMap_room {t k e : TypeId} (ht : Tryz.prog.underlying t = some (.map k e)) (n : Int) (w : World) : (Instr.makeMap t (some (.int .i64 n))).run Tryz.prog w = .ok (.map (some w.heap.size)) (w.alloc (.map #[] 0)) := by
 simp [Instr.makeMap, run_underlying ht, asInt, asIntOf, Result.andThen]
def unM (_e : TypeId) (q : IntKind) (f : Int → Option Int) (D : DataW Unit) : Prop :=
 Tidy D ∧ (∀ x, wf64 x → Maps.has D (klI x) = (f x).isSome) ∧ ∀ x c, wf64 x → f x = some c → ∀ z, D.atKey (klI x) z = .lit (.int q c)
theorem unM_empty (e : TypeId) (q : IntKind) : unM e q (fun _ => none) (.map []) := ⟨tidy_empty, fun x _ => by simp [has_eq], fun x c _ h => by cases h⟩
theorem wf_nat {n : Nat} (h : n ≤ 1000000) : wf64 (n : Int) := by unfold wf64; omega
def more (f : Int → Option Int) (x c : Int) : Int → Option Int := fun y => if y = x then some c else f y
theorem unM_put {e : TypeId} {q : IntKind} {f : Int → Option Int} {D : DataW Unit} (h : unM e q f D) (x c : Int) : unM e q (more f x c) (D.put (klI x) (.lit (.int q c))) := by
 obtain ⟨h1, h2, h3⟩ := h
 refine ⟨h1.put (klI_key _) _, fun y hy => ?_, fun y d hy hd z => ?_⟩
 · unfold more
   by_cases e : y = x
   · rw [e, has_put_same h1.isMap (klI_key _), if_pos rfl]; rfl
   · rw [has_put_other (fun h' => e (klI_inj h')), h2 y hy, if_neg e]
 · unfold more at hd
   by_cases e : y = x
   · rw [if_pos e] at hd
     cases hd
     rw [e, atKey_put_same h1.isMap (klI_key _)]
   · rw [if_neg e] at hd
     rw [atKey_put_other (fun h' => e (klI_inj h')), h3 y d hy hd]
theorem unM_look {e : TypeId} {q : IntKind} {f : Int → Option Int} {D : DataW Unit} (h : unM e q f D) {x c : Int} (hx : wf64 x) (hc : D.atKey (klI x) (.lit (.int q 0)) = .lit (.int q c)) : c = (f x).getD 0 ∧ Maps.has D (klI x) = (f x).isSome := by
 refine ⟨?_, h.2.1 x hx⟩
 cases hf : f x with
 | none =>
  have hh := h.2.1 x hx
  rw [hf] at hh
  rw [atKey_of_not_has hh] at hc
  simp only [DataW.lit.injEq, Lit.int.injEq, true_and] at hc
  exact hc.symm
 | some d =>
  rw [h.2.2 x d hx hf] at hc
  simp only [DataW.lit.injEq, Lit.int.injEq, true_and] at hc
  exact hc.symm
def MapI (w : World) (b N : Nat) (f : Int → Option Int) : Prop := ∃ D : DataW Unit, w.ownsMap Tryz.prog 3 (plainElem Tryz.prog 3) b N D ∧ unM 3 .i64 f D
theorem mapI_made (w : World) : MapI (w.alloc (.map #[] 0)) w.heap.size 0 (fun _ => none) := ⟨.map [], World.ownsMap_made _ _ _ _, unM_empty 3 .i64⟩
theorem MapI.same {w w' : World} {b N : Nat} {f : Int → Option Int} (h : MapI w b N f) (hs : w'.heap[b]? = w.heap[b]?) : MapI w' b N f := by
 obtain ⟨D, ⟨es, clock, hb, r⟩, hn⟩ := h
 exact ⟨D, ⟨es, clock, by rw [hs]; exact hb, r⟩, hn⟩
theorem MapI.lt {w : World} {b N : Nat} {f : Int → Option Int} (h : MapI w b N f) : b < w.heap.size := by
 obtain ⟨D, h1, _⟩ := h
 exact h1.lt
theorem zero3 (w : World) : (zeroValue 3).run Tryz.prog w = .ok (.int .i64 0) w := by kernel_rfl
section
variable {w : World} {ops : Array Oper} {rest : List Oper} {o : Oper} {a : Act} {Q : Exit → Act → World → Prop}
theorem wpList_lookupI (hg : o.guard = none) (m x : Operand) (hop : o.op = Op.lookup 66 m x true) (b N : Nat) (f : Int → Option Int) (hm : a.eval m = .map (some b)) (h : MapI w b N f) (z : Int) (hz : wf64 z) (hx : a.eval x = .int .i64 z)
    (hK : wpList Tryz.prog ops Q rest (a.put o.dst (.tuple #[.int .i64 ((f z).getD 0), .bool (f z).isSome])) w) : wpList Tryz.prog ops Q (o :: rest) a w := by
 obtain ⟨D, h1, h2⟩ := h
 refine wpList_lookup_own_ok_int w hg m x 66 hop 3 3 .i64 lawI Tryz.underlying66 Tryz.underlying3 (zero3 _) b N D hm h1 _ _ hx (keyI hz) ?_
 intro c hat _
 obtain ⟨e1, e2⟩ := unM_look h2 hz hat
 rw [e1, e2]
 exact hK
theorem wpList_updateI (hg : o.guard = none) (m x v : Operand) (hop : o.op = Op.mapUpdate 66 m x v) (b N : Nat) (f : Int → Option Int) (hm : a.eval m = .map (some b)) (h : MapI w b N f) (hN : N < 1000000) (z c : Int) (hz : wf64 z) (hc : wf64 c) (hx : a.eval x = .int .i64 z) (hv : a.eval v = .int .i64 c)
    (hK : ∀ w', MapI w' b (N + 1) (more f z c) → w.grownBy w' (some b) → wpList Tryz.prog ops Q rest (a.put o.dst undef) w') : wpList Tryz.prog ops Q (o :: rest) a w := by
 obtain ⟨D, h1, h2⟩ := h
 refine wpList_mapUpdate_own w hg m x v 66 hop 3 3 lawI Tryz.underlying66 (plainElem Tryz.prog 3) b N D hm h1 (by unfold maxLen; omega) _ _ (klI z) hx hv (keyI hz) _ [] (plainElem_int Tryz.underlying3 (wf_lit hc)) ?_
 intro w' ho hg'
 exact hK w' ⟨_, ho, unM_put h2 z c⟩ hg'
end
def posI (l : List Int) (x : Int) : Option Int := if x ∈ l then some (l.idxOf x : Int) else none
theorem posI_nil : posI [] = fun _ => none := by funext x; unfold posI; simp
theorem posI_snoc (l : List Int) (x : Int) : posI (l ++ [x]) = if x ∈ l then posI l else more (posI l) x l.length := by
 funext y
 by_cases hx : x ∈ l
 · rw [if_pos hx]
   unfold posI
   by_cases hy : y ∈ l
   · rw [if_pos (List.mem_append_left _ hy), if_pos hy, List.idxOf_append, if_pos hy]
   · rw [if_neg hy, if_neg]
     intro h
     rcases List.mem_append.1 h with h | h
     · exact hy h
     · rw [List.mem_singleton.1 h] at hy; exact hy hx
 · rw [if_neg hx]
   unfold more
   by_cases e : y = x
   · subst e
     rw [if_pos rfl]
     unfold posI
     rw [if_pos (by simp), List.idxOf_append, if_neg hx]
     simp
   · rw [if_neg e]
     unfold posI
     by_cases hy : y ∈ l
     · rw [if_pos (List.mem_append_left _ hy), if_pos hy, List.idxOf_append, if_pos hy]
     · rw [if_neg hy, if_neg]
       intro h
       rcases List.mem_append.1 h with h | h
       · exact hy h
       · exact e (List.mem_singleton.1 h)
theorem posI_some {l : List Int} {x : Int} : (posI l x).isSome = decide (x ∈ l) := by
 unfold posI
 by_cases h : x ∈ l <;> simp [h]
def StandsP (l : List Int) (w : World) (e : Ending) (w' : World) : Prop := ∃ b N, e = .returned (.map (some b)) ∧ w.heap.size ≤ b ∧ N ≤ 1000 ∧ MapI w' b N (posI l) ∧ Below w.heap.size w w'
theorem stands_any {O : Nat → Prop} {w : World} {l : List Int} {p : Option Addr} {c : Nat} (hr : RdI O w p c l) (hO : ∀ k, O k → k < w.heap.size) (hl : l.length ≤ 1000) (hw : ∀ x ∈ l, wf64 x) :
    Calls Tryz.prog 44 #[.slice p l.length c] w (StandsP l w) := by
 have hmm := run_makeMap_room Tryz.underlying66
 have HW : Hid (∀ x ∈ l, wf64 x) := hw
 have HR : Hid (∀ X, Below w.heap.size w X → RdI O X p c l) := fun X hX => hr.same (Same.of_below hX hO)
 obtain ⟨n, hn⟩ : ∃ n, l.length = n := ⟨_, rfl⟩
 have HN : Hid (l.length = n) := hn
 have HM0 := mapI_made w
 have hb0 : Below w.heap.size w (w.alloc (.map #[] 0)) := (Below.refl _ _).alloc (Nat.le_refl _) _
 rw [hn] at hl ⊢
 clear hn hr hw
 obtain ⟨B, hB⟩ : ∃ B, w.heap.size = B := ⟨_, rfl⟩
 have HB : Hid (w.heap.size = B) := hB
 rw [hB] at HR HM0 hb0
 have HM : Hid (MapI (w.alloc (.map #[] 0)) B 0 (posI [])) := by rw [posI_nil]; exact HM0
 have HB0 : Hid (Below B w (w.alloc (.map #[] 0))) := hb0
 clear HM0 hb0
 go_enter Tryz.func44, Tryz.ntmps44
 go_wp2
 clear hmm hB
 go_loopw [13] (fun i wr => ∃ (k N : Nat), k ≤ n ∧ i = .int .i64 k ∧ N ≤ k ∧ MapI wr B N (posI (l.take k)) ∧ Below B w wr) (fun i _ => n - (intOf i).toNat)
 case atStart => exact ⟨0, 0, Nat.zero_le _, rfl, Nat.le_refl _, HM.out, HB0.out⟩
 case round =>
  clear HM HB0
  obtain ⟨k, N, hk, rfl, hN, hM, hb⟩ := hrel
  by_cases hlt : k < n
  · have hkl : k < l.length := by rw [HN.out]; exact hlt
    obtain ⟨ad, rfl, _, hc⟩ := (HR.out wr hb).at k 0 hkl
    have hwx := HW.out _ (getD_inm (d := 0) hkl)
    have HT : Hid (posI (l.take (k + 1)) = if l.getD k 0 ∈ l.take k then posI (l.take k) else more (posI (l.take k)) (l.getD k 0) k) := by
     have h1 := posI_snoc (l.take k) (l.getD k 0)
     rw [← take_snoc l k 0 hkl, List.length_take, Nat.min_eq_left (by omega)] at h1
     exact h1
    generalize l.getD k 0 = x at *
    have hps := posI_some (l := l.take k) (x := x)
    by_cases hm : x ∈ l.take k
    · have HT2 : Hid (posI (l.take (k + 1)) = posI (l.take k)) := by show _ = _; rw [HT.out, if_pos hm]
      rw [decide_eq_true hm] at hps
      clear HT hm
      go_wp2_with (first
       | (at_lookup; refine wpList_lookupI rfl _ _ rfl B N _ rfl hM x hwx rfl ?_; rw [hps]))
      go_roundw
      case rel => exact ⟨k + 1, N, by omega, by go_num, by omega, by rw [HT2.out]; exact hM, hb⟩
      case measure => simp [intOf]; omega
    · have HT2 : Hid (posI (l.take (k + 1)) = more (posI (l.take k)) x k) := by show _ = _; rw [HT.out, if_neg hm]
      rw [decide_eq_false hm] at hps
      clear HT hm
      have hwk : wf64 (k : Int) := by unfold wf64; omega
      have hbB := hb.size
      go_wp2_with (first
       | (at_lookup; refine wpList_lookupI rfl _ _ rfl B N _ rfl hM x hwx rfl ?_; rw [hps])
       | (at_mapUpdate; refine wpList_updateI rfl _ _ _ rfl B N _ rfl hM (by omega) x k hwx hwk rfl rfl ?_; intro w5 hM5 hg5))
      have hb5 : Below B w w5 := hb.grown hg5 (by have := hM.lt; omega) fun k hk => by cases hk; exact Nat.le_refl _
      go_roundw
      case rel => exact ⟨k + 1, N + 1, by omega, by go_num, by omega, by rw [HT2.out]; exact hM5, hb5⟩
      case measure => simp [intOf]; omega
  · obtain rfl : k = n := by omega
    rw [← HN.out, List.take_length] at hM
    go_wp2
    go_ret
    exact ⟨B, N, rfl, by rw [HB.out]; exact Nat.le_refl _, by omega, hM, by rw [HB.out]; exact hb⟩
end Go.Proofs.YtimhpglfolbomaaGreat.Od

/-
  Where a text stands in a row; the text under a key of a content: by contracts.
  Structs of any size that are loaded, or stored, as one operation; rows that are loaded in a region that draws.
  The event of a type and a key in a state; the text under a key of it: by contracts.
  The text under a key of the event of a type and a key: by a contract.
  A loop over changes that ends at the first that is bad: as one law.
  May, by a contract.
  The document's users and types: by contracts.
  What is asked of a hearing: by contracts.
  What a rule says: by contracts of what is thrown.
  Which event makes a room; the levels of an event: by contracts.
  Which events may change who may do what; on which event of a type one leans: by contracts.
  The chain of places: by a contract.
  Levels that are few: by contracts.
  The document's levels: who may change them: by contracts.
  The document's May: by contracts.
  The document's May, walked.
  The document's Type, Start, and levels that are the same: by contracts.
  On which event of a type one leans; the level of its sender: by contracts.
-/
import Derived.Test.YtimhpglfolbomabGreatRL10
set_option maxRecDepth 100000
set_option maxHeartbeats 16000000
namespace Go.Proofs.YtimhpglfolbomabGreat
open Go.RowKit
theorem eqT_comm (a b : ByteArray) : (a.toList == b.toList) = (b.toList == a.toList) := by
 rw [Bool.eq_iff_iff, bytes_eq, bytes_eq]
 exact eq_comm
def IdxP (ks : List ByteArray) (s : ByteArray) (m : Int) : Prop := (m = -1 ∧ ∀ y, y < ks.length → (s.toList == (ks.getD y nix).toList) = false) ∨ ∃ k : Nat, m = (k : Int) ∧ k < ks.length ∧ (s.toList == (ks.getD k nix).toList) = true ∧ ∀ y, y < k → (s.toList == (ks.getD y nix).toList) = false
theorem index_any {O : Nat → Prop} {w : World} {p : Option Addr} {c : Nat} {ks : List ByteArray} (hk : RdK O w p c ks) (hz : ks.length ≤ 100000) (s : ByteArray) :
    Calls Tryz.prog 76 #[.slice p ks.length c, .string s] w fun e w' => (∃ m, e = .returned (.int .i64 m) ∧ IdxP ks s m) ∧ w = w' := by
 obtain ⟨n, hn⟩ : ∃ n, ks.length = n := ⟨_, rfl⟩
 have HN : Hid (ks.length = n) := hn
 have hc := hk.1
 rw [hn] at hz hc ⊢
 clear hn
 go_enter Tryz.func76, Tryz.ntmps76
 go_wp2
 go_loop [8] (fun i => ∃ k : Nat, i = .int .i64 k ∧ k ≤ n ∧ Hid (∀ y, y < k → (s.toList == (ks.getD y nix).toList) = false)) (fun i => n - (intOf i).toNat)
 case atStart => exact ⟨0, rfl, Nat.zero_le _, fun y hy => absurd hy (by omega)⟩
 case round =>
  obtain ⟨k, rfl, hkn, HX⟩ := hrel
  by_cases hlt : k < n
  · have hki : (k : Int) < (n : Int) := by omega
    obtain ⟨a, rfl, _, hca⟩ := hk.2 k (by rw [HN.out]; exact hlt)
    have HS : Hid ((s.toList == (ks.getD k nix).toList) = false → ∀ y, y < k + 1 → (s.toList == (ks.getD y nix).toList) = false) := fun h y hy => (Nat.lt_succ_iff_lt_or_eq.1 hy).elim (HX.out y) fun e => by rw [e]; exact h
    have HY : Hid ((s.toList == (ks.getD k nix).toList) = true → IdxP ks s k) := fun h => .inr ⟨k, rfl, by rw [HN.out]; exact hlt, h, HX.out⟩
    generalize ks.getD k nix = u at hca HS HY
    cases he : (s.toList == u.toList) with
    | true =>
     have HZ := (show Hid _ from HY.out he)
     go_wp2
     go_ret
     exact ⟨⟨_, rfl, HZ.out⟩, rfl⟩
    | false =>
     have HZ := (show Hid _ from HS.out he)
     go_wp2
     go_round
     case rel => exact ⟨k + 1, by go_num, hlt, HZ⟩
     case measure => simp [intOf]; omega
  · obtain rfl : k = n := by omega
    go_wp2
    go_ret
    exact ⟨⟨_, rfl, .inl ⟨rfl, fun y hy => HX.out y (by rw [← HN.out]; exact hy)⟩⟩, rfl⟩
theorem look_of_idx {ks : List ByteArray} {l : List J} {s : ByteArray} {m : Int} (h : IdxP ks s m) : (m < 0 ∧ lookV ks l s = none) ∨ ((l.length : Int) ≤ m ∧ lookV ks l s = none) ∨ ∃ k : Nat, m = (k : Int) ∧ k < ks.length ∧ k < l.length ∧ lookV ks l s = some (l.getD k J.zero) := by
 rcases h with ⟨rfl, h⟩ | ⟨k, rfl, hk, he, hb⟩
 · exact .inl ⟨by decide, lookJ_miss fun y h1 _ => by rw [eqT_comm]; exact h y h1⟩
 · by_cases hl : k < l.length
   · exact .inr (.inr ⟨k, rfl, hk, hl, lookJ_step hk hl (fun y hy => by rw [eqT_comm]; exact hb y hy) (by rw [eqT_comm]; exact he)⟩)
   · exact .inr (.inl ⟨by omega, lookJ_miss fun y _ h2 => by rw [eqT_comm]; exact hb y (by omega)⟩)
theorem keep_setRow (w : World) (g : Nat) (cs : Array Value) : Keep (OneP g) w (w.setRow g cs) := by
 refine ⟨rfl, rfl, rfl, by simp [World.setRow], fun k _ hk => ?_⟩
 unfold World.setRow
 simp only [Array.getElem?_modify]
 rw [if_neg (fun e => hk (by unfold OneP; exact e.symm))]
theorem wpList_store_row {ops : Array Oper} {rest : List Oper} {op : Oper} {a : Act} {w : World} {Q : Exit → Act → World → Prop} (hgd : op.guard = none) (ty : TypeId) (x y : Operand) (ho : op.op = .store ty x y)
    (g t : Nat) (old cells : Array Value) (hx : a.eval x = .pointer (some ⟨g, 0, none⟩)) (hy : a.eval y = .agg cells) (hg : w.heap[g]? = some (.cells old t (0, 0)))
    (hi : (Tryz.prog.info? ty).map (·.size) = some cells.size) (hs : old.size = cells.size) (h1 : cells.all (·.oneCell') = true)
    (h : wpList Tryz.prog ops Q rest (a.put op.dst undef) (w.setRow g cells)) : wpList Tryz.prog ops Q (op :: rest) a w := by
 refine wpList_plain hgd fun K' hK' => ?_
 unfold Oper.wp execOp
 simp only [ho, hx, hy, Instr.storeAt, Instr.sureAddr, Sem.run_bind, Sem.run_pure, Result.andThen_ok, run_storeVar_row w g t ty old cells hg hi hs h1]
 exact hK' _ _ h
theorem one_E (e : Ev) (p : Pt) : (cellsE e p).toArray.all (·.oneCell') = true := all_oneCell_toArray fun v hv => by
 simp only [cellsE, List.mem_cons, List.not_mem_nil, or_false] at hv
 rcases hv with rfl | rfl | rfl | rfl | rfl | rfl | rfl | rfl | rfl | rfl | rfl | rfl | rfl | rfl | rfl | rfl <;> rfl
theorem infoE : (Tryz.prog.info? 41).map (·.size) = some 16 := by kernel_rfl
theorem wpList_load_midg {ops : Array Oper} {rest : List Oper} {o : Oper} {a : Act} {w : World} {Q : Exit → Act → World → Prop} (hg : Region.wanted o (yielded ops a.tmps) = true) (ty : TypeId) (m : Operand) (hop : o.op = Op.load ty m) (b ofs : Nat) (hm : a.eval m = .pointer (some ⟨b, ofs, none⟩)) (cs : List Value)
    (hl : (Instr.loadAt ty (.pointer (some ⟨b, ofs, none⟩))).run Tryz.prog w = .ok (.agg cs.toArray) w)
    (hK : wpList Tryz.prog ops Q rest (a.put o.dst (.agg cs.toArray)) w) : wpList Tryz.prog ops Q (o :: rest) a w := by
 simp only [wpList, hg, if_true]
 refine Or.inl ?_
 unfold Oper.wp
 simp [execOp, hop, hm, hl, Result.andThen]
 exact hK
theorem belowN (w : World) (n : Nat) : Below w.heap.size w (w.drewN n) := ⟨rfl, rfl, rfl, Nat.le_refl _, fun _ _ => rfl⟩
theorem exec_loadR {a : Act} {o : Oper} {m : Operand} {T : TypeId} {ad : Addr} {w : World} {v : Value} (hop : o.op = Op.load T m) (hm : a.eval m = .pointer (some ad)) (hl : (Instr.loadAt T (.pointer (some ad))).run Tryz.prog w = .ok v w) : (execOp a.eval o).run Tryz.prog w = .ok (.value v) w := by
 simp [execOp, hop, hm, hl]
theorem lit_vLeave : vLeave.toList = [108, 101, 97, 118, 101] := by rw [Lib.toList_data]
theorem lit_vBan : vBan.toList = [98, 97, 110] := by rw [Lib.toList_data]
theorem lit_tMember : tMember.toList = [109, 46, 114, 111, 111, 109, 46, 109, 101, 109, 98, 101, 114] := by rw [Lib.toList_data]
theorem lit_nix : (⟨#[]⟩ : ByteArray).toList = [] := by rw [Lib.toList_data]
structure IsV (w : World) (eb : Nat) (e : Ev) (p : Pt) : Prop where
 blk : w.heap[eb]? = some (.cells (cellsE e p).toArray 41 (0, 0))
 ev : IsE (· < w.heap.size) w e p
section
variable {w : World} {eb : Nat} {e : Ev} {p : Pt}
theorem IsV.typ (x : IsV w eb e p) : w.cell? ⟨eb, 1, none⟩ = some (.string e.typ) := cellP x.blk 1 _ rfl
theorem IsV.sender (x : IsV w eb e p) : w.cell? ⟨eb, 2, none⟩ = some (.string e.sender) := cellP x.blk 2 _ rfl
theorem IsV.isSt (x : IsV w eb e p) : w.cell? ⟨eb, 3, none⟩ = some (.bool e.st) := cellP x.blk 3 _ rfl
theorem IsV.key (x : IsV w eb e p) : w.cell? ⟨eb, 4, none⟩ = some (.string e.key) := cellP x.blk 4 _ rfl
end
theorem isV_new {O : Nat → Prop} {w : World} {e : Ev} {p : Pt} (h : IsE O w e p) (hO : ∀ b, O b → b < w.heap.size) {W : World} (hb : Below w.heap.size w W) (hX : W.heap[w.heap.size]? = some (.cells (cellsE e p).toArray 41 (0, 0))) : IsV W w.heap.size e p :=
 ⟨hX, h.carry fun k hk => ⟨Nat.lt_of_lt_of_le (hO k hk) hb.size, hb.block k (hO k hk)⟩⟩
end Go.Proofs.YtimhpglfolbomabGreat
namespace Go.Proofs.YtimhpglfolbomabGreat.Od
open Go.RowKit Go.Maps
theorem membership_any {O : Nat → Prop} {w : World} {j : J} {k i : Int} {t : ByteArray} {pk pl : Option Addr} {nk ck nl cl : Nat} (hj : isJ O w j [.int .i64 k, .int .i64 i, .string t, .slice pk nk ck, .slice pl nl cl]) (hO : ∀ b, O b → b < w.heap.size) (hz : j.ks.length ≤ 100000) :
    Calls Tryz.prog 55 #[.agg #[.int .i64 k, .int .i64 i, .string t, .slice pk nk ck, .slice pl nl cl]] w fun e w' => e = .returned (.string (textT j nMemb)) ∧ Below w.heap.size w w' := by
 obtain ⟨kx, ix, tx, ks, l⟩ := j
 obtain ⟨rfl, rfl, rfl, rfl, rfl, hk, hcl, hjs⟩ := isJP_parts hj
 clear hj
 obtain ⟨y, hy⟩ : ∃ y, textT (.mk k i t ks l) nMemb = y := ⟨_, rfl⟩
 rw [hy]
 have HO5 : Hid (k = 5 → y = txtT (lookV ks l nMemb)) := fun h => by rw [← hy]; show txtT (if k = 5 then lookV ks l nMemb else none) = _; rw [if_pos h]
 have HON : Hid (¬ k = 5 → y = nix) := fun h => by rw [← hy]; show txtT (if k = 5 then lookV ks l nMemb else none) = _; rw [if_neg h]; rfl
 clear hy
 simp only [J.ks] at hz
 obtain ⟨wA, hwA⟩ : ∃ wA, wA = w.alloc (.cells #[.int .i64 k, .int .i64 i, .string t, .slice pk ks.length ck, .slice pl l.length cl] 38) := ⟨_, rfl⟩
 have hbA : Below w.heap.size w wA := by rw [hwA]; exact (Below.refl _ _).alloc (Nat.le_refl _) _
 have hA : wA.heap[w.heap.size]? = some (.cells #[.int .i64 k, .int .i64 i, .string t, .slice pk ks.length ck, .slice pl l.length cl] 38 (0, 0)) := by rw [hwA]; exact newP _
 have hI := index_any (hk.carry (O' := O) (w' := wA) fun x hx => ⟨hx, hbA.block x (hO x hx)⟩) hz nMemb
 have HLK : Hid (∀ m, IdxP ks nMemb m → (m < 0 ∧ lookV ks l nMemb = none) ∨ ((l.length : Int) ≤ m ∧ lookV ks l nMemb = none) ∨ ∃ k : Nat, m = (k : Int) ∧ k < ks.length ∧ k < l.length ∧ lookV ks l nMemb = some (l.getD k J.zero)) := fun m h => look_of_idx h
 have HJS : Hid (isJs O w pl 0 l) := hjs
 obtain ⟨nk, hnk⟩ : ∃ n, ks.length = n := ⟨_, rfl⟩
 obtain ⟨nl, hnl⟩ : ∃ n, l.length = n := ⟨_, rfl⟩
 have HNL : Hid (l.length = nl) := hnl
 rw [hnk] at hz hA hI hwA HLK ⊢
 rw [hnl] at hcl hA hwA HLK ⊢
 have i0 := cellP hA 0 _ rfl; have i3 := cellP hA 3 _ rfl; have i4 := cellP hA 4 _ rfl
 clear hnk hnl hA hk hjs
 generalize lookV ks l nMemb = o at HLK HO5
 by_cases k5 : k = 5
 · subst k5
   have HY := (show Hid _ from HO5.out rfl)
   clear HO5 HON
   go_enter Tryz.func55, Tryz.ntmps55
   go_upto_region 1 with fail
   rw [← hwA]
   clear hwA
   go_upto_region 2 with (go_at_call 76; refine hI.mono ?_; rintro e w1 ⟨⟨m, rfl, hm⟩, rfl⟩)
   rcases HLK.out m hm with ⟨h1, h2⟩ | ⟨h1, h2⟩ | ⟨n, h1, h2, h3, h4⟩
   · subst h2
     clear hI hm HLK
     go_wp2
     go_ret
     exact ⟨by rw [HY.out]; rfl, hbA⟩
   · subst h2
     clear hI hm HLK
     have h0 : ¬ m < 0 := by omega
     have hd : decide (m < 0) = false := decide_eq_false h0
     have hd2 : decide ((nl : Int) ≤ m) = true := decide_eq_true h1
     go_wp2
     go_ret
     exact ⟨by rw [HY.out]; rfl, hbA⟩
   · subst h4 h1
     clear hI hm HLK
     have hni : (n : Int) < (nl : Int) := by omega
     obtain ⟨lb, lo, cs, hpl, hOb, hcells, hyj⟩ := isJs.at l 0 n HJS.out (by rw [HNL.out]; exact h3)
     subst hpl
     obtain ⟨kv, iv, tv, pv, nv, cv, qv, mv, dv, rfl⟩ := isJ_shape hyj
     have HV : Hid ((l.getD n J.zero).kd = kv ∧ (l.getD n J.zero).tx = tv) := by
      generalize l.getD n J.zero = y at hyj
      obtain ⟨_, _, _, _, _⟩ := y
      obtain ⟨rfl, rfl, rfl, _⟩ := isJP_parts hyj
      exact ⟨rfl, rfl⟩
     have cc : ∀ m v, [Value.int .i64 kv, .int .i64 iv, .string tv, .slice pv nv cv, .slice qv mv dv][m]? = some v → wA.cell? ⟨lb, lo + n * 5 + m, none⟩ = some v := fun m v h => by
      have := hcells m v h
      rw [Nat.zero_add] at this
      exact (World.cell?_of_block (a := ⟨lb, lo + n * 5 + m, none⟩) (hbA.block lb (hO lb hOb))).trans this
     have y0 : wA.cell? ⟨lb, lo + n * 5, none⟩ = some (.int .i64 kv) := cc 0 _ rfl
     have y2 := cc 2 _ rfl
     clear cc hcells hyj
     have hd : decide ((n : Int) < 0) = false := decide_eq_false (by omega)
     have hd2 : decide (nl ≤ n) = false := decide_eq_false (by omega)
     by_cases k3 : kv = 3
     · subst k3
       have HT : Hid (txtT (some (l.getD n J.zero)) = tv) := by show _ = _; simp only [txtT, HV.out.1, HV.out.2, if_true]
       go_wp2
       go_ret
       exact ⟨by rw [HY.out, HT.out]; rfl, hbA⟩
     · have HT : Hid (txtT (some (l.getD n J.zero)) = ⟨#[]⟩) := by show _ = _; simp only [txtT, HV.out.1, if_neg k3]; rfl
       go_wp2
       go_ret
       exact ⟨by rw [HY.out, HT.out]; rfl, hbA⟩
 · have HY := (show Hid _ from HON.out k5)
   clear HO5 HON
   go_enter Tryz.func55, Tryz.ntmps55
   go_upto_region 1 with fail
   rw [← hwA]
   clear hwA
   go_wp2_with (go_at_call 76; refine hI.mono ?_; rintro e w1 ⟨⟨m, rfl, hm⟩, rfl⟩)
   go_ret
   exact ⟨by rw [HY.out]; rfl, hbA⟩
def isT (e : Ev) (kind : ByteArray) : Bool := e.st && (eqT e.typ kind && eqT e.key ⟨#[]⟩)
theorem isOf_any {w : World} {b o : Nat} {e : Ev} (kind : ByteArray) (h1 : w.cell? ⟨b, o + 1, none⟩ = some (.string e.typ)) (h3 : w.cell? ⟨b, o + 3, none⟩ = some (.bool e.st)) (h4 : w.cell? ⟨b, o + 4, none⟩ = some (.string e.key)) :
    Calls Tryz.prog 54 #[.pointer (some ⟨b, o, none⟩), .string kind] w fun x w' => x = .returned (.bool (isT e kind)) ∧ w = w' := by
 unfold isT
 generalize e.typ = typ at *
 generalize e.st = st at *
 generalize e.key = key at *
 cases st with
 | false =>
  go_enter Tryz.func54, Tryz.ntmps54
  go_wp2
  go_ret
  exact ⟨rfl, rfl⟩
 | true =>
  cases h : (typ.toList == kind.toList) with
  | false =>
   go_enter Tryz.func54, Tryz.ntmps54
   go_wp2
   go_ret
   exact ⟨ret_bool (by simp only [eqT, h]; rfl), rfl⟩
  | true =>
   have hl0 : (⟨#[]⟩ : ByteArray).toList = [] := lit_nix
   cases hk : (key.toList == ([] : List UInt8)) with
   | false =>
    go_enter Tryz.func54, Tryz.ntmps54
    go_wp2
    go_ret
    exact ⟨ret_bool (by simp only [eqT, h, hl0, hk]; rfl), rfl⟩
   | true =>
    go_enter Tryz.func54, Tryz.ntmps54
    go_wp2
    go_ret
    exact ⟨ret_bool (by simp only [eqT, h, hl0, hk]; rfl), rfl⟩
def powersT (e : Ev) : Bool := (isT e tPower || isT e tRules) || (e.st && eqT e.typ tMember && !eqT e.key e.sender && (eqT (textT e.content nMemb) vLeave || eqT (textT e.content nMemb) vBan))
theorem powers_any {O : Nat → Prop} {w : World} {e : Ev} {q : Pt} (h : IsE O w e q) (hO : ∀ k, O k → k < w.heap.size) (hz : SzE e) :
    Calls Tryz.prog 27 #[valE e q] w fun x w' => x = .returned (.bool (powersT e)) ∧ Below w.heap.size w w' := by
 obtain ⟨W0, hW0⟩ : ∃ W0, W0 = w.alloc (.cells (cellsE e q).toArray 41) := ⟨_, rfl⟩
 have hb0 : Below w.heap.size w W0 := by rw [hW0]; exact (Below.refl _ _).alloc (Nat.le_refl _) _
 have hX0 : W0.heap[w.heap.size]? = some (.cells (cellsE e q).toArray 41 (0, 0)) := by rw [hW0]; exact newP _
 have hV := isV_new h hO hb0 hX0
 have d1 := hV.typ; have d2 := hV.sender; have d3 := hV.isSt; have d4 := hV.key
 have hI1 := isOf_any (w := W0) (b := w.heap.size) (o := 0) (e := e) tPower (by simpa using d1) (by simpa using d3) (by simpa using d4)
 have hI2 := isOf_any (w := W0) (b := w.heap.size) (o := 0) (e := e) tRules (by simpa using d1) (by simpa using d3) (by simpa using d4)
 have hJ : isJ (· < W0.heap.size) W0 e.content [.int .i64 e.content.kind, .int .i64 e.content.int, .string e.content.text, .slice q.pk e.content.keys.length q.ck, .slice q.pl e.content.list.length q.cl] := hV.ev.cont
 have hM := membership_any hJ (fun _ h => h) (by have h1 := szP_keys hz.cont; omega)
 have e5 : W0.cell? ⟨w.heap.size, 5, none⟩ = some (.int .i64 e.content.kind) := cellP hX0 5 _ rfl
 have e6 : W0.cell? ⟨w.heap.size, 6, none⟩ = some (.int .i64 e.content.int) := cellP hX0 6 _ rfl
 have e7 : W0.cell? ⟨w.heap.size, 7, none⟩ = some (.string e.content.text) := cellP hX0 7 _ rfl
 have e8 : W0.cell? ⟨w.heap.size, 8, none⟩ = some (.slice q.pk e.content.keys.length q.ck) := cellP hX0 8 _ rfl
 have e9 : W0.cell? ⟨w.heap.size, 9, none⟩ = some (.slice q.pl e.content.list.length q.cl) := cellP hX0 9 _ rfl
 have HP : Hid (powersT e = ((isT e tPower || isT e tRules) || (e.st && eqT e.typ tMember && !eqT e.key e.sender && (eqT (textT e.content nMemb) vLeave || eqT (textT e.content nMemb) vBan)))) := rfl
 clear hV hX0 hJ h hz
 generalize textT e.content nMemb = m at *
 generalize isT e tPower = b1 at *
 generalize isT e tRules = b2 at *
 generalize powersT e = R at *
 unfold eqT at HP
 rw [lit_tMember, lit_vLeave, lit_vBan] at HP
 unfold valE
 generalize hC : cellsE e q = C at *
 clear hC
 generalize e.typ = typ at *
 generalize e.st = st at *
 generalize e.key = key at *
 generalize e.sender = snd at *
 generalize e.content.kind = k at *
 generalize e.content.int = i at *
 generalize e.content.text = t at *
 generalize e.content.keys.length = nk at *
 generalize e.content.list.length = nl at *
 go_enter Tryz.func27, Tryz.ntmps27
 go_upto_region 1 with fail
 rw [← hW0]
 clear hW0
 cases b1 with
 | true =>
  go_wp2_with (first | (go_at_call 54; refine hI1.mono ?_; rintro e w1 ⟨rfl, rfl⟩))
  go_ret
  exact ⟨ret_bool (by rw [HP.out]; rfl), hb0⟩
 | false =>
  cases b2 with
  | true =>
   go_wp2_with (first
    | (go_at_call 54; refine hI1.mono ?_; rintro e w1 ⟨rfl, rfl⟩; clear hI1)
    | (go_at_call 54; refine hI2.mono ?_; rintro e w1 ⟨rfl, rfl⟩; clear hI2))
   go_ret
   exact ⟨ret_bool (by rw [HP.out]; rfl), hb0⟩
  | false =>
   go_upto_region 3 with (first
    | (go_at_call 54; refine hI1.mono ?_; rintro e w1 ⟨rfl, rfl⟩; clear hI1)
    | (go_at_call 54; refine hI2.mono ?_; rintro e w1 ⟨rfl, rfl⟩; clear hI2))
   cases st with
   | false =>
    go_wp2
    go_ret
    exact ⟨ret_bool (by rw [HP.out]; rfl), hb0⟩
   | true =>
    cases h1 : (typ.toList == [109, 46, 114, 111, 111, 109, 46, 109, 101, 109, 98, 101, 114]) with
    | false =>
     go_wp2
     go_ret
     exact ⟨ret_bool (by rw [HP.out, h1]; rfl), hb0⟩
    | true =>
     cases h2 : (key.toList == snd.toList) with
     | true =>
      go_wp2
      go_ret
      exact ⟨ret_bool (by rw [HP.out, h1, h2]; rfl), hb0⟩
     | false =>
      cases h3 : (m.toList == [108, 101, 97, 118, 101]) with
      | true =>
       go_wp2_with (go_at_call 55; refine hM.mono ?_; rintro e w1 ⟨rfl, hb1⟩)
       go_ret
       exact ⟨ret_bool (by rw [HP.out, h1, h2, h3]; rfl), hb0.trans (hb1.mono (by have := hb0.size; omega))⟩
      | false =>
       go_wp2_with (go_at_call 55; refine hM.mono ?_; rintro e w1 ⟨rfl, hb1⟩)
       go_ret
       exact ⟨ret_bool (by rw [HP.out, h1, h2, h3]; simp), hb0.trans (hb1.mono (by have := hb0.size; omega))⟩
end Go.Proofs.YtimhpglfolbomabGreat.Od
namespace Go.Proofs.YtimhpglfolbomabGreat.Od
open Go.RowKit Go.Maps
open Classical in
noncomputable def downsT (Q : List (List Nat)) (S : List Nat) (m : Nat) : Nat → List Nat
 | 0 => []
 | d + 1 => downsT Q S m d ++ if Lead Q S (m - (d + 1)) then [m - (d + 1)] else []
theorem downs_mem {Q : List (List Nat)} {S : List Nat} {m : Nat} : ∀ {d : Nat}, d ≤ m → ∀ x, x ∈ downsT Q S m d ↔ m - d ≤ x ∧ x < m ∧ Lead Q S x
 | 0, _, x => by simp [downsT]; omega
 | d + 1, hd, x => by
  unfold downsT
  rw [List.mem_append, downs_mem (by omega)]
  split
  · rename_i h
    rw [List.mem_singleton]
    constructor
    · rintro (⟨h1, h2, h3⟩ | rfl)
      · exact ⟨by omega, h2, h3⟩
      · exact ⟨by omega, by omega, h⟩
    · rintro ⟨h1, h2, h3⟩
      by_cases e : x = m - (d + 1)
      · exact .inr e
      · exact .inl ⟨by omega, h2, h3⟩
  · rename_i h
    constructor
    · rintro (⟨h1, h2, h3⟩ | h')
      · exact ⟨by omega, h2, h3⟩
      · cases h'
    · rintro ⟨h1, h2, h3⟩
      exact .inl ⟨by have : x ≠ m - (d + 1) := fun e => h (e ▸ h3); omega, h2, h3⟩
theorem downs_fall {Q : List (List Nat)} {S : List Nat} {m : Nat} : ∀ {d : Nat}, d ≤ m → (downsT Q S m d).Pairwise (· > ·)
 | 0, _ => List.Pairwise.nil
 | d + 1, hd => by
  unfold downsT
  rw [List.pairwise_append]
  refine ⟨downs_fall (by omega), by split <;> simp, fun a ha b hb => ?_⟩
  have h1 := (downs_mem (by omega) a).1 ha
  split at hb
  · rw [List.mem_singleton.1 hb]; omega
  · cases hb
theorem downs_len (Q : List (List Nat)) (S : List Nat) (m : Nat) : ∀ d, (downsT Q S m d).length ≤ d
 | 0 => Nat.le_refl _
 | d + 1 => by
  unfold downsT
  rw [List.length_append]
  have := downs_len Q S m d
  split
  · simp; omega
  · simp; omega
theorem downs_all {Q : List (List Nat)} {S : List Nat} {m : Nat} (hQ : BackQ Q) (hS : ∀ x ∈ S, x < m) : (downsT Q S m m).reverse = chT Q S := by
 refine riseN_ext (List.pairwise_reverse.2 (downs_fall (Nat.le_refl _))) (cht_rises Q S) fun x => ?_
 rw [List.mem_reverse, downs_mem (Nat.le_refl _), cht_mem hQ]
 exact ⟨fun h => h.2.2, fun h => ⟨by omega, ch_lt hQ hS h, h⟩⟩
def MarkP (Q : List (List Nat)) (S : List Nat) (m k : Nat) (C : List Bool) : Prop := C.length = m ∧ ∀ j, j < m → (C.getD j false = true ↔ Gm Q S k j)
theorem mark_top {Q : List (List Nat)} {S : List Nat} {m : Nat} (hQ : BackQ Q) (hS : ∀ x ∈ S, x < m) : MarkP Q S m m (List.replicate m false) :=
 ⟨by simp, fun j _ => by rw [rep_at]; exact ⟨fun h => (by cases h), fun h => absurd h (gm_top hQ hS j)⟩⟩
theorem mark_self {Q : List (List Nat)} {S : List Nat} {m k : Nat} {C : List Bool} (hQ : BackQ Q) (h : MarkP Q S m (k + 1) C) (hk : k < m) : C.getD k false = true ↔ Lead Q S k := (h.2 k hk).trans (gm_self hQ k)
theorem mark_yes {Q : List (List Nat)} {S : List Nat} {m k : Nat} {C : List Bool} (_hQ : BackQ Q) (h : MarkP Q S m (k + 1) C) (_hk : k < m) (hs : k ∈ S ∨ Lead Q S k) : MarkP Q S m k (setAll C (par Q k)) :=
 ⟨by rw [setAll_len]; exact h.1, fun j hj => by
  rw [setAll_at C _ j (by rw [h.1]; exact hj), Bool.or_eq_true, h.2 j hj, gm_step k j, decide_eq_true_eq]
  exact ⟨fun h' => h'.elim .inl fun h' => .inr ⟨hs, h'⟩, fun h' => h'.elim .inl fun h' => .inr h'.2⟩⟩
theorem mark_no {Q : List (List Nat)} {S : List Nat} {m k : Nat} {C : List Bool} (h : MarkP Q S m (k + 1) C) (hs : ¬ (k ∈ S ∨ Lead Q S k)) : MarkP Q S m k C :=
 ⟨h.1, fun j hj => by
  rw [h.2 j hj, gm_step k j]
  exact ⟨.inl, fun h' => h'.elim id fun h' => absurd h'.1 hs⟩⟩
theorem ch_nil {Q : List (List Nat)} {i : Nat} : ¬ Lead Q [] i := fun h => by
 induction h with
 | one h1 _ => cases h1
 | more _ _ ih => exact ih
theorem cht_nil (Q : List (List Nat)) : chT Q [] = [] := by
 unfold chT
 rw [List.filter_eq_nil_iff]
 intro a _
 simp only [decide_eq_true_eq]
 exact ch_nil
theorem rise_last {S : List Nat} (h : S.Pairwise (· < ·)) (_hn : S ≠ []) : ∀ x ∈ S, x < S.getD (S.length - 1) 0 + 1 := by
 intro x hx
 obtain ⟨i, hi, rfl⟩ := List.getElem_of_mem hx
 have hl : S.length - 1 < S.length := by omega
 rw [getD_in hl]
 rcases Nat.lt_or_ge i (S.length - 1) with h' | h'
 · have := List.pairwise_iff_getElem.1 h i (S.length - 1) hi hl h'
   omega
 · have e : i = S.length - 1 := by omega
   subst e
   omega
theorem downs_next {Q : List (List Nat)} {S : List Nat} {m j : Nat} (hj : j < m) : (Lead Q S j → downsT Q S m (m - j) = downsT Q S m (m - (j + 1)) ++ [j]) ∧ (¬ Lead Q S j → downsT Q S m (m - j) = downsT Q S m (m - (j + 1))) := by
 have e : m - j = (m - (j + 1)) + 1 := by omega
 have e2 : m - ((m - (j + 1)) + 1) = j := by omega
 rw [e]
 constructor
 · intro h
   rw [downsT, e2, if_pos h]
 · intro h
   rw [downsT, e2, if_neg h, List.append_nil]
theorem chain_nil {w : World} {p : Pa} {q : Pq} {pl : Option Addr} {cl : Nat} :
    Calls Tryz.prog 33 #[valPa p q, .slice pl 0 cl] w (RowP [] w) := by
 have hb0 : Below w.heap.size w (w.alloc (.cells (cellsPa p q).toArray 27)) := (Below.refl _ _).alloc (Nat.le_refl _) _
 unfold valPa
 generalize cellsPa p q = M at *
 go_enter Tryz.func33, Tryz.ntmps33
 go_wp2
 go_ret
 exact ⟨_, rfl, World.ownsRow_nil _ _ _ _, hb0⟩
theorem chain_some {O : Nat → Prop} {w : World} {p : Pa} {q : Pq} {S : List Nat} {pl : Option Addr} {cl : Nat} (h : IsPa (· < w.heap.size) w p q) (hz : SzPa p) (hr : backT p.auth p.evs.length = true) (hl : RdI O w pl cl (zs S)) (hO : ∀ k, O k → k < w.heap.size) (hS : S.Pairwise (· < ·)) (hb : ∀ x ∈ S, x < p.evs.length) (hne : S ≠ []) :
    Calls Tryz.prog 33 #[valPa p q, .slice pl (zs S).length cl] w (RowP (zs (chT (toQ p.auth) S)) w) := by
 obtain ⟨hI, hQ, hAL⟩ := back_of hr
 have HQ : Hid (BackQ (toQ p.auth)) := hQ
 obtain ⟨W0, hW0⟩ : ∃ W0, W0 = w.alloc (.cells (cellsPa p q).toArray 27) := ⟨_, rfl⟩
 have hb0 : Below w.heap.size w W0 := by rw [hW0]; exact (Below.refl _ _).alloc (Nat.le_refl _) _
 have hs0 : W0.heap.size = w.heap.size + 1 := by rw [hW0]; simp
 have V : IsVP W0 w.heap.size p q := by rw [hW0]; exact isVP_new h
 have hzl : (zs S).length = S.length := zs_len S
 have hSl : 0 < S.length := by rcases S with _ | ⟨a, r⟩; exact absurd rfl hne; simp
 have hev := hz.evs
 have hrise := rise_last hS hne
 have hSn : S.length ≤ 30 := by
  have h1 := sub_len (l := S) (T := List.range p.evs.length) (hS.imp fun h e => by omega) (fun x hx => List.mem_range.2 (hb x hx))
  simp at h1
  omega
 obtain ⟨t, ht⟩ : ∃ t, S.getD (S.length - 1) 0 = t := ⟨_, rfl⟩
 have htl : t < p.evs.length := by rw [← ht]; exact hb _ (getD_inm (by omega))
 rw [ht] at hrise
 have HRISE : Hid (∀ x ∈ S, x < t + 1) := hrise
 have HR : Hid (∀ X, Keep (fun k => W0.heap.size ≤ k) W0 X → RdI O X pl cl (zs S)) := fun X hX => hl.same (Same.of_below (belowP hb0 (hX.below (B := W0.heap.size) (Nat.le_refl _) fun k hk => by omega)) hO)
 have HAU : Hid (∀ X, Keep (fun k => W0.heap.size ≤ k) W0 X → RdR (· < W0.heap.size) X q.a q.ca p.auth) := fun X hX => V.pa.auth.below (hX.below (B := W0.heap.size) (Nat.le_refl _) fun k hk => by omega)
 have HBLK : Hid (∀ X, Keep (fun k => W0.heap.size ≤ k) W0 X → X.cell? ⟨w.heap.size, 3, none⟩ = some (.slice q.a p.auth.length q.ca)) := fun X hX => (World.cell?_of_block (a := ⟨w.heap.size, 3, none⟩) (hX.block w.heap.size (by omega) (by omega))).trans V.c3
 have HMK : ∀ W : World, (Instr.makeSlice 25 (.int .i64 ((t : Int) + 1)) (.int .i64 ((t : Int) + 1))).run Tryz.prog W = .ok (.slice (some ⟨W.heap.size, 0, none⟩) (t + 1) (t + 1)) (W.alloc (.cells ((List.replicate (t + 1) false).map Value.bool).toArray 4)) := fun W => by
  have := make_bools W (t + 1) (by omega)
  rw [show ((t + 1 : Nat) : Int) = (t : Int) + 1 by omega] at this
  exact this
 have HPAR : Hid (∀ i, zs (par (toQ p.auth) i) = p.auth.getD i []) := fun i => par_toQ hI i
 have HPL : Hid (∀ i, (par (toQ p.auth) i).length ≤ 30) := fun i => by
  have h1 := HPAR.out i
  have h2 : (par (toQ p.auth) i).length = (p.auth.getD i []).length := by rw [← h1, zs_len]
  rw [h2]
  by_cases hi : i < p.auth.length
  · exact hz.auths _ (getD_inm hi)
  · rw [List.getD_eq_getElem?_getD, List.getElem?_eq_none (by omega)]; simp
 have hauth : p.auth.length = p.evs.length := hAL
 have HAUL : Hid (p.auth.length = p.evs.length) := hAL
 generalize toQ p.auth = Q at *
 unfold valPa
 have hlc := (HR.out W0 (Keep.refl _ _)).at (S.length - 1) 0 (by omega)
 obtain ⟨ad, rfl, _, hct⟩ := hlc
 rw [zs_getD, ht] at hct
 have HCT : Hid (W0.cell? (ad.add (S.length - 1)) = some (.int .i64 (t : Int))) := hct
 clear hct hz hr hl h hb V hrise hI hQ
 obtain ⟨s, hs⟩ : ∃ s, S.length = s := ⟨_, rfl⟩
 have HSL : Hid (S.length = s) := hs
 rw [hs] at hzl hSl hSn HCT
 have HZL : Hid ((zs S).length = s) := hzl
 rw [hzl]
 clear hs hzl ht hS
 have hct := HCT.out
 have hsub : (s : Int) - 1 = ((s - 1 : Nat) : Int) := by omega
 have hs1 : ((s - 1 : Nat) : Int).toNat = s - 1 := by omega
 rw [hauth] at HBLK
 clear hauth hAL
 generalize p.evs.length = n3 at *
 go_enter Tryz.func33, Tryz.ntmps33
 go_upto_region 1 with fail
 rw [← hW0]
 clear hW0
 go_upto_region 4 with fail
 obtain ⟨W1, hW1⟩ : ∃ W1, W1 = ((W0.alloc (.cells (Array.replicate (t + 1) (Value.bool false)) 4)).alloc (.cells (Array.replicate (t + 1) (Value.bool false)) 4)).drew := ⟨_, rfl⟩
 have hrep : Array.replicate (t + 1) (Value.bool false) = ((List.replicate (t + 1) false).map Value.bool).toArray := by simp
 have hk1 : Keep (fun k => W0.heap.size ≤ k) W0 W1 := by rw [hW1]; exact (((Keep.refl _ W0).alloc _).alloc _).drew
 have hs1' : W1.heap.size = w.heap.size + 3 := by rw [hW1]; simp [hs0]
 have hB1 : Bk W1 (w.heap.size + 1) (List.replicate (t + 1) false) := by
  rw [hW1, hrep, ← hs0]
  exact (Below.block ((Below.refl _ (W0.alloc (.cells ((List.replicate (t + 1) false).map Value.bool).toArray 4))).alloc (Nat.le_refl _) (.cells ((List.replicate (t + 1) false).map Value.bool).toArray 4)) W0.heap.size (by simp)).trans (heap_alloc_new _ _)
 have hB2 : Bk W1 (w.heap.size + 1 + 1) (List.replicate (t + 1) false) := by
  rw [hW1, hrep, ← hs0, show W0.heap.size + 1 = (W0.alloc (.cells ((List.replicate (t + 1) false).map Value.bool).toArray 4)).heap.size by simp]
  exact heap_alloc_new _ _
 have hne1 : w.heap.size + 1 ≠ w.heap.size + 1 + 1 := by omega
 have hl1 : W0.heap.size ≤ w.heap.size + 1 := by omega
 have hl2 : W0.heap.size ≤ w.heap.size + 1 + 1 := by omega
 have hu1 : w.heap.size + 1 < W1.heap.size := by omega
 have hu2 : w.heap.size + 1 + 1 < W1.heap.size := by omega
 have HK1 : Hid (Keep (fun k => W0.heap.size ≤ k) W0 W1) := hk1
 clear hk1 hrep hct
 go_region
 all_goals rw [← hW1]
 all_goals clear hW1
 · generalize w.heap.size + 1 + 1 = bl at *
   generalize w.heap.size + 1 = bs at *
   have HSB : Hid (Bk W1 bs (List.replicate (t + 1) false)) := hB1
   have HLB : Hid (Bk W1 bl (List.replicate (t + 1) false)) := hB2
   have hsl : bs ≠ bl := hne1
   have hlS : W0.heap.size ≤ bs := hl1
   have hlL : W0.heap.size ≤ bl := hl2
   have huS : bs < W1.heap.size := hu1
   have huL : bl < W1.heap.size := hu2
   clear hB1 hB2 hne1 hl1 hl2 hu1 hu2 hs0 hs1'
   have hOb : ∀ k, O k → k < W0.heap.size := fun k hk => Nat.lt_of_lt_of_le (hO k hk) hb0.size
   have hmS := mark_any (O := O) (List.replicate (t + 1) false) bs (t + 1) S (some ad) cl W1 HSB.out (by simp) (HR.out W1 HK1.out) (fun h => by have := hOb _ h; omega) (by simpa using HRISE.out) (by simp; omega) (by rw [HSL.out]; omega) (fun _ k hk => by have := hOb k hk; have := HK1.out.size; omega)
   rw [List.length_replicate, HZL.out] at hmS
   have HMT : Hid (MarkP Q S (t + 1) (t + 1) (List.replicate (t + 1) false)) := mark_top HQ.out HRISE.out
   have HSA : Hid (∀ j, j < t + 1 → (setAll (List.replicate (t + 1) false) S).getD j false = decide (j ∈ S)) := fun j hj => by rw [setAll_at _ _ j (by simpa using hj), rep_at, Bool.false_or]
   go_wp2_with (first | (go_at_call 61; refine hmS.mono ?_; rintro e w2 ⟨rfl, hb2, hk2⟩; clear hmS))
   have HS2 : Hid (Bk w2 bs (setAll (List.replicate (t + 1) false) S)) := hb2
   have HL2 : Hid (Bk w2 bl (List.replicate (t + 1) false)) := HLB.out.same (hk2.block bl huL (fun e => hsl e.symm))
   have HK2 : Hid (Keep (fun k => W0.heap.size ≤ k) W0 w2) := HK1.out.trans hk2 (fun i _ e => by omega)
   have hu2 := hk2.size
   clear hb2 hk2 HSB HLB
   obtain ⟨B, hB⟩ : ∃ B, w2.heap.size = B := ⟨_, rfl⟩
   have HBB : Hid (w2.heap.size = B) := hB
   have hBs : bs < B := by omega
   have hBl : bl < B := by omega
   clear hB
   go_loopw [8, 9] (fun v i wr => ∃ (k : Nat) (C : List Bool), k ≤ t + 1 ∧ i = .int .i64 ((k : Int) - 1) ∧ Bk wr bl C ∧ Hid (MarkP Q S (t + 1) k C) ∧ wr.ownsRow B 3 1 v (zs (downsT Q S (t + 1) (t + 1 - k))).length ((zs (downsT Q S (t + 1) (t + 1 - k))).map (Value.int .i64)) ∧ Keep (· = bl) w2 wr) (fun _ i _ => (intOf i + 1).toNat)
   case atStart =>
    refine ⟨t + 1, _, Nat.le_refl _, by rw [show ((t + 1 : Nat) : Int) - 1 = (t : Int) by omega], HL2.out, HMT, ?_, Keep.refl _ _⟩
    rw [Nat.sub_self]
    exact World.ownsRow_nil _ _ _ _
   case round =>
    clear HL2 HMT
    obtain ⟨k, C, hk, rfl, hC, HM, hown, hkp⟩ := hrel
    have hsz := hkp.size
    have HKW : Hid (Keep (fun k => W0.heap.size ≤ k) W0 wr) := HK2.out.trans hkp (fun i _ e => by omega)
    cases k with
    | zero =>
     have hdl := downs_len Q S (t + 1) (t + 1 - 0)
     have hrev := reverse_own wr hown (by rw [zs_len]; omega)
     have HE : Hid ((zs (downsT Q S (t + 1) (t + 1 - 0))).reverse = zs (chT Q S)) := by show _ = _; rw [← downs_all HQ.out HRISE.out]; simp [zs]
     generalize zs (downsT Q S (t + 1) (t + 1 - 0)) = D at *
     go_wp2_with (first | (go_at_call 62; refine hrev.mono ?_; rintro e w3 ⟨rfl, ho3, hg3⟩))
     go_ret
     have hk3 : Keep (fun k => W0.heap.size ≤ k) W0 w3 := HKW.out.trans (Keep.of_grown (S := fun k => W0.heap.size ≤ k) hg3 fun k _ e => by have := (hown.lt k e).1; omega) fun _ _ h => h
     have ho4 := own_len (m := D.reverse.length) ho3 (by rw [List.length_reverse])
     rw [HE.out] at ho4
     exact RowP.of_own ho4 (by have := HBB.out; have := HK2.out.size; have := hb0.size; omega) (belowP hb0 (hk3.below (Nat.le_refl _) fun k hk => by omega))
    | succ j =>
     have hj : j < t + 1 := by omega
     have ei : ((j + 1 : Nat) : Int) - 1 = (j : Int) := by omega
     rw [ei]
     have HSELF : Hid (C.getD j false = true ↔ Lead Q S j) := mark_self HQ.out HM.out hj
     have HCL : Hid (C.length = t + 1) := HM.out.1
     have hcS : wr.cell? ⟨bs, j, none⟩ = some (.bool (decide (j ∈ S))) := by
      rw [← HSA.out j hj]
      exact ((HS2.out.same (hkp.block bs (by have := HBB.out; omega) hsl)) : Bk wr bs _).cell j (by rw [setAll_len]; simpa using hj)
     have hcL := hC.cell j (by rw [HCL.out]; exact hj)
     have hca := HBLK.out wr HKW.out
     obtain ⟨ada, p1, c1, hqa, hadl, hcr, hrr⟩ := (HAU.out wr HKW.out).at j (by rw [HAUL.out]; omega)
     rw [← HPAR.out j] at hcr hrr
     have hpl := HPL.out j
     have HMARK : Hid (∀ X C', Keep (fun k => W0.heap.size ≤ k) wr X → Bk X bl C' → C'.length = t + 1 → Calls Tryz.prog 61 #[.slice (some ⟨bl, 0, none⟩) (t + 1) (t + 1), .slice p1 (zs (par Q j)).length c1] X fun e w' => e = .returned (.tuple #[]) ∧ Bk w' bl (setAll C' (par Q j)) ∧ Keep (· = bl) X w') := fun X C' hX hbX hCl => by
      have := mark_any (O := (· < W0.heap.size)) C' bl (t + 1) (par Q j) p1 c1 X hbX (by omega) (hrr.same (Same.of_keep hX fun k hk => ⟨by have := HKW.out.size; omega, by omega⟩)) (by omega) (fun x hx => by rw [hCl]; have := HQ.out j x hx; omega) (by omega) (by omega) (fun _ k hk => by have := HKW.out.size; have := hX.size; omega)
      rw [hCl] at this
      exact this
     have HNX := downs_next (Q := Q) (S := S) (m := t + 1) (j := j) hj
     have HYES : Hid (j ∈ S ∨ Lead Q S j → MarkP Q S (t + 1) j (setAll C (par Q j))) := fun h => mark_yes HQ.out HM.out hj h
     have HNO : Hid (¬ (j ∈ S ∨ Lead Q S j) → MarkP Q S (t + 1) j C) := fun h => mark_no HM.out h
     have hdl := downs_len Q S (t + 1) (t + 1 - (j + 1))
     have hjm : (j : Int) - 1 = ((j : Nat) : Int) - 1 := rfl
     generalize hra : (zs (par Q j)).length = ra at *
     generalize downsT Q S (t + 1) (t + 1 - (j + 1)) = DD at *
     clear hrr hra
     by_cases hld : Lead Q S j
     · have HD : Hid (downsT Q S (t + 1) (t + 1 - j) = DD ++ [j]) := HNX.1 hld
       have HY : Hid (MarkP Q S (t + 1) j (setAll C (par Q j))) := HYES.out (.inr hld)
       rw [HSELF.out.2 hld] at hcL
       clear HNX HYES HNO HSELF hcS
       have hzl2 : (zs (DD)).length ≤ 30 := by rw [zs_len]; omega
       go_upto_region 12 with (first
        | (at_builtin; refine wpList_push rfl (.tmp 37) (.tmp 39) 28 3 (.int .i64 0) 8 rfl Tryz.underlying28 Tryz.info3 rfl (by decide) int_one B _ (zs (DD)) rfl ?a0 _ (j : Int) rfl ?a1 ?a2 ?a3 ?_))
       case a0 => exact hown.alloc _
       case a2 => omega
       case a3 => have := HBB.out; simp; omega
       intro v' w5 ho5 hg5 _
       have ho6 := own_snoc ho5
       have hk5 : Keep (fun k => W0.heap.size ≤ k ∧ k ≠ bl) wr w5 := ((Keep.refl _ wr).alloc _).trans (Keep.of_grown (S := fun k => W0.heap.size ≤ k ∧ k ≠ bl) hg5 fun k _ e => by have := (hown.lt k e).1; have := HBB.out; have := HK2.out.size; exact ⟨by omega, by omega⟩) fun _ _ h => h
       have hk5a : Keep (fun k => W0.heap.size ≤ k) wr w5 := hk5.mono fun _ _ h => h.1
       have hk5b : Keep (· = bl) w2 w5 := hkp.trans (((Keep.refl (fun k => B ≤ k) wr).alloc _).trans (Keep.of_grown (S := fun k => B ≤ k) hg5 fun k _ e => (hown.lt k e).1) fun _ _ h => h) fun i hi e => by have := HBB.out; omega
       have hC5 : Bk w5 bl C := hC.same (hk5.block bl (obj_lt hC) (fun h => h.2 rfl))
       have hcL5 := (World.cell?_of_block (a := ⟨bl, j, none⟩) (hk5.block bl (obj_lt hC) (fun h => h.2 rfl))).trans hcL
       have hca5 := HBLK.out w5 (HKW.out.trans hk5a fun _ _ h => h)
       have hcr5 : w5.cell? (ada.add j) = some (.slice p1 ra c1) := by
        have hlt9 : ada.block < W0.heap.size := hadl
        exact (World.cell?_of_block (hk5a.block _ (by rw [add_block]; have := HKW.out.size; have : ada.block < W0.heap.size := hlt9; omega) (by rw [add_block]; have : ada.block < W0.heap.size := hlt9; omega))).trans hcr
       have hM := HMARK.out w5 C hk5a hC5 HCL.out
       clear ho5 hg5 hcL hca hcr hown hC hkp HKW hk5 hk5a
       go_wp2_with (first | (go_at_call 61; refine hM.mono ?_; rintro e w6 ⟨rfl, hb6, hk6⟩; clear hM))
       have ho7 : w6.ownsRow B 3 1 v' _ _ := own_same ho6 (Same.of_keep hk6 fun k e => ⟨(ho6.lt k e).2, by have := (ho6.lt k e).1; omega⟩)
       go_roundw
       case rel =>
        refine ⟨j, _, by omega, by go_num, hb6, HY, ?_, hk5b.trans hk6 fun _ _ h => h⟩
        rw [HD.out, show zs (DD ++ [j]) = zs (DD) ++ [(j : Int)] by simp [zs]]
        exact ho7
       case measure => simp [intOf]; try omega
     · have HD : Hid (downsT Q S (t + 1) (t + 1 - j) = DD) := HNX.2 hld
       have hcf : C.getD j false = false := by cases h : C.getD j false; rfl; exact absurd (HSELF.out.1 h) hld
       rw [hcf] at hcL
       clear HNX HSELF hcf
       by_cases hjs : j ∈ S
       · have HY : Hid (MarkP Q S (t + 1) j (setAll C (par Q j))) := HYES.out (.inl hjs)
         rw [decide_eq_true hjs] at hcS
         have hM := HMARK.out wr C (Keep.refl _ _) hC HCL.out
         clear HYES HNO hjs
         go_wp2_with (first | (go_at_call 61; refine hM.mono ?_; rintro e w6 ⟨rfl, hb6, hk6⟩; clear hM))
         have ho7 := own_same hown (Same.of_keep hk6 fun k e => ⟨(hown.lt k e).2, by have := (hown.lt k e).1; omega⟩)
         go_roundw
         case rel => exact ⟨j, _, by omega, by go_num, hb6, HY, by rw [HD.out]; exact ho7, hkp.trans hk6 fun _ _ h => h⟩
         case measure => simp [intOf]; try omega
       · have HY : Hid (MarkP Q S (t + 1) j C) := HNO.out (fun h => h.elim hjs hld)
         rw [decide_eq_false hjs] at hcS
         clear HYES HNO hjs HMARK
         go_wp2
         go_roundw
         case rel => exact ⟨j, C, by omega, by go_num, hC, HY, by rw [HD.out]; exact hown, hkp⟩
         case measure => simp [intOf]; try omega
 · generalize w.heap.size + 1 + 1 = bs at *
   generalize w.heap.size + 1 = bl at *
   have HSB : Hid (Bk W1 bs (List.replicate (t + 1) false)) := hB2
   have HLB : Hid (Bk W1 bl (List.replicate (t + 1) false)) := hB1
   have hsl : bs ≠ bl := fun e => hne1 e.symm
   have hlS : W0.heap.size ≤ bs := hl2
   have hlL : W0.heap.size ≤ bl := hl1
   have huS : bs < W1.heap.size := hu2
   have huL : bl < W1.heap.size := hu1
   clear hB1 hB2 hne1 hl1 hl2 hu1 hu2 hs0 hs1'
   have hOb : ∀ k, O k → k < W0.heap.size := fun k hk => Nat.lt_of_lt_of_le (hO k hk) hb0.size
   have hmS := mark_any (O := O) (List.replicate (t + 1) false) bs (t + 1) S (some ad) cl W1 HSB.out (by simp) (HR.out W1 HK1.out) (fun h => by have := hOb _ h; omega) (by simpa using HRISE.out) (by simp; omega) (by rw [HSL.out]; omega) (fun _ k hk => by have := hOb k hk; have := HK1.out.size; omega)
   rw [List.length_replicate, HZL.out] at hmS
   have HMT : Hid (MarkP Q S (t + 1) (t + 1) (List.replicate (t + 1) false)) := mark_top HQ.out HRISE.out
   have HSA : Hid (∀ j, j < t + 1 → (setAll (List.replicate (t + 1) false) S).getD j false = decide (j ∈ S)) := fun j hj => by rw [setAll_at _ _ j (by simpa using hj), rep_at, Bool.false_or]
   go_wp2_with (first | (go_at_call 61; refine hmS.mono ?_; rintro e w2 ⟨rfl, hb2, hk2⟩; clear hmS))
   have HS2 : Hid (Bk w2 bs (setAll (List.replicate (t + 1) false) S)) := hb2
   have HL2 : Hid (Bk w2 bl (List.replicate (t + 1) false)) := HLB.out.same (hk2.block bl huL (fun e => hsl e.symm))
   have HK2 : Hid (Keep (fun k => W0.heap.size ≤ k) W0 w2) := HK1.out.trans hk2 (fun i _ e => by omega)
   have hu2 := hk2.size
   clear hb2 hk2 HSB HLB
   obtain ⟨B, hB⟩ : ∃ B, w2.heap.size = B := ⟨_, rfl⟩
   have HBB : Hid (w2.heap.size = B) := hB
   have hBs : bs < B := by omega
   have hBl : bl < B := by omega
   clear hB
   go_loopw [8, 9] (fun v i wr => ∃ (k : Nat) (C : List Bool), k ≤ t + 1 ∧ i = .int .i64 ((k : Int) - 1) ∧ Bk wr bl C ∧ Hid (MarkP Q S (t + 1) k C) ∧ wr.ownsRow B 3 1 v (zs (downsT Q S (t + 1) (t + 1 - k))).length ((zs (downsT Q S (t + 1) (t + 1 - k))).map (Value.int .i64)) ∧ Keep (· = bl) w2 wr) (fun _ i _ => (intOf i + 1).toNat)
   case atStart =>
    refine ⟨t + 1, _, Nat.le_refl _, by rw [show ((t + 1 : Nat) : Int) - 1 = (t : Int) by omega], HL2.out, HMT, ?_, Keep.refl _ _⟩
    rw [Nat.sub_self]
    exact World.ownsRow_nil _ _ _ _
   case round =>
    clear HL2 HMT
    obtain ⟨k, C, hk, rfl, hC, HM, hown, hkp⟩ := hrel
    have hsz := hkp.size
    have HKW : Hid (Keep (fun k => W0.heap.size ≤ k) W0 wr) := HK2.out.trans hkp (fun i _ e => by omega)
    cases k with
    | zero =>
     have hdl := downs_len Q S (t + 1) (t + 1 - 0)
     have hrev := reverse_own wr hown (by rw [zs_len]; omega)
     have HE : Hid ((zs (downsT Q S (t + 1) (t + 1 - 0))).reverse = zs (chT Q S)) := by show _ = _; rw [← downs_all HQ.out HRISE.out]; simp [zs]
     generalize zs (downsT Q S (t + 1) (t + 1 - 0)) = D at *
     go_wp2_with (first | (go_at_call 62; refine hrev.mono ?_; rintro e w3 ⟨rfl, ho3, hg3⟩))
     go_ret
     have hk3 : Keep (fun k => W0.heap.size ≤ k) W0 w3 := HKW.out.trans (Keep.of_grown (S := fun k => W0.heap.size ≤ k) hg3 fun k _ e => by have := (hown.lt k e).1; omega) fun _ _ h => h
     have ho4 := own_len (m := D.reverse.length) ho3 (by rw [List.length_reverse])
     rw [HE.out] at ho4
     exact RowP.of_own ho4 (by have := HBB.out; have := HK2.out.size; have := hb0.size; omega) (belowP hb0 (hk3.below (Nat.le_refl _) fun k hk => by omega))
    | succ j =>
     have hj : j < t + 1 := by omega
     have ei : ((j + 1 : Nat) : Int) - 1 = (j : Int) := by omega
     rw [ei]
     have HSELF : Hid (C.getD j false = true ↔ Lead Q S j) := mark_self HQ.out HM.out hj
     have HCL : Hid (C.length = t + 1) := HM.out.1
     have hcS : wr.cell? ⟨bs, j, none⟩ = some (.bool (decide (j ∈ S))) := by
      rw [← HSA.out j hj]
      exact ((HS2.out.same (hkp.block bs (by have := HBB.out; omega) hsl)) : Bk wr bs _).cell j (by rw [setAll_len]; simpa using hj)
     have hcL := hC.cell j (by rw [HCL.out]; exact hj)
     have hca := HBLK.out wr HKW.out
     obtain ⟨ada, p1, c1, hqa, hadl, hcr, hrr⟩ := (HAU.out wr HKW.out).at j (by rw [HAUL.out]; omega)
     rw [← HPAR.out j] at hcr hrr
     have hpl := HPL.out j
     have HMARK : Hid (∀ X C', Keep (fun k => W0.heap.size ≤ k) wr X → Bk X bl C' → C'.length = t + 1 → Calls Tryz.prog 61 #[.slice (some ⟨bl, 0, none⟩) (t + 1) (t + 1), .slice p1 (zs (par Q j)).length c1] X fun e w' => e = .returned (.tuple #[]) ∧ Bk w' bl (setAll C' (par Q j)) ∧ Keep (· = bl) X w') := fun X C' hX hbX hCl => by
      have := mark_any (O := (· < W0.heap.size)) C' bl (t + 1) (par Q j) p1 c1 X hbX (by omega) (hrr.same (Same.of_keep hX fun k hk => ⟨by have := HKW.out.size; omega, by omega⟩)) (by omega) (fun x hx => by rw [hCl]; have := HQ.out j x hx; omega) (by omega) (by omega) (fun _ k hk => by have := HKW.out.size; have := hX.size; omega)
      rw [hCl] at this
      exact this
     have HNX := downs_next (Q := Q) (S := S) (m := t + 1) (j := j) hj
     have HYES : Hid (j ∈ S ∨ Lead Q S j → MarkP Q S (t + 1) j (setAll C (par Q j))) := fun h => mark_yes HQ.out HM.out hj h
     have HNO : Hid (¬ (j ∈ S ∨ Lead Q S j) → MarkP Q S (t + 1) j C) := fun h => mark_no HM.out h
     have hdl := downs_len Q S (t + 1) (t + 1 - (j + 1))
     have hjm : (j : Int) - 1 = ((j : Nat) : Int) - 1 := rfl
     generalize hra : (zs (par Q j)).length = ra at *
     generalize downsT Q S (t + 1) (t + 1 - (j + 1)) = DD at *
     clear hrr hra
     by_cases hld : Lead Q S j
     · have HD : Hid (downsT Q S (t + 1) (t + 1 - j) = DD ++ [j]) := HNX.1 hld
       have HY : Hid (MarkP Q S (t + 1) j (setAll C (par Q j))) := HYES.out (.inr hld)
       rw [HSELF.out.2 hld] at hcL
       clear HNX HYES HNO HSELF hcS
       have hzl2 : (zs (DD)).length ≤ 30 := by rw [zs_len]; omega
       go_upto_region 12 with (first
        | (at_builtin; refine wpList_push rfl (.tmp 37) (.tmp 39) 28 3 (.int .i64 0) 8 rfl Tryz.underlying28 Tryz.info3 rfl (by decide) int_one B _ (zs (DD)) rfl ?b0 _ (j : Int) rfl ?b1 ?b2 ?b3 ?_))
       case b0 => exact hown.alloc _
       case b2 => omega
       case b3 => have := HBB.out; simp; omega
       intro v' w5 ho5 hg5 _
       have ho6 := own_snoc ho5
       have hk5 : Keep (fun k => W0.heap.size ≤ k ∧ k ≠ bl) wr w5 := ((Keep.refl _ wr).alloc _).trans (Keep.of_grown (S := fun k => W0.heap.size ≤ k ∧ k ≠ bl) hg5 fun k _ e => by have := (hown.lt k e).1; have := HBB.out; have := HK2.out.size; exact ⟨by omega, by omega⟩) fun _ _ h => h
       have hk5a : Keep (fun k => W0.heap.size ≤ k) wr w5 := hk5.mono fun _ _ h => h.1
       have hk5b : Keep (· = bl) w2 w5 := hkp.trans (((Keep.refl (fun k => B ≤ k) wr).alloc _).trans (Keep.of_grown (S := fun k => B ≤ k) hg5 fun k _ e => (hown.lt k e).1) fun _ _ h => h) fun i hi e => by have := HBB.out; omega
       have hC5 : Bk w5 bl C := hC.same (hk5.block bl (obj_lt hC) (fun h => h.2 rfl))
       have hcL5 := (World.cell?_of_block (a := ⟨bl, j, none⟩) (hk5.block bl (obj_lt hC) (fun h => h.2 rfl))).trans hcL
       have hca5 := HBLK.out w5 (HKW.out.trans hk5a fun _ _ h => h)
       have hcr5 : w5.cell? (ada.add j) = some (.slice p1 ra c1) := by
        have hlt9 : ada.block < W0.heap.size := hadl
        exact (World.cell?_of_block (hk5a.block _ (by rw [add_block]; have := HKW.out.size; have : ada.block < W0.heap.size := hlt9; omega) (by rw [add_block]; have : ada.block < W0.heap.size := hlt9; omega))).trans hcr
       have hM := HMARK.out w5 C hk5a hC5 HCL.out
       clear ho5 hg5 hcL hca hcr hown hC hkp HKW hk5 hk5a
       go_wp2_with (first | (go_at_call 61; refine hM.mono ?_; rintro e w6 ⟨rfl, hb6, hk6⟩; clear hM))
       have ho7 : w6.ownsRow B 3 1 v' _ _ := own_same ho6 (Same.of_keep hk6 fun k e => ⟨(ho6.lt k e).2, by have := (ho6.lt k e).1; omega⟩)
       go_roundw
       case rel =>
        refine ⟨j, _, by omega, by go_num, hb6, HY, ?_, hk5b.trans hk6 fun _ _ h => h⟩
        rw [HD.out, show zs (DD ++ [j]) = zs (DD) ++ [(j : Int)] by simp [zs]]
        exact ho7
       case measure => simp [intOf]; try omega
     · have HD : Hid (downsT Q S (t + 1) (t + 1 - j) = DD) := HNX.2 hld
       have hcf : C.getD j false = false := by cases h : C.getD j false; rfl; exact absurd (HSELF.out.1 h) hld
       rw [hcf] at hcL
       clear HNX HSELF hcf
       by_cases hjs : j ∈ S
       · have HY : Hid (MarkP Q S (t + 1) j (setAll C (par Q j))) := HYES.out (.inl hjs)
         rw [decide_eq_true hjs] at hcS
         have hM := HMARK.out wr C (Keep.refl _ _) hC HCL.out
         clear HYES HNO hjs
         go_wp2_with (first | (go_at_call 61; refine hM.mono ?_; rintro e w6 ⟨rfl, hb6, hk6⟩; clear hM))
         have ho7 := own_same hown (Same.of_keep hk6 fun k e => ⟨(hown.lt k e).2, by have := (hown.lt k e).1; omega⟩)
         go_roundw
         case rel => exact ⟨j, _, by omega, by go_num, hb6, HY, by rw [HD.out]; exact ho7, hkp.trans hk6 fun _ _ h => h⟩
         case measure => simp [intOf]; try omega
       · have HY : Hid (MarkP Q S (t + 1) j C) := HNO.out (fun h => h.elim hjs hld)
         rw [decide_eq_false hjs] at hcS
         clear HYES HNO hjs HMARK
         go_wp2
         go_roundw
         case rel => exact ⟨j, C, by omega, by go_num, hC, HY, by rw [HD.out]; exact hown, hkp⟩
         case measure => simp [intOf]; try omega
theorem chain_any {O : Nat → Prop} {w : World} {p : Pa} {q : Pq} {S : List Nat} {pl : Option Addr} {cl : Nat} (h : IsPa (· < w.heap.size) w p q) (hz : SzPa p) (hr : backT p.auth p.evs.length = true) (hl : RdI O w pl cl (zs S)) (hO : ∀ k, O k → k < w.heap.size) (hS : S.Pairwise (· < ·)) (hb : ∀ x ∈ S, x < p.evs.length) :
    Calls Tryz.prog 33 #[valPa p q, .slice pl (zs S).length cl] w (RowP (zs (chT (toQ p.auth) S)) w) := by
 by_cases hne : S = []
 · subst hne
   rw [cht_nil]
   exact chain_nil
 · exact chain_some h hz hr hl hO hS hb hne
end Go.Proofs.YtimhpglfolbomabGreat.Od
namespace Go.Proofs.YtimhpglfolbomabGreat.Od
open Go.RowKit Go.Maps
structure SzEs (p : Pa) : Prop where
 ev : ∀ e ∈ p.evs, SzE e
def evT (p : Pa) (i : Nat) : Ev := p.evs.getD i Ev.zero
def leansT (p : Pa) (i : Nat) (kind : ByteArray) : Option Nat := (par (toQ p.auth) i).find? fun j => isT (evT p j) kind
theorem leans_mem {p : Pa} {i j : Nat} {kind : ByteArray} (h : leansT p i kind = some j) : j ∈ par (toQ p.auth) i := List.mem_of_find?_eq_some h
def levelT (p : Pa) (i : Nat) : Int :=
 match leansT p i tPower with
 | some j => if (parseT (ordT (evT p j).content)).2 = 0 then usr (parseT (ordT (evT p j).content)).1 (evT p i).sender else 0
 | none => match leansT p i tCreate with
  | some j => usr (startL (evT p j).sender) (evT p i).sender
  | none => 0
def leanV : Option Nat → Ending
 | some j => .returned (.tuple #[.int .i64 (j : Int), .bool true])
 | none => .returned (.tuple #[.int .i64 0, .bool false])
theorem find_none {f : Nat → Bool} {l : List Nat} {k : Nat} (h : (l.take k).find? f = none) (hk : k < l.length) (he : f (l.getD k 0) = false) : (l.take (k + 1)).find? f = none := by
 rw [take_snoc l k 0 hk, List.find?_append, h, List.find?_cons, he]
 rfl
theorem find_some {f : Nat → Bool} {l : List Nat} {k : Nat} (h : (l.take k).find? f = none) (hk : k < l.length) (he : f (l.getD k 0) = true) : l.find? f = some (l.getD k 0) := by
 have e : l = l.take k ++ l.getD k 0 :: l.drop (k + 1) := by
  conv => lhs; rw [← List.take_append_drop k l]
  rw [getD_in hk, List.drop_eq_getElem_cons hk]
 conv => lhs; rw [e, List.find?_append, h, List.find?_cons, he]
 rfl
theorem row_at {O : Nat → Prop} {w : World} {p : Pa} {a : Option Addr} {c : Nat} (h : RdR O w a c p.auth) (hr : backT p.auth p.evs.length = true) {i : Nat} (hi : i < p.evs.length) :
    ∃ ad p1 c1, a = some ad ∧ O ad.block ∧ w.cell? (ad.add i) = some (.slice p1 (par (toQ p.auth) i).length c1) ∧ RdI O w p1 c1 (zs (par (toQ p.auth) i)) ∧ (∀ x ∈ par (toQ p.auth) i, x < i) := by
 obtain ⟨hI, hQ, hA⟩ := back_of hr
 obtain ⟨ad, p1, c1, h1, h2, h3, h4⟩ := h.at i (by omega)
 rw [← par_toQ hI i] at h3 h4
 rw [zs_len] at h3
 exact ⟨ad, p1, c1, h1, h2, h3, h4, hQ i⟩
theorem row_len {p : Pa} (hz : SzPa p) (hr : backT p.auth p.evs.length = true) {i : Nat} (hi : i < p.evs.length) : (par (toQ p.auth) i).length ≤ 30 := by
 obtain ⟨hI, hQ, hA⟩ := back_of hr
 have h1 := par_toQ hI i
 have h2 : (par (toQ p.auth) i).length = (p.auth.getD i []).length := by rw [← h1, zs_len]
 rw [h2]
 exact hz.auths _ (getD_inm (by omega))
theorem leansOn_any {w : World} {p : Pa} {q : Pq} (h : IsPa (· < w.heap.size) w p q) (hz : SzPa p) (hr : backT p.auth p.evs.length = true) (i : Nat) (hi : i < p.evs.length) (kind : ByteArray) :
    Calls Tryz.prog 56 #[valPa p q, .int .i64 (i : Int), .string kind] w fun e w' => e = leanV (leansT p i kind) ∧ Below w.heap.size w w' := by
 obtain ⟨W0, hW0⟩ : ∃ W0, W0 = w.alloc (.cells (cellsPa p q).toArray 27) := ⟨_, rfl⟩
 have hb0 : Below w.heap.size w W0 := by rw [hW0]; exact (Below.refl _ _).alloc (Nat.le_refl _) _
 have V : IsVP W0 w.heap.size p q := by rw [hW0]; exact isVP_new h
 have c1 := V.c1; have c3 := V.c3
 obtain ⟨ad, p1, k1, hqa, _, hcr, hrr, hlt⟩ := row_at V.pa.auth hr hi
 have hrl := row_len hz hr hi
 have HLT : Hid (∀ x ∈ par (toQ p.auth) i, x < i) := hlt
 have HEV : Hid (∀ j, j < p.evs.length → ∃ b o q', q.e = some ⟨b, o, none⟩ ∧ W0.cell? ⟨b, o + j * 16 + 1, none⟩ = some (.string (evT p j).typ) ∧ W0.cell? ⟨b, o + j * 16 + 3, none⟩ = some (.bool (evT p j).st) ∧ W0.cell? ⟨b, o + j * 16 + 4, none⟩ = some (.string (evT p j).key) ∧ IsE (· < W0.heap.size) W0 (evT p j) q') := fun j hj => by
  obtain ⟨b, o, q', h1, _, h3, h4⟩ := V.pa.evs.2 j hj
  exact ⟨b, o, q', h1, h3 1 _ rfl, h3 3 _ rfl, h3 4 _ rfl, h4⟩
 have HF : Hid (leansT p i kind = (par (toQ p.auth) i).find? fun j => isT (evT p j) kind) := rfl
 have hel := V.pa.evs.1
 have hzl := zs_len (par (toQ p.auth) i)
 have hen := hz.evs
 rw [hqa, (back_of hr).2.2] at c3
 generalize toQ p.auth = Q at *
 generalize p.evs.length = n1 at *
 obtain ⟨m, hm⟩ : ∃ m, (par Q i).length = m := ⟨_, rfl⟩
 have HM : Hid ((par Q i).length = m) := hm
 have hcm := hrr.1
 rw [hm] at hcr hrl hzl
 rw [hzl] at hcm
 clear hm V h hz hr hlt hqa
 unfold valPa
 generalize hCP : cellsPa p q = CP at *
 clear hCP
 go_enter Tryz.func56, Tryz.ntmps56
 go_upto_region 1 with fail
 rw [← hW0]
 clear hW0
 go_wp2
 go_loopw [16] (fun v wr => ∃ k : Nat, k ≤ m ∧ v = .int .i64 k ∧ wr = W0 ∧ Hid (((par Q i).take k).find? (fun j => isT (evT p j) kind) = none)) (fun v _ => m - (intOf v).toNat)
 case atStart => exact ⟨0, Nat.zero_le _, rfl, rfl, by show _ = _; simp⟩
 case round =>
  obtain ⟨k, hk, rfl, rfl, HN⟩ := hrel
  by_cases hlt : k < m
  · have hkl : k < (par Q i).length := by rw [HM.out]; exact hlt
    obtain ⟨ad2, rfl, _, hcj⟩ := hrr.at k 0 (by rw [hzl]; exact hlt)
    rw [zs_getD] at hcj
    have hx := HLT.out _ (getD_inm (d := 0) hkl)
    have HN1 : Hid (isT (evT p ((par Q i).getD k 0)) kind = false → ((par Q i).take (k + 1)).find? (fun j => isT (evT p j) kind) = none) := fun h => find_none HN.out hkl h
    have HN2 : Hid (isT (evT p ((par Q i).getD k 0)) kind = true → (par Q i).find? (fun j => isT (evT p j) kind) = some ((par Q i).getD k 0)) := fun h => find_some HN.out hkl h
    generalize (par Q i).getD k 0 = x at *
    have hxn : x < n1 := by omega
    obtain ⟨b, o, q', hqe, e1, e3, e4, _⟩ := HEV.out x hxn
    have hI := isOf_any (w := wr) (b := b) (o := o + x * 16) (e := evT p x) kind e1 e3 e4
    rw [hqe] at c1
    clear e1 e3 e4
    cases hb : isT (evT p x) kind with
    | true =>
     rw [hb] at hI
     have HR : Hid (leansT p i kind = some x) := by show _ = _; rw [HF.out, HN2.out hb]
     clear HN1 HN2
     go_wp2_with (go_at_call 54; refine hI.mono ?_; rintro e w1 ⟨rfl, rfl⟩)
     go_ret2
     exact ⟨by rw [HR.out]; rfl, hb0⟩
    | false =>
     rw [hb] at hI
     have HN3 : Hid _ := HN1.out hb
     clear HN1 HN2
     go_wp2_with (go_at_call 54; refine hI.mono ?_; rintro e w1 ⟨rfl, rfl⟩)
     go_roundw
     case rel => exact ⟨k + 1, by omega, by go_num, by first | rfl | trivial, HN3⟩
     case measure => simp [intOf]; try omega
  · obtain rfl : k = m := by omega
    have HR : Hid (leansT p i kind = none) := by
     have := HN.out
     rw [← HM.out, List.take_length] at this
     show _ = _
     rw [HF.out, this]
    go_wp2
    go_ret2
    exact ⟨by rw [HR.out]; rfl, hb0⟩
theorem infoLv : (Tryz.prog.info? 89).map (·.size) = some 9 := by kernel_rfl
theorem szL_startK {s : ByteArray} (h : s.size ≤ 1000000000) : SzL (startL s) := ⟨⟨by simp, fun p hp => by simp at hp; subst hp; exact h⟩, ⟨by simp, fun p hp => by simp at hp⟩⟩
theorem level_any {w : World} {p : Pa} {q : Pq} (h : IsPa (· < w.heap.size) w p q) (hz : SzPa p) (hs : SzEs p) (hr : backT p.auth p.evs.length = true) (i : Nat) (hi : i < p.evs.length) :
    Calls Tryz.prog 31 #[valPa p q, .int .i64 (i : Int)] w fun e w' => e = .returned (.int .i64 (levelT p i)) ∧ Below w.heap.size w w' := by
 obtain ⟨W0, hW0⟩ : ∃ W0, W0 = w.alloc (.cells (cellsPa p q).toArray 27) := ⟨_, rfl⟩
 have hb0 : Below w.heap.size w W0 := by rw [hW0]; exact (Below.refl _ _).alloc (Nat.le_refl _) _
 have V : IsVP W0 w.heap.size p q := by rw [hW0]; exact isVP_new h
 have HV : Hid (∀ X, Below W0.heap.size W0 X → IsVP X w.heap.size p q) := fun X hX => V.below hX
 have HLD : Hid (∀ X, Below W0.heap.size W0 X → (Instr.loadAt 27 (.pointer (some ⟨w.heap.size, 0, none⟩))).run Tryz.prog X = .ok (.agg (cellsPa p q).toArray) X) := fun X hX => (V.below hX).load
 have HLN : Hid (∀ X kind, Below W0.heap.size W0 X → Calls Tryz.prog 56 #[.agg (cellsPa p q).toArray, .int .i64 (i : Int), .string kind] X fun e w' => e = leanV (leansT p i kind) ∧ Below X.heap.size X w') := fun X kind hX => leansOn_any (V.below hX).pa hz hr i hi kind
 have HIN : Hid (∀ kind j, leansT p i kind = some j → j < p.evs.length) := fun kind j hj => Nat.lt_trans ((back_of hr).2.1 i j (leans_mem hj)) hi
 have HSZ : Hid (∀ j, j < p.evs.length → SzE (evT p j)) := fun j hj => hs.ev _ (getD_inm hj)
 have HLV : Hid (levelT p i = match leansT p i tPower with
  | some j => if (parseT (ordT (evT p j).content)).2 = 0 then usr (parseT (ordT (evT p j).content)).1 (evT p i).sender else 0
  | none => match leansT p i tCreate with
   | some j => usr (startL (evT p j).sender) (evT p i).sender
   | none => 0) := rfl
 have hen := hz.evs
 obtain ⟨bi, oi, qi, hqe, _, hci, _⟩ := V.pa.evs.2 i hi
 have HCI : Hid (∀ X, Below W0.heap.size W0 X → ∀ j, j < p.evs.length → ∃ q', X.rangeAt bi (oi + j * 16) (cellsE (evT p j) q') ∧ IsE (· < X.heap.size) X (evT p j) q') := fun X hX j hj => by
  obtain ⟨b, o, q', h1, _, h3, h4⟩ := (V.below hX).pa.evs.2 j hj
  rw [hqe] at h1
  cases h1
  exact ⟨q', h3, h4⟩
 have HC1 : Hid (∀ X, Below W0.heap.size W0 X → X.cell? ⟨w.heap.size, 1, none⟩ = some (.slice (some ⟨bi, oi, none⟩) p.evs.length q.ce)) := fun X hX => by rw [← hqe]; exact (V.below hX).c1
 have d2 : W0.cell? ⟨bi, oi + i * 16 + 2, none⟩ = some (.string (evT p i).sender) := hci 2 _ rfl
 have c1 := HC1.out W0 (Below.refl _ _)
 have hel := V.pa.evs.1
 have hB0 : Below W0.heap.size W0 W0 := Below.refl _ _
 clear V h hz hs hr hci
 unfold valPa
 generalize p.evs.length = n1 at *
 generalize (evT p i).sender = snd at *
 generalize levelT p i = R at *
 generalize cellsPa p q = CP at *
 go_enter Tryz.func31, Tryz.ntmps31
 go_upto_region 1 with fail
 rw [← hW0]
 clear hW0
 have hL1 := HLN.out W0 tPower hB0
 cases hp : leansT p i tPower with
 | some j =>
  have hj := HIN.out _ _ hp
  rw [hp] at HLV hL1
  have HLV2 : Hid (R = if (parseT (ordT (evT p j).content)).2 = 0 then usr (parseT (ordT (evT p j).content)).1 snd else 0) := HLV.out
  simp only [leanV] at hL1
  clear HLV HLN HIN hp
  go_upto_region 4 with (first
   | (refine wpList_loadK rfl 27 _ rfl w.heap.size 0 rfl CP (HLD.out _ hB0) ?_)
   | (go_at_call 56; refine hL1.mono ?_; rintro e w1 ⟨rfl, hb1⟩; clear hL1))
  clear d2 c1
  have c1 := HC1.out w1 hb1
  obtain ⟨q', hcj, hEj⟩ := HCI.out w1 hb1 j hj
  have hcont := hEj.cont
  have e5 : w1.cell? ⟨bi, oi + j * 16 + 5, none⟩ = some (.int .i64 (evT p j).content.kind) := hcj 5 _ rfl
  have e6 : w1.cell? ⟨bi, oi + j * 16 + 5 + 1, none⟩ = some (.int .i64 (evT p j).content.int) := hcj 6 _ rfl
  have e7 : w1.cell? ⟨bi, oi + j * 16 + 5 + 2, none⟩ = some (.string (evT p j).content.text) := hcj 7 _ rfl
  have e8 : w1.cell? ⟨bi, oi + j * 16 + 5 + 3, none⟩ = some (.slice q'.pk (evT p j).content.keys.length q'.ck) := hcj 8 _ rfl
  have e9 : w1.cell? ⟨bi, oi + j * 16 + 5 + 4, none⟩ = some (.slice q'.pl (evT p j).content.list.length q'.cl) := hcj 9 _ rfl
  have hP := parse_any (O := (· < w1.heap.size)) (w := w1) (c := (evT p j).content) hcont (fun _ h => h) (HSZ.out j hj).cont
  have HSL : Hid (SzL (parseT (ordT (evT p j).content)).1) := parse_sz (HSZ.out j hj).cont
  have HE2 := parse_err (ordT (evT p j).content)
  clear hcj hEj hcont
  generalize parseT (ordT (evT p j).content) = PR at *
  obtain ⟨L, E⟩ := PR
  simp only at hP HSL HE2 HLV2
  generalize (evT p j).content.kind = k at *
  generalize (evT p j).content.int = ii at *
  generalize (evT p j).content.text = tt at *
  generalize (evT p j).content.keys.length = nk at *
  generalize (evT p j).content.list.length = nl at *
  go_upto_region 5 with (go_at_call 57; refine hP.mono ?_; rintro e w2 ⟨⟨⟨pu, pc, pt, pd⟩, rfl, hI2⟩, hb2⟩; simp only [valL, cellsL]; clear hP)
  obtain ⟨W2, hW2⟩ : ∃ W2, W2 = w2.alloc (.cells #[.int .i64 L.ban, .int .i64 L.kick, .int .i64 L.invite, .int .i64 L.redact, .int .i64 L.state, .int .i64 L.events, .int .i64 L.users, .slice pu L.byUser.length pc, .slice pt L.byType.length pd] 89) := ⟨_, rfl⟩
  have hbW2 : Below w2.heap.size w2 W2 := by rw [hW2]; exact (Below.refl _ _).alloc (Nat.le_refl _) _
  have hX2 : W2.heap[w2.heap.size]? = some (.cells (cellsL L ⟨pu, pc, pt, pd⟩).toArray 89 (0, 0)) := by rw [hW2]; exact heap_alloc_new _ _
  have hLL := run_loadAt_mid (P := Tryz.prog) W2 w2.heap.size 0 89 (cellsL L ⟨pu, pc, pt, pd⟩) _ (rangeK_of hX2) Tryz.underlying89 rfl infoLv
  have hU := user_lv (hI2.carry (O' := (· < W2.heap.size)) (w' := W2) fun b hb => ⟨Nat.lt_of_lt_of_le hb.2 hbW2.size, hbW2.block b hb.2⟩) (fun _ h => h) HSL.out snd
  unfold valL at hU
  rw [← hW2]
  clear hW2 e5 e6 e7 e8 e9 hI2 hX2 c1
  have hB3 : Below w.heap.size w W2 := belowP hb0 (belowP hb1 (belowP hb2 hbW2))
  rcases HE2 with rfl | rfl
  · go_wp2_with (first
      | (refine wpList_loadK rfl 89 _ rfl w2.heap.size 0 rfl (cellsL L ⟨pu, pc, pt, pd⟩) hLL ?_)
      | (go_at_call 58; refine hU.mono ?_; rintro e w3 ⟨rfl, hb3⟩))
    go_ret
    exact ⟨ret_int (by rw [HLV2.out]; rfl), belowP hB3 hb3⟩
  · go_wp2
    go_ret
    exact ⟨ret_int (by rw [HLV2.out]; rfl), hB3⟩
 | none =>
  rw [hp] at HLV hL1
  have HLV1 : Hid (R = match leansT p i tCreate with | some j => usr (startL (evT p j).sender) snd | none => 0) := HLV.out
  simp only [leanV] at hL1
  clear HLV hp
  go_upto_region 8 with (first
   | (refine wpList_loadK rfl 27 _ rfl w.heap.size 0 rfl CP (HLD.out _ hB0) ?_)
   | (go_at_call 56; refine hL1.mono ?_; rintro e w1 ⟨rfl, hb1⟩; clear hL1))
  clear d2 c1
  have c1 := HC1.out w1 hb1
  have hL2 := HLN.out w1 tCreate hb1
  cases hc : leansT p i tCreate with
  | some j =>
   have hj := HIN.out _ _ hc
   rw [hc] at HLV1 hL2
   have HLV2 : Hid (R = usr (startL (evT p j).sender) snd) := HLV1.out
   simp only [leanV] at hL2
   clear HLV1 HLN HIN hc
   go_upto_region 10 with (first
    | (refine wpList_loadK rfl 27 _ rfl w.heap.size 0 rfl CP (HLD.out _ hb1) ?_)
    | (go_at_call 56; refine hL2.mono ?_; rintro e w2 ⟨rfl, hb2⟩; clear hL2))
   clear c1
   have hB2 := belowP hb1 hb2
   have c1 := HC1.out w2 hB2
   obtain ⟨q', hcj, _⟩ := HCI.out w2 hB2 j hj
   have e2 : w2.cell? ⟨bi, oi + j * 16 + 2, none⟩ = some (.string (evT p j).sender) := hcj 2 _ rfl
   clear hcj
   have HSS : Hid (SzL (startL (evT p j).sender)) := szL_startK (HSZ.out j hj).sender
   generalize (evT p j).sender = sj at *
   have hSt := start_lv (w := w2) sj
   have HUS : Hid (∀ X pl, IsL (fun b => w2.heap.size ≤ b ∧ b < X.heap.size) X (startL sj) pl → Calls Tryz.prog 58 #[valL (startL sj) pl, .string snd] X fun e w' => e = .returned (.int .i64 (usr (startL sj) snd)) ∧ Below X.heap.size X w') := fun X pl hI => user_lv hI (fun _ h => h.2) HSS.out snd
   generalize startL sj = SL at *
   go_wp2_with (first
    | (go_at_call 59; refine hSt.mono ?_; rintro e w3 ⟨⟨pl, rfl, hI3⟩, hb3⟩; have hU := HUS.out w3 pl hI3; clear hSt)
    | (go_at_call 58; refine hU.mono ?_; rintro e w4 ⟨rfl, hb4⟩))
   go_ret
   exact ⟨ret_int HLV2.out.symm, belowP hb0 (belowP hB2 (belowP hb3 hb4))⟩
  | none =>
   rw [hc] at HLV1 hL2
   have HLV2 : Hid (R = 0) := HLV1.out
   simp only [leanV] at hL2
   clear HLV1 HLN HIN hc
   go_wp2_with (first
    | (refine wpList_loadK rfl 27 _ rfl w.heap.size 0 rfl CP (HLD.out _ hb1) ?_)
    | (go_at_call 56; refine hL2.mono ?_; rintro e w2 ⟨rfl, hb2⟩; clear hL2))
   go_ret
   exact ⟨ret_int HLV2.out.symm, belowP hb0 (belowP hb1 hb2)⟩
end Go.Proofs.YtimhpglfolbomabGreat.Od

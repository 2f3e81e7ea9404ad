/-
  Whether an event has a room, a type and a sender, and a key that may be: by contracts.
  Whether signatures may be: by a contract.
  Maps of signatures, as JSON: by a contract.
-/
import Derived.Test.YtldegjjaknelgaaGreatDoorAY21
set_option maxRecDepth 100000
set_option maxHeartbeats 16000000
namespace Go.Proofs.YtldegjjaknelgaaGreatDoor
open Go.RowKit
abbrev UTab (K : Nat) (w : World) : Prop := ∀ w', Below K w w' → Lib.Utf8Tabs (Tryz.laysValid_ren.g 3) (Tryz.laysValid_ren.g 4) w'
theorem belowIn {a b c : World} (h : Below a.heap.size a b) (g : Below b.heap.size b c) : Below a.heap.size a c := h.trans ⟨g.os, g.tape, g.output, g.size, fun k hk => g.block k (by have := h.size; omega)⟩
theorem UTab.below {w w' : World} (h : UTab w.heap.size w) (hb : Below w.heap.size w w') : UTab w'.heap.size w' := fun w2 h2 => h w2 (belowIn hb h2)
theorem nilS {t : ByteArray} : t.toList.isEmpty = decide (t.size = 0) := by
 rw [Lib.toList_data, Bool.eq_iff_iff, List.isEmpty_iff, decide_eq_true_eq, ← List.length_eq_zero_iff]
 rfl
theorem cells_new {w : World} {cs : List Value} {t : TypeId} (j : Nat) (v : Value) (h : cs[j]? = some v) : (w.alloc (.cells cs.toArray t)).cell? ⟨w.heap.size, j, none⟩ = some v := cell_row (heap_alloc_new _ _) j v h
theorem keyed_any (e : Ev) (p : Pt) (w : World) (hk : e.key.size ≤ 1000000000) (hT : UTab w.heap.size w) :
    Calls Tryz.prog 104 #[valE e p] w fun x w' => x = .returned (.bool (keyedE e)) ∧ Below w.heap.size w w' := by
 obtain ⟨room, typ, sender, st, key, ⟨k, i, t, ks, l⟩, prev, auth, depth, ts, hash, sigs⟩ := e
 obtain ⟨pk, ck, pl, cl, pp, cp, pa, ca, ps, cs⟩ := p
 simp only at hk
 have HR : Hid (∀ b, keyedE ⟨room, typ, sender, b, key, ⟨k, i, t, ks, l⟩, prev, auth, depth, ts, hash, sigs⟩ = if b = true then decide (key.size ≤ 128) && Lib.validD key.data.toList else decide (key.size = 0)) := fun _ => rfl
 simp only [valE, cellsE, J.kind, J.int, J.text, J.keys, J.list]
 obtain ⟨C, hC⟩ : ∃ C, C = Obj.cells #[.string room, .string typ, .string sender, .bool st, .string key, .int .i64 k, .int .i64 i, .string t, .slice pk ks.length ck, .slice pl l.length cl, .slice pp prev.length cp, .slice pa auth.length ca, .int .i64 depth, .int .i64 ts, .string hash, .slice ps sigs.length cs] 28 := ⟨_, rfl⟩
 have hbA : Below w.heap.size w (w.alloc C) := (Below.refl _ _).alloc (Nat.le_refl _) _
 have cV : Calls Tryz.prog 131 #[.string key] (w.alloc C) _ := Any.utf8_ValidString Tryz.laysValid key (w.alloc C) (by omega) (hT _ hbA)
 rw [hC] at cV hbA
 clear hC
 cases st with
 | false =>
  have h := HR.out false
  go_enter Tryz.func104, Tryz.ntmps104
  go_wp2
  go_ret
  refine ⟨ret_bool ?_, hbA⟩
  rw [h, if_neg (by decide)]
  exact nilS
 | true =>
  by_cases h1 : key.size ≤ 128
  · have h1i : (key.size : Int) ≤ 128 := by omega
    go_enter Tryz.func104, Tryz.ntmps104
    go_wp2_with (go_at_call 131; refine cV.mono ?_; rintro e w' ⟨rfl, hb⟩)
    go_ret
    refine ⟨ret_bool ?_, belowIn hbA hb⟩
    rw [HR.out, if_pos rfl, decide_eq_true h1, Bool.true_and]
  · have h1i : ¬ (key.size : Int) ≤ 128 := by omega
    go_enter Tryz.func104, Tryz.ntmps104
    go_wp2
    go_ret
    refine ⟨ret_bool ?_, hbA⟩
    rw [HR.out, if_pos rfl, decide_eq_false h1, Bool.false_and]
theorem placed_any (e : Ev) (p : Pt) (w : World) (h1 : e.room.size ≤ 1000000000) (h2 : e.sender.size ≤ 1000000000) (h3 : e.typ.size ≤ 1000000000) :
    Calls Tryz.prog 103 #[valE e p] w fun x w' => x = .returned (.bool (placedE e)) ∧ Below w.heap.size w w' := by
 obtain ⟨room, typ, sender, st, key, ⟨k, i, t, ks, l⟩, prev, auth, depth, ts, hash, sigs⟩ := e
 obtain ⟨pk, ck, pl, cl, pp, cp, pa, ca, ps, cs⟩ := p
 simp only at h1 h2 h3
 have HR : Hid (placedE ⟨room, typ, sender, st, key, ⟨k, i, t, ks, l⟩, prev, auth, depth, ts, hash, sigs⟩ = ((Id.parts 33 room).2.2 && (Id.parts 64 sender).2.2 && Id.typ typ)) := rfl
 simp only [valE, cellsE, J.kind, J.int, J.text, J.keys, J.list]
 obtain ⟨C, hC⟩ : ∃ C, C = Obj.cells #[.string room, .string typ, .string sender, .bool st, .string key, .int .i64 k, .int .i64 i, .string t, .slice pk ks.length ck, .slice pl l.length cl, .slice pp prev.length cp, .slice pa auth.length ca, .int .i64 depth, .int .i64 ts, .string hash, .slice ps sigs.length cs] 28 := ⟨_, rfl⟩
 have hbA : Below w.heap.size w (w.alloc C) := (Below.refl _ _).alloc (Nat.le_refl _) _
 have hcA : ∀ W, Below (w.alloc C).heap.size (w.alloc C) W → W.cell? ⟨w.heap.size, 2, none⟩ = some (.string sender) ∧ W.cell? ⟨w.heap.size, 1, none⟩ = some (.string typ) := fun W hW => by
  have hb := World.cell?_of_block (a := ⟨w.heap.size, 2, none⟩) (hW.block w.heap.size (by simp))
  have hb' := World.cell?_of_block (a := ⟨w.heap.size, 1, none⟩) (hW.block w.heap.size (by simp))
  rw [hb, hb', hC]
  exact ⟨cells_new (cs := [_, _, _, _, _, _, _, _, _, _, _, _, _, _, _, _]) 2 _ rfl, cells_new (cs := [_, _, _, _, _, _, _, _, _, _, _, _, _, _, _, _]) 1 _ rfl⟩
 have cR := Id.room_any room (w.alloc C) (by omega)
 have HCA : Hid (∀ W, Below (w.alloc C).heap.size (w.alloc C) W → W.cell? ⟨w.heap.size, 2, none⟩ = some (.string sender) ∧ W.cell? ⟨w.heap.size, 1, none⟩ = some (.string typ)) := hcA
 have HBA : Hid (Below w.heap.size w (w.alloc C)) := hbA
 clear hcA hbA
 unfold Id.told at cR
 generalize Id.parts 33 room = R at cR HR
 obtain ⟨r1, r2, r3⟩ := R
 have hu := fun W => Id.user_any sender W (by omega)
 unfold Id.told at hu
 generalize Id.parts 64 sender = U at hu HR
 obtain ⟨u1, u2, u3⟩ := U
 simp only at cR hu HR
 rw [hC] at cR HCA HBA
 clear hC
 go_enter Tryz.func103, Tryz.ntmps103
 cases r3 <;> cases u3
 all_goals
  go_wp2_with (first
   | (go_at_call 119; refine cR.mono ?_; rintro e w1 ⟨rfl, hb1⟩; have hs1 := (HCA.out w1 hb1).1; have hU := hu w1)
   | (go_at_call 84; refine hU.mono ?_; rintro e w2 ⟨rfl, hb2⟩; have hs2 := (HCA.out w2 (belowIn hb1 hb2)).2; have hTy := Id.type_any typ w2 (by omega))
   | (go_at_call 130; refine hTy.mono ?_; rintro e w3 ⟨rfl, hb3⟩))
  go_ret
 · exact ⟨ret_bool HR.out.symm, belowIn HBA.out (belowIn hb1 hb2)⟩
 · exact ⟨ret_bool HR.out.symm, belowIn HBA.out (belowIn hb1 hb2)⟩
 · exact ⟨ret_bool HR.out.symm, belowIn HBA.out (belowIn hb1 hb2)⟩
 · exact ⟨ret_bool HR.out.symm, belowIn HBA.out (belowIn hb1 (belowIn hb2 hb3))⟩
theorem geL_lt (a b : ByteArray) : Op.bytesLess a.toList b.toList = ltK a b := by
 rw [Lib.toList_data, Lib.toList_data]
 unfold ltK
 generalize a.data.toList = x
 generalize b.data.toList = y
 induction x generalizing y with
 | nil => cases y <;> simp [Op.bytesLess, lessB]
 | cons c x ih =>
  cases y with
  | nil => simp [Op.bytesLess, lessB]
  | cons d y =>
   unfold Op.bytesLess lessB
   rw [ih y]
   by_cases h1 : c < d
   · simp [h1]
   · by_cases h2 : c = d
     · subst h2; simp
     · simp [h1, h2]
theorem rise_at : ∀ (l : List (ByteArray × ByteArray)), riseS l = true ↔ ∀ j, 0 < j → j < l.length → ltK (l.getD (j - 1) (nix, nix)).1 (l.getD j (nix, nix)).1 = true
 | [] => ⟨fun _ j _ hj => absurd hj (by simp), fun _ => rfl⟩
 | [a] => ⟨fun _ j h0 hj => absurd hj (by simp; omega), fun _ => rfl⟩
 | a :: b :: r => by
  unfold riseS
  rw [Bool.and_eq_true, rise_at (b :: r)]
  constructor
  · rintro ⟨h1, h2⟩ j h0 hj
    match j, h0, hj with
    | 1, _, _ => simpa using h1
    | j + 2, _, hj =>
     have := h2 (j + 1) (by omega) (by simpa using hj)
     simpa using this
  · intro h
    refine ⟨by simpa using h 1 (by omega) (by simp), fun j h0 hj => ?_⟩
    have := h (j + 1) (by omega) (by simpa using hj)
    match j, h0 with
    | j + 1, _ => simpa using this
def sigOk (s : ByteArray × ByteArray) : Bool := Id.srv s.1 && digestE s.2
theorem signed_true {l : List (ByteArray × ByteArray)} (hl : l.length ≤ 4) (h : ∀ j, j < l.length → sigOk (l.getD j (nix, nix)) = true ∧ (0 < j → ltK (l.getD (j - 1) (nix, nix)).1 (l.getD j (nix, nix)).1 = true)) : signedE l = true := by
 unfold signedE
 rw [Bool.and_eq_true, Bool.and_eq_true, decide_eq_true_eq]
 refine ⟨⟨hl, ?_⟩, (rise_at l).2 fun j h0 hj => (h j hj).2 h0⟩
 rw [List.all_eq_true]
 intro x hx
 obtain ⟨j, hj, rfl⟩ := List.getElem_of_mem hx
 have := (h j hj).1
 rw [List.getD_eq_getElem?_getD, List.getElem?_eq_getElem hj] at this
 exact this
theorem signed_bad {l : List (ByteArray × ByteArray)} {j : Nat} (hj : j < l.length) (h : sigOk (l.getD j (nix, nix)) = false) : signedE l = false := by
 cases hs : signedE l with
 | false => rfl
 | true =>
  unfold signedE at hs
  rw [Bool.and_eq_true, Bool.and_eq_true, List.all_eq_true] at hs
  have := hs.1.2 (l.getD j (nix, nix)) (by rw [List.getD_eq_getElem?_getD, List.getElem?_eq_getElem hj]; exact List.getElem_mem _)
  unfold sigOk at h
  rw [h] at this
  cases this
theorem signed_unrise {l : List (ByteArray × ByteArray)} {j : Nat} (h0 : 0 < j) (hj : j < l.length) (h : ltK (l.getD (j - 1) (nix, nix)).1 (l.getD j (nix, nix)).1 = false) : signedE l = false := by
 cases hs : signedE l with
 | false => rfl
 | true =>
  unfold signedE at hs
  rw [Bool.and_eq_true] at hs
  rw [(rise_at l).1 hs.2 j h0 hj] at h
  cases h
theorem below_drewN {B : Nat} {a b : World} (h : Below B a b) (n : Nat) : Below B a (b.drewN n) := ⟨h.os, h.tape, h.output, h.size, h.block⟩
theorem pair_new {w : World} {a b : Value} {t : TypeId} {W : World} (hW : Below (w.alloc (.cells #[a, b] t)).heap.size (w.alloc (.cells #[a, b] t)) W) : W.cell? ⟨w.heap.size, 0, none⟩ = some a ∧ W.cell? ⟨w.heap.size, 1, none⟩ = some b := by
 have h0 := World.cell?_of_block (a := ⟨w.heap.size, 0, none⟩) (hW.block w.heap.size (by simp))
 have h1 := World.cell?_of_block (a := ⟨w.heap.size, 1, none⟩) (hW.block w.heap.size (by simp))
 rw [h0, h1]
 exact ⟨cells_new (cs := [_, _]) 0 _ rfl, cells_new (cs := [_, _]) 1 _ rfl⟩
theorem signed_any {O : Nat → Prop} {l : List (ByteArray × ByteArray)} {p : Option Addr} {c : Nat} {w : World} (hrd : RdS O w p c l) (hO : ∀ k, O k → k < w.heap.size) (hl : l.length ≤ 100000) (hz : ∀ x ∈ l, x.1.size ≤ 1000000000 ∧ x.2.size ≤ 1000000000) :
    Calls Tryz.prog 109 #[.slice p l.length c] w fun x w' => x = .returned (.bool (signedE l)) ∧ Below w.heap.size w w' := by
 obtain ⟨n, hn⟩ : ∃ n, l.length = n := ⟨_, rfl⟩
 have HN : Hid (l.length = n) := hn
 have hcc := hrd.1
 rw [hn] at hl hcc ⊢
 clear hn
 by_cases h4 : (4 : Int) < (n : Int)
 · have HF : Hid (signedE l = false) := by
     show _ = _
     unfold signedE
     rw [HN.out, decide_eq_false (by omega), Bool.false_and, Bool.false_and]
   go_enter Tryz.func109, Tryz.ntmps109
   go_wp2
   go_ret
   exact ⟨ret_bool HF.out.symm, Below.refl _ _⟩
 go_enter Tryz.func109, Tryz.ntmps109
 go_wp2
 go_loopw [10] (fun i wr => ∃ k : Nat, i = .int .i64 k ∧ k ≤ n ∧ Hid (∀ j, j < k → sigOk (l.getD j (nix, nix)) = true ∧ (0 < j → ltK (l.getD (j - 1) (nix, nix)).1 (l.getD j (nix, nix)).1 = true)) ∧ Below w.heap.size w wr) (fun i _ => n - (intOf i).toNat)
 case atStart => exact ⟨0, rfl, Nat.zero_le _, fun j hj => absurd hj (by omega), Below.refl _ _⟩
 case round =>
  obtain ⟨k, rfl, hk, HG, hb⟩ := hrel
  by_cases hlt : k < n
  · have hki : (k : Int) < (n : Int) := by omega
    have hkl : k < l.length := by rw [HN.out]; exact hlt
    have HKL : Hid (k < l.length) := hkl
    obtain ⟨b, o, hp, hOb, hc1, hc2⟩ := hrd.2 k hkl
    have hcP : Hid (∀ j, j < l.length → ∀ W : World, Below w.heap.size w W → W.cell? ⟨b, o + j * 2, none⟩ = some (.string (l.getD j (nix, nix)).1)) := by
     intro j hj W hW
     obtain ⟨b', o', hp', hO', h1', h2'⟩ := hrd.2 j hj
     rw [hp] at hp'
     cases hp'
     exact (World.cell?_of_block (a := ⟨b, o + j * 2, none⟩) (hW.block _ (hO _ hO'))).trans h1'
    subst hp
    have hx := hz (l.getD k (nix, nix)) (by rw [List.getD_eq_getElem?_getD, List.getElem?_eq_getElem hkl]; exact List.getElem_mem _)
    have d1 : wr.cell? ⟨b, o + k * 2, none⟩ = some (.string (l.getD k (nix, nix)).1) := (World.cell?_of_block (a := ⟨b, o + k * 2, none⟩) (hb.block _ (hO _ hOb))).trans hc1
    have d2 : wr.cell? ⟨b, o + k * 2 + 1, none⟩ = some (.string (l.getD k (nix, nix)).2) := (World.cell?_of_block (a := ⟨b, o + k * 2 + 1, none⟩) (hb.block _ (hO _ hOb))).trans hc2
    have HOK : Hid (sigOk (l.getD k (nix, nix)) = (Id.srv (l.getD k (nix, nix)).1 && digestE (l.getD k (nix, nix)).2)) := rfl
    obtain ⟨x1, hx1⟩ : ∃ x, (l.getD k (nix, nix)).1 = x := ⟨_, rfl⟩
    obtain ⟨x2, hx2⟩ : ∃ x, (l.getD k (nix, nix)).2 = x := ⟨_, rfl⟩
    have HX1 : Hid ((l.getD k (nix, nix)).1 = x1) := hx1
    rw [hx1] at d1 hx HOK
    rw [hx2] at d2 hx HOK
    clear hc1 hc2 hx1 hx2 hkl
    have hbA : Below w.heap.size w (wr.alloc (.cells #[.string x1, .string x2] 54)) := hb.alloc hb.size _
    have hS := Id.server_any x1 (wr.alloc (.cells #[.string x1, .string x2] 54)) (by omega)
    have hD := fun W => digest_any x2 W hx.2
    cases hs : Id.srv x1 with
    | false =>
     have HF : Hid (signedE l = false) := signed_bad HKL.out (by rw [HOK.out, hs]; rfl)
     rw [hs] at hS
     go_wp2_with (go_at_call 134; refine hS.mono ?_; rintro x w1 ⟨rfl, hb1⟩)
     go_ret
     exact ⟨ret_bool HF.out.symm, hbA.trans ⟨hb1.os, hb1.tape, hb1.output, hb1.size, fun k hk => hb1.block k (by have := hbA.size; omega)⟩⟩
    | true =>
     rw [hs] at hS
     cases hd : digestE x2 with
     | false =>
      have HF : Hid (signedE l = false) := signed_bad HKL.out (by rw [HOK.out, hs, hd]; rfl)
      rw [hd] at hD
      go_wp2_with (first
       | (go_at_call 134; refine hS.mono ?_; rintro x w1 ⟨rfl, hb1⟩; have e1 := (pair_new hb1).2; have hD1 := hD w1)
       | (go_at_call 108; refine hD1.mono ?_; rintro x w2 ⟨rfl, hb2⟩))
      go_ret
      exact ⟨ret_bool HF.out.symm, hbA.trans ⟨hb1.os, hb1.tape, hb1.output, hb1.size, fun k hk => hb1.block k (by have := hbA.size; omega)⟩ |>.trans ⟨hb2.os, hb2.tape, hb2.output, hb2.size, fun k hk => hb2.block k (by have := hbA.size; have := hb1.size; omega)⟩⟩
     | true =>
      rw [hd] at hD
      have HOK1 : Hid (sigOk (l.getD k (nix, nix)) = true) := by show _ = _; rw [HOK.out, hs, hd]; rfl
      have HB2 : Hid (∀ w1 w2, Below (wr.alloc (.cells #[.string x1, .string x2] 54)).heap.size (wr.alloc (.cells #[.string x1, .string x2] 54)) w1 → Below w1.heap.size w1 w2 → Below w.heap.size w w2) := fun w1 w2 hb1 hb2 =>
       hbA.trans ⟨hb1.os, hb1.tape, hb1.output, hb1.size, fun k hk => hb1.block k (by have := hbA.size; omega)⟩ |>.trans ⟨hb2.os, hb2.tape, hb2.output, hb2.size, fun k hk => hb2.block k (by have := hbA.size; have := hb1.size; omega)⟩
      clear hbA
      cases k with
      | zero =>
       simp only [Nat.zero_mul, Nat.add_zero] at d1 d2
       go_wp2_with (first
        | (go_at_call 134; refine hS.mono ?_; rintro x w1 ⟨rfl, hb1⟩; have e1 := (pair_new hb1).2; have hD1 := hD w1)
        | (go_at_call 108; refine hD1.mono ?_; rintro x w2 ⟨rfl, hb2⟩))
       go_quiet (fail)
       go_wp2
       go_roundw
       case rel => exact ⟨1, by go_num, hlt, fun j hj => (by
           obtain rfl : j = 0 := (by omega)
           exact ⟨HOK1.out, fun h => absurd h (by omega)⟩), below_drewN (HB2.out w1 w2 hb1 hb2) _⟩
       case measure => simp [intOf]; omega
      | succ m =>
       have hml : m < l.length := by have := HKL.out; omega
       have hm0 : (m : Int) < (n : Int) := by omega
       obtain ⟨y1, hy1⟩ : ∃ x, (l.getD m (nix, nix)).1 = x := ⟨_, rfl⟩
       have HY1 : Hid ((l.getD m (nix, nix)).1 = y1) := hy1
       have hcY := hcP.out m hml
       rw [hy1] at hcY
       have HCY : Hid (∀ W : World, Below w.heap.size w W → W.cell? ⟨b, o + m * 2, none⟩ = some (.string y1)) := hcY
       clear hy1 hcY hml
       have hgt : decide ((0 : Int) < ((m + 1 : Nat) : Int)) = true := decide_eq_true (by omega)
       cases hlk : ltK y1 x1 with
       | true =>
        have hle : Op.bytesLess y1.toList x1.toList = true := by rw [geL_lt]; exact hlk
        have HLK : Hid (ltK y1 x1 = true) := hlk
        clear hlk
        go_wp2_with (first
         | (go_at_call 134; refine hS.mono ?_; rintro x w1 ⟨rfl, hb1⟩; have e1 := (pair_new hb1).2; have hD1 := hD w1)
         | (go_at_call 108; refine hD1.mono ?_; rintro x w2 ⟨rfl, hb2⟩
            have e2 := (pair_new (belowIn hb1 hb2)).1
            have e3 := HCY.out w2 (HB2.out w1 w2 hb1 hb2)))
        go_quiet (fail)
        go_wp2
        go_roundw
        case rel => exact ⟨m + 2, by go_num, by omega, fun j hj => (Nat.lt_succ_iff_lt_or_eq.1 hj).elim (HG.out j) fun e => by subst e; exact ⟨HOK1.out, fun _ => by rw [Nat.add_sub_cancel, HX1.out, HY1.out]; exact HLK.out⟩, below_drewN (HB2.out w1 w2 hb1 hb2) _⟩
        case measure => simp [intOf]; omega
       | false =>
        have hle : Op.bytesLess y1.toList x1.toList = false := by rw [geL_lt]; exact hlk
        have HF : Hid (signedE l = false) := signed_unrise (j := m + 1) (by omega) HKL.out (by rw [Nat.add_sub_cancel, HX1.out, HY1.out]; exact hlk)
        clear hlk
        go_wp2_with (first
         | (go_at_call 134; refine hS.mono ?_; rintro x w1 ⟨rfl, hb1⟩; have e1 := (pair_new hb1).2; have hD1 := hD w1)
         | (go_at_call 108; refine hD1.mono ?_; rintro x w2 ⟨rfl, hb2⟩
            have e2 := (pair_new (belowIn hb1 hb2)).1
            have e3 := HCY.out w2 (HB2.out w1 w2 hb1 hb2)))
        go_quiet (fail)
        go_wp2
        go_ret
        exact ⟨ret_bool HF.out.symm, below_drewN (HB2.out w1 w2 hb1 hb2) _⟩
  · obtain rfl : k = n := by omega
    have HT : Hid (signedE l = true) := signed_true (by rw [HN.out]; omega) (by rw [HN.out]; exact HG.out)
    go_wp2
    go_ret
    exact ⟨ret_bool HT.out.symm, hb⟩
theorem tokens_any {O : Nat → Prop} {l : List (ByteArray × ByteArray)} {p : Option Addr} {c : Nat} {w : World} (hrd : RdS O w p c l) (hO : ∀ k, O k → k < w.heap.size) (hl : l.length ≤ 100000) :
    Calls Tryz.prog 118 #[.slice p l.length c] w fun x w' => (∃ pk nk ck pl nl cl, x = .returned (.agg #[.int .i64 5, .int .i64 0, .string nix, .slice pk nk ck, .slice pl nl cl]) ∧ isJ (New w w') w' (tokensJ l) [.int .i64 5, .int .i64 0, .string nix, .slice pk nk ck, .slice pl nl cl]) ∧ Below w.heap.size w w' := by
 obtain ⟨n, hn⟩ : ∃ n, l.length = n := ⟨_, rfl⟩
 have HN : Hid (l.length = n) := hn
 have hcc := hrd.1
 rw [hn] at hl hcc ⊢
 clear hn
 obtain ⟨WB, hWB⟩ : ∃ WB, WB = (w.alloc (.cells #[.int .i64 0, .int .i64 0, .string ⟨#[]⟩, .slice none 0 0, .slice none 0 0] 25)).alloc (.cells #[.int .i64 5, .int .i64 0, .string ⟨#[]⟩, .slice none 0 0, .slice none 0 0] 25) := ⟨_, rfl⟩
 have hbw : Below w.heap.size w WB := by rw [hWB]; exact ((Below.refl _ _).alloc (Nat.le_refl _) _).alloc (by simp) _
 have hres : WB.heap[w.heap.size]? = some (.cells #[.int .i64 0, .int .i64 0, .string ⟨#[]⟩, .slice none 0 0, .slice none 0 0] 25 (0, 0)) := by rw [hWB]; exact one_of _ _
 have hti0 : TI (fun _ => False) (w.heap.size + 2) (w.heap.size + 1) 5 WB [] [] (.slice none 0 0) (.slice none 0 0) WB := TI.start (by rw [hWB]; simp) (by omega) (fun k h => h.elim) (by rw [hWB]; exact two_at _ _)
 go_enter Tryz.func118, Tryz.ntmps118
 go_wp2
 rw [← hWB]
 clear hWB
 go_loopw [9] (fun i wr => ∃ (k : Nat) (vk vl : Value), i = .int .i64 k ∧ k ≤ n ∧ TI (fun _ => False) (w.heap.size + 2) (w.heap.size + 1) 5 WB ((l.take k).map (·.1)) ((l.take k).map fun s => textJ s.2) vk vl wr) (fun i _ => n - (intOf i).toNat)
 case atStart => exact ⟨0, _, _, rfl, Nat.zero_le _, hti0⟩
 case round =>
  clear hti0
  obtain ⟨k, vk, vl, rfl, hk, hti⟩ := hrel
  by_cases hlt : k < n
  · obtain ⟨ks, hks⟩ : ∃ ks, (l.take k).map (·.1) = ks := ⟨_, rfl⟩
    obtain ⟨js, hjs⟩ : ∃ js, ((l.take k).map fun s => textJ s.2) = js := ⟨_, rfl⟩
    have hkl1 : ks.length = k := by rw [← hks, List.length_map, List.length_take, HN.out]; omega
    have hjl : js.length = k := by rw [← hjs, List.length_map, List.length_take, HN.out]; omega
    have hki : (k : Int) < (n : Int) := by omega
    have hkl : k < l.length := by rw [HN.out]; exact hlt
    obtain ⟨b, of, hpa, hOb, hc1, hc2⟩ := hrd.2 k hkl
    subst hpa
    have hcb : wr.heap[b]? = w.heap[b]? := by
     have h1 := hO _ hOb
     have h2 := hti.szB
     exact (hti.keep.block _ (by omega) (by unfold One; omega)).trans (hbw.block _ h1)
    have d1 := (World.cell?_of_block (a := ⟨b, of + k * 2, none⟩) hcb).trans hc1
    have d2 := (World.cell?_of_block (a := ⟨b, of + k * 2 + 1, none⟩) hcb).trans hc2
    obtain ⟨x, hx⟩ : ∃ x, (l.getD k (nix, nix)).1 = x := ⟨_, rfl⟩
    obtain ⟨u, hu⟩ : ∃ u, (l.getD k (nix, nix)).2 = u := ⟨_, rfl⟩
    have HK1 : Hid ((l.take (k + 1)).map (·.1) = ks ++ [x]) := by
     show _ = _
     rw [List.take_add_one, List.getElem?_eq_getElem hkl, List.map_append, hks, ← hx, List.getD_eq_getElem?_getD, List.getElem?_eq_getElem hkl]; rfl
    have HJ1 : Hid (((l.take (k + 1)).map fun s => textJ s.2) = js ++ [textJ u]) := by
     show _ = _
     rw [List.take_add_one, List.getElem?_eq_getElem hkl, List.map_append, hjs, ← hu, List.getD_eq_getElem?_getD, List.getElem?_eq_getElem hkl]; rfl
    rw [hx] at d1
    rw [hu] at d2
    rw [hks, hjs] at hti
    obtain ⟨ql, cl', hvl⟩ : ∃ q c, vl = .slice q js.length c := by
     obtain ⟨xs0, hv10, _⟩ := hti.vals
     exact own_sl hv10
    obtain ⟨qk, ck', hvk⟩ := own_sl hti.keys
    have h1 := (hti.alloc (.cells #[.string x, .string u] 54)).alloc (.cells #[.string x] 9)
    have hszW := hti.size
    have hEb : Els (fun _ => False) (w.heap.size + 2) vk vl ((wr.alloc (.cells #[.string x, .string u] 54)).alloc (.cells #[.string x] 9)) wr.heap.size :=
     .inr ⟨hszW, by simp; omega, fun e => by have := (own_ge hti.keys _ e).2; omega, fun e => by
      obtain ⟨xs0, hv10, _⟩ := hti.vals
      have := (own_ge hv10 _ e).2; omega⟩
    have hbx : ((wr.alloc (.cells #[.string x, .string u] 54)).alloc (.cells #[.string x] 9)).heap[wr.heap.size]? = some (.cells #[.string x, .string u] 54 (0, 0)) := by
     rw [Below.heap_alloc _ _ _ (by simp)]
     exact heap_alloc_new _ _
    have c3 := five_c3 (hti.alloc (.cells #[.string x, .string u] 54)).obj
    have hbr : (wr.alloc (.cells #[.string x, .string u] 54)).cell? ⟨wr.heap.size, 0, none⟩ = some (.string x) := cells_new (cs := [_, _]) 0 _ rfl
    have hkb : ks.length ≤ 100000 := by omega
    have hjb : js.length ≤ 100000 := by omega
    have HJL : Hid (js.length = k) := hjl
    clear hcb hc1 hc2 hx hu hks hjs hkl hjl hkl1
    subst hvk hvl
    go_wp2_with (at_builtin; refine wpList_app2 rfl _ _ 22 rfl (w.heap.size + 2) 9 (.string ⟨#[]⟩) 1 16 Tryz.underlying22 Tryz.info9 rfl (by decide) (by decide) _ ks.length (ks.map Value.string) rfl h1.keys _ [.string x] rfl rfl (one_at2 (by simp)) (str_one2 x) (by omega) h1.size ?_
                 intro vk2 W2 hown2 hg2 hat2
                 obtain ⟨d3, f3, h3, hcar⟩ := h1.key hown2 hg2 hat2
                 obtain ⟨b2, c2, hv2⟩ := own_some hown2
                 subst hv2)
    obtain ⟨hEb3, hbx3⟩ := hcar _ hEb
    have hbx4 := hbx3.trans hbx
    clear hcar h1 hbx hbx3 hEb hown2 hg2 hat2 d3 f3 c3 hbr
    obtain ⟨W3, hW3⟩ : ∃ W3, W3 = W2.setCell ⟨w.heap.size + 1, 3, none⟩ (.slice (some ⟨b2, 0, none⟩) (ks.length + 1) c2) := ⟨_, rfl⟩
    rw [← hW3] at h3 hEb3 hbx4 ⊢
    clear hW3
    have hd := h3.drew
    have hT := etext_any u W3.drew
    have c0 := five_c4 hd.obj
    have hbl : wr.heap.size < W3.heap.size := (Array.getElem?_eq_some_iff.1 hbx4).1
    have HVE : Hid ((Value.slice ql js.length cl').ownBlock ≠ some wr.heap.size) := by
     rcases hEb3 with h | h
     · exact h.elim
     · exact h.2.2.2
    clear hEb3
    have HCC : Hid (∀ W : World, W.heap[wr.heap.size]? = some (.cells #[.string x, .string u] 54 (0, 0)) → W.cell? ⟨wr.heap.size, 1, none⟩ = some (.string u)) := fun W hW => cell_row (cur := [_, _]) hW 1 _ rfl
    have hC0 : W3.drew.heap[wr.heap.size]? = some (.cells #[.string x, .string u] 54 (0, 0)) := hbx4
    refine wp_region_in (by kernel_rfl) (fun W => W.heap[wr.heap.size]? = some (.cells #[.string x, .string u] 54 (0, 0))) ?_
    change wpIn _ _ _ _ _ _ _ _ (World.drew _)
    refine wpIn_tk (i := 0) (d := some 20) rfl ?_
    refine wpIn_tk (i := 2) (d := some 22) rfl ?_
    refine wpIn_tp (i := 3) (d := some 23) rfl (by (intro wq hq; have q0 := HCC.out wq hq; go_simp; first | done | with_reducible rfl)) ?_
    refine wpIn_pair (i := 1) (j := 4) hC0 (by kernel_rfl) rfl rfl (by rfl) (by rfl) ?_ ?_
    · intro K hK
      go_simp
      refine hK _ _ ?_
      clear hK K
      refine wpIn_do (i := 4) hC0 (by kernel_rfl) rfl (by rfl) ?_
      intro K hK
      go_simp
      go_wp2_with (go_at_call 117; refine hT.mono ?_; rintro x' w3 ⟨rfl, hb3⟩)
      have h4 := hd.more hb3
      have hA := h4.alloc (.cells #[.int .i64 3, .int .i64 0, .string u, .slice none 0 0, .slice none 0 0] 25)
      obtain ⟨xs, hv1, hv2⟩ := hA.vals
      have c1 := five_c4 h4.obj
      have c2' := five_c4 hA.obj
      have hC1 := (hb3.block wr.heap.size hbl).trans hC0
      have hbl3 : wr.heap.size < w3.heap.size := Nat.lt_of_lt_of_le hbl hb3.size
      have hC2 := (Below.heap_alloc w3 (.cells #[.int .i64 3, .int .i64 0, .string u, .slice none 0 0, .slice none 0 0] 25) _ hbl3).trans hC1
      refine wpIn_do (i := 5) hC1 (by kernel_rfl) rfl (by rfl) ?_
      intro K hK
      go_simp
      refine hK _ _ ?_
      clear hK K
      refine wpIn_do (i := 6) hC2 (by kernel_rfl) rfl (by rfl) ?_
      intro K hK
      refine wp_append_at (.tmp 21) (.tmp 25) 23 rfl (w.heap.size + 2) 25 (.agg #[.int .i64 0, .int .i64 0, .string ⟨#[]⟩, .slice none 0 0, .slice none 0 0]) 5 80 Tryz.underlying23 Tryz.info25 rfl (by decide) (by decide) _ js.length xs rfl hv1 _ [.int .i64 3, .int .i64 0, .string u, .slice none 0 0, .slice none 0 0] rfl rfl (five_at2 rfl) (text_one u) (by omega) hA.size ?_
      intro vl2 W4 hown4 hg4 hat4
      refine hK _ _ ?_
      clear hK K
      obtain ⟨b4, c4, hv4⟩ := own_some hown4
      subst hv4
      obtain ⟨g0, g1, hti5⟩ := hA.push hv1 hv2 (eisJ_text _ _ u) hown4 hg4 hat4
      have hC3 := (hg4.block wr.heap.size (by simp; omega) fun e => HVE.out e.symm).trans hC2
      have K3 : Keep (One (w.heap.size + 1)) W4 (W4.setCell ⟨w.heap.size + 1, 4, none⟩ (.slice (some ⟨b4, 0, none⟩) (js.length + 1) c4)) := Keep.setCell (Keep.refl _ _) (fun _ => (rfl : w.heap.size + 1 = w.heap.size + 1)) _
      have hC4 := (K3.block wr.heap.size (Array.getElem?_eq_some_iff.1 hC3).1 (by unfold One; omega)).trans hC3
      clear hown4 hg4 hat4
      refine wpIn_tk (i := 7) (d := some 27) rfl ?_
      refine wpIn_do (i := 8) hC3 (by kernel_rfl) rfl (by rfl) ?_
      intro K hK
      go_simp
      refine hK _ _ ?_
      clear hK K
      refine wpIn_done hC4 (by kernel_rfl) ?_ _
      clear g0 g1 c0 c1 c2' hC0 hC1 hC2 hC3 hC4
      go_wp2
      go_roundw
      case rel => exact ⟨k + 1, _, _, by go_num, hlt, by rw [HK1.out, HJ1.out]; exact hti5⟩
      case measure => simp [intOf]; omega
    · intro K hK
      go_simp
      go_wp2_with (go_at_call 117; refine hT.mono ?_; rintro x' w3 ⟨rfl, hb3⟩)
      have h4 := hd.more hb3
      have hA := h4.alloc (.cells #[.int .i64 3, .int .i64 0, .string u, .slice none 0 0, .slice none 0 0] 25)
      obtain ⟨xs, hv1, hv2⟩ := hA.vals
      have c1 := five_c4 h4.obj
      have c2' := five_c4 hA.obj
      have hC1 := (hb3.block wr.heap.size hbl).trans hC0
      have hbl3 : wr.heap.size < w3.heap.size := Nat.lt_of_lt_of_le hbl hb3.size
      have hC2 := (Below.heap_alloc w3 (.cells #[.int .i64 3, .int .i64 0, .string u, .slice none 0 0, .slice none 0 0] 25) _ hbl3).trans hC1
      refine wpIn_pair (i := 1) (j := 5) hC1 (by kernel_rfl) rfl rfl (by rfl) (by rfl) ?_ ?_
      · intro K hK
        go_simp
        refine hK _ _ ?_
        clear hK K
        refine wpIn_do (i := 5) hC1 (by kernel_rfl) rfl (by rfl) ?_
        intro K hK
        go_simp
        refine hK _ _ ?_
        clear hK K
        refine wpIn_do (i := 6) hC2 (by kernel_rfl) rfl (by rfl) ?_
        intro K hK
        refine wp_append_at (.tmp 21) (.tmp 25) 23 rfl (w.heap.size + 2) 25 (.agg #[.int .i64 0, .int .i64 0, .string ⟨#[]⟩, .slice none 0 0, .slice none 0 0]) 5 80 Tryz.underlying23 Tryz.info25 rfl (by decide) (by decide) _ js.length xs rfl hv1 _ [.int .i64 3, .int .i64 0, .string u, .slice none 0 0, .slice none 0 0] rfl rfl (five_at2 rfl) (text_one u) (by omega) hA.size ?_
        intro vl2 W4 hown4 hg4 hat4
        refine hK _ _ ?_
        clear hK K
        obtain ⟨b4, c4, hv4⟩ := own_some hown4
        subst hv4
        obtain ⟨g0, g1, hti5⟩ := hA.push hv1 hv2 (eisJ_text _ _ u) hown4 hg4 hat4
        have hC3 := (hg4.block wr.heap.size (by simp; omega) fun e => HVE.out e.symm).trans hC2
        have K3 : Keep (One (w.heap.size + 1)) W4 (W4.setCell ⟨w.heap.size + 1, 4, none⟩ (.slice (some ⟨b4, 0, none⟩) (js.length + 1) c4)) := Keep.setCell (Keep.refl _ _) (fun _ => (rfl : w.heap.size + 1 = w.heap.size + 1)) _
        have hC4 := (K3.block wr.heap.size (Array.getElem?_eq_some_iff.1 hC3).1 (by unfold One; omega)).trans hC3
        clear hown4 hg4 hat4
        refine wpIn_tk (i := 7) (d := some 27) rfl ?_
        refine wpIn_do (i := 8) hC3 (by kernel_rfl) rfl (by rfl) ?_
        intro K hK
        go_simp
        refine hK _ _ ?_
        clear hK K
        refine wpIn_done hC4 (by kernel_rfl) ?_ _
        clear g0 g1 c0 c1 c2' hC0 hC1 hC2 hC3 hC4
        go_wp2
        go_roundw
        case rel => exact ⟨k + 1, _, _, by go_num, hlt, by rw [HK1.out, HJ1.out]; exact hti5⟩
        case measure => simp [intOf]; omega
      · intro K hK
        go_simp
        refine hK _ _ ?_
        clear hK K
        refine wpIn_do (i := 1) hC2 (by kernel_rfl) rfl (by rfl) ?_
        intro K hK
        go_simp
        refine hK _ _ ?_
        clear hK K
        refine wpIn_do (i := 6) hC2 (by kernel_rfl) rfl (by rfl) ?_
        intro K hK
        refine wp_append_at (.tmp 21) (.tmp 25) 23 rfl (w.heap.size + 2) 25 (.agg #[.int .i64 0, .int .i64 0, .string ⟨#[]⟩, .slice none 0 0, .slice none 0 0]) 5 80 Tryz.underlying23 Tryz.info25 rfl (by decide) (by decide) _ js.length xs rfl hv1 _ [.int .i64 3, .int .i64 0, .string u, .slice none 0 0, .slice none 0 0] rfl rfl (five_at2 rfl) (text_one u) (by omega) hA.size ?_
        intro vl2 W4 hown4 hg4 hat4
        refine hK _ _ ?_
        clear hK K
        obtain ⟨b4, c4, hv4⟩ := own_some hown4
        subst hv4
        obtain ⟨g0, g1, hti5⟩ := hA.push hv1 hv2 (eisJ_text _ _ u) hown4 hg4 hat4
        have hC3 := (hg4.block wr.heap.size (by simp; omega) fun e => HVE.out e.symm).trans hC2
        have K3 : Keep (One (w.heap.size + 1)) W4 (W4.setCell ⟨w.heap.size + 1, 4, none⟩ (.slice (some ⟨b4, 0, none⟩) (js.length + 1) c4)) := Keep.setCell (Keep.refl _ _) (fun _ => (rfl : w.heap.size + 1 = w.heap.size + 1)) _
        have hC4 := (K3.block wr.heap.size (Array.getElem?_eq_some_iff.1 hC3).1 (by unfold One; omega)).trans hC3
        clear hown4 hg4 hat4
        refine wpIn_tk (i := 7) (d := some 27) rfl ?_
        refine wpIn_do (i := 8) hC3 (by kernel_rfl) rfl (by rfl) ?_
        intro K hK
        go_simp
        refine hK _ _ ?_
        clear hK K
        refine wpIn_done hC4 (by kernel_rfl) ?_ _
        clear g0 g1 c0 c1 c2' hC0 hC1 hC2 hC3 hC4
        go_wp2
        go_roundw
        case rel => exact ⟨k + 1, _, _, by go_num, hlt, by rw [HK1.out, HJ1.out]; exact hti5⟩
        case measure => simp [intOf]; omega
  · obtain rfl : k = n := by omega
    rw [List.take_of_length_le (by rw [HN.out]; omega)] at hti
    obtain ⟨q2, c2, hvl⟩ : ∃ q c, vl = .slice q (l.map fun s => textJ s.2).length c := by
     obtain ⟨xs, hv1, _⟩ := hti.vals
     exact own_sl hv1
    obtain ⟨q1, c1, hvk⟩ := own_sl hti.keys
    subst hvl hvk
    have hob := hti.obj
    have hrs : wr.heap[w.heap.size]? = some (.cells #[.int .i64 0, .int .i64 0, .string ⟨#[]⟩, .slice none 0 0, .slice none 0 0] 25 (0, 0)) := (hti.keep.block _ (by have := hti.szB; omega) (by unfold One; omega)).trans hres
    have j0 := five_c0 hob; have j1 := five_c1 hob; have j2 := five_c2 hob; have j3 := five_c3 hob; have j4 := five_c4 hob
    have i0 := five_c0 hrs; have i1 := five_c1 hrs; have i2 := five_c2 hrs; have i3 := five_c3 hrs; have i4 := five_c4 hrs
    have z0 := five_fz hrs 0; have z1 := five_fz hrs 1; have z2 := five_fz hrs 2; have z3 := five_fz hrs 3; have z4 := five_fz hrs 4
    obtain ⟨m, hm⟩ : ∃ m, (l.map fun s => textJ s.2).length = m := ⟨_, rfl⟩
    obtain ⟨m1, hm1⟩ : ∃ m, (l.map (·.1)).length = m := ⟨_, rfl⟩
    have HTI : Hid (TI (fun _ => False) (w.heap.size + 2) (w.heap.size + 1) 5 WB (l.map (·.1)) (l.map fun s => textJ s.2) (.slice q1 m1 c1) (.slice q2 m c2) wr) := by rw [← hm, ← hm1]; exact hti
    rw [hm] at j4
    rw [hm1] at j3
    have h5 := set5_heap hrs (.int .i64 5) (.int .i64 0) (.string ⟨#[]⟩) (.slice q1 m1 c1) (.slice q2 m c2)
    have HK5 : Keep (One w.heap.size) wr _ := set5_keep wr w.heap.size (.int .i64 5) (.int .i64 0) (.string ⟨#[]⟩) (.slice q1 m1 c1) (.slice q2 m c2)
    unfold set5 at h5 HK5
    have k0 := five_c0 h5; have k1 := five_c1 h5; have k2 := five_c2 h5; have k3 := five_c3 h5; have k4 := five_c4 h5
    clear hti hob hrs hm hm1
    go_wp2
    refine bodyPost_ret (v := .agg #[.int .i64 5, .int .i64 0, .string ⟨#[]⟩, .slice q1 m1 c1, .slice q2 m c2]) (by simp [results, Tryz.results118, go_sem, k0, k1, k2, k3, k4]) rfl ?_
    obtain ⟨r1, r2⟩ := HTI.out.done hbw HK5
    exact ⟨⟨_, _, _, _, _, _, rfl, r1⟩, r2⟩
end Go.Proofs.YtldegjjaknelgaaGreatDoor

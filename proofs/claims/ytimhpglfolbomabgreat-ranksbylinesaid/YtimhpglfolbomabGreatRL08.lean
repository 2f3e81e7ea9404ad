/-
  A list that is being read.
  What is written as a number is read as it was.
  What is written as JSON is read as it was.
  A list read, by a contract: given how a value within it is read.
  Keys and values that are being read.
  Pairs read, by a contract: given how a value within them is read.
  A value read, by a contract: to the depth that may be.
  The whole text read, by a contract.
  The first byte that is no letter's, by a contract.
  Bytes decoded, by a contract.
  What is written, by contracts: the writer's small steps.
  How a letter stands in a text, by a contract.
  A text written, by a contract.
  Lists and pairs written, by contracts: given how a value within them is written.
  A value written, by a contract: to the depth that may be.
  What makes a value good, by contracts: letters, and what a kind does not have.
  Keys that are good, by a contract.
  Whether all values of a list are good, by a contract: given how one is told good.
  Whether a value is good, by a contract.
-/
import Derived.Test.YtimhpglfolbomabGreatRL07
import Derived.Lib.AppendStr
import Derived.Stop.FmtQuoteTie
import Derived.Lib.OthersKept
import Derived.Lib.AppendIntMem
import Derived.Lib.ItoaLen
set_option maxRecDepth 100000
set_option maxHeartbeats 16000000
namespace Go.Proofs.YtimhpglfolbomabGreat
open Go.RowKit
theorem wpList_app {w : World} {ops : Array Oper} {rest : List Oper} {o : Oper} {a : Act} {Q : Exit → Act → World → Prop} (hgd : o.guard = none) (s x : Operand) (t : TypeId)
    (ho : o.op = .call { callee := .builtin .append, args := #[s, x], argTypes := #[t, t] })
    (base : Nat) (e : TypeId) (z : Value) (size bytes : Nat) (ht : Tryz.prog.underlying t = some (.slice e)) (hinfo : (Tryz.prog.info? e).map (fun i => (i.zero, i.size, i.bytes)) = some (some z, size, bytes))
    (hzs : z.cells.size = size) (hsz : 0 < size) (hby : bytes ≤ 100)
    (v : Value) (n : Nat) (xs : List Value) (hs : a.eval s = v) (hown : w.ownsRow base e size v n xs)
    (ad : Addr) (news : List Value) (hx : a.eval x = .slice (some ad) 1 1) (hl : news.length = size) (hnews : ∀ j u, news[j]? = some u → w.cell? (ad.add j) = some u) (h1 : ∀ u ∈ news, u.oneCell' = true)
    (hn : n ≤ 1000000) (hbase : base ≤ w.heap.size)
    (h : ∀ v' w', w'.ownsRow base e size v' (n + 1) (xs ++ news) → w.grownBy w' v.ownBlock → (v'.ownBlock = v.ownBlock ∨ v'.ownBlock = some w.heap.size) → wpList Tryz.prog ops Q rest (a.put o.dst v') w') : wpList Tryz.prog ops Q (o :: rest) a w :=
 wpList_plain hgd fun _ hK => wp_append_at s x t ho base e z size bytes ht hinfo hzs hsz hby v n xs hs hown ad news hx hl hnews h1 hn hbase fun v' w' h2 h3 h4 => hK _ _ (h v' w' h2 h3 h4)
abbrev zJ : Obj := .cells #[.int .i64 0, .int .i64 0, .string ⟨#[]⟩, .slice none 0 0, .slice none 0 0] 38
theorem own_slice {w : World} {B e size n : Nat} {v : Value} {xs : List Value} (h : w.ownsRow B e size v n xs) : ∃ q n c, v = .slice q n c := by
 rcases h.2 with ⟨h', h0⟩ | ⟨g', cap', cur, h', _⟩
 · exact ⟨_, _, _, h'⟩
 · exact ⟨_, _, _, h'⟩
theorem cells_at5 {W : World} {n : Nat} (h : W.heap.size = n) {t : TypeId} {y0 y1 y2 y3 y4 : Value} : ∀ j u, [y0, y1, y2, y3, y4][j]? = some u → (W.alloc (.cells #[y0, y1, y2, y3, y4] t)).cell? ((⟨n, 0, none⟩ : Addr).add j) = some u := by
 subst h
 exact cells_new5 _ _ _ _ _ _ _
theorem one5 {k i : Int} {t : ByteArray} {pk pl : Option Addr} {nk ck nl cl : Nat} : ∀ u ∈ [Value.int .i64 k, .int .i64 i, .string t, .slice pk nk ck, .slice pl nl cl], u.oneCell' = true := by
 intro u hu
 simp only [List.mem_cons, List.not_mem_nil, or_false] at hu
 rcases hu with rfl | rfl | rfl | rfl | rfl <;> rfl
def isF (s : ByteArray) (i : Nat) : Bool := decide (byteAt (ints s) i = 239 ∧ byteAt (ints s) (i + 1) = 191 ∧ byteAt (ints s) (i + 2) = 189)
theorem take_three {l : List UInt8} {n : Nat} (h : n + 3 ≤ l.length) : (l.drop n).take 3 = [l[n], l[n + 1], l[n + 2]] := by
 rw [List.drop_eq_getElem_cons (by omega), List.drop_eq_getElem_cons (i := n + 1) (by omega), List.drop_eq_getElem_cons (i := n + 2) (by omega)]
 rfl
theorem byte_eq (a : UInt8) (n : Nat) (hn : n < 256) : ((a.toNat : Int) = (n : Int)) ↔ a = UInt8.ofNat n := by
 constructor
 · intro h
   apply UInt8.toNat_inj.1
   have : a.toNat = n := by omega
   rw [this]
   simp
   omega
 · intro h
   subst h
   simp
   omega
theorem take_f (s : ByteArray) (i : Nat) : decide ((s.data.toList.drop i).take 3 = [239, 191, 189]) = isF s i := by
 unfold isF
 rw [decide_eq_decide]
 have hl : s.data.toList.length = s.size := by simp
 by_cases h : i + 3 ≤ s.size
 · rw [take_three (by omega), byte_in s i (by omega), byte_in s (i + 1) (by omega), byte_in s (i + 2) (by omega)]
   have e1 := byte_eq s[i] 239 (by omega)
   have e2 := byte_eq s[i + 1] 191 (by omega)
   have e3 := byte_eq s[i + 2] 189 (by omega)
   have g : ∀ k (hk : k < s.size), s.data.toList[k]'(by omega) = s[k] := fun k hk => by simp [ByteArray.getElem_eq_getElem_data]
   rw [g i (by omega), g (i + 1) (by omega), g (i + 2) (by omega)]
   simp only [List.cons.injEq, and_true]
   exact and_congr e1.symm (and_congr e2.symm e3.symm)
 · constructor
   · intro h'
     have := congrArg List.length h'
     simp at this
     omega
   · intro h'
     have := byte_past s (i + 2) (by omega)
     omega
theorem pre_list (s : ByteArray) (i : Nat) : (((s.extract i s.size).extract 0 3).toList == [239, 191, 189]) = isF s i := by
 rw [← take_f, Lib.toList_data, ByteArray.data_extract, Array.toList_extract, ByteArray.data_extract, Array.toList_extract]
 simp only [List.extract_eq_take_drop, List.drop_zero, Nat.sub_zero]
 have : (s.data.toList.drop i).take (s.size - i) = s.data.toList.drop i := List.take_of_length_le (by simp)
 rw [this, Bool.eq_iff_iff]
 simp only [beq_iff_eq, decide_eq_true_eq]
theorem lite_any (s : ByteArray) (i : Nat) (w : World) (hi : i ≤ s.size) (hs : s.size ≤ 1000000000) :
    Calls Tryz.prog 150 #[.string (s.extract i s.size), .string ⟨#[239, 191, 189]⟩] w fun e w' => e = .returned (.bool (isF s i)) ∧ w = w' := by
 have h1 := pre_list s i
 have hu : (s.extract i s.size).size = s.size - i := by simp
 by_cases h : i + 3 ≤ s.size
 · obtain ⟨u, hu'⟩ : ∃ u, s.extract i s.size = u := ⟨_, rfl⟩
   rw [hu'] at h1 hu ⊢
   have hu1 : 3 ≤ u.size := by omega
   have hu2 : u.size ≤ 1000000000 := by omega
   clear hu hu'
   cases hb : isF s i
   all_goals
    rw [hb] at h1
    go_enter Tryz.func150, Tryz.ntmps150
    go_wp2
    go_ret
    exact ⟨rfl, rfl⟩
 · have hF : isF s i = false := by
     unfold isF
     apply decide_eq_false
     intro h'
     have := byte_past s (i + 2) (by omega)
     omega
   rw [hF]
   obtain ⟨u, hu'⟩ : ∃ u, s.extract i s.size = u := ⟨_, rfl⟩
   rw [hu'] at h1 hu ⊢
   have hu1 : u.size < 3 := by omega
   clear hu hu' h1
   go_enter Tryz.func150, Tryz.ntmps150
   go_wp2
   go_ret
   exact ⟨rfl, rfl⟩
theorem prefix_any (s : ByteArray) (i : Nat) (w : World) (hi : i ≤ s.size) (hs : s.size ≤ 1000000000) :
    Calls Tryz.prog 148 #[.string (s.extract i s.size), .string ⟨#[239, 191, 189]⟩] w fun e w' => e = .returned (.bool (isF s i)) ∧ w = w' := by
 go_enter Tryz.func148, Tryz.ntmps148
 go_wp2_with (go_at_call 150; refine (lite_any s i _ hi hs).mono ?_; rintro x w' ⟨rfl, rfl⟩)
 go_ret
 exact ⟨rfl, rfl⟩
def strayTold (r : Option Nat) (x : Ending) : Prop := match r with
 | none => x = .returned (.tuple #[.int .i64 0, .bool false])
 | some p => x = .returned (.tuple #[.int .i64 p, .bool true])
theorem stray_any (s : ByteArray) (w : World) (hs : s.size ≤ 1000000000) :
    Calls Tryz.prog 142 #[.string s] w fun x w' => strayTold (stray (ints s)) x ∧ ∃ pos, w' = w.iter s pos := by
 go_enter Tryz.func142, Tryz.ntmps142
 go_wp2
 go_loopw [4] (fun _ wr => ∃ (pos m : Nat), wr = w.iter s pos ∧ strayL (ints s) m pos = stray (ints s) ∧ s.size ≤ pos + m) (fun _ wr => s.size - wr.iterPos w.heap.size)
 case atStart => exact ⟨0, s.size, rfl, by unfold stray; rw [ints_length], by omega⟩
 case round =>
  obtain ⟨pos, m, rfl, hc, hb⟩ := hrel
  have HC : Hid (strayL (ints s) m pos = stray (ints s)) := hc
  clear hc
  by_cases hp : pos < s.size
  · have hnx : ∀ ty, (Instr.next (.pointer (some ⟨w.heap.size, 0, none⟩)) true ty).run Tryz.prog (w.iter s pos) = _ := fun ty => run_next_any w s pos ty hp
    have hdec := decode_rune s pos
    obtain ⟨m, rfl⟩ : ∃ m', m = m' + 1 := ⟨m - 1, by omega⟩
    unfold strayL at HC
    rw [ints_length, if_pos hp] at HC
    by_cases h0 : (runeAt (ints s) pos).2 = 0
    · rw [if_pos h0] at HC hdec
      have hF : isF s pos = false := by
       unfold isF
       apply decide_eq_false
       rintro ⟨a, b, c⟩
       rw [rune_fffd _ _ a b c] at h0
       cases h0
      have pf := fun w' => prefix_any s pos w' (by omega) hs
      rw [hF] at pf
      rw [hdec] at hnx
      go_wp2_with (go_at_call 148; refine (pf _).mono ?_; rintro x w' ⟨rfl, rfl⟩)
      go_ret2
      rw [← HC.out]
      exact ⟨rfl, _, rfl⟩
    · rw [if_neg h0] at HC hdec
      have hw4 := rune_width (ints s) pos
      by_cases hr : (runeAt (ints s) pos).1 = 65533
      · have hF : isF s pos = true := decide_eq_true (rune_is (ints s) pos (byte_bd s) h0 hr)
        have pf := fun w' => prefix_any s pos w' (by omega) hs
        rw [hF] at pf
        rw [hr] at hdec
        rw [hdec] at hnx
        obtain ⟨wd, hwd⟩ : ∃ wd, (runeAt (ints s) pos).2 = wd := ⟨_, rfl⟩
        rw [hwd] at hnx HC h0 hw4
        clear hdec hwd
        go_wp2_with (go_at_call 148; refine (pf _).mono ?_; rintro x w' ⟨rfl, rfl⟩)
        go_roundw
        case rel => exact ⟨pos + wd, m, rfl, HC.out, by omega⟩
        case measure => simp; omega
      · obtain ⟨c, hcn⟩ : ∃ c, (runeAt (ints s) pos).1.toNat = c := ⟨_, rfl⟩
        have hc1 : (c : Int) ≠ 65533 := by omega
        rw [hcn] at hdec
        rw [hdec] at hnx
        obtain ⟨wd, hwd⟩ : ∃ wd, (runeAt (ints s) pos).2 = wd := ⟨_, rfl⟩
        rw [hwd] at hnx HC h0 hw4
        clear hdec hwd hcn
        go_wp2
        go_roundw
        case rel => exact ⟨pos + wd, m, rfl, HC.out, by omega⟩
        case measure => simp; omega
  · have hnx : ∀ ty, (Instr.next (.pointer (some ⟨w.heap.size, 0, none⟩)) true ty).run Tryz.prog (w.iter s pos) = _ := fun ty => run_next_end w s pos ty hp
    go_wp2
    go_ret2
    have hn : strayL (ints s) m pos = none := by
     cases m with
     | zero => rfl
     | succ m => unfold strayL; rw [ints_length, if_neg hp]
    rw [← HC.out, hn]
    exact ⟨rfl, _, rfl⟩
theorem isJ_shape {O : Nat → Prop} {w : World} {j : J} {cs : List Value} (h : isJ O w j cs) : ∃ k i t pk nk ck pl nl cl, cs = [.int .i64 k, .int .i64 i, .string t, .slice pk nk ck, .slice pl nl cl] := by
 cases j
 unfold isJ at h
 obtain ⟨pk, ck, pl, cl, e, _⟩ := h
 exact ⟨_, _, _, _, _, _, _, _, _, e⟩
theorem take_snoc {l : List J} {k : Nat} (h : k < l.length) : l.take (k + 1) = l.take k ++ [l.getD k J.zero] := by
 rw [List.take_add_one, List.getElem?_eq_getElem h, List.getD_eq_getElem?_getD, List.getElem?_eq_getElem h]
 rfl
theorem letters_any (s : ByteArray) (w : World) (hs : s.size ≤ 1000000000) : Calls Tryz.prog 131 #[.string s] w fun x w' => x = .returned (.bool (letters s)) ∧ Below w.heap.size w w' := by
 have sa := stray_any s w hs
 cases hst : stray (ints s) with
 | none =>
  have HL : Hid (letters s = true) := by show letters s = true; unfold letters; rw [hst]; rfl
  rw [hst] at sa
  go_enter Tryz.func131, Tryz.ntmps131
  go_wp2_with (go_at_call 142; refine sa.mono ?_; rintro x w1 ⟨rfl, pos, rfl⟩)
  go_ret
  exact ⟨ret_bool HL.out.symm, (Below.refl _ _).alloc (Nat.le_refl _) _⟩
 | some p =>
  have HL : Hid (letters s = false) := by show letters s = false; unfold letters; rw [hst]; rfl
  rw [hst] at sa
  go_enter Tryz.func131, Tryz.ntmps131
  go_wp2_with (go_at_call 142; refine sa.mono ?_; rintro x w1 ⟨rfl, pos, rfl⟩)
  go_ret
  exact ⟨ret_bool HL.out.symm, (Below.refl _ _).alloc (Nat.le_refl _) _⟩
theorem nil_str {t : ByteArray} : (t.toList == []) = decide (t.size = 0) := by
 rw [Lib.toList_data, Bool.eq_iff_iff]
 simp only [beq_iff_eq, decide_eq_true_eq]
 constructor
 · intro h
   show t.data.size = 0
   rw [← Array.length_toList, h]; rfl
 · intro h
   exact List.eq_nil_of_length_eq_zero (by rw [Array.length_toList]; exact h)
def bareB (k i : Int) (t : ByteArray) (nk nl : Nat) : Bool := (decide (i = 0) || decide (k = 1) || decide (k = 2)) && (decide (t.size = 0) || decide (k = 3)) && (decide (nk = 0) || decide (k = 5)) && (decide (nl = 0) || decide (k = 4) || decide (k = 5))
theorem bare_any (k i : Int) (t : ByteArray) (pk pl : Option Addr) (nk ck nl cl : Nat) (w : World) :
    Calls Tryz.prog 130 #[.agg #[.int .i64 k, .int .i64 i, .string t, .slice pk nk ck, .slice pl nl cl]] w fun x w' => x = .returned (.bool (bareB k i t nk nl)) ∧ Below w.heap.size w w' := by
 have hn := nil_str (t := t)
 by_cases h1 : i = 0
 · subst h1
   by_cases h2 : t.size = 0
   · rw [decide_eq_true h2] at hn
     by_cases h3 : nk = 0
     · subst h3
       by_cases h4 : nl = 0
       · subst h4
         have HB : Hid (bareB k 0 t 0 0 = true) := by show _ = _; unfold bareB; simp [*]
         go_enter Tryz.func130, Tryz.ntmps130
         go_wp2
         go_ret
         refine ⟨ret_bool ?_, (Below.refl _ _).alloc (Nat.le_refl _) _⟩
         first | exact HB.out.symm | (rw [HB.out]; simp; omega)
       · skip
         by_cases a1 : k = 4
         · subst a1
           have HB : Hid (bareB 4 0 t 0 nl = true) := by show _ = _; unfold bareB; simp [*]
           go_enter Tryz.func130, Tryz.ntmps130
           go_wp2
           go_ret
           refine ⟨ret_bool ?_, (Below.refl _ _).alloc (Nat.le_refl _) _⟩
           first | exact HB.out.symm | (rw [HB.out]; simp; omega)
         · skip
           by_cases a2 : k = 5
           · subst a2
             have HB : Hid (bareB 5 0 t 0 nl = true) := by show _ = _; unfold bareB; simp [*]
             go_enter Tryz.func130, Tryz.ntmps130
             go_wp2
             go_ret
             refine ⟨ret_bool ?_, (Below.refl _ _).alloc (Nat.le_refl _) _⟩
             first | exact HB.out.symm | (rw [HB.out]; simp; omega)
           · skip
             have HB : Hid (bareB k 0 t 0 nl = false) := by show _ = _; unfold bareB; simp [*]
             go_enter Tryz.func130, Tryz.ntmps130
             go_wp2
             go_ret
             refine ⟨ret_bool ?_, (Below.refl _ _).alloc (Nat.le_refl _) _⟩
             first | exact HB.out.symm | (rw [HB.out]; simp; omega)
     · have h3p : 0 < nk := by omega
       by_cases a3 : k = 5
       · subst a3
         by_cases h4 : nl = 0
         · subst h4
           have HB : Hid (bareB 5 0 t nk 0 = true) := by show _ = _; unfold bareB; simp [*]
           go_enter Tryz.func130, Tryz.ntmps130
           go_wp2
           go_ret
           refine ⟨ret_bool ?_, (Below.refl _ _).alloc (Nat.le_refl _) _⟩
           first | exact HB.out.symm | (rw [HB.out]; simp; omega)
         · skip
           have HB : Hid (bareB 5 0 t nk nl = true) := by show _ = _; unfold bareB; simp [*]
           go_enter Tryz.func130, Tryz.ntmps130
           go_wp2
           go_ret
           refine ⟨ret_bool ?_, (Below.refl _ _).alloc (Nat.le_refl _) _⟩
           first | exact HB.out.symm | (rw [HB.out]; simp; omega)
       · skip
         have HB : Hid (bareB k 0 t nk nl = false) := by show _ = _; unfold bareB; simp [*]
         go_enter Tryz.func130, Tryz.ntmps130
         go_wp2
         go_ret
         refine ⟨ret_bool ?_, (Below.refl _ _).alloc (Nat.le_refl _) _⟩
         first | exact HB.out.symm | (rw [HB.out]; simp; omega)
   · rw [decide_eq_false h2] at hn
     by_cases a4 : k = 3
     · subst a4
       by_cases h3 : nk = 0
       · subst h3
         by_cases h4 : nl = 0
         · subst h4
           have HB : Hid (bareB 3 0 t 0 0 = true) := by show _ = _; unfold bareB; simp [*]
           go_enter Tryz.func130, Tryz.ntmps130
           go_wp2
           go_ret
           refine ⟨ret_bool ?_, (Below.refl _ _).alloc (Nat.le_refl _) _⟩
           first | exact HB.out.symm | (rw [HB.out]; simp; omega)
         · skip
           have HB : Hid (bareB 3 0 t 0 nl = false) := by show _ = _; unfold bareB; simp [*]
           go_enter Tryz.func130, Tryz.ntmps130
           go_wp2
           go_ret
           refine ⟨ret_bool ?_, (Below.refl _ _).alloc (Nat.le_refl _) _⟩
           first | exact HB.out.symm | (rw [HB.out]; simp; omega)
       · have h3p : 0 < nk := by omega
         have HB : Hid (bareB 3 0 t nk nl = false) := by show _ = _; unfold bareB; simp [*]
         go_enter Tryz.func130, Tryz.ntmps130
         go_wp2
         go_ret
         refine ⟨ret_bool ?_, (Below.refl _ _).alloc (Nat.le_refl _) _⟩
         first | exact HB.out.symm | (rw [HB.out]; simp; omega)
     · skip
       have HB : Hid (bareB k 0 t nk nl = false) := by show _ = _; unfold bareB; simp [*]
       go_enter Tryz.func130, Tryz.ntmps130
       go_wp2
       go_ret
       refine ⟨ret_bool ?_, (Below.refl _ _).alloc (Nat.le_refl _) _⟩
       first | exact HB.out.symm | (rw [HB.out]; simp; omega)
 · skip
   by_cases a5 : k = 1
   · subst a5
     by_cases h2 : t.size = 0
     · rw [decide_eq_true h2] at hn
       by_cases h3 : nk = 0
       · subst h3
         by_cases h4 : nl = 0
         · subst h4
           have HB : Hid (bareB 1 i t 0 0 = true) := by show _ = _; unfold bareB; simp [*]
           go_enter Tryz.func130, Tryz.ntmps130
           go_wp2
           go_ret
           refine ⟨ret_bool ?_, (Below.refl _ _).alloc (Nat.le_refl _) _⟩
           first | exact HB.out.symm | (rw [HB.out]; simp; omega)
         · skip
           have HB : Hid (bareB 1 i t 0 nl = false) := by show _ = _; unfold bareB; simp [*]
           go_enter Tryz.func130, Tryz.ntmps130
           go_wp2
           go_ret
           refine ⟨ret_bool ?_, (Below.refl _ _).alloc (Nat.le_refl _) _⟩
           first | exact HB.out.symm | (rw [HB.out]; simp; omega)
       · have h3p : 0 < nk := by omega
         have HB : Hid (bareB 1 i t nk nl = false) := by show _ = _; unfold bareB; simp [*]
         go_enter Tryz.func130, Tryz.ntmps130
         go_wp2
         go_ret
         refine ⟨ret_bool ?_, (Below.refl _ _).alloc (Nat.le_refl _) _⟩
         first | exact HB.out.symm | (rw [HB.out]; simp; omega)
     · rw [decide_eq_false h2] at hn
       have HB : Hid (bareB 1 i t nk nl = false) := by show _ = _; unfold bareB; simp [*]
       go_enter Tryz.func130, Tryz.ntmps130
       go_wp2
       go_ret
       refine ⟨ret_bool ?_, (Below.refl _ _).alloc (Nat.le_refl _) _⟩
       first | exact HB.out.symm | (rw [HB.out]; simp; omega)
   · skip
     by_cases a6 : k = 2
     · subst a6
       by_cases h2 : t.size = 0
       · rw [decide_eq_true h2] at hn
         by_cases h3 : nk = 0
         · subst h3
           by_cases h4 : nl = 0
           · subst h4
             have HB : Hid (bareB 2 i t 0 0 = true) := by show _ = _; unfold bareB; simp [*]
             go_enter Tryz.func130, Tryz.ntmps130
             go_wp2
             go_ret
             refine ⟨ret_bool ?_, (Below.refl _ _).alloc (Nat.le_refl _) _⟩
             first | exact HB.out.symm | (rw [HB.out]; simp; omega)
           · skip
             have HB : Hid (bareB 2 i t 0 nl = false) := by show _ = _; unfold bareB; simp [*]
             go_enter Tryz.func130, Tryz.ntmps130
             go_wp2
             go_ret
             refine ⟨ret_bool ?_, (Below.refl _ _).alloc (Nat.le_refl _) _⟩
             first | exact HB.out.symm | (rw [HB.out]; simp; omega)
         · have h3p : 0 < nk := by omega
           have HB : Hid (bareB 2 i t nk nl = false) := by show _ = _; unfold bareB; simp [*]
           go_enter Tryz.func130, Tryz.ntmps130
           go_wp2
           go_ret
           refine ⟨ret_bool ?_, (Below.refl _ _).alloc (Nat.le_refl _) _⟩
           first | exact HB.out.symm | (rw [HB.out]; simp; omega)
       · rw [decide_eq_false h2] at hn
         have HB : Hid (bareB 2 i t nk nl = false) := by show _ = _; unfold bareB; simp [*]
         go_enter Tryz.func130, Tryz.ntmps130
         go_wp2
         go_ret
         refine ⟨ret_bool ?_, (Below.refl _ _).alloc (Nat.le_refl _) _⟩
         first | exact HB.out.symm | (rw [HB.out]; simp; omega)
     · skip
       have b1 : (i != 0) = true := by simp [h1]
       have b2 : (k != 1) = true := by simp [*]
       have b3 : (k != 2) = true := by simp [*]
       have HB : Hid (bareB k i t nk nl = false) := by show _ = _; unfold bareB; simp [*]
       go_enter Tryz.func130, Tryz.ntmps130
       go_wp2
       go_ret
       refine ⟨ret_bool ?_, (Below.refl _ _).alloc (Nat.le_refl _) _⟩
       first | exact HB.out.symm | (rw [HB.out]; simp; omega)
def goodK (ks : List ByteArray) : Bool := ks.all letters && noKeyTwice ks
section
variable {w : World} {g : Nat} {L : List Nat} {ks : List ByteArray}
theorem places_len (hP : Places w g L ks) : L.length = ks.length := by rw [hP.1.length_eq]; simp
theorem places_lt (hP : Places w g L ks) {i : Nat} (hi : i < L.length) : L.getD i 0 < ks.length := by
 have := hP.1.subset (List.getElem_mem hi)
 rw [List.getD_eq_getElem?_getD, List.getElem?_eq_getElem hi]
 simpa using this
theorem places_find (hP : Places w g L ks) {n : Nat} (hn : n < ks.length) : ∃ i, i < L.length ∧ L.getD i 0 = n := by
 have : n ∈ L := hP.1.mem_iff.2 (by simpa using hn)
 obtain ⟨i, hi, e⟩ := List.getElem_of_mem this
 exact ⟨i, hi, by rw [List.getD_eq_getElem?_getD, List.getElem?_eq_getElem hi]; exact e⟩
theorem places_ne (hP : Places w g L ks) {i j : Nat} (hi : i < L.length) (hj : j < L.length) (hij : i ≠ j) : L.getD i 0 ≠ L.getD j 0 := by
 have hnd : L.Nodup := hP.1.nodup_iff.2 List.nodup_range
 rw [List.getD_eq_getElem?_getD, List.getElem?_eq_getElem hi, List.getD_eq_getElem?_getD, List.getElem?_eq_getElem hj]
 simp only [Option.getD_some]
 rcases Nat.lt_or_gt_of_ne hij with h | h
 · exact List.pairwise_iff_getElem.1 hnd i j hi hj h
 · exact fun e => List.pairwise_iff_getElem.1 hnd j i hj hi h e.symm
theorem keyAtK_at {n : Nat} (hn : n < ks.length) : keyAtK ks n = ks[n] := by
 unfold keyAtK
 rw [List.getD_eq_getElem?_getD, List.getElem?_eq_getElem hn]; rfl
def Fine (L : List Nat) (ks : List ByteArray) (m : Nat) : Prop := ∀ i, i < m → letters (keyAtK ks (L.getD i 0)) = true ∧ (0 < i → keyAtK ks (L.getD (i - 1) 0) ≠ keyAtK ks (L.getD i 0))
theorem goodK_true (hP : Places w g L ks) (h : Fine L ks L.length) : goodK ks = true := by
 unfold goodK
 rw [Bool.and_eq_true]
 constructor
 · rw [List.all_eq_true]
   intro k hk
   obtain ⟨n, hn, rfl⟩ := List.getElem_of_mem hk
   obtain ⟨i, hi, e⟩ := places_find hP hn
   have := (h i hi).1
   rw [e, keyAtK_at hn] at this
   exact this
 · apply pair_noTwice
   rw [List.pairwise_iff_getElem]
   intro n m hn hm hnm e
   obtain ⟨i, hi, ei⟩ := places_find hP hn
   obtain ⟨j, hj, ej⟩ := places_find hP hm
   have key : ∀ a b, a < b → b < L.length → keyAtK ks (L.getD a 0) = keyAtK ks (L.getD b 0) → False := by
    intro a b hab hb hk
    have h1 := hP.2.1 (b - 1) b (by omega) hb
    have h2 : ltK (keyAtK ks (L.getD (b - 1) 0)) (keyAtK ks (L.getD a 0)) = false := by
     by_cases ha : a = b - 1
     · subst ha; exact ltK_irrefl _
     · exact hP.2.1 a (b - 1) (by omega) (by omega)
    have hne := (h b hb).2 (by omega)
    rcases ltK_total hne with h' | h'
    · rw [hk, h'] at h2; cases h2
    · rw [h'] at h1; cases h1
   have he : keyAtK ks (L.getD i 0) = keyAtK ks (L.getD j 0) := by rw [ei, ej, keyAtK_at hn, keyAtK_at hm]; exact e
   rcases Nat.lt_trichotomy i j with h' | h' | h'
   · exact key i j h' hj he
   · subst h'; omega
   · exact key j i h' hi he.symm
theorem goodK_letters (hP : Places w g L ks) {i : Nat} (hi : i < L.length) (h : letters (keyAtK ks (L.getD i 0)) = false) : goodK ks = false := by
 have hn := places_lt hP hi
 rw [keyAtK_at hn] at h
 cases hg : goodK ks with
 | false => rfl
 | true =>
  unfold goodK at hg
  rw [Bool.and_eq_true, List.all_eq_true] at hg
  rw [hg.1 _ (List.getElem_mem hn)] at h
  cases h
theorem goodK_twice (hP : Places w g L ks) {i : Nat} (hi : i < L.length) (h0 : 0 < i) (h : keyAtK ks (L.getD (i - 1) 0) = keyAtK ks (L.getD i 0)) : goodK ks = false := by
 have hn := places_lt hP hi
 have hm := places_lt hP (i := i - 1) (by omega)
 have hne := places_ne hP (i := i - 1) (by omega) hi (by omega)
 rw [keyAtK_at hn, keyAtK_at hm] at h
 cases hg : goodK ks with
 | false => rfl
 | true =>
  unfold goodK at hg
  rw [Bool.and_eq_true] at hg
  have hp := List.pairwise_iff_getElem.1 (noTwice_pair hg.2)
  rcases Nat.lt_or_gt_of_ne hne with h' | h'
  · exact absurd h (hp _ _ hm hn h')
  · exact absurd h.symm (hp _ _ hn hm h')
end
theorem Places.keep {w w' : World} {g : Nat} {L : List Nat} {ks : List ByteArray} (h : Places w g L ks) (e : w'.heap[g]? = w.heap[g]?) : Places w' g L ks :=
 ⟨h.1, h.2.1, fun j hj => (World.cell?_of_block (a := ⟨g, j, none⟩) e).trans (h.2.2 j hj)⟩
theorem Fine.step {L : List Nat} {ks : List ByteArray} {m : Nat} (h : Fine L ks m) (h1 : letters (keyAtK ks (L.getD m 0)) = true) (h2 : 0 < m → keyAtK ks (L.getD (m - 1) 0) ≠ keyAtK ks (L.getD m 0)) : Fine L ks (m + 1) := by
 intro i hi
 by_cases e : i = m
 · subst e; exact ⟨h1, h2⟩
 · exact h i (by omega)
theorem toList_inj {a b : ByteArray} (h : a.toList = b.toList) : a = b := by
 rw [Lib.toList_data, Lib.toList_data] at h
 cases a; cases b
 exact congrArg ByteArray.mk (Array.toList_inj.1 h)
theorem goodKeys_any {O : Nat → Prop} {ks : List ByteArray} {p : Option Addr} {c : Nat} {w : World} (hrd : RdK O w p c ks) (hO : ∀ k, O k → k < w.heap.size) (hl : ks.length ≤ 100000) (hkz : ∀ k ∈ ks, k.size ≤ 1000000000) :
    Calls Tryz.prog 133 #[.slice p ks.length c] w fun x w' => x = .returned (.bool (goodK ks)) ∧ Below w.heap.size w w' := by
 have hri := rising_any hrd hO (by omega)
 obtain ⟨n, hn⟩ : ∃ n, ks.length = n := ⟨_, rfl⟩
 have HN : Hid (ks.length = n) := hn
 rw [hn] at hri hl ⊢
 go_enter Tryz.func133, Tryz.ntmps133
 go_wp2_with (go_at_call 134; refine hri.mono ?_; rintro x w1 ⟨g, L, rfl, hP, hg0, hg1, hb1⟩)
 clear hri hn
 have HLL : Hid (L.length = n) := (places_len hP).trans HN.out
 have hsz1 := hb1.size
 go_loopw [10] (fun i wr => ∃ k : Nat, i = .int .i64 k ∧ k ≤ n ∧ Fine L ks k ∧ Below w1.heap.size w1 wr) (fun i _ => n - (intOf i).toNat)
 case atStart => exact ⟨0, rfl, Nat.zero_le _, fun i hi => absurd hi (by omega), Below.refl _ _⟩
 case round =>
  obtain ⟨k, rfl, hk, hF, hbr⟩ := hrel
  have HF : Hid (Fine L ks k) := hF
  clear hF
  have hPr := hP.keep (hbr.block g hg1)
  by_cases hkn : k < n
  · have hkL : k < L.length := by rw [HLL.out]; exact hkn
    have hkc : (k : Int) < (n : Int) := by omega
    have gc := hPr.2.2 k hkL
    have hat := places_lt hPr hkL
    obtain ⟨a, ha⟩ : ∃ a, L.getD k 0 = a := ⟨_, rfl⟩
    have HA : Hid (L.getD k 0 = a) := ha
    rw [ha] at gc hat
    obtain ⟨ad, hpe, hOa, hkey⟩ := hrd.2 a hat
    have hcK : ∀ (x : Nat), x < ks.length → ∀ W : World, Below w1.heap.size w1 W → W.cell? (ad.add x) = some (.string (keyAtK ks x)) := by
     intro x hx W hW
     obtain ⟨ad', hpe', hOa', hkey'⟩ := hrd.2 x hx
     rw [hpe] at hpe'
     cases hpe'
     have e1 := hO _ hOa'
     exact (World.cell?_of_block (by rw [add_block]; exact (hW.block _ (by omega)).trans (hb1.block _ e1))).trans hkey'
    subst hpe
    have hca : a < n := by rw [← HN.out]; exact hat
    have hcap : n ≤ c := by have := hrd.1; rw [HN.out] at this; exact this
    have haI : (a : Int) < (n : Int) := by omega
    have hla := letters_any (keyAtK ks a)
    have hza : (keyAtK ks a).size ≤ 1000000000 := by rw [keyAtK_at hat]; exact hkz _ (List.getElem_mem hat)
    have hCA := fun W hW => hcK a hat W hW
    obtain ⟨key, hkeyE⟩ : ∃ key, keyAtK ks a = key := ⟨_, rfl⟩
    have HKE : Hid (keyAtK ks a = key) := hkeyE
    rw [hkeyE] at hla hza hCA
    have HLA := fun W => hla W hza
    have HCK : Hid (∀ (x : Nat), x < ks.length → ∀ W : World, Below w1.heap.size w1 W → W.cell? (ad.add x) = some (.string (keyAtK ks x))) := hcK
    clear hkey hla ha hkeyE hcK
    have hcs : letters key = true ∨ letters key = false := by cases letters key <;> simp
    rcases hcs with hlk | hlk
    · rw [hlk] at HLA
      cases k with
      | zero =>
       go_wp2
       have hC0 : Below w1.heap.size w1 wr.drew := ⟨hbr.os, hbr.tape, hbr.output, hbr.size, hbr.block⟩
       refine wp_region_in (by kernel_rfl) (fun W => Below w1.heap.size w1 W) ?_
       change wpIn _ _ _ _ _ _ _ _ (World.drew _)
       refine wpIn_tk (i := 0) (d := some 15) rfl ?_
       refine wpIn_tk (i := 1) (d := some 16) rfl ?_
       refine wpIn_tk (i := 2) (d := some 17) rfl ?_
       refine wpIn_tp (i := 3) (d := some 18) rfl (by (intro wq hq; have q0 := hCA wq hq; go_simp; first | done | with_reducible rfl)) ?_
       refine wpIn_do (i := 4) hC0 (by kernel_rfl) rfl (by rfl) ?_
       intro K hK
       go_simp
       go_wp2_with (go_at_call 131; refine (HLA _).mono ?_; rintro x w3 ⟨rfl, hb3⟩)
       have hC1 : Below w1.heap.size w1 w3 := hC0.trans ⟨hb3.os, hb3.tape, hb3.output, hb3.size, fun k hk => hb3.block k (by have := hC0.size; omega)⟩
       clear hC0
       refine wpIn_tk (i := 5) (d := some 20) rfl ?_
       refine wpIn_tk (i := 6) (d := some 21) rfl ?_
       refine wpIn_tk (i := 7) (d := some 22) rfl ?_
       refine wpIn_tk (i := 8) (d := some 23) rfl ?_
       refine wpIn_tk (i := 9) (d := some 24) rfl ?_
       refine wpIn_take (i := 10) (d := (some 25)) (v := undef) (a' := ?aqz10) rfl rfl (by kernel_rfl) (by kernel_rfl) (by kernel_rfl) (fun _ _ _ h => h) (Or.inr ⟨by rfl, rfl⟩) ?fqz10 ?_
       case fqz10 => (go_frame; rfl)
       refine wpIn_take (i := 11) (d := (some 26)) (v := undef) (a' := ?aqz11) rfl rfl (by kernel_rfl) (by kernel_rfl) (by kernel_rfl) (fun _ _ _ h => h) (Or.inr ⟨by rfl, rfl⟩) ?fqz11 ?_
       case fqz11 => (go_frame; rfl)
       refine wpIn_take (i := 12) (d := (some 27)) (v := undef) (a' := ?aqz12) rfl rfl (by kernel_rfl) (by kernel_rfl) (by kernel_rfl) (fun _ _ _ h => h) (Or.inr ⟨by rfl, rfl⟩) ?fqz12 ?_
       case fqz12 => (go_frame; rfl)
       refine wpIn_take (i := 13) (d := (some 28)) (v := undef) (a' := ?aqz13) rfl rfl (by kernel_rfl) (by kernel_rfl) (by kernel_rfl) (fun _ _ _ h => h) (Or.inr ⟨by rfl, rfl⟩) ?fqz13 ?_
       case fqz13 => (go_frame; rfl)
       refine wpIn_take (i := 14) (d := (some 29)) (v := undef) (a' := ?aqz14) rfl rfl (by kernel_rfl) (by kernel_rfl) (by kernel_rfl) (fun _ _ _ h => h) (Or.inr ⟨by rfl, rfl⟩) ?fqz14 ?_
       case fqz14 => (go_frame; rfl)
       refine wpIn_take (i := 15) (d := (some 30)) (v := undef) (a' := ?aqz15) rfl rfl (by kernel_rfl) (by kernel_rfl) (by kernel_rfl) (fun _ _ _ h => h) (Or.inr ⟨by rfl, rfl⟩) ?fqz15 ?_
       case fqz15 => (go_frame; rfl)
       refine wpIn_take (i := 16) (d := (some 31)) (v := undef) (a' := ?aqz16) rfl rfl (by kernel_rfl) (by kernel_rfl) (by kernel_rfl) (fun _ _ _ h => h) (Or.inr ⟨by rfl, rfl⟩) ?fqz16 ?_
       case fqz16 => (go_frame; rfl)
       refine wpIn_take (i := 17) (d := (some 32)) (v := undef) (a' := ?aqz17) rfl rfl (by kernel_rfl) (by kernel_rfl) (by kernel_rfl) (fun _ _ _ h => h) (Or.inr ⟨by rfl, rfl⟩) ?fqz17 ?_
       case fqz17 => (go_frame; rfl)
       refine wpIn_take (i := 18) (d := (some 33)) (v := undef) (a' := ?aqz18) rfl rfl (by kernel_rfl) (by kernel_rfl) (by kernel_rfl) (fun _ _ _ h => h) (Or.inr ⟨by rfl, rfl⟩) ?fqz18 ?_
       case fqz18 => (go_frame; rfl)
       refine wpIn_take (i := 19) (d := (some 34)) (v := undef) (a' := ?aqz19) rfl rfl (by kernel_rfl) (by kernel_rfl) (by kernel_rfl) (fun _ _ _ h => h) (Or.inr ⟨by rfl, rfl⟩) ?fqz19 ?_
       case fqz19 => (go_frame; rfl)
       refine wpIn_take (i := 20) (d := (some 35)) (v := undef) (a' := ?aqz20) rfl rfl (by kernel_rfl) (by kernel_rfl) (by kernel_rfl) (fun _ _ _ h => h) (Or.inr ⟨by rfl, rfl⟩) ?fqz20 ?_
       case fqz20 => (go_frame; rfl)
       refine wpIn_take (i := 21) (d := (some 36)) (v := undef) (a' := ?aqz21) rfl rfl (by kernel_rfl) (by kernel_rfl) (by kernel_rfl) (fun _ _ _ h => h) (Or.inr ⟨by rfl, rfl⟩) ?fqz21 ?_
       case fqz21 => (go_frame; rfl)
       refine wpIn_take (i := 22) (d := (some 37)) (v := undef) (a' := ?aqz22) rfl rfl (by kernel_rfl) (by kernel_rfl) (by kernel_rfl) (fun _ _ _ h => h) (Or.inr ⟨by rfl, rfl⟩) ?fqz22 ?_
       case fqz22 => (go_frame; rfl)
       refine wpIn_tk (i := 23) (d := some 38) rfl ?_
       refine wpIn_tk (i := 24) (d := some 39) rfl ?_
       refine wpIn_done hC1 (by kernel_rfl) ?_ _
       go_wp2
       go_roundw
       case rel => exact ⟨1, by go_num, hkn, HF.out.step (by rw [HA.out, HKE.out]; exact hlk) (fun h => absurd h (by omega)), hC1⟩
       case measure => simp [intOf]; omega
      | succ m =>
       have gm := hPr.2.2 m (by omega)
       have hmt := places_lt hPr (i := m) (by omega)
       obtain ⟨b, hbE⟩ : ∃ b, L.getD m 0 = b := ⟨_, rfl⟩
       have HB : Hid (L.getD m 0 = b) := hbE
       rw [hbE] at gm hmt
       have hCB := fun W hW => HCK.out b hmt W hW
       have hcb : b < n := by rw [← HN.out]; exact hmt
       have hbI : (b : Int) < (n : Int) := by omega
       have hmI : (m : Int) < (n : Int) := by omega
       have hwm : IntKind.i64.wrap (m : Int) = (m : Int) := by first | go_num | (simp [IntKind.wrap, IntKind.bits, IntKind.signed]; omega)
       have hGM : ∀ W : World, Below w1.heap.size w1 W → W.cell? ⟨g, m, none⟩ = some (.int .i64 (b : Int)) := fun W hW => by
        have h1 := hP.2.2 m (by omega)
        rw [hbE] at h1
        exact (World.cell?_of_block (a := ⟨g, m, none⟩) (hW.block g hg1)).trans h1
       obtain ⟨kb, hkb⟩ : ∃ kb, keyAtK ks b = kb := ⟨_, rfl⟩
       have HKB : Hid (keyAtK ks b = kb) := hkb
       rw [hkb] at hCB
       clear hbE hkb hmt
       by_cases hsame : kb = key
       · have heq : (kb.toList == key.toList) = true := by rw [hsame]; simp
         go_wp2
         have hC0 : Below w1.heap.size w1 wr.drew := ⟨hbr.os, hbr.tape, hbr.output, hbr.size, hbr.block⟩
         refine wp_region_in (by kernel_rfl) (fun W => Below w1.heap.size w1 W) ?_
         change wpIn _ _ _ _ _ _ _ _ (World.drew _)
         refine wpIn_tk (i := 0) (d := some 15) rfl ?_
         refine wpIn_tk (i := 1) (d := some 16) rfl ?_
         refine wpIn_tk (i := 2) (d := some 17) rfl ?_
         refine wpIn_tp (i := 3) (d := some 18) rfl (by (intro wq hq; have q0 := hCA wq hq; go_simp; first | done | with_reducible rfl)) ?_
         refine wpIn_do (i := 4) hC0 (by kernel_rfl) rfl (by rfl) ?_
         intro K hK
         go_simp
         go_wp2_with (go_at_call 131; refine (HLA _).mono ?_; rintro x w3 ⟨rfl, hb3⟩)
         have hC1 : Below w1.heap.size w1 w3 := hC0.trans ⟨hb3.os, hb3.tape, hb3.output, hb3.size, fun k hk => hb3.block k (by have := hC0.size; omega)⟩
         clear hC0
         refine wpIn_tk (i := 5) (d := some 20) rfl ?_
         refine wpIn_tk (i := 6) (d := some 21) rfl ?_
         refine wpIn_tk (i := 7) (d := some 22) rfl ?_
         refine wpIn_tk (i := 8) (d := some 23) rfl ?_
         refine wpIn_tk (i := 9) (d := some 24) rfl ?_
         refine wpIn_tk (i := 10) (d := some 25) rfl ?_
         refine wpIn_tk (i := 11) (d := some 26) rfl ?_
         refine wpIn_tk (i := 12) (d := some 27) rfl ?_
         refine wpIn_tk (i := 13) (d := some 28) rfl ?_
         refine wpIn_tk (i := 14) (d := some 29) rfl ?_
         refine wpIn_tp (i := 15) (d := some 30) rfl (by (intro wq hq; have q0 := hGM wq hq; go_simp; first | done | with_reducible rfl)) ?_
         refine wpIn_tk (i := 16) (d := some 31) rfl ?_
         refine wpIn_tp (i := 17) (d := some 32) rfl (by (intro wq hq; have q0 := hCB wq hq; go_simp; first | done | with_reducible rfl)) ?_
         refine wpIn_tk (i := 18) (d := some 33) rfl ?_
         refine wpIn_tk (i := 19) (d := some 34) rfl ?_
         refine wpIn_tk (i := 20) (d := some 35) rfl ?_
         refine wpIn_tp (i := 21) (d := some 36) rfl (by (intro wq hq; have q0 := hCA wq hq; go_simp; first | done | with_reducible rfl)) ?_
         refine wpIn_tk (i := 22) (d := some 37) rfl ?_
         refine wpIn_tk (i := 23) (d := some 38) rfl ?_
         refine wpIn_tk (i := 24) (d := some 39) rfl ?_
         refine wpIn_done hC1 (by kernel_rfl) ?_ _
         go_wp2
         go_ret
         exact ⟨ret_bool (goodK_twice hP hkL (by omega) (by rw [HA.out, HKE.out]; show keyAtK ks (L.getD m 0) = _; rw [HB.out, HKB.out]; exact hsame)).symm, hb1.trans ⟨hC1.os, hC1.tape, hC1.output, hC1.size, fun k hk => hC1.block k (by omega)⟩⟩
       · have heq : (kb.toList == key.toList) = false := by rw [beq_eq_false_iff_ne]; intro e; exact hsame (toList_inj e)
         go_wp2
         have hC0 : Below w1.heap.size w1 wr.drew := ⟨hbr.os, hbr.tape, hbr.output, hbr.size, hbr.block⟩
         refine wp_region_in (by kernel_rfl) (fun W => Below w1.heap.size w1 W) ?_
         change wpIn _ _ _ _ _ _ _ _ (World.drew _)
         refine wpIn_tk (i := 0) (d := some 15) rfl ?_
         refine wpIn_tk (i := 1) (d := some 16) rfl ?_
         refine wpIn_tk (i := 2) (d := some 17) rfl ?_
         refine wpIn_tp (i := 3) (d := some 18) rfl (by (intro wq hq; have q0 := hCA wq hq; go_simp; first | done | with_reducible rfl)) ?_
         refine wpIn_do (i := 4) hC0 (by kernel_rfl) rfl (by rfl) ?_
         intro K hK
         go_simp
         go_wp2_with (go_at_call 131; refine (HLA _).mono ?_; rintro x w3 ⟨rfl, hb3⟩)
         have hC1 : Below w1.heap.size w1 w3 := hC0.trans ⟨hb3.os, hb3.tape, hb3.output, hb3.size, fun k hk => hb3.block k (by have := hC0.size; omega)⟩
         clear hC0
         refine wpIn_tk (i := 5) (d := some 20) rfl ?_
         refine wpIn_tk (i := 6) (d := some 21) rfl ?_
         refine wpIn_tk (i := 7) (d := some 22) rfl ?_
         refine wpIn_tk (i := 8) (d := some 23) rfl ?_
         refine wpIn_tk (i := 9) (d := some 24) rfl ?_
         refine wpIn_tk (i := 10) (d := some 25) rfl ?_
         refine wpIn_tk (i := 11) (d := some 26) rfl ?_
         refine wpIn_tk (i := 12) (d := some 27) rfl ?_
         refine wpIn_tk (i := 13) (d := some 28) rfl ?_
         refine wpIn_tk (i := 14) (d := some 29) rfl ?_
         refine wpIn_tp (i := 15) (d := some 30) rfl (by (intro wq hq; have q0 := hGM wq hq; go_simp; first | done | with_reducible rfl)) ?_
         refine wpIn_tk (i := 16) (d := some 31) rfl ?_
         refine wpIn_tp (i := 17) (d := some 32) rfl (by (intro wq hq; have q0 := hCB wq hq; go_simp; first | done | with_reducible rfl)) ?_
         refine wpIn_tk (i := 18) (d := some 33) rfl ?_
         refine wpIn_tk (i := 19) (d := some 34) rfl ?_
         refine wpIn_tk (i := 20) (d := some 35) rfl ?_
         refine wpIn_tp (i := 21) (d := some 36) rfl (by (intro wq hq; have q0 := hCA wq hq; go_simp; first | done | with_reducible rfl)) ?_
         refine wpIn_tk (i := 22) (d := some 37) rfl ?_
         refine wpIn_tk (i := 23) (d := some 38) rfl ?_
         refine wpIn_tk (i := 24) (d := some 39) rfl ?_
         refine wpIn_done hC1 (by kernel_rfl) ?_ _
         go_wp2
         go_roundw
         case rel => exact ⟨m + 1 + 1, by go_num, hkn, HF.out.step (by rw [HA.out, HKE.out]; exact hlk) (fun _ => by rw [HA.out, HKE.out]; show keyAtK ks (L.getD m 0) ≠ _; rw [HB.out, HKB.out]; exact hsame), hC1⟩
         case measure => simp [intOf]; omega
    · rw [hlk] at HLA
      go_wp2
      have hC0 : Below w1.heap.size w1 wr.drew := ⟨hbr.os, hbr.tape, hbr.output, hbr.size, hbr.block⟩
      refine wp_region_in (by kernel_rfl) (fun W => Below w1.heap.size w1 W) ?_
      change wpIn _ _ _ _ _ _ _ _ (World.drew _)
      refine wpIn_tk (i := 0) (d := some 15) rfl ?_
      refine wpIn_tk (i := 1) (d := some 16) rfl ?_
      refine wpIn_tk (i := 2) (d := some 17) rfl ?_
      refine wpIn_tp (i := 3) (d := some 18) rfl (by (intro wq hq; have q0 := hCA wq hq; go_simp; first | done | with_reducible rfl)) ?_
      refine wpIn_do (i := 4) hC0 (by kernel_rfl) rfl (by rfl) ?_
      intro K hK
      go_simp
      go_wp2_with (go_at_call 131; refine (HLA _).mono ?_; rintro x w3 ⟨rfl, hb3⟩)
      have hC1 : Below w1.heap.size w1 w3 := hC0.trans ⟨hb3.os, hb3.tape, hb3.output, hb3.size, fun k hk => hb3.block k (by have := hC0.size; omega)⟩
      clear hC0
      refine wpIn_tk (i := 5) (d := some 20) rfl ?_
      refine wpIn_tk (i := 6) (d := some 21) rfl ?_
      refine wpIn_take (i := 7) (d := (some 22)) (v := undef) (a' := ?aqn7) rfl rfl (by kernel_rfl) (by kernel_rfl) (by kernel_rfl) (fun _ _ _ h => h) (Or.inr ⟨by rfl, rfl⟩) ?fqn7 ?_
      case fqn7 => (go_frame; rfl)
      refine wpIn_take (i := 8) (d := (some 23)) (v := undef) (a' := ?aqn8) rfl rfl (by kernel_rfl) (by kernel_rfl) (by kernel_rfl) (fun _ _ _ h => h) (Or.inr ⟨by rfl, rfl⟩) ?fqn8 ?_
      case fqn8 => (go_frame; rfl)
      refine wpIn_take (i := 9) (d := (some 24)) (v := undef) (a' := ?aqn9) rfl rfl (by kernel_rfl) (by kernel_rfl) (by kernel_rfl) (fun _ _ _ h => h) (Or.inr ⟨by rfl, rfl⟩) ?fqn9 ?_
      case fqn9 => (go_frame; rfl)
      refine wpIn_take (i := 10) (d := (some 25)) (v := undef) (a' := ?aqn10) rfl rfl (by kernel_rfl) (by kernel_rfl) (by kernel_rfl) (fun _ _ _ h => h) (Or.inr ⟨by rfl, rfl⟩) ?fqn10 ?_
      case fqn10 => (go_frame; rfl)
      refine wpIn_take (i := 11) (d := (some 26)) (v := undef) (a' := ?aqn11) rfl rfl (by kernel_rfl) (by kernel_rfl) (by kernel_rfl) (fun _ _ _ h => h) (Or.inr ⟨by rfl, rfl⟩) ?fqn11 ?_
      case fqn11 => (go_frame; rfl)
      refine wpIn_take (i := 12) (d := (some 27)) (v := undef) (a' := ?aqn12) rfl rfl (by kernel_rfl) (by kernel_rfl) (by kernel_rfl) (fun _ _ _ h => h) (Or.inr ⟨by rfl, rfl⟩) ?fqn12 ?_
      case fqn12 => (go_frame; rfl)
      refine wpIn_take (i := 13) (d := (some 28)) (v := undef) (a' := ?aqn13) rfl rfl (by kernel_rfl) (by kernel_rfl) (by kernel_rfl) (fun _ _ _ h => h) (Or.inr ⟨by rfl, rfl⟩) ?fqn13 ?_
      case fqn13 => (go_frame; rfl)
      refine wpIn_take (i := 14) (d := (some 29)) (v := undef) (a' := ?aqn14) rfl rfl (by kernel_rfl) (by kernel_rfl) (by kernel_rfl) (fun _ _ _ h => h) (Or.inr ⟨by rfl, rfl⟩) ?fqn14 ?_
      case fqn14 => (go_frame; rfl)
      refine wpIn_take (i := 15) (d := (some 30)) (v := undef) (a' := ?aqn15) rfl rfl (by kernel_rfl) (by kernel_rfl) (by kernel_rfl) (fun _ _ _ h => h) (Or.inr ⟨by rfl, rfl⟩) ?fqn15 ?_
      case fqn15 => (go_frame; rfl)
      refine wpIn_take (i := 16) (d := (some 31)) (v := undef) (a' := ?aqn16) rfl rfl (by kernel_rfl) (by kernel_rfl) (by kernel_rfl) (fun _ _ _ h => h) (Or.inr ⟨by rfl, rfl⟩) ?fqn16 ?_
      case fqn16 => (go_frame; rfl)
      refine wpIn_take (i := 17) (d := (some 32)) (v := undef) (a' := ?aqn17) rfl rfl (by kernel_rfl) (by kernel_rfl) (by kernel_rfl) (fun _ _ _ h => h) (Or.inr ⟨by rfl, rfl⟩) ?fqn17 ?_
      case fqn17 => (go_frame; rfl)
      refine wpIn_take (i := 18) (d := (some 33)) (v := undef) (a' := ?aqn18) rfl rfl (by kernel_rfl) (by kernel_rfl) (by kernel_rfl) (fun _ _ _ h => h) (Or.inr ⟨by rfl, rfl⟩) ?fqn18 ?_
      case fqn18 => (go_frame; rfl)
      refine wpIn_take (i := 19) (d := (some 34)) (v := undef) (a' := ?aqn19) rfl rfl (by kernel_rfl) (by kernel_rfl) (by kernel_rfl) (fun _ _ _ h => h) (Or.inr ⟨by rfl, rfl⟩) ?fqn19 ?_
      case fqn19 => (go_frame; rfl)
      refine wpIn_take (i := 20) (d := (some 35)) (v := undef) (a' := ?aqn20) rfl rfl (by kernel_rfl) (by kernel_rfl) (by kernel_rfl) (fun _ _ _ h => h) (Or.inr ⟨by rfl, rfl⟩) ?fqn20 ?_
      case fqn20 => (go_frame; rfl)
      refine wpIn_take (i := 21) (d := (some 36)) (v := undef) (a' := ?aqn21) rfl rfl (by kernel_rfl) (by kernel_rfl) (by kernel_rfl) (fun _ _ _ h => h) (Or.inr ⟨by rfl, rfl⟩) ?fqn21 ?_
      case fqn21 => (go_frame; rfl)
      refine wpIn_take (i := 22) (d := (some 37)) (v := undef) (a' := ?aqn22) rfl rfl (by kernel_rfl) (by kernel_rfl) (by kernel_rfl) (fun _ _ _ h => h) (Or.inr ⟨by rfl, rfl⟩) ?fqn22 ?_
      case fqn22 => (go_frame; rfl)
      refine wpIn_take (i := 23) (d := (some 38)) (v := undef) (a' := ?aqn23) rfl rfl (by kernel_rfl) (by kernel_rfl) (by kernel_rfl) (fun _ _ _ h => h) (Or.inr ⟨by rfl, rfl⟩) ?fqn23 ?_
      case fqn23 => (go_frame; rfl)
      refine wpIn_tk (i := 24) (d := some 39) rfl ?_
      refine wpIn_done hC1 (by kernel_rfl) ?_ _
      go_wp2
      go_ret
      exact ⟨ret_bool (goodK_letters hP hkL (by rw [HA.out, HKE.out]; exact hlk)).symm, hb1.trans ⟨hC1.os, hC1.tape, hC1.output, hC1.size, fun k hk => hC1.block k (by omega)⟩⟩
  · obtain rfl : k = n := by omega
    go_wp2
    go_ret
    exact ⟨ret_bool (goodK_true hP (by rw [HLL.out]; exact HF.out)).symm, hb1.trans ⟨hbr.os, hbr.tape, hbr.output, hbr.size, fun k hk => hbr.block k (by omega)⟩⟩
def szJ : Nat → J → Bool
 | 0, _ => true
 | d + 1, .mk _ _ t ks l => decide (t.size ≤ 1000000000) && (decide (ks.length ≤ 100000) && (ks.all (fun k => decide (k.size ≤ 1000000000)) && (decide (l.length ≤ 100000) && l.all (szJ d))))
def Goods (d : Nat) : Prop := ∀ (w : World) (O : Nat → Prop) (j : J) (k i deep : Int) (t : ByteArray) (pk pl : Option Addr) (nk ck nl cl : Nat), (∀ x, O x → x < w.heap.size) → deep = 13 - (d : Int) → szJ d j = true →
 isJ O w j [.int .i64 k, .int .i64 i, .string t, .slice pk nk ck, .slice pl nl cl] →
 Calls Tryz.prog 122 #[.agg #[.int .i64 k, .int .i64 i, .string t, .slice pk nk ck, .slice pl nl cl], .int .i64 deep] w fun x w' => x = .returned (.bool (goodJ d j)) ∧ Below w.heap.size w w'
theorem below_in {a b c : World} (h : Below a.heap.size a b) (g : Below b.heap.size b c) : Below a.heap.size a c := h.trans ⟨g.os, g.tape, g.output, g.size, fun k hk => g.block k (by have := h.size; omega)⟩
theorem all_at {α : Type} {P : α → Bool} {l : List α} {n : Nat} {z : α} (h : l.all P = true) (hn : n < l.length) : P (l.getD n z) = true := by
 rw [List.getD_eq_getElem?_getD, List.getElem?_eq_getElem hn]
 exact List.all_eq_true.1 h _ (List.getElem_mem hn)
theorem all_take {P : J → Bool} {l : List J} {n : Nat} (hn : n < l.length) : (l.take (n + 1)).all P = ((l.take n).all P && P (l.getD n J.zero)) := by
 rw [take_snoc hn, List.all_append]; simp
theorem all_not {P : J → Bool} {l : List J} {n : Nat} (hn : n < l.length) (h : P (l.getD n J.zero) = false) : l.all P = false := by
 cases ha : l.all P with
 | false => rfl
 | true => rw [all_at (z := J.zero) ha hn] at h; cases h
theorem goodAll_any {d : Nat} (V : Goods d) {w : World} {O : Nat → Prop} {l : List J} {pl : Option Addr} {cl : Nat} {deep : Int} (hO : ∀ x, O x → x < w.heap.size) (hdeep : deep = 13 - (d : Int)) (hsz : l.all (szJ d) = true) (hj : isJs O w pl 0 l) (hc : l.length ≤ cl) (hlen : l.length ≤ 100000) :
    Calls Tryz.prog 132 #[.slice pl l.length cl, .int .i64 deep] w fun x w' => x = .returned (.bool (l.all (goodJ d))) ∧ Below w.heap.size w w' := by
 have HD : Hid (deep = 13 - (d : Int)) := hdeep
 clear hdeep
 obtain ⟨n, hn⟩ : ∃ n, l.length = n := ⟨_, rfl⟩
 have HN : Hid (l.length = n) := hn
 rw [hn] at hc hlen ⊢
 clear hn
 go_enter Tryz.func132, Tryz.ntmps132
 go_wp2
 go_loopw [9] (fun i wr => ∃ k : Nat, i = .int .i64 k ∧ k ≤ n ∧ (l.take k).all (goodJ d) = true ∧ Below w.heap.size w wr) (fun i _ => n - (intOf i).toNat)
 case atStart => exact ⟨0, rfl, Nat.zero_le _, rfl, Below.refl _ _⟩
 case round =>
  obtain ⟨k, rfl, hk, hal, hbr⟩ := hrel
  have HAL : Hid ((l.take k).all (goodJ d) = true) := hal
  clear hal
  by_cases hkl : k < n
  · have hkl' : k < l.length := by rw [HN.out]; exact hkl
    have HLL : Hid (k < l.length) := hkl'
    obtain ⟨lb, lo, cs, hpl, hOb, hcells, hyj⟩ := isJs.at l 0 k hj hkl'
    subst hpl
    obtain ⟨kv, iv, tv, pv, nv, cv, qv, mv, dv, rfl⟩ := isJ_shape hyj
    have hblk := hbr.block lb (hO lb hOb)
    have cc : ∀ m v, [Value.int .i64 kv, .int .i64 iv, .string tv, .slice pv nv cv, .slice qv mv dv][m]? = some v → wr.cell? ⟨lb, lo + k * 5 + m, none⟩ = some v := fun m v h => by
     have := hcells m v h
     rw [Nat.zero_add] at this
     exact (World.cell?_of_block (a := ⟨lb, lo + k * 5 + m, none⟩) hblk).trans this
    have y0 : wr.cell? ⟨lb, lo + k * 5, none⟩ = some (.int .i64 kv) := cc 0 _ rfl
    have y1 := cc 1 _ rfl
    have y2 := cc 2 _ rfl
    have y3 := cc 3 _ rfl
    have y4 := cc 4 _ rfl
    clear cc hcells hkl'
    have hkc : (k : Int) < (n : Int) := by omega
    have hbA : Below w.heap.size w (wr.alloc (.cells #[.int .i64 kv, .int .i64 iv, .string tv, .slice pv nv cv, .slice qv mv dv] 38)) := hbr.alloc hbr.size _
    have hV := V (wr.alloc (.cells #[.int .i64 kv, .int .i64 iv, .string tv, .slice pv nv cv, .slice qv mv dv] 38)) O (l.getD k J.zero) kv iv deep tv pv qv nv cv mv dv (fun x hx => Nat.lt_of_lt_of_le (hO x hx) hbA.size) HD.out (all_at hsz HLL.out) (hyj.carry fun x hx => ⟨hx, hbA.block x (hO x hx)⟩)
    cases hgj : goodJ d (l.getD k J.zero) with
    | true =>
     rw [hgj] at hV
     go_wp2_with (go_at_call 122; refine hV.mono ?_; rintro x w4 ⟨rfl, hb4⟩)
     go_roundw
     case rel => exact ⟨k + 1, by go_num, hkl, by rw [all_take HLL.out, HAL.out, hgj]; rfl, hbA.trans ⟨hb4.os, hb4.tape, hb4.output, hb4.size, fun x hx => hb4.block x (by have := hbA.size; omega)⟩⟩
     case measure => simp [intOf]; omega
    | false =>
     rw [hgj] at hV
     go_wp2_with (go_at_call 122; refine hV.mono ?_; rintro x w4 ⟨rfl, hb4⟩)
     go_ret
     exact ⟨ret_bool (all_not HLL.out hgj).symm, hbA.trans ⟨hb4.os, hb4.tape, hb4.output, hb4.size, fun x hx => hb4.block x (by have := hbA.size; omega)⟩⟩
  · obtain rfl : k = n := by omega
    go_wp2
    go_ret
    have := HAL.out
    rw [List.take_of_length_le (by rw [HN.out]; omega)] at this
    exact ⟨ret_bool this.symm, hbr⟩
theorem goods_zero : Goods 0 := by
 intro w O j k i deep t pk pl nk ck nl cl hO hdeep hsz hj
 have h13 : deep = 13 := by omega
 clear hdeep
 subst h13
 have HG : Hid (goodJ 0 j = false) := by show _ = _; unfold goodJ; rfl
 clear hj hsz
 go_enter Tryz.func122, Tryz.ntmps122
 go_wp2
 go_ret
 exact ⟨ret_bool HG.out.symm, (Below.refl _ _).alloc (Nat.le_refl _) _⟩
theorem bare_eq (k i : Int) (t : ByteArray) (ks : List ByteArray) (l : List J) : bare (.mk k i t ks l) = bareB k i t ks.length l.length := by unfold bare bareB; rfl
theorem goods_succ {d : Nat} (V : Goods d) (hd : d + 1 ≤ 12) : Goods (d + 1) := by
 intro w O j k i deep t pk pl nk ck nl cl hO hdeep hsz hj
 have hd0 : 0 ≤ deep := by omega
 have hd1 : deep ≤ 12 := by omega
 have HD : Hid (deep + 1 = 13 - (d : Int)) := by show _ = _; omega
 clear hdeep
 cases j with
 | mk k' i' t' ks l =>
  unfold isJ at hj
  obtain ⟨pk', ck', pl', cl', e, hrk, hlc, hjs⟩ := hj
  cases e
  unfold szJ at hsz
  simp only [Bool.and_eq_true, decide_eq_true_eq] at hsz
  obtain ⟨ht, hkl, hkz, hll, hls⟩ := hsz
  have hkz' : ∀ x ∈ ks, x.size ≤ 1000000000 := fun x hx => of_decide_eq_true (List.all_eq_true.1 hkz x hx)
  have hbA : Below w.heap.size w (w.alloc (.cells #[.int .i64 k, .int .i64 i, .string t, .slice pk ks.length ck, .slice pl l.length cl] 38)) := (Below.refl _ _).alloc (Nat.le_refl _) _
  have bb := bare_any k i t pk pl ks.length ck l.length cl (w.alloc (.cells #[.int .i64 k, .int .i64 i, .string t, .slice pk ks.length ck, .slice pl l.length cl] 38))
  have HB : Hid (goodJ (d + 1) (.mk k i t ks l) = (bareB k i t ks.length l.length &&
   (if k = 0 then true else if k = 1 then decide (i = 0) || decide (i = 1) else if k = 2 then decide (-maxInt ≤ i) && decide (i ≤ maxInt) else if k = 3 then letters t else if k = 4 then l.all (goodJ d)
    else if k = 5 then decide (ks.length = l.length) && (ks.all letters && noKeyTwice ks) && l.all (goodJ d) else false))) := by show _ = _; rw [goodJ, bare_eq]
  have bk : ∀ w2 : World, Below (w.alloc (.cells #[.int .i64 k, .int .i64 i, .string t, .slice pk ks.length ck, .slice pl l.length cl] 38)).heap.size (w.alloc (.cells #[.int .i64 k, .int .i64 i, .string t, .slice pk ks.length ck, .slice pl l.length cl] 38)) w2 →
      w2.heap[w.heap.size]? = some (.cells #[.int .i64 k, .int .i64 i, .string t, .slice pk ks.length ck, .slice pl l.length cl] 38 (0, 0)) ∧ Below w.heap.size w w2 := fun w2 h2 =>
   ⟨by rw [h2.block w.heap.size (by simp)]; exact heap_alloc_new _ _, hbA.trans ⟨h2.os, h2.tape, h2.output, h2.size, fun x hx => h2.block x (by simp; omega)⟩⟩
  clear hkz
  cases hbr : bareB k i t ks.length l.length with
  | false =>
   have HG : Hid (goodJ (d + 1) (.mk k i t ks l) = false) := by show _ = _; rw [HB.out, hbr]; rfl
   rw [hbr] at bb
   go_enter Tryz.func122, Tryz.ntmps122
   go_wp2_with (first
    | (go_at_call 130; refine bb.mono ?_; rintro x w2 ⟨rfl, hb2⟩; obtain ⟨hv, hbw⟩ := bk w2 hb2; clear bk; have c0 := five_c0 hv; have c1 := five_c1 hv; have c2 := five_c2 hv; have c3 := five_c3 hv; have c4 := five_c4 hv))
   go_ret
   exact ⟨ret_bool HG.out.symm, hbw⟩
  | true =>
   rw [hbr] at bb HB
   simp only [Bool.true_and] at HB
   by_cases k0 : k = 0
   · subst k0
     have HG : Hid (goodJ (d + 1) (.mk 0 i t ks l) = true) := by show _ = _; rw [HB.out]; rfl
     go_enter Tryz.func122, Tryz.ntmps122
     go_wp2_with (first
      | (go_at_call 130; refine bb.mono ?_; rintro x w2 ⟨rfl, hb2⟩; obtain ⟨hv, hbw⟩ := bk w2 hb2; clear bk; have c0 := five_c0 hv; have c1 := five_c1 hv; have c2 := five_c2 hv; have c3 := five_c3 hv; have c4 := five_c4 hv))
     go_ret
     exact ⟨ret_bool HG.out.symm, hbw⟩
   rw [if_neg k0] at HB
   by_cases k1 : k = 1
   · subst k1
     rw [if_pos rfl] at HB
     by_cases i0 : i = 0
     · subst i0
       have HG : Hid (goodJ (d + 1) (.mk 1 0 t ks l) = true) := by show _ = _; rw [HB.out]; rfl
       go_enter Tryz.func122, Tryz.ntmps122
       go_wp2_with (first
        | (go_at_call 130; refine bb.mono ?_; rintro x w2 ⟨rfl, hb2⟩; obtain ⟨hv, hbw⟩ := bk w2 hb2; clear bk; have c0 := five_c0 hv; have c1 := five_c1 hv; have c2 := five_c2 hv; have c3 := five_c3 hv; have c4 := five_c4 hv))
       go_ret
       exact ⟨ret_bool HG.out.symm, hbw⟩
     · by_cases i1 : i = 1
       · subst i1
         have HG : Hid (goodJ (d + 1) (.mk 1 1 t ks l) = true) := by show _ = _; rw [HB.out]; rfl
         go_enter Tryz.func122, Tryz.ntmps122
         go_wp2_with (first
          | (go_at_call 130; refine bb.mono ?_; rintro x w2 ⟨rfl, hb2⟩; obtain ⟨hv, hbw⟩ := bk w2 hb2; clear bk; have c0 := five_c0 hv; have c1 := five_c1 hv; have c2 := five_c2 hv; have c3 := five_c3 hv; have c4 := five_c4 hv))
         go_ret
         exact ⟨ret_bool HG.out.symm, hbw⟩
       · skip
         have HG : Hid (goodJ (d + 1) (.mk 1 i t ks l) = false) := by show _ = _; rw [HB.out]; simp [i0, i1]
         go_enter Tryz.func122, Tryz.ntmps122
         go_wp2_with (first
          | (go_at_call 130; refine bb.mono ?_; rintro x w2 ⟨rfl, hb2⟩; obtain ⟨hv, hbw⟩ := bk w2 hb2; clear bk; have c0 := five_c0 hv; have c1 := five_c1 hv; have c2 := five_c2 hv; have c3 := five_c3 hv; have c4 := five_c4 hv))
         go_ret
         refine ⟨ret_bool ?_, hbw⟩
         rw [HG.out]
         first | rfl | simp [i0, i1]
   rw [if_neg k1] at HB
   by_cases k2 : k = 2
   · subst k2
     rw [if_pos rfl] at HB
     unfold maxInt at HB
     by_cases i0 : -9007199254740991 ≤ i
     · skip
       by_cases i1 : i ≤ 9007199254740991
       · skip
         have HG : Hid (goodJ (d + 1) (.mk 2 i t ks l) = true) := by show _ = _; rw [HB.out]; simp [i0, i1]
         go_enter Tryz.func122, Tryz.ntmps122
         go_wp2_with (first
          | (go_at_call 130; refine bb.mono ?_; rintro x w2 ⟨rfl, hb2⟩; obtain ⟨hv, hbw⟩ := bk w2 hb2; clear bk; have c0 := five_c0 hv; have c1 := five_c1 hv; have c2 := five_c2 hv; have c3 := five_c3 hv; have c4 := five_c4 hv))
         go_ret
         refine ⟨ret_bool ?_, hbw⟩
         first | exact HG.out.symm | (rw [HG.out]; simp [i0, i1])
       · skip
         have HG : Hid (goodJ (d + 1) (.mk 2 i t ks l) = false) := by show _ = _; rw [HB.out]; simp [i1]
         go_enter Tryz.func122, Tryz.ntmps122
         go_wp2_with (first
          | (go_at_call 130; refine bb.mono ?_; rintro x w2 ⟨rfl, hb2⟩; obtain ⟨hv, hbw⟩ := bk w2 hb2; clear bk; have c0 := five_c0 hv; have c1 := five_c1 hv; have c2 := five_c2 hv; have c3 := five_c3 hv; have c4 := five_c4 hv))
         go_ret
         refine ⟨ret_bool ?_, hbw⟩
         first | exact HG.out.symm | (rw [HG.out]; simp [i1])
     · skip
       have HG : Hid (goodJ (d + 1) (.mk 2 i t ks l) = false) := by show _ = _; rw [HB.out]; simp [i0]
       go_enter Tryz.func122, Tryz.ntmps122
       go_wp2_with (first
        | (go_at_call 130; refine bb.mono ?_; rintro x w2 ⟨rfl, hb2⟩; obtain ⟨hv, hbw⟩ := bk w2 hb2; clear bk; have c0 := five_c0 hv; have c1 := five_c1 hv; have c2 := five_c2 hv; have c3 := five_c3 hv; have c4 := five_c4 hv))
       go_ret
       refine ⟨ret_bool ?_, hbw⟩
       first | exact HG.out.symm | (rw [HG.out]; simp [i0])
   rw [if_neg k2] at HB
   by_cases k3 : k = 3
   · subst k3
     rw [if_pos rfl] at HB
     go_enter Tryz.func122, Tryz.ntmps122
     go_wp2_with (first
      | (go_at_call 130; refine bb.mono ?_; rintro x w2 ⟨rfl, hb2⟩; obtain ⟨hv, hbw⟩ := bk w2 hb2; clear bk; have c0 := five_c0 hv; have c1 := five_c1 hv; have c2 := five_c2 hv; have c3 := five_c3 hv; have c4 := five_c4 hv)
      | (go_at_call 131; refine (letters_any t w2 ht).mono ?_; rintro x w3 ⟨rfl, hb3⟩))
     go_ret
     exact ⟨ret_bool HB.out.symm, below_in hbw hb3⟩
   rw [if_neg k3] at HB
   by_cases k4 : k = 4
   · subst k4
     rw [if_pos rfl] at HB
     go_enter Tryz.func122, Tryz.ntmps122
     go_wp2_with (first
      | (go_at_call 130; refine bb.mono ?_; rintro x w2 ⟨rfl, hb2⟩; obtain ⟨hv, hbw⟩ := bk w2 hb2; clear bk; have c0 := five_c0 hv; have c1 := five_c1 hv; have c2 := five_c2 hv; have c3 := five_c3 hv; have c4 := five_c4 hv)
      | (go_at_call 132; refine (goodAll_any V (fun x hx => Nat.lt_of_lt_of_le (hO x hx) (hbw).size) HD.out hls (hjs.carry fun x hx => ⟨hx, (hbw).block x (hO x hx)⟩) hlc hll).mono ?_; rintro x w4 ⟨rfl, hb4⟩))
     go_ret
     exact ⟨ret_bool HB.out.symm, below_in hbw hb4⟩
   rw [if_neg k4] at HB
   by_cases k5 : k = 5
   · subst k5
     rw [if_pos rfl] at HB
     by_cases he : ks.length = l.length
     · have heI : ((ks.length : Int) == (l.length : Int)) = true := by simp [he]
       have HE : Hid (ks.length = l.length) := he
       clear he
       cases hgk : goodK ks with
       | true =>
        have HGK : Hid (goodK ks = true) := hgk
        have HG : Hid (goodJ (d + 1) (.mk 5 i t ks l) = l.all (goodJ d)) := by
         show _ = _
         rw [HB.out]
         unfold goodK at hgk
         rw [hgk, decide_eq_true HE.out]
         rfl
        clear hgk
        go_enter Tryz.func122, Tryz.ntmps122
        go_wp2_with (first
         | (go_at_call 130; refine bb.mono ?_; rintro x w2 ⟨rfl, hb2⟩; obtain ⟨hv, hbw⟩ := bk w2 hb2; clear bk; have c0 := five_c0 hv; have c1 := five_c1 hv; have c2 := five_c2 hv; have c3 := five_c3 hv; have c4 := five_c4 hv)
         | (go_at_call 133; refine (goodKeys_any (hrk.carry fun x hx => ⟨hx, hbw.block x (hO x hx)⟩) (fun x hx => Nat.lt_of_lt_of_le (hO x hx) hbw.size) hkl hkz').mono ?_; rw [HGK.out]; rintro x w3 ⟨rfl, hb3⟩; have hv3 := (hb3.block w.heap.size (Array.getElem?_eq_some_iff.1 hv).1).trans hv; have hbw3 := below_in hbw hb3; have c03 := five_c0 hv3; have c13 := five_c1 hv3; have c23 := five_c2 hv3; have c33 := five_c3 hv3; have c43 := five_c4 hv3)
         | (go_at_call 132; refine (goodAll_any V (fun x hx => Nat.lt_of_lt_of_le (hO x hx) (hbw3).size) HD.out hls (hjs.carry fun x hx => ⟨hx, (hbw3).block x (hO x hx)⟩) hlc hll).mono ?_; rintro x w4 ⟨rfl, hb4⟩))
        go_ret
        exact ⟨ret_bool HG.out.symm, below_in hbw3 hb4⟩
       | false =>
        have HGK : Hid (goodK ks = false) := hgk
        have HG : Hid (goodJ (d + 1) (.mk 5 i t ks l) = false) := by
         show _ = _
         rw [HB.out]
         unfold goodK at hgk
         rw [hgk, decide_eq_true HE.out]
         rfl
        clear hgk
        go_enter Tryz.func122, Tryz.ntmps122
        go_wp2_with (first
         | (go_at_call 130; refine bb.mono ?_; rintro x w2 ⟨rfl, hb2⟩; obtain ⟨hv, hbw⟩ := bk w2 hb2; clear bk; have c0 := five_c0 hv; have c1 := five_c1 hv; have c2 := five_c2 hv; have c3 := five_c3 hv; have c4 := five_c4 hv)
         | (go_at_call 133; refine (goodKeys_any (hrk.carry fun x hx => ⟨hx, hbw.block x (hO x hx)⟩) (fun x hx => Nat.lt_of_lt_of_le (hO x hx) hbw.size) hkl hkz').mono ?_; rw [HGK.out]; rintro x w3 ⟨rfl, hb3⟩; have hv3 := (hb3.block w.heap.size (Array.getElem?_eq_some_iff.1 hv).1).trans hv; have hbw3 := below_in hbw hb3; have c03 := five_c0 hv3; have c13 := five_c1 hv3; have c23 := five_c2 hv3; have c33 := five_c3 hv3; have c43 := five_c4 hv3))
        go_ret
        exact ⟨ret_bool HG.out.symm, hbw3⟩
     · have heI : ((ks.length : Int) == (l.length : Int)) = false := by simp; omega
       have HG : Hid (goodJ (d + 1) (.mk 5 i t ks l) = false) := by
        show _ = _
        rw [HB.out, decide_eq_false he]
        rfl
       clear he
       go_enter Tryz.func122, Tryz.ntmps122
       go_wp2_with (first
        | (go_at_call 130; refine bb.mono ?_; rintro x w2 ⟨rfl, hb2⟩; obtain ⟨hv, hbw⟩ := bk w2 hb2; clear bk; have c0 := five_c0 hv; have c1 := five_c1 hv; have c2 := five_c2 hv; have c3 := five_c3 hv; have c4 := five_c4 hv))
       go_ret
       exact ⟨ret_bool HG.out.symm, hbw⟩
   · rw [if_neg k5] at HB
     go_enter Tryz.func122, Tryz.ntmps122
     go_wp2_with (first
      | (go_at_call 130; refine bb.mono ?_; rintro x w2 ⟨rfl, hb2⟩; obtain ⟨hv, hbw⟩ := bk w2 hb2; clear bk; have c0 := five_c0 hv; have c1 := five_c1 hv; have c2 := five_c2 hv; have c3 := five_c3 hv; have c4 := five_c4 hv))
     go_ret
     exact ⟨ret_bool HB.out.symm, hbw⟩
theorem goods : ∀ d, d ≤ 12 → Goods d
 | 0, _ => goods_zero
 | d + 1, h => goods_succ (goods d (by omega)) h
end Go.Proofs.YtimhpglfolbomabGreat

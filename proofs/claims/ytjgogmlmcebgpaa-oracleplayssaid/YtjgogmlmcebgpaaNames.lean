/-
  Rows of names: which one stands where, whether one stands twice, a copy.
-/
import Derived.Test.YtjgogmlmcebgpaaNum
import Derived.Laws.AppendOwnNone
namespace Go.Proofs.Ytjgogmlmcebgpaa
open Go.RowKit

theorem Try.info9 : (Try.prog.info? 9).map (fun i => (i.zero, i.size, i.bytes)) = some (some (.string ⟨#[]⟩), 1, 16) := by kernel_rfl

/-- At p, with room for c, the names S are read; they lie below block B. -/
def RdS (B : Nat) (w : World) (p : Option Addr) (c : Nat) (S : List ByteArray) : Prop :=
  S.length ≤ c ∧ ∀ j, j < S.length → ∃ a, p = some a ∧ a.block < B ∧ w.cell? (a.add j) = some (.string (S.getD j ⟨#[]⟩))
theorem RdS.carry {B : Nat} {w w' : World} {p : Option Addr} {c : Nat} {S : List ByteArray} (h : RdS B w p c S) (hb : Below B w w') : RdS B w' p c S :=
  ⟨h.1, fun j hj => by
    obtain ⟨a, ha, hB, hc⟩ := h.2 j hj
    exact ⟨a, ha, hB, (hb.cell (by rw [add_block]; exact hB)).trans hc⟩⟩
theorem RdS.grow {B B' : Nat} {w : World} {p : Option Addr} {c : Nat} {S : List ByteArray} (h : RdS B w p c S) (hB : B ≤ B') : RdS B' w p c S :=
  ⟨h.1, fun j hj => by
    obtain ⟨a, ha, hb, hc⟩ := h.2 j hj
    exact ⟨a, ha, by omega, hc⟩⟩
theorem RdS.take {B : Nat} {w : World} {p : Option Addr} {c : Nat} {S : List ByteArray} (h : RdS B w p c S) (n : Nat) : RdS B w p c (S.take n) :=
  ⟨by have := h.1; rw [List.length_take]; omega, fun j hj => by
    rw [List.length_take] at hj
    obtain ⟨a, ha, hb, hc⟩ := h.2 j (by omega)
    refine ⟨a, ha, hb, ?_⟩
    rw [hc, List.getD_eq_getElem?_getD, List.getD_eq_getElem?_getD, List.getElem?_take, if_pos (by omega)]⟩
theorem str_oneCell (l : List ByteArray) : ∀ v ∈ l.map Value.string, v.oneCell' = true := by
  intro v hv
  simp only [List.mem_map] at hv
  obtain ⟨x, _, rfl⟩ := hv
  rfl
theorem RdS.all {B : Nat} {w : World} {c : Nat} {S : List ByteArray} {a : Addr} (h : RdS B w (some a) c S) : ∀ j u, (S.map Value.string)[j]? = some u → w.cell? (a.add j) = some u := by
  intro j u hj
  have hjl : j < S.length := by
    rcases Nat.lt_or_ge j S.length with h' | h'
    · exact h'
    · rw [List.getElem?_eq_none (by simpa using h')] at hj; cases hj
  obtain ⟨a', ha, _, hc⟩ := h.2 j hjl
  cases ha
  rw [hc, ← hj, List.getElem?_map, List.getD_eq_getElem?_getD, List.getElem?_eq_getElem hjl]
  rfl
theorem RdS.none {B : Nat} {w : World} {c : Nat} {S : List ByteArray} (h : RdS B w none c S) : S = [] := by
  cases S with
  | nil => rfl
  | cons x r => obtain ⟨a, ha, _⟩ := h.2 0 (by simp); cases ha
/-- A row that is owned is read. -/
theorem own_rds {w : World} {B : Nat} {v : Value} {S : List ByteArray} (h : w.ownsRow B 9 1 v S.length (S.map Value.string)) : ∃ q cq, v = .slice q S.length cq ∧ RdS w.heap.size w q cq S ∧ (q = none → cq = 0) := by
  rcases h.2 with ⟨rfl, hn⟩ | ⟨g, cap, cur, rfl, hg, hgg, h1, h2, h3, h4⟩
  · obtain rfl : S = [] := List.eq_nil_of_length_eq_zero hn
    exact ⟨none, 0, rfl, ⟨Nat.le_refl _, fun j hj => absurd hj (by simp)⟩, fun _ => rfl⟩
  · refine ⟨_, cap, rfl, ⟨h1, fun j hj => ⟨_, rfl, (Array.getElem?_eq_some_iff.1 hgg).1, ?_⟩⟩, fun h => by cases h⟩
    have := h.cells (g := g) rfl j (.string (S.getD j ⟨#[]⟩)) (by rw [List.getElem?_map, List.getD_eq_getElem?_getD, List.getElem?_eq_getElem hj]; rfl)
    exact this

set_option maxHeartbeats 1000000 in
theorem index_any (S : List ByteArray) (p : Option Addr) (c : Nat) (s : ByteArray) (w : World) (B : Nat) (hS : S.length ≤ 1000000) (hrd : RdS B w p c S) :
    Calls Try.prog 35 #[.slice p S.length c, .string s] w fun e w' => e = .returned (.int .i64 (idx S s)) ∧ w = w' := by
  go_enter Try.func35, Try.ntmps35
  go_wp2
  go_loop [8] (fun i => ∃ k : Nat, k ≤ S.length ∧ i = .int .i64 k ∧ s ∉ S.take k) (fun i => S.length - (intOf i).toNat)
  case atStart => exact ⟨0, Nat.zero_le _, rfl, by simp⟩
  case round =>
    obtain ⟨k, hk, rfl, hall⟩ := hrel
    have HA : Hid (s ∉ S.take k) := hall
    clear hall
    by_cases hlt : k < S.length
    · obtain ⟨ad, rfl, had, hcell⟩ := hrd.2 k hlt
      obtain ⟨x, hx⟩ : ∃ x, S.getD k ⟨#[]⟩ = x := ⟨_, rfl⟩
      rw [hx] at hcell
      have HX : Hid (S.getD k ⟨#[]⟩ = x) := hx
      clear hx
      by_cases hb : s = x
      · subst hb
        go_wp2
        go_ret
        exact ⟨ret_int (by have := idx_here hlt (by rw [HX.out]; exact HA.out); rw [HX.out] at this; exact this.symm), rfl⟩
      · have hb' : (s.toList == x.toList) = false := by rw [beqS]; simpa using hb
        go_wp2
        go_round
        case rel => exact ⟨k + 1, by omega, by go_num, fun hm => by
                              rcases (take_mem_snoc hlt).1 hm with h' | h'
                              · exact HA.out h'
                              · rw [HX.out] at h'; exact hb h'⟩
        case measure => simp [intOf]; omega
    · obtain rfl : k = S.length := by omega
      have hn := HA.out
      rw [List.take_length] at hn
      go_wp2
      go_ret
      exact ⟨ret_int (idx_none hn).symm, rfl⟩

theorem ret_bool {a b : Bool} (h : a = b) : Ending.returned (.bool a) = .returned (.bool b) := by rw [h]

set_option maxHeartbeats 1000000 in
theorem contains_any (S : List ByteArray) (p : Option Addr) (c : Nat) (s : ByteArray) (w : World) (B : Nat) (hS : S.length ≤ 1000000) (hrd : RdS B w p c S) :
    Calls Try.prog 32 #[.slice p S.length c, .string s] w fun e w' => e = .returned (.bool (inn S s)) ∧ w = w' := by
  go_enter Try.func32, Try.ntmps32
  go_wp2_with (go_at_call 35; refine (index_any S _ _ _ _ B hS hrd).mono ?_; rintro e w' ⟨rfl, rfl⟩)
  go_ret
  exact ⟨ret_bool (idx_pos S s), rfl⟩

theorem elem22 : Try.prog.elem 22 = 9 := by kernel_rfl
theorem sizeOf9 (w : World) : (sizeOf 9).run Try.prog w = .ok 1 w := by kernel_rfl
theorem run_cut22 (p : Option Addr) (n c m : Nat) (hm : m ≤ n) (hn : n ≤ c) (wx : World) : (Instr.slice 22 (.slice p n c) none (some (.int .i64 (m : Int))) none).run Try.prog wx = .ok (.slice p m c) wx := by
  rw [run_slice_h wx 22 p n c (by rw [elem22]; exact Try.underlying22) .i64 (m : Int) (by omega) (by omega), elem22, sizeOf9]
  cases p <;> simp [Result.andThen, sliced, Addr.add]

/-- Does no name stand twice. -/
def once (S : List ByteArray) : Bool := (List.range S.length).all fun k => !inn (S.take k) (S.getD k ⟨#[]⟩)
theorem once_iff {S : List ByteArray} : once S = true ↔ ∀ k, k < S.length → S.getD k ⟨#[]⟩ ∉ S.take k := by
  simp [once, inn_not]

set_option maxHeartbeats 1000000 in
theorem twice_any (S : List ByteArray) (p : Option Addr) (c : Nat) (w : World) (B : Nat) (hS : S.length ≤ 1000000) (hrd : RdS B w p c S) :
    Calls Try.prog 23 #[.slice p S.length c] w fun e w' => e = .returned (.bool (!once S)) ∧ w = w' := by
  go_enter Try.func23, Try.ntmps23
  go_wp2
  go_loop [7] (fun i => ∃ k : Nat, k ≤ S.length ∧ i = .int .i64 k ∧ ∀ j, j < k → S.getD j ⟨#[]⟩ ∉ S.take j) (fun i => S.length - (intOf i).toNat)
  case atStart => exact ⟨0, Nat.zero_le _, rfl, fun j hj => by omega⟩
  case round =>
    obtain ⟨k, hk, rfl, hall⟩ := hrel
    have HA : Hid (∀ j, j < k → S.getD j ⟨#[]⟩ ∉ S.take j) := hall
    clear hall
    by_cases hlt : k < S.length
    · obtain ⟨ad, hp, had, hcell⟩ := hrd.2 k hlt
      have hcut := run_cut22 p S.length c k (by omega) hrd.1
      obtain ⟨x, hx⟩ : ∃ x, S.getD k ⟨#[]⟩ = x := ⟨_, rfl⟩
      rw [hx] at hcell
      have HX : Hid (S.getD k ⟨#[]⟩ = x) := hx
      clear hx
      have hrt := hrd.take k
      have HT : Hid ((S.take k).length = k) := by show _ = _; rw [List.length_take]; omega
      have HC : Hid (Calls Try.prog 32 #[.slice p k c, .string x] w fun e w' => e = .returned (.bool (inn (S.take k) x)) ∧ w = w') := by
        have := contains_any (S.take k) p c x w B (by rw [HT.out]; omega) hrt
        rw [HT.out] at this
        exact this
      subst hp
      clear hrt
      by_cases hb : inn (S.take k) x = true
      · go_wp2_with (go_at_call 32; refine HC.out.mono ?_; rintro e w' ⟨rfl, rfl⟩)
        go_ret
        refine ⟨ret_bool ?_, rfl⟩
        cases ho : once S with
        | false => rfl
        | true =>
          have := once_iff.1 ho k hlt
          rw [HX.out] at this
          exact absurd (inn_iff.1 hb) this
      · have hb' : inn (S.take k) x = false := by simpa using hb
        clear hb
        go_wp2_with (go_at_call 32; refine HC.out.mono ?_; rintro e w' ⟨rfl, rfl⟩)
        go_round
        case rel => exact ⟨k + 1, by omega, by go_num, fun j hj => by
                              by_cases e : j = k
                              · rw [e, HX.out]; exact inn_not.1 hb'
                              · exact HA.out j (by omega)⟩
        case measure => simp [intOf]; omega
    · obtain rfl : k = S.length := by omega
      go_wp2
      go_ret
      exact ⟨ret_bool (by rw [once_iff.2 HA.out]; rfl), rfl⟩

/-- Names behind those of a row of the call's own. -/
theorem wpList_append_rds {w : World} {ops : Array Oper} {rest : List Oper} {o : Oper} {a : Act} {Q : Exit → Act → World → Prop} (hgd : o.guard = none) (s x : Operand)
    (ho : o.op = .call { callee := .builtin .append, args := #[s, x], argTypes := #[22, 22] })
    (base : Nat) (v : Value) (L : List ByteArray) (hs : a.eval s = v) (hown : w.ownsRow base 9 1 v L.length (L.map Value.string))
    (B : Nat) (q : Option Addr) (cq : Nat) (R : List ByteArray) (hx : a.eval x = .slice q R.length cq) (hrd : RdS B w q cq R) (hnone : q = none → cq = 0) (hlen : L.length + R.length ≤ 1000000) (hbase : base ≤ w.heap.size)
    (h : ∀ v' w', w'.ownsRow base 9 1 v' (L ++ R).length ((L ++ R).map Value.string) → w.grownBy w' v.ownBlock → wpList Try.prog ops Q rest (a.put o.dst v') w') : wpList Try.prog ops Q (o :: rest) a w := by
  obtain ⟨i0, hi, hz0, hz1, hz2⟩ := info_parts Try.info9
  cases q with
  | none =>
    obtain rfl := hnone rfl
    obtain rfl := hrd.none
    refine wpList_append_own_none hgd s x 22 ho base 9 i0 1 Try.underlying22 hi v L.length (L.map Value.string) hs hown hx ?_
    exact h v w (by rw [List.append_nil]; exact hown) ⟨rfl, rfl, rfl, Nat.le_refl _, fun _ _ _ => rfl⟩
  | some ad =>
    refine wpList_append_own w hgd s x 22 ho base 9 i0 (.string ⟨#[]⟩) 1 16 Try.underlying22 hi hz0 hz1 hz2 rfl (by decide) v L.length (L.map Value.string) hs hown ad R.length cq (R.map Value.string) hx (by simp) hrd.all (str_oneCell _) (by unfold maxLen; omega) (by omega) hbase ?_
    intro v' w' hown' hgrow _
    exact h v' w' (by rw [List.length_append, List.map_append]; exact hown') hgrow

theorem eq22n (w : World) : (binOp .eql 22 (.slice none 0 0) (.slice none 0 0)).run Try.prog w = .ok (.bool true) w := by kernel_rfl
theorem eq22s (w : World) (a : Addr) (n c : Nat) : (binOp .eql 22 (.slice (some a) n c) (.slice none 0 0)).run Try.prog w = .ok (.bool false) w := by kernel_rfl

set_option maxHeartbeats 1000000 in
theorem clone_any (S : List ByteArray) (p : Option Addr) (c : Nat) (w : World) (hS : S.length ≤ 1000) (hrd : RdS w.heap.size w p c S) (hnone : p = none → c = 0) :
    Calls Try.prog 24 #[.slice p S.length c] w fun e w' => ∃ q cq, e = .returned (.slice q S.length cq) ∧ w'.ownsRow w.heap.size 9 1 (.slice q S.length cq) S.length (S.map Value.string) ∧ Below w.heap.size w w' := by
  cases p with
  | none =>
    obtain rfl := hnone rfl
    obtain rfl := hrd.none
    have q := eq22n
    go_enter Try.func24, Try.ntmps24
    go_wp2
    go_ret
    exact ⟨_, _, rfl, World.ownsRow_nil _ _ _ _, Below.refl _ _⟩
  | some ad =>
    have q := eq22s
    go_enter Try.func24, Try.ntmps24
    go_wp2_with (at_builtin; refine wpList_append_rds rfl _ _ rfl w.heap.size _ [] rfl ?a0 w.heap.size _ _ S rfl ?a1 ?a2 ?a3 ?a4 ?_)
    case a0 => exact World.ownsRow_made w #[] 0 (Nat.le_refl _) (by decide) rfl
    case a1 => exact hrd.carry ((Below.refl _ _).alloc (Nat.le_refl _) _)
    case a2 => intro h; cases h
    case a3 => simp; omega
    case a4 => simp
    intro v' w' hown hgrow
    go_wp2
    go_ret
    obtain ⟨q, cq, rfl, _⟩ := own_rds hown
    refine ⟨_, _, rfl, hown, ((Below.refl _ _).alloc (Nat.le_refl _) _).grown hgrow (by simp) (fun k hk => ?_)⟩
    cases hk
    exact Nat.le_refl _
end Go.Proofs.Ytjgogmlmcebgpaa

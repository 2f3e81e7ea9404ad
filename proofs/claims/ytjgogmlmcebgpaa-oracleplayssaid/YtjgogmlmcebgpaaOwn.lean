/-
  OracleOwn, walked.
-/
import Derived.Test.YtjgogmlmcebgpaaText
import Derived.Test.YtjgogmlmcebgpaaOrd
import Derived.Maps.RangeWalk
import Derived.Laws.AppendOwnNone
namespace Go.Proofs.Ytjgogmlmcebgpaa
open Go.RowKit Go.Maps

theorem own_rd {w : World} {B : Nat} {v : Value} {L : List Int} (h : w.ownsRow B 5 1 v L.length (L.map (Value.int .u8))) (hL : ∀ x ∈ L, 0 ≤ x ∧ x ≤ 255) : ∃ q cq, v = .slice q L.length cq ∧ Rd w.heap.size w q cq L := by
  rcases h.2 with ⟨rfl, hn⟩ | ⟨g, cap, cur, rfl, hg, hgg, h1, h2, h3, h4⟩
  · obtain rfl : L = [] := List.eq_nil_of_length_eq_zero hn
    exact ⟨none, 0, rfl, Nat.le_refl _, hL, fun j hj => by simp at hj⟩
  · refine ⟨_, cap, rfl, h1, hL, fun j hj => ⟨_, rfl, (Array.getElem?_eq_some_iff.1 hgg).1, ?_⟩⟩
    have e : (⟨g, 0, none⟩ : Addr).add j = ⟨g, j, none⟩ := by unfold Addr.add; split <;> simp_all
    rw [e, h.cellAt j (by omega), List.getElem?_map, List.getElem?_eq_getElem hj, List.getD_eq_getElem?_getD, List.getElem?_eq_getElem hj]
    rfl
theorem Rd.all {B : Nat} {w : World} {q : Option Addr} {cq : Nat} {R : List Int} (h : Rd B w q cq R) (ad : Addr) (hq : q = some ad) : ∀ j u, (R.map (Value.int .u8))[j]? = some u → w.cell? (ad.add j) = some u := by
  intro j u hj
  have hjl : j < R.length := by
    rcases Nat.lt_or_ge j R.length with h' | h'
    · exact h'
    · rw [List.getElem?_eq_none (by simpa using h')] at hj; cases hj
  obtain ⟨a, ha, _, hc⟩ := h.2.2 j hjl
  obtain rfl : ad = a := by rw [hq] at ha; exact Option.some.inj ha
  rw [hc, ← hj, List.getElem?_map, List.getElem?_eq_getElem hjl, List.getD_eq_getElem?_getD, List.getElem?_eq_getElem hjl]
  rfl
theorem wpList_append_rd {w : World} {ops : Array Oper} {rest : List Oper} {o : Oper} {a : Act} {Q : Exit → Act → World → Prop} (hgd : o.guard = none) (s x : Operand)
    (ho : o.op = .call { callee := .builtin .append, args := #[s, x], argTypes := #[37, 37] })
    (base : Nat) (v : Value) (L : List Int) (hs : a.eval s = v) (hown : w.ownsRow base 5 1 v L.length (L.map (Value.int .u8)))
    (B : Nat) (q : Option Addr) (cq : Nat) (R : List Int) (hx : a.eval x = .slice q R.length cq) (hrd : Rd B w q cq R) (hnone : q = none → cq = 0) (hlen : L.length + R.length ≤ 1000000) (hbase : base ≤ w.heap.size)
    (h : ∀ v' w', w'.ownsRow base 5 1 v' (L ++ R).length ((L ++ R).map (Value.int .u8)) → Below base w w' → wpList Try.prog ops Q rest (a.put o.dst v') w') : wpList Try.prog ops Q (o :: rest) a w := by
  obtain ⟨i0, hi, hz0, hz1, hz2⟩ := info_parts Try.info5
  cases q with
  | none =>
    obtain rfl := hnone rfl
    obtain rfl : R = [] := by
      cases R with
      | nil => rfl
      | cons y r => obtain ⟨a, ha, _⟩ := hrd.2.2 0 (by simp); cases ha
    refine wpList_append_own_none hgd s x 37 ho base 5 i0 1 Try.underlying37 hi v L.length (L.map (Value.int .u8)) hs hown hx ?_
    exact h v w (by rw [List.append_nil]; exact hown) (Below.refl _ _)
  | some ad =>
    refine wpList_append_own w hgd s x 37 ho base 5 i0 (.int .u8 0) 1 1 Try.underlying37 hi hz0 hz1 hz2 rfl (by decide) v L.length (L.map (Value.int .u8)) hs hown ad R.length cq (R.map (Value.int .u8)) hx (by simp) (hrd.all ad rfl) (u8_oneCell _) (by unfold maxLen; omega) (by omega) hbase ?_
    intro v' w' hown' hgrow _
    exact h v' w' (by rw [List.length_append, List.map_append]; exact hown') ((Below.refl _ _).grown hgrow hbase (own_base hown))
theorem Rd.grow {B B' : Nat} {w : World} {p : Option Addr} {c : Nat} {rs : List Int} (h : Rd B w p c rs) (hB : B ≤ B') : Rd B' w p c rs :=
  ⟨h.1, h.2.1, fun j hj => by
    obtain ⟨a, ha, hb, hc⟩ := h.2.2 j hj
    exact ⟨a, ha, by omega, hc⟩⟩
theorem Rd.take {B : Nat} {w : World} {p : Option Addr} {c : Nat} {rs : List Int} (h : Rd B w p c rs) (m : Nat) : Rd B w p c (rs.take m) := by
  refine ⟨by have := h.1; simp; omega, fun x hx => h.2.1 x (List.mem_of_mem_take hx), fun j hj => ?_⟩
  simp only [List.length_take] at hj
  obtain ⟨a, ha, hb, hc⟩ := h.2.2 j (by omega)
  refine ⟨a, ha, hb, ?_⟩
  rw [hc, List.getD_eq_getElem?_getD, List.getD_eq_getElem?_getD, List.getElem?_take, if_pos (by omega)]
theorem own_empty (w : World) (B : Nat) (hB : B ≤ w.heap.size) : (w.alloc (.cells #[] 5)).ownsRow B 5 1 (.slice (some ⟨w.heap.size, 0, none⟩) 0 0) ([] : List Int).length (([] : List Int).map (Value.int .u8)) :=
  ⟨rfl, .inr ⟨_, 0, #[], rfl, hB, heap_alloc_new _ _, Nat.le_refl _, Nat.zero_le _, rfl, rfl⟩⟩


theorem own_rd' {w : World} {B : Nat} {q : Option Addr} {cq : Nat} {L : List Int} (h : w.ownsRow B 5 1 (.slice q L.length cq) L.length (L.map (Value.int .u8))) (hL : ∀ x ∈ L, 0 ≤ x ∧ x ≤ 255) : Rd w.heap.size w q cq L := by
  obtain ⟨q', cq', e, hr⟩ := own_rd h hL
  cases e
  exact hr
/-- The n cells behind q may be written; each holds what is right. -/
def Wr (ok : Value → Prop) (B : Nat) (w : World) (q : Option Addr) (n : Nat) : Prop :=
  ∀ j, j < n → ∃ g y, q = some ⟨g, 0, none⟩ ∧ B ≤ g ∧ ok y ∧ w.cell? ⟨g, j, none⟩ = some y ∧ w.frozen? ⟨g, j, none⟩ = false
theorem Wr.grown {ok : Value → Prop} {B : Nat} {w w' : World} {q : Option Addr} {n : Nat} {row : Option Nat} (h : Wr ok B w q n) (hg : w.grownBy w' row) (hne : ∀ g, q = some ⟨g, 0, none⟩ → 0 < n → some g ≠ row) : Wr ok B w' q n := by
  intro j hj
  obtain ⟨g, y, hq, hB, hy, hc, hf⟩ := h j hj
  have hlt := World.block_lt_of_cell? w _ hc
  have hb := hg.block g hlt (hne g hq (by omega))
  exact ⟨g, y, hq, hB, hy, hg.cell hc (hne g hq (by omega)), by rw [World.frozen?_of_block (w := w) hb]; exact hf⟩
theorem Wr.set {ok : Value → Prop} {B : Nat} {w : World} {g k n : Nat} {y : Value} (h : Wr ok B w (some ⟨g, 0, none⟩) n) (hy : ok y) : Wr ok B (w.setCell ⟨g, k, none⟩ y) (some ⟨g, 0, none⟩) n := by
  intro j hj
  obtain ⟨g', u, hq, hB, hu, hc, hf⟩ := h j hj
  cases hq
  by_cases e : j = k
  · subst e
    exact ⟨g, y, rfl, hB, hy, World.cell?_setCell_same _ _ _ hc, by rw [World.frozen?_setCell]; exact hf⟩
  · exact ⟨g, u, rfl, hB, hu, by rw [World.cell?_setCell_other _ _ _ _ (by intro h; cases h; exact e rfl)]; exact hc, by rw [World.frozen?_setCell]; exact hf⟩
theorem own_wr {ok : Value → Prop} {w : World} {B e n : Nat} {q : Option Addr} {c : Nat} {xs : List Value} (h : w.ownsRow B e 1 (.slice q n c) n xs) (hok : ∀ x ∈ xs, ok x) : Wr ok B w q n := by
  intro j hj
  have hxl : xs.length = n := by have := h.1; omega
  rcases h.2 with ⟨_, hn⟩ | ⟨g, cap, cur, hv, hg, hgg, _⟩
  · omega
  · cases hv
    refine ⟨g, xs[j], rfl, hg, hok _ (List.getElem_mem _), ?_, by simp [World.frozen?, hgg]⟩
    rw [h.cellAt j (by omega), List.getElem?_eq_getElem]
def okU8 (y : Value) : Prop := ∃ x : Int, 0 ≤ x ∧ x ≤ 255 ∧ y = .int .u8 x

def nS : ByteArray := ⟨#[115]⟩
theorem on2 : once [nS] = true := by decide
theorem in2 : inn [nS] nS = true := by decide
theorem pl3 : plc [nS] nS = 0 := by decide
theorem newS (w : World) : Calls Try.prog 10 #[.slice (some ⟨w.heap.size, 0, none⟩) 1 1] (w.alloc (.cells #[.string ⟨#[115]⟩] 9)) fun e w' =>
    ∃ tb, e = .returned (.tuple #[.pointer (some ⟨tb, 0, none⟩), .int .i64 0]) ∧ TabOk w.heap.size w' tb [nS] [] [] ∧ Below w.heap.size w w' := by
  have hrd : RdS (w.alloc (.cells #[.string ⟨#[115]⟩] 9)).heap.size (w.alloc (.cells #[.string ⟨#[115]⟩] 9)) (some ⟨w.heap.size, 0, none⟩) 1 [nS] := by
    refine ⟨Nat.le_refl _, fun j hj => ⟨_, rfl, by simp, ?_⟩⟩
    match j, hj with
    | 0, _ => exact cell_row (cur := [_]) (heap_alloc_new _ _) 0 _ rfl
  refine (new_good [nS] _ 1 _ (by decide) on2 hrd (fun h => by cases h)).mono ?_
  rintro e w' ⟨tb, rfl, ⟨v, b1, b2, ht⟩, hb⟩
  refine ⟨tb, rfl, ⟨v, b1, b2, ht.c0, ht.c1, ht.c2, ?_, ht.texts, ht.tokens, ht.ne, ?_, ht.few, ht.one⟩, ((Below.refl _ _).alloc (Nat.le_refl _) _).trans (hb.mono (by simp))⟩
  · have := ht.row
    refine ⟨this.1, ?_⟩
    rcases this.2 with h | ⟨g, cap, cur, h1, h2, h3⟩
    · exact .inl h
    · exact .inr ⟨g, cap, cur, h1, by simp at h2; omega, h3⟩
  · have := ht.base
    simp at this
    omega

theorem no_nil {α : Type} [DecidableEq α] (x : α) : no ([] : List α) x = 1 := by rw [no_new (by simp)]; rfl
theorem add_nil {α : Type} [DecidableEq α] (x : α) : add ([] : List α) x = [x] := by unfold add; rw [if_neg (by simp)]; rfl
theorem no_one {α : Type} [DecidableEq α] (x : α) : no [x] x = 1 := by rw [no_mem (by simp)]; simp
theorem add_one {α : Type} [DecidableEq α] (x : α) : add [x] x = [x] := add_mem (by simp)

section
variable {B tb b1 b2 : Nat} {v : Value} {w : World} {xs : List Int} {p : Option Addr} {c : Nat}
theorem dig0 (h : Tab B w tb v b1 b2 [nS] [] []) (hrd : Rd w.heap.size w p c xs) (hz : xs.length ≤ 500) : Calls Try.prog 14 #[.pointer (some ⟨tb, 0, none⟩), .slice p xs.length c] w fun e w' =>
    e = .returned (.string (lt 1)) ∧ Tab B w' tb v b1 b2 [nS] [strOfNums xs] [] ∧ w.grownBy w' (some b1) := by
  have := digest_any xs p c w h hrd (by omega) (by simp)
  rw [no_nil, add_nil] at this
  exact this
theorem sig0 (h : Tab B w tb v b1 b2 [nS] [strOfNums xs] []) (hrd : Rd w.heap.size w p c xs) (hz : xs.length ≤ 500) : Calls Try.prog 16 #[.pointer (some ⟨tb, 0, none⟩), .string ⟨#[115]⟩, .slice p xs.length c] w fun e w' =>
    e = .returned (.tuple #[.string (lt 1), .int .i64 0]) ∧ Tab B w' tb v b1 b2 [nS] [strOfNums xs] [(0, strOfNums xs)] ∧ w.grownBy w' (some b2) := by
  have := sign_any nS xs p c w h hrd (by omega) (by simp) in2
  rw [pl3, no_nil, add_nil] at this
  exact this
theorem digA (h : Tab B w tb v b1 b2 [nS] [strOfNums xs] [(0, strOfNums xs)]) (hrd : Rd B w p c xs) (hz : xs.length ≤ 500) : Calls Try.prog 14 #[.pointer (some ⟨tb, 0, none⟩), .slice p xs.length c] w fun e w' =>
    e = .returned (.string (lt 1)) ∧ Tab B w' tb v b1 b2 [nS] [strOfNums xs] [(0, strOfNums xs)] ∧ Below B w w' := by
  have := digest_any xs p c w h (hrd.grow h.le) (by omega) (by simp)
  rw [no_one, add_one] at this
  refine this.mono ?_
  rintro e w' ⟨rfl, ht, hg⟩
  exact ⟨rfl, ht, h.under1 hg⟩
theorem verA (h : Tab B w tb v b1 b2 [nS] [strOfNums xs] [(0, strOfNums xs)]) (hrd : Rd B w p c xs) (hz : xs.length ≤ 500) : Calls Try.prog 19 #[.pointer (some ⟨tb, 0, none⟩), .string ⟨#[115]⟩, .slice p xs.length c, .string (lt 1)] w fun e w' =>
    e = .returned (.bool true) ∧ Tab B w' tb v b1 b2 [nS] [strOfNums xs] [(0, strOfNums xs)] ∧ Below B w w' := by
  have := verify_any nS xs (lt 1) p c w h (hrd.grow h.le) (by omega) (by simp)
  have e : ver [nS] [(0, strOfNums xs)] nS (strOfNums xs) (lt 1) = true := by
    unfold ver
    rw [in2, pl3, no_one]
    simp [inn]
  rw [e] at this
  refine this.mono ?_
  rintro e w' ⟨rfl, hb⟩
  exact ⟨rfl, h.below hb, hb.mono h.le⟩
theorem digB {ys : List Int} (h : Tab B w tb v b1 b2 [nS] [strOfNums xs] [(0, strOfNums xs)]) (hrd : Rd B w p c ys) (hz : ys.length ≤ 500) : Calls Try.prog 14 #[.pointer (some ⟨tb, 0, none⟩), .slice p ys.length c] w fun e w' =>
    e = .returned (.string (lt (if strOfNums xs = strOfNums ys then 1 else 2))) ∧ (∃ D, Tab B w' tb v b1 b2 [nS] D [(0, strOfNums xs)]) ∧ Below B w w' := by
  have := digest_any ys p c w h (hrd.grow h.le) (by omega) (by simp)
  refine this.mono ?_
  rintro e w' ⟨rfl, ht, hg⟩
  refine ⟨?_, ⟨_, ht⟩, h.under1 hg⟩
  by_cases he : strOfNums xs = strOfNums ys
  · rw [if_pos he, he, no_one]
  · rw [if_neg he, no_new (by simp; exact fun h => he h.symm)]
    rfl
theorem srvA {D : List ByteArray} {G : List (Nat × ByteArray)} (h : Tab B w tb v b1 b2 [nS] D G) : Calls Try.prog 13 #[.pointer (some ⟨tb, 0, none⟩)] w fun e w' =>
    ∃ q cq, e = .returned (.slice q 1 cq) ∧ w'.ownsRow w.heap.size 9 1 (.slice q 1 cq) 1 [.string ⟨#[115]⟩] ∧ Below w.heap.size w w' := servers_any w h
end
theorem lt12 (b : Bool) (x y : ByteArray) (h : b = decide (x = y)) : ((lt (if x = y then 1 else 2)).toList == (lt 1).toList) = b := by
  rw [beqS, h]
  by_cases e : x = y
  · rw [if_pos e]; simp [e]
  · rw [if_neg e]
    simp [e]
    intro h'
    have := lt_inj (by decide) (by decide) (by decide) (by decide) h'
    omega
theorem own_first {w : World} {B : Nat} {q : Option Addr} {c : Nat} (h : w.ownsRow B 9 1 (.slice q 1 c) 1 [.string ⟨#[115]⟩]) : ∃ g, q = some ⟨g, 0, none⟩ ∧ w.cell? ⟨g, 0, none⟩ = some (.string ⟨#[115]⟩) := by
  obtain ⟨g, y, hq, _, _, hc, _⟩ := own_wr (ok := fun _ => True) h (fun _ _ => trivial) 0 (by omega)
  refine ⟨g, hq, ?_⟩
  subst hq
  rcases h.2 with ⟨h1, _⟩ | ⟨g', cap, cur, hv, _⟩
  · cases h1
  · cases hv
    have := h.cellAt 0 (by omega)
    rw [this]
    rfl

set_option maxHeartbeats 4000000 in
theorem oracleOwn_any (xs ys : List Int) (p0 p1 : Option Addr) (c0 c1 : Nat) (w : World) (hx : xs.length ≤ 140737488351232) (hy : ys.length ≤ 140737488351232) (hrdA : Rd w.heap.size w p0 c0 xs) (hrdB : Rd w.heap.size w p1 c1 ys) (hn0 : p0 = none → c0 = 0) :
    Calls Try.prog 7 #[.slice p0 xs.length c0, .slice p1 ys.length c1] w fun e w' => e = .returned (.bool true) ∧ Below w.heap.size w w' := by
  by_cases hla : 500 < xs.length
  · go_enter Try.func7, Try.ntmps7
    go_wp2
    go_ret
    exact ⟨rfl, Below.refl _ _⟩
  by_cases hlb : 500 < ys.length
  · go_enter Try.func7, Try.ntmps7
    go_wp2
    go_ret
    exact ⟨rfl, Below.refl _ _⟩
  have hxa : xs.length ≤ 500 := by omega
  have hxb : ys.length ≤ 500 := by omega
  go_enter Try.func7, Try.ntmps7
  go_wp2_with (first
    | (go_at_call 10; refine (newS _).mono ?_; rintro e w1 ⟨tb, rfl, ⟨vv, b1, b2, ht1⟩, hb1⟩)
    | (at_builtin; refine wpList_append_rd rfl _ _ rfl w1.heap.size _ [] rfl ?a0 w.heap.size _ _ xs rfl ?a1 hn0 ?a3 ?a4 ?_))
  case a0 => exact World.ownsRow_made w1 #[] 0 (Nat.le_refl _) (by decide) rfl
  case a1 => exact hrdA.carry (hb1.alloc hb1.size _)
  case a3 => simp; omega
  case a4 => simp
  intro vc w2 hownc hb12
  have hlo := ht1.lo
  have ht2 : Tab w.heap.size w2 tb vv b1 b2 [nS] [] [] := ht1.below (((Below.refl _ _).alloc (Nat.le_refl _) _).trans hb12)
  have hb2 : Below w.heap.size w w2 := hb1.trans ((((Below.refl _ _).alloc (Nat.le_refl _) _).trans hb12).mono hb1.size)
  obtain ⟨qc, cc, rfl, hrdc⟩ := own_rd hownc hrdA.2.1
  have hB12 : w1.heap.size ≤ w2.heap.size := by have := hb12.size; simp at this; omega
  clear ht1 hb12
  go_wp2_with (first
    | (go_at_call 14; refine (dig0 ht2 hrdc hxa).mono ?_; rintro e w3 ⟨rfl, ht3, hg3⟩; have hownc3 := hownc.kept hg3 (ht2.texts.row hownc); have hrdc3 := (own_rd' hownc3 hrdA.2.1))
    | (go_at_call 16; refine (sig0 ht3 hrdc3 hxa).mono ?_; rintro e w4 ⟨rfl, ht4, hg4⟩; have hownc4 := hownc3.kept hg4 (ht3.tokens.row hownc3)))
  have hb3 : Below w.heap.size w w3 := hb2.trans (ht2.under1 hg3)
  have hb4 : Below w.heap.size w w4 := hb3.trans (ht3.under2 hg4)
  have hwr : Wr okU8 w1.heap.size w4 qc xs.length := own_wr hownc4 (fun y hy => by
    obtain ⟨x, hxm, rfl⟩ := List.mem_map.1 hy
    exact ⟨x, (hrdA.2.1 x hxm).1, (hrdA.2.1 x hxm).2, rfl⟩)
  have hB14 : w1.heap.size ≤ w4.heap.size := by
    have := hg3.size
    have := hg4.size
    omega
  have hbb := hb1.size
  clear hownc hownc3 hownc4 hrdc hrdc3 hg3 hg4 ht2 ht3 hb2 hb3
  go_loopw [41] (fun i wr => ∃ k : Nat, k ≤ xs.length ∧ i = .int .i64 k ∧ Wr okU8 w1.heap.size wr qc xs.length ∧ Below w1.heap.size w4 wr) (fun i _ => xs.length - (intOf i).toNat)
  case atStart => exact ⟨0, Nat.zero_le _, rfl, hwr, Below.refl _ _⟩
  case round =>
    clear hwr
    obtain ⟨k, hk, rfl, hwr, hbr⟩ := hrel
    by_cases hlt : k < xs.length
    · obtain ⟨g, y, rfl, hBg, ⟨x, hx0, hx1, rfl⟩, hc, hf⟩ := hwr k hlt
      have hwr' := hwr.set (k := k) (y := .int .u8 ((x + 1) % 256)) ⟨(x + 1) % 256, by omega, by omega, rfl⟩
      have hbr' : Below w1.heap.size w4 (wr.setCell ⟨g, k, none⟩ (.int .u8 ((x + 1) % 256))) := hbr.setCell hBg _
      go_wp2
      go_roundw
      case rel => exact ⟨k + 1, by omega, by go_num, hwr', hbr'⟩
      case measure => simp [intOf]; omega
    · obtain rfl : k = xs.length := by omega
      clear hwr
      have ht5 := ht4.low hlo hbr
      have hb5 : Below w.heap.size w wr := hb4.trans (hbr.mono hbb)
      rename World => w5
      go_wp2_with (go_at_call 13; refine (srvA ht5).mono ?_; rintro e w6 ⟨qn, cn, rfl, hown6, hb6⟩)
      have hwn : Wr (fun _ => True) w5.heap.size w6 qn 1 := own_wr hown6 (fun _ _ => trivial)
      go_loopw [55] (fun i wr => ∃ k : Nat, k ≤ 1 ∧ i = .int .i64 k ∧ Wr (fun _ => True) w5.heap.size wr qn 1 ∧ Below w5.heap.size w5 wr) (fun i _ => 1 - (intOf i).toNat)
      case atStart => exact ⟨0, Nat.zero_le _, rfl, hwn, hb6⟩
      case round =>
        clear hwn
        obtain ⟨k, hk, rfl, hwn, hb7⟩ := hrel
        by_cases hlt : k < 1
        · obtain rfl : k = 0 := by omega
          obtain ⟨g, y, rfl, hBg, _, hc, hf⟩ := hwn 0 (by omega)
          have hwn' := hwn.set (k := 0) (y := .string ⟨#[120]⟩) trivial
          have hb7' : Below w5.heap.size w5 (wr.setCell ⟨g, 0, none⟩ (.string ⟨#[120]⟩)) := hb7.setCell hBg _
          go_wp2
          go_roundw
          case rel => exact ⟨1, by omega, by go_num, hwn', hb7'⟩
          case measure => simp [intOf]
        · obtain rfl : k = 1 := by omega
          clear hwn
          have ht0 := (ht5.below hb7).grown (grown_drew wr none)
          have hC0 : Below w.heap.size w wr.drew := (hb5.trans (hb7.mono hb5.size)).drew
          obtain ⟨bq, hbq⟩ : ∃ b, b = decide (strOfNums xs = strOfNums ys) := ⟨_, rfl⟩
          have g1 := lt12 bq (strOfNums xs) (strOfNums ys) hbq
          have g2 : ((strOfNums xs).toList == (strOfNums ys).toList) = bq := by rw [beqS, hbq]
          obtain ⟨ds, hds⟩ : ∃ s, s = lt (if strOfNums xs = strOfNums ys then 1 else 2) := ⟨_, rfl⟩
          rw [← hds] at g1
          have HDS : Hid (ds = lt (if strOfNums xs = strOfNums ys then 1 else 2)) := hds
          obtain ⟨tx, htx⟩ : ∃ s, s = strOfNums xs := ⟨_, rfl⟩
          obtain ⟨ty, hty⟩ : ∃ s, s = strOfNums ys := ⟨_, rfl⟩
          have RA : Hid (∀ w', Below w.heap.size w w' → (convert 37 9 (.slice p0 xs.length c0)).run Try.prog w' = .ok (.string tx) w') := fun w' h => by rw [htx]; exact rd_string (hrdA.carry h)
          have RB : Hid (∀ w', Below w.heap.size w w' → (convert 37 9 (.slice p1 ys.length c1)).run Try.prog w' = .ok (.string ty) w') := fun w' h => by rw [hty]; exact rd_string (hrdB.carry h)
          rw [← htx, ← hty] at g2
          clear hbq hds htx hty
          go_wp2
          refine wp_region_in (by kernel_rfl) (fun w' => Below w.heap.size w w') ?_
          change wpIn _ _ _ _ _ _ _ _ (World.drew _)
          refine wpIn_take (i := 0) (d := (some 62)) (v := ?vqr0) (a' := ?aqr0) rfl rfl (by kernel_rfl) (by kernel_rfl) (by kernel_rfl) (fun _ _ _ h => h) (Or.inl ⟨by rfl, ?yqr0⟩) ?fqr0 ?_
          case yqr0 => (intro wq hq; go_simp; first | done | with_reducible rfl)
          case fqr0 => (go_frame; rfl)
          refine wpIn_take (i := 1) (d := (some 63)) (v := ?vqr1) (a' := ?aqr1) rfl rfl (by kernel_rfl) (by kernel_rfl) (by kernel_rfl) (fun _ _ _ h => h) (Or.inl ⟨by rfl, ?yqr1⟩) ?fqr1 ?_
          case yqr1 => (intro wq hq; go_simp; first | done | with_reducible rfl)
          case fqr1 => (go_frame; rfl)
          refine wpIn_take (i := 2) (d := (some 64)) (v := ?vqr2) (a' := ?aqr2) rfl rfl (by kernel_rfl) (by kernel_rfl) (by kernel_rfl) (fun _ _ _ h => h) (Or.inl ⟨by rfl, ?yqr2⟩) ?fqr2 ?_
          case yqr2 => (intro wq hq; go_simp; first | done | with_reducible rfl)
          case fqr2 => (go_frame; rfl)
          refine wpIn_take (i := 3) (d := (some 65)) (v := ?vqr3) (a' := ?aqr3) rfl rfl (by kernel_rfl) (by kernel_rfl) (by kernel_rfl) (fun _ _ _ h => h) (Or.inl ⟨by rfl, ?yqr3⟩) ?fqr3 ?_
          case yqr3 => (intro wq hq; go_simp; first | done | with_reducible rfl)
          case fqr3 => (go_frame; rfl)
          refine wpIn_take (i := 4) (d := (some 66)) (v := ?vqr4) (a' := ?aqr4) rfl rfl (by kernel_rfl) (by kernel_rfl) (by kernel_rfl) (fun _ _ _ h => h) (Or.inl ⟨by rfl, ?yqr4⟩) ?fqr4 ?_
          case yqr4 => (intro wq hq; go_simp; first | done | with_reducible rfl)
          case fqr4 => (go_frame; rfl)
          refine wpIn_take (i := 5) (d := (some 67)) (v := ?vqr5) (a' := ?aqr5) rfl rfl (by kernel_rfl) (by kernel_rfl) (by kernel_rfl) (fun _ _ _ h => h) (Or.inl ⟨by rfl, ?yqr5⟩) ?fqr5 ?_
          case yqr5 => (intro wq hq; go_simp; first | done | with_reducible rfl)
          case fqr5 => (go_frame; rfl)
          refine wpIn_take (i := 6) (d := (some 68)) (v := ?vqr6) (a' := ?aqr6) rfl rfl (by kernel_rfl) (by kernel_rfl) (by kernel_rfl) (fun _ _ _ h => h) (Or.inl ⟨by rfl, ?yqr6⟩) ?fqr6 ?_
          case yqr6 => (intro wq hq; go_simp; first | done | with_reducible rfl)
          case fqr6 => (go_frame; rfl)
          refine wpIn_take (i := 7) (d := (some 69)) (v := ?vqr7) (a' := ?aqr7) rfl rfl (by kernel_rfl) (by kernel_rfl) (by kernel_rfl) (fun _ _ _ h => h) (Or.inl ⟨by rfl, ?yqr7⟩) ?fqr7 ?_
          case yqr7 => (intro wq hq; go_simp; first | done | with_reducible rfl)
          case fqr7 => (go_frame; rfl)
          refine wpIn_take (i := 8) (d := (some 70)) (v := ?vqr8) (a' := ?aqr8) rfl rfl (by kernel_rfl) (by kernel_rfl) (by kernel_rfl) (fun _ _ _ h => h) (Or.inl ⟨by rfl, ?yqr8⟩) ?fqr8 ?_
          case yqr8 => (intro wq hq; go_simp; first | done | with_reducible rfl)
          case fqr8 => (go_frame; rfl)
          refine wpIn_take (i := 10) (d := (some 72)) (v := ?vqr10) (a' := ?aqr10) rfl rfl (by kernel_rfl) (by kernel_rfl) (by kernel_rfl) (fun _ _ _ h => h) (Or.inl ⟨by rfl, ?yqr10⟩) ?fqr10 ?_
          case yqr10 => (intro wq hq; go_simp; first | done | with_reducible rfl)
          case fqr10 => (go_frame; rfl)
          refine wpIn_do (i := 9) hC0 (by kernel_rfl) rfl (by rfl) ?_
          intro K hK
          go_simp
          go_wp2_with (go_at_call 14; refine (digA ht0 (hrdA.carry hC0) hxa).mono ?_; rintro e wa ⟨rfl, hta, hba⟩)
          have hCa := hC0.trans hba
          refine wpIn_take (i := 11) (d := (some 73)) (v := ?vqr11) (a' := ?aqr11) rfl rfl (by kernel_rfl) (by kernel_rfl) (by kernel_rfl) (fun _ _ _ h => h) (Or.inl ⟨by rfl, ?yqr11⟩) ?fqr11 ?_
          case yqr11 => (intro wq hq; go_simp; first | done | with_reducible rfl)
          case fqr11 => (go_frame; rfl)
          refine wpIn_take (i := 12) (d := (some 74)) (v := ?vqr12) (a' := ?aqr12) rfl rfl (by kernel_rfl) (by kernel_rfl) (by kernel_rfl) (fun _ _ _ h => h) (Or.inl ⟨by rfl, ?yqr12⟩) ?fqr12 ?_
          case yqr12 => (intro wq hq; go_simp; first | done | with_reducible rfl)
          case fqr12 => (go_frame; rfl)
          refine wpIn_take (i := 13) (d := (some 75)) (v := ?vqr13) (a' := ?aqr13) rfl rfl (by kernel_rfl) (by kernel_rfl) (by kernel_rfl) (fun _ _ _ h => h) (Or.inl ⟨by rfl, ?yqr13⟩) ?fqr13 ?_
          case yqr13 => (intro wq hq; go_simp; first | done | with_reducible rfl)
          case fqr13 => (go_frame; rfl)
          refine wpIn_take (i := 14) (d := (some 76)) (v := ?vqr14) (a' := ?aqr14) rfl rfl (by kernel_rfl) (by kernel_rfl) (by kernel_rfl) (fun _ _ _ h => h) (Or.inl ⟨by rfl, ?yqr14⟩) ?fqr14 ?_
          case yqr14 => (intro wq hq; go_simp; first | done | with_reducible rfl)
          case fqr14 => (go_frame; rfl)
          refine wpIn_take (i := 15) (d := (some 77)) (v := ?vqr15) (a' := ?aqr15) rfl rfl (by kernel_rfl) (by kernel_rfl) (by kernel_rfl) (fun _ _ _ h => h) (Or.inl ⟨by rfl, ?yqr15⟩) ?fqr15 ?_
          case yqr15 => (intro wq hq; go_simp; first | done | with_reducible rfl)
          case fqr15 => (go_frame; rfl)
          refine wpIn_take (i := 16) (d := (some 78)) (v := ?vqr16) (a' := ?aqr16) rfl rfl (by kernel_rfl) (by kernel_rfl) (by kernel_rfl) (fun _ _ _ h => h) (Or.inl ⟨by rfl, ?yqr16⟩) ?fqr16 ?_
          case yqr16 => (intro wq hq; go_simp; first | done | with_reducible rfl)
          case fqr16 => (go_frame; rfl)
          refine wpIn_do (i := 17) hCa (by kernel_rfl) rfl (by rfl) ?_
          intro K hK
          go_simp
          go_wp2_with (go_at_call 19; refine (verA hta (hrdA.carry hCa) hxa).mono ?_; rintro e wb ⟨rfl, htb, hbb⟩)
          have hCb := hCa.trans hbb
          refine wpIn_take (i := 18) (d := (some 80)) (v := ?vqr18) (a' := ?aqr18) rfl rfl (by kernel_rfl) (by kernel_rfl) (by kernel_rfl) (fun _ _ _ h => h) (Or.inl ⟨by rfl, ?yqr18⟩) ?fqr18 ?_
          case yqr18 => (intro wq hq; go_simp; first | done | with_reducible rfl)
          case fqr18 => (go_frame; rfl)
          refine wpIn_take (i := 19) (d := (some 81)) (v := ?vqr19) (a' := ?aqr19) rfl rfl (by kernel_rfl) (by kernel_rfl) (by kernel_rfl) (fun _ _ _ h => h) (Or.inl ⟨by rfl, ?yqr19⟩) ?fqr19 ?_
          case yqr19 => (intro wq hq; go_simp; first | done | with_reducible rfl)
          case fqr19 => (go_frame; rfl)
          refine wpIn_take (i := 20) (d := (some 82)) (v := ?vqr20) (a' := ?aqr20) rfl rfl (by kernel_rfl) (by kernel_rfl) (by kernel_rfl) (fun _ _ _ h => h) (Or.inl ⟨by rfl, ?yqr20⟩) ?fqr20 ?_
          case yqr20 => (intro wq hq; go_simp; first | done | with_reducible rfl)
          case fqr20 => (go_frame; rfl)
          refine wpIn_take (i := 21) (d := (some 83)) (v := ?vqr21) (a' := ?aqr21) rfl rfl (by kernel_rfl) (by kernel_rfl) (by kernel_rfl) (fun _ _ _ h => h) (Or.inl ⟨by rfl, ?yqr21⟩) ?fqr21 ?_
          case yqr21 => (intro wq hq; go_simp; first | done | with_reducible rfl)
          case fqr21 => (go_frame; rfl)
          refine wpIn_take (i := 23) (d := (some 85)) (v := ?vqr23) (a' := ?aqr23) rfl rfl (by kernel_rfl) (by kernel_rfl) (by kernel_rfl) (fun _ _ _ h => h) (Or.inl ⟨by rfl, ?yqr23⟩) ?fqr23 ?_
          case yqr23 => (intro wq hq; go_simp; first | done | with_reducible rfl)
          case fqr23 => (go_frame; rfl)
          refine wpIn_take (i := 25) (d := (some 87)) (v := ?vqr25) (a' := ?aqr25) rfl rfl (by kernel_rfl) (by kernel_rfl) (by kernel_rfl) (fun _ _ _ h => h) (Or.inl ⟨by rfl, ?yqr25⟩) ?fqr25 ?_
          case yqr25 => (intro wq hq; go_simp; first | done | with_reducible rfl)
          case fqr25 => (go_frame; rfl)
          refine wpIn_take (i := 26) (d := (some 88)) (v := ?vqr26) (a' := ?aqr26) rfl rfl (by kernel_rfl) (by kernel_rfl) (by kernel_rfl) (fun _ _ _ h => h) (Or.inl ⟨by rfl, ?yqr26⟩) ?fqr26 ?_
          case yqr26 => (intro wq hq; have f1 := RA.out wq hq; go_simp; first | done | with_reducible rfl)
          case fqr26 => (go_frame; rfl)
          refine wpIn_take (i := 27) (d := (some 89)) (v := ?vqr27) (a' := ?aqr27) rfl rfl (by kernel_rfl) (by kernel_rfl) (by kernel_rfl) (fun _ _ _ h => h) (Or.inl ⟨by rfl, ?yqr27⟩) ?fqr27 ?_
          case yqr27 => (intro wq hq; go_simp; first | done | with_reducible rfl)
          case fqr27 => (go_frame; rfl)
          refine wpIn_take (i := 28) (d := (some 90)) (v := ?vqr28) (a' := ?aqr28) rfl rfl (by kernel_rfl) (by kernel_rfl) (by kernel_rfl) (fun _ _ _ h => h) (Or.inl ⟨by rfl, ?yqr28⟩) ?fqr28 ?_
          case yqr28 => (intro wq hq; have f1 := RB.out wq hq; go_simp; first | done | with_reducible rfl)
          case fqr28 => (go_frame; rfl)
          refine wpIn_take (i := 29) (d := (some 91)) (v := ?vqr29) (a' := ?aqr29) rfl rfl (by kernel_rfl) (by kernel_rfl) (by kernel_rfl) (fun _ _ _ h => h) (Or.inl ⟨by rfl, ?yqr29⟩) ?fqr29 ?_
          case yqr29 => (intro wq hq; go_simp; first | done | with_reducible rfl)
          case fqr29 => (go_frame; rfl)
          refine wpIn_do (i := 22) hCb (by kernel_rfl) rfl (by rfl) ?_
          intro K hK
          go_simp
          go_wp2_with (go_at_call 14; refine (digB htb (hrdB.carry hCb) hxb).mono ?_; rintro e wd ⟨he, ⟨DD, htd⟩, hbd⟩; rw [← HDS.out] at he; subst he)
          have hCd := hCb.trans hbd
          refine wpIn_take (i := 24) (d := (some 86)) (v := ?vqr24) (a' := ?aqr24) rfl rfl (by kernel_rfl) (by kernel_rfl) (by kernel_rfl) (fun _ _ _ h => h) (Or.inl ⟨by rfl, ?yqr24⟩) ?fqr24 ?_
          case yqr24 => (intro wq hq; go_simp; first | done | with_reducible rfl)
          case fqr24 => (go_frame; rfl)
          refine wpIn_take (i := 30) (d := (some 92)) (v := ?vqr30) (a' := ?aqr30) rfl rfl (by kernel_rfl) (by kernel_rfl) (by kernel_rfl) (fun _ _ _ h => h) (Or.inl ⟨by rfl, ?yqr30⟩) ?fqr30 ?_
          case yqr30 => (intro wq hq; go_simp; first | done | with_reducible rfl)
          case fqr30 => (go_frame; rfl)
          refine wpIn_take (i := 31) (d := (some 93)) (v := ?vqr31) (a' := ?aqr31) rfl rfl (by kernel_rfl) (by kernel_rfl) (by kernel_rfl) (fun _ _ _ h => h) (Or.inl ⟨by rfl, ?yqr31⟩) ?fqr31 ?_
          case yqr31 => (intro wq hq; go_simp; first | done | with_reducible rfl)
          case fqr31 => (go_frame; rfl)
          refine wpIn_take (i := 32) (d := (some 94)) (v := ?vqr32) (a' := ?aqr32) rfl rfl (by kernel_rfl) (by kernel_rfl) (by kernel_rfl) (fun _ _ _ h => h) (Or.inl ⟨by rfl, ?yqr32⟩) ?fqr32 ?_
          case yqr32 => (intro wq hq; go_simp; first | done | with_reducible rfl)
          case fqr32 => (go_frame; rfl)
          refine wpIn_take (i := 33) (d := (some 95)) (v := ?vqr33) (a' := ?aqr33) rfl rfl (by kernel_rfl) (by kernel_rfl) (by kernel_rfl) (fun _ _ _ h => h) (Or.inl ⟨by rfl, ?yqr33⟩) ?fqr33 ?_
          case yqr33 => (intro wq hq; go_simp; first | done | with_reducible rfl)
          case fqr33 => (go_frame; rfl)
          refine wpIn_do (i := 34) hCd (by kernel_rfl) rfl (by rfl) ?_
          intro K hK
          go_simp
          go_wp2_with (go_at_call 13; refine (srvA htd).mono ?_; rintro e we ⟨qe, ce, rfl, howe, hbe⟩)
          have hCe := hCd.trans (hbe.mono hCd.size)
          have hte := htd.below hbe
          clear howe
          refine wpIn_take (i := 35) (d := (some 97)) (v := ?vqr35) (a' := ?aqr35) rfl rfl (by kernel_rfl) (by kernel_rfl) (by kernel_rfl) (fun _ _ _ h => h) (Or.inl ⟨by rfl, ?yqr35⟩) ?fqr35 ?_
          case yqr35 => (intro wq hq; go_simp; first | done | with_reducible rfl)
          case fqr35 => (go_frame; rfl)
          refine wpIn_take (i := 36) (d := (some 98)) (v := ?vqr36) (a' := ?aqr36) rfl rfl (by kernel_rfl) (by kernel_rfl) (by kernel_rfl) (fun _ _ _ h => h) (Or.inl ⟨by rfl, ?yqr36⟩) ?fqr36 ?_
          case yqr36 => (intro wq hq; go_simp; first | done | with_reducible rfl)
          case fqr36 => (go_frame; rfl)
          refine wpIn_take (i := 37) (d := (some 99)) (v := ?vqr37) (a' := ?aqr37) rfl rfl (by kernel_rfl) (by kernel_rfl) (by kernel_rfl) (fun _ _ _ h => h) (Or.inl ⟨by rfl, ?yqr37⟩) ?fqr37 ?_
          case yqr37 => (intro wq hq; go_simp; first | done | with_reducible rfl)
          case fqr37 => (go_frame; rfl)
          refine wpIn_take (i := 38) (d := (some 100)) (v := ?vqr38) (a' := ?aqr38) rfl rfl (by kernel_rfl) (by kernel_rfl) (by kernel_rfl) (fun _ _ _ h => h) (Or.inl ⟨by rfl, ?yqr38⟩) ?fqr38 ?_
          case yqr38 => (intro wq hq; go_simp; first | done | with_reducible rfl)
          case fqr38 => (go_frame; rfl)
          refine wpIn_take (i := 39) (d := (some 101)) (v := ?vqr39) (a' := ?aqr39) rfl rfl (by kernel_rfl) (by kernel_rfl) (by kernel_rfl) (fun _ _ _ h => h) (Or.inl ⟨by rfl, ?yqr39⟩) ?fqr39 ?_
          case yqr39 => (intro wq hq; go_simp; first | done | with_reducible rfl)
          case fqr39 => (go_frame; rfl)
          refine wpIn_do (i := 40) hCe (by kernel_rfl) rfl (by rfl) ?_
          intro K hK
          go_simp
          go_wp2_with (go_at_call 13; refine (srvA hte).mono ?_; rintro e wf ⟨qf, cf, rfl, howf, hbf⟩)
          have hCf := hCe.trans (hbf.mono hCe.size)
          obtain ⟨gf, hqf, hcf⟩ := own_first howf
          subst hqf
          clear howf
          refine wpIn_take (i := 41) (d := (some 103)) (v := ?vqr41) (a' := ?aqr41) rfl rfl (by kernel_rfl) (by kernel_rfl) (by kernel_rfl) (fun _ _ _ h => h) (Or.inl ⟨by rfl, ?yqr41⟩) ?fqr41 ?_
          case yqr41 => (intro wq hq; go_simp; first | done | with_reducible rfl)
          case fqr41 => (go_frame; rfl)
          refine wpIn_do (i := 42) hCf (by kernel_rfl) rfl (by rfl) ?_
          intro K hK
          go_simp
          refine hK _ _ ?_
          clear hK K
          refine wpIn_take (i := 43) (d := (some 105)) (v := ?vqr43) (a' := ?aqr43) rfl rfl (by kernel_rfl) (by kernel_rfl) (by kernel_rfl) (fun _ _ _ h => h) (Or.inl ⟨by rfl, ?yqr43⟩) ?fqr43 ?_
          case yqr43 => (intro wq hq; go_simp; first | done | with_reducible rfl)
          case fqr43 => (go_frame; rfl)
          refine wpIn_take (i := 44) (d := (some 106)) (v := ?vqr44) (a' := ?aqr44) rfl rfl (by kernel_rfl) (by kernel_rfl) (by kernel_rfl) (fun _ _ _ h => h) (Or.inl ⟨by rfl, ?yqr44⟩) ?fqr44 ?_
          case yqr44 => (intro wq hq; go_simp; first | done | with_reducible rfl)
          case fqr44 => (go_frame; rfl)
          refine wpIn_take (i := 45) (d := (some 107)) (v := ?vqr45) (a' := ?aqr45) rfl rfl (by kernel_rfl) (by kernel_rfl) (by kernel_rfl) (fun _ _ _ h => h) (Or.inl ⟨by rfl, ?yqr45⟩) ?fqr45 ?_
          case yqr45 => (intro wq hq; go_simp; first | done | with_reducible rfl)
          case fqr45 => (go_frame; rfl)
          refine wpIn_do (i := 46) hCf (by kernel_rfl) rfl (by rfl) ?_
          intro K hK
          go_simp
          go_wp2_with (go_at_call 12; refine (awake_any _).mono ?_; rintro e wg ⟨rfl, hbg⟩)
          have hCg := hCf.trans (hbg.mono hCf.size)
          refine wpIn_take (i := 47) (d := (some 109)) (v := ?vqr47) (a' := ?aqr47) rfl rfl (by kernel_rfl) (by kernel_rfl) (by kernel_rfl) (fun _ _ _ h => h) (Or.inl ⟨by rfl, ?yqr47⟩) ?fqr47 ?_
          case yqr47 => (intro wq hq; go_simp; first | done | with_reducible rfl)
          case fqr47 => (go_frame; rfl)
          refine wpIn_take (i := 48) (d := (some 4)) (v := ?vqr48) (a' := ?aqr48) rfl rfl (by kernel_rfl) (by kernel_rfl) (by kernel_rfl) (fun _ _ _ h => h) (Or.inl ⟨by rfl, ?yqr48⟩) ?fqr48 ?_
          case yqr48 => (intro wq hq; go_simp; first | done | with_reducible rfl)
          case fqr48 => (go_frame; rfl)
          refine wpIn_done hCg (by kernel_rfl) ?_ _
          go_wp2
          go_ret
          exact ⟨rfl, hCg⟩
end Go.Proofs.Ytjgogmlmcebgpaa

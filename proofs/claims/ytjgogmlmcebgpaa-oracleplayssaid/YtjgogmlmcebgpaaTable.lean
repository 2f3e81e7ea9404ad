/-
  The table: its numbers, and what it holds.
-/
import Derived.Test.YtjgogmlmcebgpaaNames
namespace Go.Proofs.Ytjgogmlmcebgpaa
open Go.RowKit Go.Maps

abbrev Texts (w : World) (b : Nat) (l : List ByteArray) : Prop := Nums 9 klS okS w b l
abbrev Tokens (w : World) (b : Nat) (l : List (Nat × ByteArray)) : Prop := Nums 63 klP okP w b l

theorem num_at {α : Type} [DecidableEq α] {kl : α → Lit} {ok : α → Prop} {D : DataW Unit} {l : List α} (h : Num kl ok D l) {x : α} (hx : ok x) {c : Int} (hat : D.atKey (kl x) (.lit (.int .i64 0)) = .lit (.int .i64 c)) (hm : Maps.has D (kl x) = true) : c = no l x ∧ add l x = l := by
  have hxl : x ∈ l := by rw [h.has x hx] at hm; simpa using hm
  rw [h.num x hxl] at hat
  simp only [DataW.lit.injEq, Lit.int.injEq] at hat
  rw [no_mem hxl, add_mem hxl]
  exact ⟨hat.2.symm, rfl⟩
theorem num_new {α : Type} [DecidableEq α] {kl : α → Lit} {ok : α → Prop} {D : DataW Unit} {l : List α} (h : Num kl ok D l) {x : α} (hx : ok x) (hm : Maps.has D (kl x) = false) : x ∉ l := by
  rw [h.has x hx] at hm; simpa using hm

theorem Num.inn {α : Type} [DecidableEq α] {kl : α → Lit} {ok : α → Prop} {D : DataW Unit} {l : List α} (h : Num kl ok D l) {x : α} (hx : ok x) : Maps.has D (kl x) = inn l x := h.has x hx

set_option maxHeartbeats 1000000 in
theorem number26_any (l : List ByteArray) (s : ByteArray) (b : Nat) (w : World) (hl : l.length ≤ 1000000) (hs : okS s) (hn : Texts w b l) :
    Calls Try.prog 26 #[.map (some b), .string s] w fun e w' => e = .returned (.int .i64 (no l s)) ∧ Texts w' b (add l s) ∧ w.grownBy w' (some b) := by
  obtain ⟨D, hown, hnum⟩ := hn
  have hkey := keyS hs
  have HN : Hid (Num klS okS D l) := hnum
  have hsz : Maps.size D = l.length := hnum.size
  clear hnum
  cases hm : Maps.has D (klS s) with
  | true =>
    go_enter Try.func26, Try.ntmps26
    go_wp2_with (first
      | (at_lookup; refine wpList_lookup_own_ok_int _ rfl _ _ 50 rfl 9 3 .i64 law9 Try.underlying50 Try.underlying3 (zero3 _) b l.length D rfl hown _ _ rfl hkey ?_; intro c hat hwc))
    go_ret
    obtain ⟨h1, h2⟩ := num_at HN.out hs hat hm
    rw [h2]
    exact ⟨ret_int h1, ⟨D, hown, HN.out⟩, ⟨rfl, rfl, rfl, Nat.le_refl _, fun _ _ _ => rfl⟩⟩
  | false =>
    have HM : Hid (s ∉ l) := num_new HN.out hs hm
    have HML : Hid (l.length < maxLen) := by show _ < _; unfold maxLen; omega
    have HV : Hid (plainElem (H := Unit) Try.prog 3 (.int .i64 ((l.length : Int) + 1)) = some (.lit (.int .i64 ((l.length : Int) + 1)), [])) := plainElem_int Try.underlying3 (WalkArith.wf_i64 (by omega))
    go_enter Try.func26, Try.ntmps26
    go_wp2_with (first
      | (at_lookup; refine wpList_lookup_own_ok_int _ rfl _ _ 50 rfl 9 3 .i64 law9 Try.underlying50 Try.underlying3 (zero3 _) b l.length D rfl hown _ _ rfl hkey ?_; intro c hat hwc)
      | (at_len; refine wpList_len_own _ rfl _ 50 rfl 9 3 Try.underlying50 _ b l.length D rfl hown ?_; rw [hsz])
      | (at_mapUpdate; refine wpList_mapUpdate_own _ rfl _ _ _ 50 rfl 9 3 law9 Try.underlying50 _ b l.length D rfl hown HML.out _ _ _ rfl rfl hkey (.lit (.int .i64 ((l.length : Int) + 1))) [] HV.out ?_; intro w1 hown1 hgrow1))
    go_ret
    have hadd : add l s = l ++ [s] := by unfold add; rw [if_neg HM.out]
    rw [hadd]
    exact ⟨ret_int (no_new HM.out).symm, ⟨_, by rw [List.length_append]; exact hown1, HN.out.put (kl := klS) (fun _ => trivial) (fun _ _ _ _ => klS_inj) hs HM.out⟩, hgrow1⟩

set_option maxHeartbeats 1000000 in
theorem number29_any (l : List (Nat × ByteArray)) (s : Nat × ByteArray) (b : Nat) (w : World) (hl : l.length ≤ 1000000) (hs : okP s) (hn : Tokens w b l) :
    Calls Try.prog 29 #[.map (some b), .agg #[.int .i64 s.1, .string s.2]] w fun e w' => e = .returned (.int .i64 (no l s)) ∧ Tokens w' b (add l s) ∧ w.grownBy w' (some b) := by
  obtain ⟨D, hown, hnum⟩ := hn
  have hkey := keyP hs
  have HN : Hid (Num klP okP D l) := hnum
  have hsz : Maps.size D = l.length := hnum.size
  clear hnum
  cases hm : Maps.has D (klP s) with
  | true =>
    go_enter Try.func29, Try.ntmps29
    go_wp2_with (first
      | (at_lookup; refine wpList_lookup_own_ok_int _ rfl _ _ 51 rfl 63 3 .i64 law63 Try.underlying51 Try.underlying3 (zero3 _) b l.length D rfl (hown.alloc _) _ _ rfl hkey ?_; intro c hat hwc))
    go_ret
    obtain ⟨h1, h2⟩ := num_at HN.out hs hat hm
    rw [h2]
    exact ⟨ret_int h1, ⟨D, hown.alloc _, HN.out⟩, World.grownBy_alloc _ _ _⟩
  | false =>
    have HM : Hid (s ∉ l) := num_new HN.out hs hm
    have HML : Hid (l.length < maxLen) := by show _ < _; unfold maxLen; omega
    have HV : Hid (plainElem (H := Unit) Try.prog 3 (.int .i64 ((l.length : Int) + 1)) = some (.lit (.int .i64 ((l.length : Int) + 1)), [])) := plainElem_int Try.underlying3 (WalkArith.wf_i64 (by omega))
    go_enter Try.func29, Try.ntmps29
    go_wp2_with (first
      | (at_lookup; refine wpList_lookup_own_ok_int _ rfl _ _ 51 rfl 63 3 .i64 law63 Try.underlying51 Try.underlying3 (zero3 _) b l.length D rfl (hown.alloc _) _ _ rfl hkey ?_; intro c hat hwc)
      | (at_len; refine wpList_len_own _ rfl _ 51 rfl 63 3 Try.underlying51 _ b l.length D rfl (hown.alloc _) ?_; rw [hsz])
      | (at_mapUpdate; refine wpList_mapUpdate_own _ rfl _ _ _ 51 rfl 63 3 law63 Try.underlying51 _ b l.length D rfl (hown.alloc _) HML.out _ _ _ rfl rfl hkey (.lit (.int .i64 ((l.length : Int) + 1))) [] HV.out ?_; intro w1 hown1 hgrow1))
    go_ret
    have hadd : add l s = l ++ [s] := by unfold add; rw [if_neg HM.out]
    rw [hadd]
    exact ⟨ret_int (no_new HM.out).symm, ⟨_, by rw [List.length_append]; exact hown1, HN.out.put (kl := klP) (fun _ => trivial) klP_inj hs HM.out⟩, (World.grownBy_alloc _ _ _).trans hgrow1⟩

theorem Nums.kept {α : Type} [DecidableEq α] {k : TypeId} {kl : α → Lit} {ok : α → Prop} {w w' : World} {b : Nat} {l : List α} {row : Option Nat} (h : Nums k kl ok w b l) (hg : w.grownBy w' row) (hne : some b ≠ row) : Nums k kl ok w' b l := by
  obtain ⟨D, h1, h2⟩ := h
  exact ⟨D, h1.kept hg hne, h2⟩
theorem Nums.lt {α : Type} [DecidableEq α] {k : TypeId} {kl : α → Lit} {ok : α → Prop} {w : World} {b : Nat} {l : List α} (h : Nums k kl ok w b l) : b < w.heap.size := by
  obtain ⟨D, h1, h2⟩ := h
  exact h1.lt
theorem below_grown {w w' : World} (h : Below w.heap.size w w') : w.grownBy w' none := ⟨h.os, h.tape, h.output, h.size, fun k hk _ => h.block k hk⟩

theorem grown_any {w w' : World} (h : w.grownBy w' none) (row : Option Nat) : w.grownBy w' row := ⟨h.os, h.tape, h.output, h.size, fun k hk _ => h.block k hk (by simp)⟩
theorem grown_drew (w : World) (row : Option Nat) : w.grownBy w.drew row := ⟨rfl, rfl, rfl, Nat.le_refl _, fun _ _ _ => rfl⟩

/-- Block tb is a table: of the servers S, the texts D, the tokens G. -/
structure Tab (B : Nat) (w : World) (tb : Nat) (v : Value) (b1 b2 : Nat) (S D : List ByteArray) (G : List (Nat × ByteArray)) : Prop where
  c0 : w.cell? ⟨tb, 0, none⟩ = some v
  c1 : w.cell? ⟨tb, 1, none⟩ = some (.map (some b1))
  c2 : w.cell? ⟨tb, 2, none⟩ = some (.map (some b2))
  row : w.ownsRow B 9 1 v S.length (S.map Value.string)
  texts : Texts w b1 D
  tokens : Tokens w b2 G
  ne : b1 ≠ b2
  base : B ≤ tb ∧ B ≤ b1 ∧ B ≤ b2
  few : S.length ≤ 64
  one : once S = true

/-- A map's block holds no cell. -/
theorem Nums.cell {α : Type} [DecidableEq α] {k : TypeId} {kl : α → Lit} {ok : α → Prop} {w : World} {b : Nat} {l : List α} (h : Nums k kl ok w b l) {a : Addr} {u : Value} (hc : w.cell? a = some u) : a.block ≠ b := by
  obtain ⟨D, ⟨es, clock, hb, _⟩, _⟩ := h
  rintro rfl
  simp [World.cell?, hb] at hc
theorem Nums.row {α : Type} [DecidableEq α] {k : TypeId} {kl : α → Lit} {ok : α → Prop} {w : World} {b : Nat} {l : List α} (h : Nums k kl ok w b l) {B e size n : Nat} {v : Value} {xs : List Value} (hr : w.ownsRow B e size v n xs) : v.ownBlock = none ∨ v.ownBlock ≠ some b := by
  obtain ⟨D, ⟨es, clock, hb, _⟩, _⟩ := h
  rcases hr.2 with ⟨rfl, _⟩ | ⟨g, cap, cur, rfl, hg, hgg, _⟩
  · exact .inl rfl
  · right
    intro e
    simp only [Value.ownBlock, Option.some.injEq] at e
    subst e
    rw [hb] at hgg
    cases hgg

section
variable {B : Nat} {w w' : World} {tb : Nat} {v : Value} {b1 b2 : Nat} {S D : List ByteArray} {G : List (Nat × ByteArray)}
theorem Tab.grown (h : Tab B w tb v b1 b2 S D G) (hg : w.grownBy w' none) : Tab B w' tb v b1 b2 S D G :=
  ⟨hg.cell h.c0 (by simp), hg.cell h.c1 (by simp), hg.cell h.c2 (by simp), h.row.kept hg (by cases v.ownBlock <;> simp), h.texts.kept hg (by simp), h.tokens.kept hg (by simp), h.ne, h.base, h.few, h.one⟩
theorem Tab.below (h : Tab B w tb v b1 b2 S D G) (hb : Below w.heap.size w w') : Tab B w' tb v b1 b2 S D G := h.grown (below_grown hb)
theorem Tab.text (h : Tab B w tb v b1 b2 S D G) (hg : w.grownBy w' (some b1)) {D' : List ByteArray} (ht : Texts w' b1 D') : Tab B w' tb v b1 b2 S D' G :=
  ⟨hg.cell h.c0 (fun e => h.texts.cell h.c0 (Option.some.inj e)), hg.cell h.c1 (fun e => h.texts.cell h.c1 (Option.some.inj e)), hg.cell h.c2 (fun e => h.texts.cell h.c2 (Option.some.inj e)), h.row.kept hg (h.texts.row h.row), ht, h.tokens.kept hg (fun e => h.ne (Option.some.inj e).symm), h.ne, h.base, h.few, h.one⟩
theorem Tab.token (h : Tab B w tb v b1 b2 S D G) (hg : w.grownBy w' (some b2)) {G' : List (Nat × ByteArray)} (ht : Tokens w' b2 G') : Tab B w' tb v b1 b2 S D G' :=
  ⟨hg.cell h.c0 (fun e => h.tokens.cell h.c0 (Option.some.inj e)), hg.cell h.c1 (fun e => h.tokens.cell h.c1 (Option.some.inj e)), hg.cell h.c2 (fun e => h.tokens.cell h.c2 (Option.some.inj e)), h.row.kept hg (h.tokens.row h.row), h.texts.kept hg (fun e => h.ne (Option.some.inj e)), ht, h.ne, h.base, h.few, h.one⟩
end

theorem ret_place {a c : Int} {b d : Bool} (h : a = c) (h' : b = d) : Ending.returned (.tuple #[.int .i64 a, .bool b]) = .returned (.tuple #[.int .i64 c, .bool d]) := by rw [h, h']

set_option maxHeartbeats 1000000 in
theorem place_any {B tb b1 b2 : Nat} {v : Value} {S D : List ByteArray} {G : List (Nat × ByteArray)} (s : ByteArray) (w : World) (h : Tab B w tb v b1 b2 S D G) :
    Calls Try.prog 28 #[.pointer (some ⟨tb, 0, none⟩), .string s] w fun e w' => e = .returned (.tuple #[.int .i64 (idx S s), .bool (inn S s)]) ∧ w = w' := by
  obtain ⟨q, cq, rfl, hrd, _⟩ := own_rds h.row
  have hc0 := h.c0
  have hf := h.few
  have HI : Hid (decide (0 ≤ idx S s) = inn S s) := idx_pos S s
  go_enter Try.func28, Try.ntmps28
  go_wp2_with (go_at_call 35; refine (index_any S _ _ _ _ _ (by omega) hrd).mono ?_; rintro e w' ⟨rfl, rfl⟩)
  go_ret2
  exact ⟨ret_place rfl HI.out, rfl⟩

set_option maxHeartbeats 1000000 in
theorem texts_any {B tb b1 b2 : Nat} {v : Value} {S D : List ByteArray} {G : List (Nat × ByteArray)} (w : World) (h : Tab B w tb v b1 b2 S D G) :
    Calls Try.prog 21 #[.pointer (some ⟨tb, 0, none⟩)] w fun e w' => e = .returned (.int .i64 D.length) ∧ w = w' := by
  have hc1 := h.c1
  obtain ⟨DD, hown, hnum⟩ := h.texts
  have HS : Hid (Maps.size DD = D.length) := hnum.size
  clear hnum
  go_enter Try.func21, Try.ntmps21
  go_wp2_with (at_len; refine wpList_len_own _ rfl _ 50 rfl 9 3 Try.underlying50 _ b1 D.length DD rfl hown ?_)
  go_ret
  exact ⟨ret_int (by rw [HS.out]), rfl⟩

set_option maxHeartbeats 1000000 in
theorem tokens_any {B tb b1 b2 : Nat} {v : Value} {S D : List ByteArray} {G : List (Nat × ByteArray)} (w : World) (h : Tab B w tb v b1 b2 S D G) :
    Calls Try.prog 22 #[.pointer (some ⟨tb, 0, none⟩)] w fun e w' => e = .returned (.int .i64 G.length) ∧ w = w' := by
  have hc2 := h.c2
  obtain ⟨DD, hown, hnum⟩ := h.tokens
  have HS : Hid (Maps.size DD = G.length) := hnum.size
  clear hnum
  go_enter Try.func22, Try.ntmps22
  go_wp2_with (at_len; refine wpList_len_own _ rfl _ 51 rfl 63 3 Try.underlying51 _ b2 G.length DD rfl hown ?_)
  go_ret
  exact ⟨ret_int (by rw [HS.out]), rfl⟩

set_option maxHeartbeats 1000000 in
theorem servers_any {B tb b1 b2 : Nat} {v : Value} {S D : List ByteArray} {G : List (Nat × ByteArray)} (w : World) (h : Tab B w tb v b1 b2 S D G) :
    Calls Try.prog 13 #[.pointer (some ⟨tb, 0, none⟩)] w fun e w' => ∃ q cq, e = .returned (.slice q S.length cq) ∧ w'.ownsRow w.heap.size 9 1 (.slice q S.length cq) S.length (S.map Value.string) ∧ Below w.heap.size w w' := by
  obtain ⟨q, cq, rfl, hrd, hq⟩ := own_rds h.row
  have hc0 := h.c0
  have hf := h.few
  go_enter Try.func13, Try.ntmps13
  go_wp2_with (go_at_call 24; refine (clone_any S _ _ _ (by omega) hrd hq).mono ?_; rintro e w1 ⟨q1, c1, rfl, hown, hb⟩)
  go_ret
  exact ⟨_, _, rfl, hown, hb⟩
end Go.Proofs.Ytjgogmlmcebgpaa

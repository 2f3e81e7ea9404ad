/-
  The table's deeds, by their contracts: New, Digest, Sign, Verify.
-/
import Derived.Test.YtjgogmlmcebgpaaTable
import Derived.Deep.RegionWith
import Derived.Laws.IdiomStrings
namespace Go.Proofs.Ytjgogmlmcebgpaa
open Go.RowKit Go.Maps

theorem rd_string {B : Nat} {w : World} {p : Option Addr} {c : Nat} {rs : List Int} (h : Rd B w p c rs) :
    (convert 37 9 (.slice p rs.length c)).run Try.prog w = .ok (.string (strOfNums rs)) w := by
  cases p with
  | none =>
    have h0 : rs = [] := by
      cases rs with
      | nil => rfl
      | cons x r => obtain ⟨a, ha, _⟩ := h.2.2 0 (by simp); cases ha
    subst h0
    exact run_convert_bytes_nil w 37 5 Try.underlying37 Try.underlying5 0 c 9 Try.underlying9
  | some a =>
    have := run_convert_bytes_back (P := Try.prog) w 37 9 5 a c (rs.map fun n => UInt8.ofNat n.toNat) Try.underlying37 Try.underlying5 Try.underlying9 (fun j hj => by
      have hj' : j < rs.length := by simpa using hj
      obtain ⟨a', ha, _, hc⟩ := h.2.2 j hj'
      cases ha
      rw [hc, List.getElem_map]
      have hb := h.2.1 rs[j] (List.getElem_mem hj')
      have hx : rs[j].toNat < 256 := by omega
      rw [UInt8.toNat_ofNat_of_lt' hx, List.getD_eq_getElem?_getD, List.getElem?_eq_getElem hj']
      congr 2
      simp
      omega)
    rw [List.length_map] at this
    exact this

theorem eq50 (w : World) (b : Nat) : (binOp .eql 50 (.map (some b)) (.map none)).run Try.prog w = .ok (.bool false) w := by kernel_rfl
theorem eq50n (w : World) : (binOp .eql 50 (.map none) (.map none)).run Try.prog w = .ok (.bool true) w := by kernel_rfl

set_option maxHeartbeats 1000000 in
theorem new_bad (S : List ByteArray) (p : Option Addr) (c : Nat) (w : World) (hS : S.length ≤ 1000) (hrd : RdS w.heap.size w p c S) (hbad : ¬ (S.length ≤ 64 ∧ once S = true)) :
    Calls Try.prog 10 #[.slice p S.length c] w fun e w' => e = .returned (.tuple #[.pointer none, .int .i64 1]) ∧ w = w' := by
  by_cases h64 : S.length ≤ 64
  · have ho : once S = false := by
      cases h : once S with
      | false => rfl
      | true => exact absurd ⟨h64, h⟩ hbad
    clear hbad
    go_enter Try.func10, Try.ntmps10
    go_wp2_with (go_at_call 23; refine (twice_any S _ _ _ _ (by omega) hrd).mono ?_; rintro e w' ⟨rfl, rfl⟩)
    go_ret2
    exact ⟨rfl, rfl⟩
  · clear hbad
    go_enter Try.func10, Try.ntmps10
    go_wp2
    go_ret2
    exact ⟨rfl, rfl⟩

theorem map_made {α : Type} [DecidableEq α] {k : TypeId} {kl : α → Lit} {ok : α → Prop} (w : World) : Nums k kl ok (w.alloc (.map #[] 0)) w.heap.size [] :=
  ⟨.map [], World.ownsMap_made _ _ _ _, Num.empty⟩

/-- There is a table behind tb. -/
def TabOk (B : Nat) (w : World) (tb : Nat) (S D : List ByteArray) (G : List (Nat × ByteArray)) : Prop := ∃ v b1 b2, Tab B w tb v b1 b2 S D G

set_option maxHeartbeats 1000000 in
theorem new_good (S : List ByteArray) (p : Option Addr) (c : Nat) (w : World) (h64 : S.length ≤ 64) (ho : once S = true) (hrd : RdS w.heap.size w p c S) (hnone : p = none → c = 0) :
    Calls Try.prog 10 #[.slice p S.length c] w fun e w' => ∃ tb, e = .returned (.tuple #[.pointer (some ⟨tb, 0, none⟩), .int .i64 0]) ∧ TabOk w.heap.size w' tb S [] [] ∧ Below w.heap.size w w' := by
  have hmm := @run_makeMap Try.prog
  go_enter Try.func10, Try.ntmps10
  go_wp2_with (first
    | (go_at_call 23; refine (twice_any S _ _ _ _ (by omega) hrd).mono ?_; rintro e w' ⟨rfl, rfl⟩)
    | (go_at_call 24; refine (clone_any S _ _ _ (by omega) hrd hnone).mono ?_; rintro e w1 ⟨q, cq, rfl, hown, hb⟩))
  go_ret2
  have hs := hb.size
  have e1 := heap_alloc_new ((w1.alloc (.map #[] 0)).alloc (.map #[] 0)) (.cells #[.slice q S.length cq, .map (some w1.heap.size), .map (some (w1.heap.size + 1))] 53)
  have m1 : Texts (((w1.alloc (.map #[] 0)).alloc (.map #[] 0)).alloc (.cells #[.slice q S.length cq, .map (some w1.heap.size), .map (some (w1.heap.size + 1))] 53)) w1.heap.size [] :=
    ((map_made w1).kept (World.grownBy_alloc _ _ none) (by simp)).kept (World.grownBy_alloc _ _ none) (by simp)
  have m2 : Tokens (((w1.alloc (.map #[] 0)).alloc (.map #[] 0)).alloc (.cells #[.slice q S.length cq, .map (some w1.heap.size), .map (some (w1.heap.size + 1))] 53)) (w1.heap.size + 1) [] := by
    have := (map_made (k := 63) (kl := klP) (ok := okP) (w1.alloc (.map #[] 0))).kept (World.grownBy_alloc _ (.cells #[.slice q S.length cq, .map (some w1.heap.size), .map (some (w1.heap.size + 1))] 53) none) (by simp)
    simpa using this
  have e2 : ((w1.alloc (.map #[] 0)).alloc (.map #[] 0)).heap.size = w1.heap.size + 1 + 1 := by simp
  rw [e2] at e1
  refine ⟨w1.heap.size + 1 + 1, rfl, ⟨.slice q S.length cq, w1.heap.size, w1.heap.size + 1, ?_, ?_, ?_, ((hown.alloc _).alloc _).alloc _, m1, m2, by omega, by omega, h64, ho⟩, ?_⟩
  · exact cell_row (cur := [_, _, _]) e1 0 _ rfl
  · exact cell_row (cur := [_, _, _]) e1 1 _ rfl
  · exact cell_row (cur := [_, _, _]) e1 2 _ rfl
  · exact (((hb.alloc hb.size _).alloc (by simp; omega) _).alloc (by simp; omega) _)

set_option maxHeartbeats 1000000 in
theorem digest_any {B tb b1 b2 : Nat} {v : Value} {S D : List ByteArray} {G : List (Nat × ByteArray)} (zs : List Int) (p : Option Addr) (c : Nat) (w : World) (h : Tab B w tb v b1 b2 S D G) (hrd : Rd w.heap.size w p c zs) (hz : zs.length ≤ 1000) (hD : D.length ≤ 100000) :
    Calls Try.prog 14 #[.pointer (some ⟨tb, 0, none⟩), .slice p zs.length c] w fun e w' => e = .returned (.string (lt (no D (strOfNums zs)))) ∧ Tab B w' tb v b1 b2 S (add D (strOfNums zs)) G ∧ w.grownBy w' (some b1) := by
  have hc1 := h.c1
  have hcv := rd_string (hrd.carry (Below.refl _ _).drew)
  have q := eq50
  have hok : okS (strOfNums zs) := by unfold okS maxLen; rw [str_size]; omega
  obtain ⟨s, hs⟩ : ∃ s, s = strOfNums zs := ⟨_, rfl⟩
  rw [← hs] at hcv hok ⊢
  have hn1 := no_pos D s
  have hn2 := no_le D s
  have hD1 : D.length ≤ 1000000 := by omega
  have h01 : 0 ≤ no D s := by omega
  have h02 : no D s < 9223372036854775808 := by omega
  have hT : Texts w.drew b1 D := h.texts.kept (grown_drew w none) (by simp)
  clear hs
  go_enter Try.func14, Try.ntmps14
  go_wp2
  go_region_with (first
    | (go_at_call 26; refine (number26_any D s _ _ hD1 hok hT).mono ?_; rintro e w1 ⟨rfl, ht, hg⟩)
    | (go_at_call 25; refine (letters_any _ _ h01 h02).mono ?_; rintro e w2 ⟨rfl, hb⟩))
  all_goals
    go_wp2
    go_ret
    have hg' : w.grownBy w2 (some b1) := ((grown_drew w _).trans hg).trans (grown_any (below_grown hb) _)
    exact ⟨rfl, h.text hg' (ht.kept (below_grown hb) (by simp)), hg'⟩

theorem ret_sign {a c : ByteArray} {b d : Int} (h : a = c) (h' : b = d) : Ending.returned (.tuple #[.string a, .int .i64 b]) = .returned (.tuple #[.string c, .int .i64 d]) := by rw [h, h']

set_option maxHeartbeats 1000000 in
theorem sign_none {B tb b1 b2 : Nat} {v : Value} {S D : List ByteArray} {G : List (Nat × ByteArray)} (s : ByteArray) (x : Value) (w : World) (h : Tab B w tb v b1 b2 S D G) (hs : inn S s = false) :
    Calls Try.prog 16 #[.pointer (some ⟨tb, 0, none⟩), .string s, x] w fun e w' => e = .returned (.tuple #[.string ⟨#[]⟩, .int .i64 2]) ∧ w = w' := by
  go_enter Try.func16, Try.ntmps16
  go_wp2_with (go_at_call 28; refine (place_any s _ h).mono ?_; rintro e w' ⟨rfl, rfl⟩)
  go_ret2
  exact ⟨rfl, rfl⟩

set_option maxHeartbeats 1000000 in
theorem sign_any {B tb b1 b2 : Nat} {v : Value} {S D : List ByteArray} {G : List (Nat × ByteArray)} (s : ByteArray) (zs : List Int) (p : Option Addr) (c : Nat) (w : World) (h : Tab B w tb v b1 b2 S D G) (hrd : Rd w.heap.size w p c zs) (hz : zs.length ≤ 1000) (hG : G.length ≤ 100000) (hs : inn S s = true) :
    Calls Try.prog 16 #[.pointer (some ⟨tb, 0, none⟩), .string s, .slice p zs.length c] w fun e w' => e = .returned (.tuple #[.string (lt (no G (plc S s, strOfNums zs))), .int .i64 0]) ∧ Tab B w' tb v b1 b2 S D (add G (plc S s, strOfNums zs)) ∧ w.grownBy w' (some b2) := by
  have hc2 := h.c2
  have hcv := rd_string (hrd.carry (Below.refl _ _).drew)
  have hok : okP (plc S s, strOfNums zs) := by
    refine ⟨?_, by unfold maxLen; rw [str_size]; omega⟩
    have := h.few
    have e := idx_plc (inn_iff.1 hs)
    have := idx_lt S s
    simp only
    omega
  obtain ⟨t, ht⟩ : ∃ t, t = strOfNums zs := ⟨_, rfl⟩
  rw [← ht] at hcv hok ⊢
  clear ht
  have hP : Hid (Calls Try.prog 28 #[.pointer (some ⟨tb, 0, none⟩), .string s] w fun e w' => e = .returned (.tuple #[.int .i64 (plc S s), .bool true]) ∧ w = w') := by
    have := place_any s w h
    rw [idx_plc (inn_iff.1 hs), hs] at this
    exact this
  obtain ⟨n, hn⟩ : ∃ n, n = plc S s := ⟨_, rfl⟩
  rw [← hn] at hP hok ⊢
  clear hn hs
  have hn1 := no_pos G (n, t)
  have hn2 := no_le G (n, t)
  have hG1 : G.length ≤ 1000000 := by omega
  have h01 : 0 ≤ no G (n, t) := by omega
  have h02 : no G (n, t) < 9223372036854775808 := by omega
  have hT : Tokens w.drew b2 G := h.tokens.kept (grown_drew w none) (by simp)
  go_enter Try.func16, Try.ntmps16
  go_wp2_with (go_at_call 28; refine hP.out.mono ?_; rintro e w' ⟨rfl, rfl⟩)
  go_region_with (first
    | (go_at_call 29; refine (number29_any G (n, t) _ _ hG1 hok hT).mono ?_; rintro e w1 ⟨rfl, ht, hg⟩)
    | (go_at_call 25; refine (letters_any _ _ h01 h02).mono ?_; rintro e w2 ⟨rfl, hb⟩))
  all_goals
    go_wp2
    go_ret2
    have hg' : w.grownBy w2 (some b2) := ((grown_drew w _).trans hg).trans (grown_any (below_grown hb) _)
    exact ⟨rfl, h.token hg' (ht.kept (below_grown hb) (by simp)), hg'⟩

/-- Is it the token of this server and this text. -/
def ver (S : List ByteArray) (G : List (Nat × ByteArray)) (s t k : ByteArray) : Bool := inn S s && (inn G (plc S s, t) && decide (k = lt (no G (plc S s, t))))

set_option maxHeartbeats 1000000 in
theorem verify_any {B tb b1 b2 : Nat} {v : Value} {S D : List ByteArray} {G : List (Nat × ByteArray)} (s : ByteArray) (zs : List Int) (k : ByteArray) (p : Option Addr) (c : Nat) (w : World) (h : Tab B w tb v b1 b2 S D G) (hrd : Rd w.heap.size w p c zs) (hz : zs.length ≤ 1000) (hG : G.length ≤ 100000) :
    Calls Try.prog 19 #[.pointer (some ⟨tb, 0, none⟩), .string s, .slice p zs.length c, .string k] w fun e w' => e = .returned (.bool (ver S G s (strOfNums zs) k)) ∧ Below w.heap.size w w' := by
  unfold ver
  cases hs : inn S s with
  | false =>
    go_enter Try.func19, Try.ntmps19
    go_wp2_with (go_at_call 28; refine (place_any s _ h).mono ?_; rintro e w' ⟨rfl, rfl⟩)
    go_ret
    exact ⟨rfl, Below.refl _ _⟩
  | true =>
    have hc2 := h.c2
    have hcv := rd_string (hrd.carry (Below.refl _ _).drew)
    have hok : okP (plc S s, strOfNums zs) := by
      refine ⟨?_, by unfold maxLen; rw [str_size]; omega⟩
      have := h.few
      have e := idx_plc (inn_iff.1 hs)
      have := idx_lt S s
      simp only
      omega
    obtain ⟨t, ht⟩ : ∃ t, t = strOfNums zs := ⟨_, rfl⟩
    rw [← ht] at hcv hok ⊢
    clear ht
    have hP : Hid (Calls Try.prog 28 #[.pointer (some ⟨tb, 0, none⟩), .string s] w fun e w' => e = .returned (.tuple #[.int .i64 (plc S s), .bool true]) ∧ w = w') := by
      have := place_any s w h
      rw [idx_plc (inn_iff.1 hs), hs] at this
      exact this
    obtain ⟨n, hn⟩ : ∃ n, n = plc S s := ⟨_, rfl⟩
    rw [← hn] at hP hok ⊢
    clear hn hs
    obtain ⟨DD, hown, hnum⟩ := h.tokens.kept (grown_drew w none) (by simp)
    obtain ⟨vv, ps, hlook, hvv⟩ := hown.look_ok law63 Try.underlying51 (zero3 _) (plainElem_int Try.underlying3 (by decide)) (keyP hok)
    obtain ⟨cc, rfl, hcc, _⟩ := plainElem_int_inv Try.underlying3 hvv
    have hat : DD.atKey (klP (n, t)) (.lit (.int .i64 0)) = .lit (.int .i64 cc) := congrArg Prod.fst hcc
    have hhas := hnum.inn hok
    rw [hhas] at hlook
    simp only at hlook
    have HN : Hid (Num klP okP DD G) := hnum
    have HAT : Hid (DD.atKey (klP (n, t)) (.lit (.int .i64 0)) = .lit (.int .i64 cc)) := hat
    have HH : Hid (Maps.has DD (klP (n, t)) = inn G (n, t)) := hhas
    clear hnum hat hhas hcc hvv
    cases hi : inn G (n, t) with
    | false =>
      rw [hi] at hlook
      go_enter Try.func19, Try.ntmps19
      go_wp2_with (go_at_call 28; refine hP.out.mono ?_; rintro e w' ⟨rfl, rfl⟩)
      go_region
      all_goals
        go_wp2
        go_ret
        exact ⟨rfl, (Below.refl _ _).drew⟩
    | true =>
      rw [hi] at hlook
      have hcn : cc = no G (n, t) := (num_at HN.out hok HAT.out (by rw [HH.out, hi])).1
      have hn1 := no_pos G (n, t)
      have hn2 := no_le G (n, t)
      have h01 : 0 ≤ cc := by omega
      have h02 : cc < 9223372036854775808 := by omega
      have HC : Hid (cc = no G (n, t)) := hcn
      clear hcn
      go_enter Try.func19, Try.ntmps19
      go_wp2_with (go_at_call 28; refine hP.out.mono ?_; rintro e w' ⟨rfl, rfl⟩)
      go_region
      all_goals
        go_wp2_with (go_at_call 25; refine (letters_any _ _ h01 h02).mono ?_; rintro e w2 ⟨rfl, hb⟩)
        go_ret
        exact ⟨ret_bool (by rw [beqS, HC.out]; simp), (Below.refl _ _).drew.trans hb⟩
end Go.Proofs.Ytjgogmlmcebgpaa

/-
  The table and the document's table side by side: what each deed leaves of both.
-/
import Derived.Test.YtjgogmlmcebgpaaRdeeds
import Derived.Test.YtjgogmlmcebgpaaRnew
import Derived.Test.YtjgogmlmcebgpaaStays
namespace Go.Proofs.Ytjgogmlmcebgpaa
open Go.RowKit Go.Maps

theorem mem_map_inj {α β : Type} {f : α → β} {x : α} {H : List α} (h : ∀ y ∈ H, f y = f x → y = x) : f x ∈ H.map f ↔ x ∈ H := by
  constructor
  · intro hm
    obtain ⟨y, hy, e⟩ := List.mem_map.1 hm
    rw [← h y hy e]
    exact hy
  · exact fun hm => List.mem_map_of_mem hm
section
variable {α β : Type} [DecidableEq α] [DecidableEq β]
theorem idxOf_map (f : α → β) (x : α) : ∀ H : List α, (∀ y ∈ H, f y = f x → y = x) → (H.map f).idxOf (f x) = H.idxOf x
  | [], _ => rfl
  | y :: r, h => by
    rw [List.map_cons, List.idxOf_cons, List.idxOf_cons, idxOf_map f x r (fun z hz => h z (by simp [hz]))]
    by_cases e : y = x
    · subst e; simp
    · have e' : f y ≠ f x := fun h' => e (h y (by simp) h')
      have b1 : (y == x) = false := by simpa using e
      have b2 : (f y == f x) = false := by simpa using e'
      rw [b1, b2]
theorem no_map {f : α → β} {x : α} {H : List α} (h : ∀ y ∈ H, f y = f x → y = x) : no (H.map f) (f x) = no H x ∧ add (H.map f) (f x) = (add H x).map f ∧ inn (H.map f) (f x) = inn H x := by
  have hm := mem_map_inj h
  by_cases hx : x ∈ H
  · refine ⟨?_, ?_, ?_⟩
    · rw [no_mem hx, no_mem (hm.2 hx), idxOf_map f x H h]
    · rw [add_mem hx, add_mem (hm.2 hx)]
    · rw [inn_iff.2 hx, inn_iff.2 (hm.2 hx)]
  · have hx' : f x ∉ H.map f := fun h' => hx (hm.1 h')
    refine ⟨?_, ?_, ?_⟩
    · rw [no_new hx, no_new hx', List.length_map]
    · unfold add; rw [if_neg hx, if_neg hx', List.map_append]; rfl
    · rw [inn_not.2 hx, inn_not.2 hx']
end

/-- What was signed, as the table keeps it. -/
def gm (S : List ByteArray) (H : List (ByteArray × ByteArray)) : List (Nat × ByteArray) := H.map fun x => (plc S x.1, x.2)
theorem gm_length (S : List ByteArray) (H : List (ByteArray × ByteArray)) : (gm S H).length = H.length := List.length_map ..
theorem gm_all {S : List ByteArray} {H : List (ByteArray × ByteArray)} (hH : ∀ x ∈ H, x.1 ∈ S) {s t : ByteArray} (hs : s ∈ S) :
    no (gm S H) (plc S s, t) = no H (s, t) ∧ add (gm S H) (plc S s, t) = gm S (add H (s, t)) ∧ inn (gm S H) (plc S s, t) = inn H (s, t) := by
  refine no_map (f := fun x : ByteArray × ByteArray => (plc S x.1, x.2)) (x := (s, t)) fun y hy e => ?_
  simp only [Prod.mk.injEq] at e
  exact Prod.ext (plc_inj (hH y hy) hs e.1) e.2
theorem gm_ver {S : List ByteArray} {H : List (ByteArray × ByteArray)} (hH : ∀ x ∈ H, x.1 ∈ S) (s t k : ByteArray) : ver S (gm S H) s t k = rver H s t k := by
  unfold ver rver
  cases hs : inn S s with
  | true =>
    obtain ⟨h1, _, h3⟩ := gm_all hH (t := t) (inn_iff.1 hs)
    rw [h1, h3]
    have : decide (k = lt (no H (s, t))) = decide (lt (no H (s, t)) = k) := decide_eq_decide.2 ⟨Eq.symm, Eq.symm⟩
    simp [this]
  | false =>
    have : inn H (s, t) = false := inn_not.2 fun h => inn_not.1 hs (hH _ h)
    simp [this]

/-- Rows of deeds and of bytes stay. -/
structure Kp (w w' : World) : Prop where
  rows : ∀ (k : Nat) (c : Array Value) (t : TypeId) (f : Nat × Nat), w.heap[k]? = some (.cells c t f) → t = 35 ∨ t = 5 → w'.heap[k]? = some (.cells c t f)
  size : w.heap.size ≤ w'.heap.size
theorem Kp.trans {a b c : World} (h : Kp a b) (h' : Kp b c) : Kp a c := ⟨fun k x t f e ht => h'.rows k x t f (h.rows k x t f e ht) ht, Nat.le_trans h.size h'.size⟩
theorem Kp.grown {w w' : World} {row : Option Nat} (hg : w.grownBy w' row) (hr : Bare w row) : Kp w w' := ⟨fun _ _ _ _ e _ => obj_bare e hg hr, hg.size⟩
theorem Kp.below {w w' : World} (hb : Below w.heap.size w w') : Kp w w' := Kp.grown (below_grown hb) (bare_none _)
theorem Kp.fr {B : Nat} {w w' : World} (h : Fr B w w') : Kp w w' := ⟨h.rows, h.low.size⟩
theorem Byt.kp {w w' : World} {bb cap : Nat} {s : ByteArray} (h : Byt w bb cap s) (hk : Kp w w') : Byt w' bb cap s := by
  obtain ⟨cs, f, e⟩ := h.obj
  exact h.keep ((hk.rows bb cs 5 f e (.inr rfl)).trans e.symm) hk.size

/-- Both tables lie in W: D, G the one's, E, H the other's; T was told. -/
structure Sq (w : World) (tb b1 b2 rb : Nat) (vv v0 v1 v2 vt : Value) (S D E : List ByteArray) (G : List (Nat × ByteArray)) (H : List (ByteArray × ByteArray)) (T : List ByteArray) (W : World) : Prop where
  ex : ∃ B1 B2, w.heap.size ≤ B1 ∧ w.heap.size ≤ B2 ∧ Tab B1 W tb vv b1 b2 S D G ∧ Rt B2 W rb v0 v1 v2 vt S E H T ∧ Lo B2 tb vv b1 b2
  low : Below w.heap.size w W

section
variable {w : World} {tb b1 b2 rb : Nat} {vv v0 v1 v2 vt : Value} {S D E : List ByteArray} {G : List (Nat × ByteArray)} {H : List (ByteArray × ByteArray)} {T : List ByteArray} {W W' : World}
theorem Sq.below (h : Sq w tb b1 b2 rb vv v0 v1 v2 vt S D E G H T W) (hb : Below W.heap.size W W') : Sq w tb b1 b2 rb vv v0 v1 v2 vt S D E G H T W' := by
  obtain ⟨B1, B2, h1, h2, ht, hr, hl⟩ := h.ex
  exact ⟨⟨B1, B2, h1, h2, ht.below hb, hr.below hb, hl⟩, h.low.trans (hb.mono h.low.size)⟩
theorem Sq.digest (h : Sq w tb b1 b2 rb vv v0 v1 v2 vt S D E G H T W) {bb cap : Nat} {s : ByteArray} (hb : Byt W bb cap s) (hs : s.size ≤ 1000) (hD : D.length ≤ 100000) :
    Calls Try.prog 14 #[.pointer (some ⟨tb, 0, none⟩), .slice (some ⟨bb, 0, none⟩) s.size cap] W fun e W' => e = .returned (.string (lt (no D s))) ∧ Sq w tb b1 b2 rb vv v0 v1 v2 vt S (add D s) E G H T W' ∧ Kp W W' := by
  obtain ⟨B1, B2, h1, h2, ht, hr, hl⟩ := h.ex
  have := digest_any (ints s) _ cap W ht hb.rd (by rw [ints_length]; exact hs) hD
  rw [ints_length, str_ints] at this
  refine this.mono ?_
  rintro e W' ⟨rfl, ht', hg⟩
  exact ⟨rfl, ⟨⟨B1, B2, h1, h2, ht', hr.kept hg ht.texts.bare, hl⟩, h.low.trans ((ht.under1 hg).mono h1)⟩, Kp.grown hg ht.texts.bare⟩
theorem Sq.sign (h : Sq w tb b1 b2 rb vv v0 v1 v2 vt S D E G H T W) {bb cap : Nat} {t : ByteArray} (s : ByteArray) (hb : Byt W bb cap t) (ht : t.size ≤ 1000) (hG : G.length ≤ 100000) (hin : inn S s = true) :
    Calls Try.prog 16 #[.pointer (some ⟨tb, 0, none⟩), .string s, .slice (some ⟨bb, 0, none⟩) t.size cap] W fun e W' => e = .returned (.tuple #[.string (lt (no G (plc S s, t))), .int .i64 0]) ∧ Sq w tb b1 b2 rb vv v0 v1 v2 vt S D E (add G (plc S s, t)) H T W' ∧ Kp W W' := by
  obtain ⟨B1, B2, h1, h2, hT, hr, hl⟩ := h.ex
  have := sign_any s (ints t) _ cap W hT hb.rd (by rw [ints_length]; exact ht) hG hin
  rw [ints_length, str_ints] at this
  refine this.mono ?_
  rintro e W' ⟨rfl, ht', hg⟩
  exact ⟨rfl, ⟨⟨B1, B2, h1, h2, ht', hr.kept hg hT.tokens.bare, hl⟩, h.low.trans ((hT.under2 hg).mono h1)⟩, Kp.grown hg hT.tokens.bare⟩
theorem Sq.signNone (h : Sq w tb b1 b2 rb vv v0 v1 v2 vt S D E G H T W) (s : ByteArray) (x : Value) (hin : inn S s = false) :
    Calls Try.prog 16 #[.pointer (some ⟨tb, 0, none⟩), .string s, x] W fun e w' => e = .returned (.tuple #[.string ⟨#[]⟩, .int .i64 2]) ∧ W = w' := by
  obtain ⟨B1, B2, h1, h2, hT, hr, hl⟩ := h.ex
  exact sign_none s x W hT hin
theorem Sq.verify (h : Sq w tb b1 b2 rb vv v0 v1 v2 vt S D E G H T W) {bb cap : Nat} {t : ByteArray} (s k : ByteArray) (hb : Byt W bb cap t) (ht : t.size ≤ 1000) (hG : G.length ≤ 100000) :
    Calls Try.prog 19 #[.pointer (some ⟨tb, 0, none⟩), .string s, .slice (some ⟨bb, 0, none⟩) t.size cap, .string k] W fun e W' => e = .returned (.bool (ver S G s t k)) ∧ Below W.heap.size W W' := by
  obtain ⟨B1, B2, h1, h2, hT, hr, hl⟩ := h.ex
  have := verify_any s (ints t) k _ cap W hT hb.rd (by rw [ints_length]; exact ht) hG
  rw [ints_length, str_ints] at this
  exact this
theorem Sq.texts (h : Sq w tb b1 b2 rb vv v0 v1 v2 vt S D E G H T W) : Calls Try.prog 21 #[.pointer (some ⟨tb, 0, none⟩)] W fun e w' => e = .returned (.int .i64 D.length) ∧ W = w' := by
  obtain ⟨B1, B2, h1, h2, hT, hr, hl⟩ := h.ex
  exact texts_any W hT
theorem Sq.tokens (h : Sq w tb b1 b2 rb vv v0 v1 v2 vt S D E G H T W) : Calls Try.prog 22 #[.pointer (some ⟨tb, 0, none⟩)] W fun e w' => e = .returned (.int .i64 G.length) ∧ W = w' := by
  obtain ⟨B1, B2, h1, h2, hT, hr, hl⟩ := h.ex
  exact tokens_any W hT
/-- What Digest of the document's table leaves of both. -/
structure BDig (w : World) (tb b1 b2 rb : Nat) (vv v0 v2 vt : Value) (S D E : List ByteArray) (G : List (Nat × ByteArray)) (H : List (ByteArray × ByteArray)) (T : List ByteArray) (s : ByteArray) (W : World) (e : Ending) (W' : World) : Prop where
  ret : e = .returned (.string (lt (no E s)))
  sq : ∃ v1', Sq w tb b1 b2 rb vv v0 v1' v2 vt S D (add E s) G H T W'
  kp : Kp W W'
/-- What Sign of the document's table leaves of both. -/
structure BSig (w : World) (tb b1 b2 rb : Nat) (vv v0 v1 vt : Value) (S D E : List ByteArray) (G : List (Nat × ByteArray)) (H : List (ByteArray × ByteArray)) (T : List ByteArray) (s t : ByteArray) (W : World) (e : Ending) (W' : World) : Prop where
  ret : e = .returned (.tuple #[.string (lt (no H (s, t))), .int .i64 0])
  sq : ∃ v2', Sq w tb b1 b2 rb vv v0 v1 v2' vt S D E G (add H (s, t)) T W'
  kp : Kp W W'
theorem Sq.rdigest (h : Sq w tb b1 b2 rb vv v0 v1 v2 vt S D E G H T W) {bb cap : Nat} {s : ByteArray} (hb : Byt W bb cap s) (hE : E.length ≤ 100000) :
    Calls Try.prog 15 #[.pointer (some ⟨rb, 0, none⟩), .slice (some ⟨bb, 0, none⟩) s.size cap] W fun e W' => BDig w tb b1 b2 rb vv v0 v2 vt S D E G H T s W e W' := by
  obtain ⟨B1, B2, h1, h2, hT, hr, hl⟩ := h.ex
  refine (rdigest_byt hr hb hE).mono ?_
  rintro e W' ⟨hret, ⟨v1', hr'⟩, hf⟩
  exact ⟨hret, ⟨v1', ⟨⟨B1, B2, h1, h2, hT.low hl hf.low, hr', hl⟩, h.low.trans (hf.low.mono h2)⟩⟩, Kp.fr hf⟩
theorem Sq.rsign (h : Sq w tb b1 b2 rb vv v0 v1 v2 vt S D E G H T W) {bb cap : Nat} {t : ByteArray} (s : ByteArray) (hb : Byt W bb cap t) (hH : H.length ≤ 100000) (hin : inn S s = true) :
    Calls Try.prog 17 #[.pointer (some ⟨rb, 0, none⟩), .string s, .slice (some ⟨bb, 0, none⟩) t.size cap] W fun e W' => BSig w tb b1 b2 rb vv v0 v1 vt S D E G H T s t W e W' := by
  obtain ⟨B1, B2, h1, h2, hT, hr, hl⟩ := h.ex
  refine (rsign_byt s hr hb (by have := hT.few; omega) hH hin).mono ?_
  rintro e W' ⟨hret, ⟨v2', hr'⟩, hf⟩
  exact ⟨hret, ⟨v2', ⟨⟨B1, B2, h1, h2, hT.low hl hf.low, hr', hl⟩, h.low.trans (hf.low.mono h2)⟩⟩, Kp.fr hf⟩
theorem Sq.rsignNone (h : Sq w tb b1 b2 rb vv v0 v1 v2 vt S D E G H T W) (s : ByteArray) (x : Value) (hin : inn S s = false) :
    Calls Try.prog 17 #[.pointer (some ⟨rb, 0, none⟩), .string s, x] W fun e w' => e = .returned (.tuple #[.string ⟨#[]⟩, .int .i64 2]) ∧ W = w' := by
  obtain ⟨B1, B2, h1, h2, hT, hr, hl⟩ := h.ex
  exact rsign_none s x hr (by have := hT.few; omega) hin
theorem Sq.rverify (h : Sq w tb b1 b2 rb vv v0 v1 v2 vt S D E G H T W) {bb cap : Nat} {t : ByteArray} (s k : ByteArray) (hb : Byt W bb cap t) (hH : H.length ≤ 100000) :
    Calls Try.prog 20 #[.pointer (some ⟨rb, 0, none⟩), .string s, .slice (some ⟨bb, 0, none⟩) t.size cap, .string k] W fun e W' => e = .returned (.bool (rver H s t k)) ∧ Below W.heap.size W W' := by
  obtain ⟨B1, B2, h1, h2, hT, hr, hl⟩ := h.ex
  exact rverify_byt s k hr hb hH
theorem Sq.tell {vt' : Value} {s : ByteArray} (h : Sq w tb b1 b2 rb vv v0 v1 v2 vt S D E G H T W) (hown : W'.ownsRow (rb + 1) 9 1 vt' (T ++ [s]).length ((T ++ [s]).map Value.string)) (hg : W.grownBy W' vt.ownBlock) (hat : vt'.ownBlock = vt.ownBlock ∨ vt'.ownBlock = some W.heap.size) :
    Sq w tb b1 b2 rb vv v0 v1 v2 vt' S D E G H (T ++ [s]) W' := by
  obtain ⟨B1, B2, h1, h2, hT, hr, hl⟩ := h.ex
  obtain ⟨hr', hf⟩ := hr.tell hown hg hat
  exact ⟨⟨B1, B2, h1, h2, hT.low hl hf.low, hr', hl⟩, h.low.trans (hf.low.mono h2)⟩
theorem Sq.told (h : Sq w tb b1 b2 rb vv v0 v1 v2 vt S D E G H T W) : W.ownsRow (rb + 1) 9 1 vt T.length (T.map Value.string) ∧ rb + 1 ≤ W.heap.size := by
  obtain ⟨B1, B2, h1, h2, hT, hr, hl⟩ := h.ex
  exact ⟨hr.told, hr.lt⟩
theorem Sq.c1 (h : Sq w tb b1 b2 rb vv v0 v1 v2 vt S D E G H T W) : (∃ q c, v1 = .slice q E.length c) ∧ W.cell? ⟨rb, 1, none⟩ = some v1 := by
  obtain ⟨B1, B2, h1, h2, hT, hr, hl⟩ := h.ex
  obtain ⟨q, c, e, _⟩ := own_rds hr.texts
  exact ⟨⟨q, c, e⟩, hr.c1⟩
theorem Sq.c2 (h : Sq w tb b1 b2 rb vv v0 v1 v2 vt S D E G H T W) : (∃ q c, v2 = .slice q H.length c) ∧ W.cell? ⟨rb, 2, none⟩ = some v2 := by
  obtain ⟨B1, B2, h1, h2, hT, hr, hl⟩ := h.ex
  obtain ⟨q, c, e, _⟩ := rt_pairs hr.signed
  exact ⟨⟨q, c, e⟩, hr.c2⟩
end
end Go.Proofs.Ytjgogmlmcebgpaa

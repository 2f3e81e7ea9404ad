/-
  Both graphs side by side.
-/
import Derived.Test.YtbjeaogblpjpeaaGBoth
namespace Go.Proofs.Ytbjeaogblpjpeaa
open Go.RowKit Go.Maps

/-- The program's graph of T at gb and the document's of U at hb, apart, from block B on. -/
def Bo (B : Nat) (w : World) (gb hb : Nat) (T U : List Th) : Prop := ∃ O R : Nat → Prop, (∀ k, O k → B ≤ k ∧ ¬ R k) ∧ (∀ k, R k → B ≤ k) ∧ Gp O w gb T ∧ Rp R w hb U
theorem Bo.below {B : Nat} {w w' : World} {gb hb : Nat} {T U : List Th} (h : Bo B w gb hb T U) (hw : Below w.heap.size w w') : Bo B w' gb hb T U := by
  obtain ⟨O, R, h1, h2, h3, h4⟩ := h
  exact ⟨O, R, h1, h2, h3.below hw, h4.below hw⟩
theorem Bo.add {B : Nat} {w w' : World} {gb hb : Nat} {O R : Nat → Prop} {T U : List Th} {d : Dd} {e : Ending} (h1 : ∀ k, O k → B ≤ k ∧ ¬ R k) (h2 : ∀ k, R k → B ≤ k) (h4 : Rp R w hb U) (hB : B ≤ w.heap.size) (h : AddP O gb T d w e w') :
    e = .returned (.int .i64 (errOf T d)) ∧ Bo B w' gb hb (addT T d) U ∧ Below B w w' := by
  obtain ⟨he, hk, hg⟩ := h
  refine ⟨he, ⟨More O w w', R, fun k hk' => ?_, h2, hg, h4.same (Same.of_keep hk fun k hk' => ⟨h4.lt k hk', fun h' => (h1 k h').2 hk'⟩) hk.size⟩, hk.below hB fun k hk' h' => by have := (h1 k h').1; omega⟩
  rcases hk' with h' | h'
  · exact h1 k h'
  · exact ⟨by omega, fun h'' => by have := h4.lt k h''; omega⟩
theorem Bo.radd {B : Nat} {w w' : World} {gb hb : Nat} {O R : Nat → Prop} {T U : List Th} {d : Dd} {e : Ending} (h1 : ∀ k, O k → B ≤ k ∧ ¬ R k) (h2 : ∀ k, R k → B ≤ k) (h3 : Gp O w gb T) (hB : B ≤ w.heap.size) (h : RAddP R hb U d w e w') :
    e = .returned (.int .i64 (errOf U d)) ∧ Bo B w' gb hb T (addT U d) ∧ Below B w w' := by
  obtain ⟨he, hk, hr⟩ := h
  refine ⟨he, ⟨O, More R w w', fun k hk' => ⟨(h1 k hk').1, ?_⟩, fun k hk' => ?_, h3.same (Same.of_keep hk fun k hk' => ⟨h3.lt k hk', (h1 k hk').2⟩) hk.size, hr⟩, hk.below hB fun k hk' h' => by have := h2 k h'; omega⟩
  · rintro (h' | h')
    · exact (h1 k hk').2 h'
    · have := h3.lt k hk'; omega
  · rcases hk' with h' | h'
    · exact h2 k h'
    · omega
theorem bo_add {B : Nat} {gb hb : Nat} {T U : List Th} (d : Dd) (p2 p3 : Option Addr) (k2 k3 : Nat) (w : World) (h : Bo B w gb hb T U) (hT : T.length ≤ 100) (hd : fitD d) (hB : B ≤ w.heap.size)
    (r2 : RdS (· < B) w p2 k2 d.prev) (r3 : RdS (· < B) w p3 k3 d.auth) :
    Calls Try.prog 29 #[.pointer (some ⟨gb, 0, none⟩), .string d.name, .slice p2 d.prev.length k2, .slice p3 d.auth.length k3] w fun e w' => e = .returned (.int .i64 (errOf T d)) ∧ Bo B w' gb hb (addT T d) U ∧ Below B w w' := by
  obtain ⟨O, R, h1, h2, h3, h4⟩ := h
  exact (add_any d p2 p3 k2 k3 w h3 hT hd (r2.carry (fun _ _ => rfl) fun k hk => by omega) (r3.carry (fun _ _ => rfl) fun k hk => by omega)).mono fun e w' h => Bo.add h1 h2 h4 hB h
theorem bo_radd {B : Nat} {gb hb : Nat} {T U : List Th} (d : Dd) (p2 p3 : Option Addr) (k2 k3 : Nat) (w : World) (h : Bo B w gb hb T U) (hT : U.length ≤ 100) (hd : fitD d) (hB : B ≤ w.heap.size)
    (r2 : RdS (· < B) w p2 k2 d.prev) (r3 : RdS (· < B) w p3 k3 d.auth) :
    Calls Try.prog 31 #[.pointer (some ⟨hb, 0, none⟩), .string d.name, .slice p2 d.prev.length k2, .slice p3 d.auth.length k3] w fun e w' => e = .returned (.int .i64 (errOf U d)) ∧ Bo B w' gb hb T (addT U d) ∧ Below B w w' := by
  obtain ⟨O, R, h1, h2, h3, h4⟩ := h
  exact (radd_any d p2 p3 k2 k3 w h4 hT hd (r2.carry (fun _ _ => rfl) fun k hk => by omega) (r3.carry (fun _ _ => rfl) fun k hk => by omega)).mono fun e w' h => Bo.radd h1 h2 h3 hB h
theorem bo_new {B : Nat} {w1 : World} {gb : Nat} {O : Nat → Prop} (hO : ∀ k, O k → B ≤ k) (hB : B ≤ w1.heap.size) (h : Gp O w1 gb []) : Bo B (w1.alloc (.cells #[.slice none 0 0] 34)) gb w1.heap.size [] [] := by
  refine ⟨O, fun k => k = w1.heap.size, fun k hk => ⟨hO k hk, fun e => by have := h.lt k hk; omega⟩, fun k e => by omega, h.below ((Below.refl _ _).alloc (Nat.le_refl _) _), .slice none 0 0, [], heap_alloc_new _ _, World.ownsRow_nil _ _ _ _, ?_, rfl, ?_, ?_⟩
  · intro j t hj; simp at hj
  · intro k hk; cases hk
  · rintro k rfl; simp
theorem Bo.q {B : Nat} {w : World} {gb hb : Nat} {T U : List Th} (h : Bo B w gb hb T U) : ∃ O, Gq O w (some ⟨gb, 0, none⟩) T := by
  obtain ⟨O, R, _, _, h3, _⟩ := h
  exact ⟨O, h3.q⟩
theorem Bo.r {B : Nat} {w : World} {gb hb : Nat} {T U : List Th} (h : Bo B w gb hb T U) : ∃ R, Rp R w hb U := by
  obtain ⟨O, R, _, _, _, h4⟩ := h
  exact ⟨R, h4⟩
theorem Bo.drew {B : Nat} {w : World} {gb hb : Nat} {T U : List Th} (h : Bo B w gb hb T U) : Bo B w.drew gb hb T U := h.below (Below.refl _ _).drew
theorem len_quiet {O : Nat → Prop} {g : Option Addr} {T : List Th} (w : World) (h : Gq O w g T) (hT : T.length ≤ 100) :
    Calls Try.prog 28 #[.pointer g] w fun e w' => e = .returned (.int .i64 T.length) ∧ w' = w := (len_any w h hT).mono fun _ _ h => ⟨h.1, h.2.symm⟩
end Go.Proofs.Ytbjeaogblpjpeaa

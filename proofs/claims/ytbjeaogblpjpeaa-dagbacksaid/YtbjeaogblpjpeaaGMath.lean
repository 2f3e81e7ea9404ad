/-
  Graphs that only grow, as plain lists: rows of places, ways, heads, what is wanting.
-/
import Derived.WalkKit
namespace Go.Proofs.Ytbjeaogblpjpeaa

/-- Is x in l; where it stands. -/
def inn {α : Type} [DecidableEq α] (l : List α) (x : α) : Bool := decide (x ∈ l)
theorem inn_iff {α : Type} [DecidableEq α] {l : List α} {x : α} : inn l x = true ↔ x ∈ l := by simp [inn]
theorem inn_not {α : Type} [DecidableEq α] {l : List α} {x : α} : inn l x = false ↔ x ∉ l := by simp [inn]
def plc {α : Type} [DecidableEq α] (l : List α) (x : α) : Nat := l.idxOf x
theorem plc_lt {α : Type} [DecidableEq α] {l : List α} {x : α} (h : x ∈ l) : plc l x < l.length := List.idxOf_lt_length_iff.2 h
theorem plc_new {α : Type} [DecidableEq α] {l : List α} {x : α} (h : x ∉ l) : plc (l ++ [x]) x = l.length := by
  unfold plc; rw [List.idxOf_append, if_neg h]; simp
theorem plc_old {α : Type} [DecidableEq α] {l : List α} {x y : α} (h : x ∈ l) : plc (l ++ [y]) x = plc l x := by unfold plc; rw [List.idxOf_append, if_pos h]
theorem plc_here {α : Type} [DecidableEq α] {l : List α} {k : Nat} {d : α} (hk : k < l.length) (hn : l.getD k d ∉ l.take k) : plc l (l.getD k d) = k := by
  obtain ⟨x, hx⟩ : ∃ x, x = l.getD k d := ⟨_, rfl⟩
  rw [← hx] at hn ⊢
  have e : l = l.take k ++ x :: l.drop (k + 1) := by
    rw [hx, List.getD_eq_getElem?_getD, List.getElem?_eq_getElem hk]
    simp
  unfold plc
  conv => lhs; rw [e]
  rw [List.idxOf_append, if_neg hn]
  simp
  omega

/-- A thing: its name, what it follows, what it leans on. -/
structure Th where
  name : ByteArray
  prev : List Nat
  auth : List Nat
/-- What is put in. -/
structure Dd where
  name : ByteArray
  prev : List ByteArray
  auth : List ByteArray

def noTh : Th := ⟨⟨#[]⟩, [], []⟩
def nms (T : List Th) : List ByteArray := T.map Th.name
theorem nms_len (T : List Th) : (nms T).length = T.length := by simp [nms]
/-- The places below n that are among ps, rising. -/
def up (n : Nat) (ps : List Nat) : List Nat := (List.range n).filter fun i => decide (i ∈ ps)
theorem mem_up {i n : Nat} {ps : List Nat} : i ∈ up n ps ↔ i < n ∧ i ∈ ps := by simp [up]
theorem rise_filter (n : Nat) (p : Nat → Bool) : ((List.range n).filter p).Pairwise (· < ·) := List.Pairwise.filter _ List.pairwise_lt_range
theorem up_rise (n : Nat) (ps : List Nat) : (up n ps).Pairwise (· < ·) := rise_filter _ _
theorem rise_ext : ∀ {a b : List Nat}, a.Pairwise (· < ·) → b.Pairwise (· < ·) → (∀ x, x ∈ a ↔ x ∈ b) → a = b
  | [], [], _, _, _ => rfl
  | [], y :: s, _, _, h => absurd ((h y).2 (by simp)) (by simp)
  | x :: r, [], _, _, h => absurd ((h x).1 (by simp)) (by simp)
  | x :: r, y :: s, ha, hb, h => by
    rw [List.pairwise_cons] at ha hb
    have hxy : x = y := by
      have h1 : x = y ∨ x ∈ s := by simpa using (h x).1 (by simp)
      have h2 : y = x ∨ y ∈ r := by simpa using (h y).2 (by simp)
      rcases h1 with h1 | h1
      · exact h1
      · rcases h2 with h2 | h2
        · exact h2.symm
        · have := ha.1 y h2; have := hb.1 x h1; omega
    subst hxy
    rw [rise_ext ha.2 hb.2 fun z => ?_]
    constructor
    · intro hz
      have hlt := ha.1 z hz
      rcases List.mem_cons.1 ((h z).1 (List.mem_cons_of_mem _ hz)) with e | e
      · omega
      · exact e
    · intro hz
      have hlt := hb.1 z hz
      rcases List.mem_cons.1 ((h z).2 (List.mem_cons_of_mem _ hz)) with e | e
      · omega
      · exact e
theorem rise_length : ∀ {a : List Nat} {n : Nat}, a.Pairwise (· < ·) → (∀ x ∈ a, x < n) → a.length ≤ n := by
  intro a n ha hn
  have e : a = up n a := rise_ext ha (up_rise _ _) fun x => by
    rw [mem_up]
    exact ⟨fun h => ⟨hn x h, h⟩, fun h => h.2⟩
  rw [e]
  unfold up
  have := List.length_filter_le (fun i => decide (i ∈ a)) (List.range n)
  simpa using this

/-- What the places i follow, or lean on. -/
def prevs (T : List Th) (i : Nat) : List Nat := (T.getD i noTh).prev
def auths (T : List Th) (i : Nat) : List Nat := (T.getD i noTh).auth
theorem getD_out {α : Type} {l : List α} {i : Nat} {d : α} (h : l.length ≤ i) : l.getD i d = d := by
  rw [List.getD_eq_getElem?_getD, List.getElem?_eq_none h]; rfl
theorem getD_in {α : Type} {l : List α} {i : Nat} {d : α} (h : i < l.length) : l.getD i d = l[i] := by
  rw [List.getD_eq_getElem?_getD, List.getElem?_eq_getElem h]; rfl
theorem getD_inm {α : Type} {l : List α} {k : Nat} {d : α} (h : k < l.length) : l.getD k d ∈ l := by
  rw [getD_in h]; exact List.getElem_mem h
theorem getD_snoc_old {α : Type} {l : List α} {x d : α} {i : Nat} (h : i < l.length) : (l ++ [x]).getD i d = l.getD i d := by
  simp only [List.getD_eq_getElem?_getD, List.getElem?_append_left h]
theorem getD_snoc_new {α : Type} {l : List α} {x d : α} : (l ++ [x]).getD l.length d = x := by
  simp [List.getD_eq_getElem?_getD]
theorem nms_getD (T : List Th) (i : Nat) : (nms T).getD i ⟨#[]⟩ = (T.getD i noTh).name := by
  simp only [nms, List.getD_eq_getElem?_getD, List.getElem?_map]
  cases T[i]? <;> rfl

/-- Names apart and short; all edges lead back, rising. -/
structure Good (T : List Th) : Prop where
  one : (nms T).Nodup
  ok : ∀ s ∈ nms T, s.size ≤ 100
  pl : ∀ i, ∀ j ∈ prevs T i, j < i
  al : ∀ i, ∀ j ∈ auths T i, j < i
  pr : ∀ i, (prevs T i).Pairwise (· < ·)
  ar : ∀ i, (auths T i).Pairwise (· < ·)
theorem good_nil : Good [] := by
  constructor <;> simp [nms, prevs, auths, noTh]

/-- The place of a name. -/
def pl (T : List Th) (s : ByteArray) : Nat := plc (nms T) s
theorem pl_lt {T : List Th} {s : ByteArray} (h : s ∈ nms T) : pl T s < T.length := by
  have := plc_lt h; rw [nms_len] at this; exact this
/-- The places of names, rising, each once. -/
def plsOf (T : List Th) (ns : List ByteArray) : List Nat := up T.length (ns.map (pl T))
/-- Have all names a place. -/
def allIn (T : List Th) (ns : List ByteArray) : Bool := ns.all fun s => inn (nms T) s
theorem allIn_iff {T : List Th} {ns : List ByteArray} : allIn T ns = true ↔ ∀ s ∈ ns, s ∈ nms T := by simp [allIn, inn_iff]
/-- What Add answers. -/
def errOf (T : List Th) (d : Dd) : Int := if d.name = ⟨#[]⟩ then 1 else if inn (nms T) d.name = true then 4 else if allIn T d.prev && allIn T d.auth then 0 else 80
def thOf (T : List Th) (d : Dd) : Th := ⟨d.name, plsOf T d.prev, plsOf T d.auth⟩
/-- What is there behind Add. -/
def addT (T : List Th) (d : Dd) : List Th := if errOf T d = 0 then T ++ [thOf T d] else T
theorem err_arg {T : List Th} {d : Dd} (h : d.name = ⟨#[]⟩) : errOf T d = 1 ∧ addT T d = T := by
  have e : errOf T d = 1 := by unfold errOf; rw [if_pos h]
  exact ⟨e, by unfold addT; rw [e]; rfl⟩
theorem err_have {T : List Th} {d : Dd} (h : d.name ≠ ⟨#[]⟩) (h1 : d.name ∈ nms T) : errOf T d = 4 ∧ addT T d = T := by
  have e : errOf T d = 4 := by unfold errOf; rw [if_neg h, if_pos (inn_iff.2 h1)]
  exact ⟨e, by unfold addT; rw [e]; rfl⟩
theorem err_missing {T : List Th} {d : Dd} (h : d.name ≠ ⟨#[]⟩) (h1 : d.name ∉ nms T) (h2 : (allIn T d.prev && allIn T d.auth) = false) : errOf T d = 80 ∧ addT T d = T := by
  have e : errOf T d = 80 := by unfold errOf; rw [if_neg h, if_neg (fun h' => h1 (inn_iff.1 h')), h2]; rfl
  exact ⟨e, by unfold addT; rw [e]; rfl⟩
theorem err_ok {T : List Th} {d : Dd} (h : d.name ≠ ⟨#[]⟩) (h1 : d.name ∉ nms T) (h2 : allIn T d.prev = true) (h3 : allIn T d.auth = true) : errOf T d = 0 ∧ addT T d = T ++ [thOf T d] := by
  have e : errOf T d = 0 := by unfold errOf; rw [if_neg h, if_neg (fun h' => h1 (inn_iff.1 h')), h2, h3]; rfl
  exact ⟨e, by unfold addT; rw [if_pos e]⟩
theorem addT_len (T : List Th) (d : Dd) : (addT T d).length ≤ T.length + 1 := by unfold addT; split <;> simp
theorem addT_lo (T : List Th) (d : Dd) : T.length ≤ (addT T d).length := by unfold addT; split <;> simp
theorem nms_snoc (T : List Th) (t : Th) : nms (T ++ [t]) = nms T ++ [t.name] := by simp [nms]
theorem good_add {T : List Th} (h : Good T) (d : Dd) (hd : d.name.size ≤ 100) : Good (addT T d) := by
  unfold addT
  split
  · rename_i h0
    have hn : d.name ∉ nms T := by
      intro hm
      unfold errOf at h0
      split at h0
      · cases h0
      · rw [if_pos (inn_iff.2 hm)] at h0; cases h0
    have hg : ∀ i, (T ++ [thOf T d]).getD i noTh = T.getD i noTh ∨ i = T.length ∧ (T ++ [thOf T d]).getD i noTh = thOf T d := by
      intro i
      rcases Nat.lt_trichotomy i T.length with hi | hi | hi
      · exact .inl (getD_snoc_old hi)
      · subst hi; exact .inr ⟨rfl, getD_snoc_new⟩
      · left; rw [getD_out (by simp; omega), getD_out (by omega)]
    refine ⟨?_, ?_, fun i j hj => ?_, fun i j hj => ?_, fun i => ?_, fun i => ?_⟩
    · rw [nms_snoc, List.nodup_append]
      exact ⟨h.one, by simp, fun a ha b hb e => by rw [List.mem_singleton.1 hb] at e; subst e; exact hn ha⟩
    · intro s hs
      rw [nms_snoc, List.mem_append, List.mem_singleton] at hs
      rcases hs with hs | rfl
      · exact h.ok s hs
      · exact hd
    · unfold prevs at hj
      rcases hg i with e | ⟨rfl, e⟩
      · rw [e] at hj; exact h.pl i j hj
      · rw [e] at hj; exact (mem_up.1 hj).1
    · unfold auths at hj
      rcases hg i with e | ⟨rfl, e⟩
      · rw [e] at hj; exact h.al i j hj
      · rw [e] at hj; exact (mem_up.1 hj).1
    · unfold prevs
      rcases hg i with e | ⟨rfl, e⟩
      · rw [e]; exact h.pr i
      · rw [e]; exact up_rise _ _
    · unfold auths
      rcases hg i with e | ⟨rfl, e⟩
      · rw [e]; exact h.ar i
      · rw [e]; exact up_rise _ _
  · exact h
/-- What is there behind deeds. -/
def playT (l : List Dd) : List Th := l.foldl addT []
theorem playT_snoc (l : List Dd) (k : Nat) (hk : k < l.length) : playT (l.take (k + 1)) = addT (playT (l.take k)) (l.getD k ⟨⟨#[]⟩, [], []⟩) := by
  unfold playT
  rw [List.take_succ_eq_append_getElem hk, List.foldl_append, getD_in hk]
  rfl
theorem playT_len (l : List Dd) : (playT l).length ≤ l.length := by
  suffices h : ∀ T : List Th, (l.foldl addT T).length ≤ T.length + l.length by simpa [playT] using h []
  induction l with
  | nil => intro T; simp
  | cons d r ih => intro T; have := ih (addT T d); have := addT_len T d; simp only [List.foldl_cons, List.length_cons]; omega
theorem good_play (l : List Dd) (h : ∀ d ∈ l, d.name.size ≤ 100) : Good (playT l) := by
  suffices hh : ∀ T : List Th, Good T → Good (l.foldl addT T) from hh [] good_nil
  induction l with
  | nil => intro T hT; exact hT
  | cons d r ih => intro T hT; exact ih (fun x hx => h x (List.mem_cons_of_mem _ hx)) _ (good_add hT d (h d (by simp)))

/-- A way of edges, one at least, leads from a place of F to j. -/
inductive Rch (E : Nat → List Nat) (F : Nat → Prop) : Nat → Prop
  | one {i j : Nat} : F i → j ∈ E i → Rch E F j
  | more {i j : Nat} : Rch E F i → j ∈ E i → Rch E F j
theorem rch_iff {E : Nat → List Nat} {F : Nat → Prop} {j : Nat} : Rch E F j ↔ ∃ i, (F i ∨ Rch E F i) ∧ j ∈ E i := by
  constructor
  · rintro (⟨h, e⟩ | ⟨h, e⟩)
    · exact ⟨_, .inl h, e⟩
    · exact ⟨_, .inr h, e⟩
  · rintro ⟨i, h | h, e⟩
    · exact .one h e
    · exact .more h e
/-- Some place from k on leads to j by one edge. -/
def Cm (E : Nat → List Nat) (F : Nat → Prop) (k j : Nat) : Prop := ∃ i, k ≤ i ∧ (F i ∨ Rch E F i) ∧ j ∈ E i
theorem cm_no {E : Nat → List Nat} {F : Nat → Prop} {k j : Nat} (h : ¬ (F k ∨ Rch E F k)) : Cm E F k j ↔ Cm E F (k + 1) j := by
  constructor
  · rintro ⟨i, hi, hf, e⟩
    rcases Nat.lt_or_eq_of_le hi with h' | h'
    · exact ⟨i, h', hf, e⟩
    · subst h'; exact absurd hf h
  · rintro ⟨i, hi, hf, e⟩
    exact ⟨i, by omega, hf, e⟩
theorem cm_yes {E : Nat → List Nat} {F : Nat → Prop} {k j : Nat} (h : F k ∨ Rch E F k) : Cm E F k j ↔ Cm E F (k + 1) j ∨ j ∈ E k := by
  constructor
  · rintro ⟨i, hi, hf, e⟩
    rcases Nat.lt_or_eq_of_le hi with h' | h'
    · exact .inl ⟨i, h', hf, e⟩
    · subst h'; exact .inr e
  · rintro (⟨i, hi, hf, e⟩ | e)
    · exact ⟨i, by omega, hf, e⟩
    · exact ⟨k, Nat.le_refl _, h, e⟩
theorem cm_self {E : Nat → List Nat} {F : Nat → Prop} {k : Nat} (hE : ∀ i, ∀ j ∈ E i, j < i) : Cm E F (k + 1) k ↔ Rch E F k := by
  rw [rch_iff]
  constructor
  · rintro ⟨i, _, hf, e⟩; exact ⟨i, hf, e⟩
  · rintro ⟨i, hf, e⟩; exact ⟨i, hE i k e, hf, e⟩
theorem cm_zero {E : Nat → List Nat} {F : Nat → Prop} {j : Nat} : Cm E F 0 j ↔ Rch E F j := by
  rw [rch_iff]
  constructor
  · rintro ⟨i, _, hf, e⟩; exact ⟨i, hf, e⟩
  · rintro ⟨i, hf, e⟩; exact ⟨i, Nat.zero_le _, hf, e⟩
theorem cm_top {E : Nat → List Nat} {F : Nat → Prop} {m j : Nat} (hE : ∀ i, ∀ j ∈ E i, j < i) (hF : ∀ i, F i → i < m) : ¬ Cm E F m j := by
  have hR : ∀ i, Rch E F i → i < m := by
    intro i h
    induction h with
    | one hf e => have := hF _ hf; have := hE _ _ e; omega
    | more _ e ih => have := hE _ _ e; omega
  rintro ⟨i, hi, hf | hf, _⟩
  · have := hF i hf; omega
  · have := hR i hf; omega
theorem rch_lt {E : Nat → List Nat} {F : Nat → Prop} {j : Nat} (hE : ∀ i, ∀ j ∈ E i, j < i) (h : Rch E F j) : ∃ i, F i ∧ j < i := by
  induction h with
  | one hf e => exact ⟨_, hf, hE _ _ e⟩
  | more _ e ih => obtain ⟨i, hf, hi⟩ := ih; have := hE _ _ e; exact ⟨i, hf, by omega⟩
/-- All places to which a way leads. -/
noncomputable def reach (n : Nat) (E : Nat → List Nat) (F : Nat → Prop) : List Nat := open Classical in (List.range n).filter fun j => decide (Rch E F j)
theorem mem_reach {n : Nat} {E : Nat → List Nat} {F : Nat → Prop} {j : Nat} : j ∈ reach n E F ↔ j < n ∧ Rch E F j := by simp [reach]
theorem reach_rise (n : Nat) (E : Nat → List Nat) (F : Nat → Prop) : (reach n E F).Pairwise (· < ·) := rise_filter _ _
theorem reach_len (n : Nat) (E : Nat → List Nat) (F : Nat → Prop) : (reach n E F).length ≤ n := by
  unfold reach
  exact Nat.le_trans (List.length_filter_le _ _) (by simp)
theorem reach_cut {m n : Nat} {E : Nat → List Nat} {F : Nat → Prop} (hE : ∀ i, ∀ j ∈ E i, j < i) (hF : ∀ i, F i → i < m) (hm : m ≤ n) : reach m E F = reach n E F := by
  refine rise_ext (reach_rise _ _ _) (reach_rise _ _ _) fun x => ?_
  rw [mem_reach, mem_reach]
  refine ⟨fun h => ⟨by omega, h.2⟩, fun h => ⟨?_, h.2⟩⟩
  obtain ⟨i, hf, hi⟩ := rch_lt hE h.2
  have := hF i hf
  omega
/-- The places of l that are there. -/
def frm (n : Nat) (l : List Int) (i : Nat) : Prop := i < n ∧ (i : Int) ∈ l
theorem rch_union {E : Nat → List Nat} {F G H : Nat → Prop} (h : ∀ i, H i ↔ F i ∨ G i) {j : Nat} : Rch E H j ↔ Rch E F j ∨ Rch E G j := by
  constructor
  · intro hr
    induction hr with
    | one hf e => exact ((h _).1 hf).elim (fun h' => .inl (.one h' e)) fun h' => .inr (.one h' e)
    | more _ e ih => exact ih.elim (fun h' => .inl (.more h' e)) fun h' => .inr (.more h' e)
  · rintro (hr | hr)
    · induction hr with
      | one hf e => exact .one ((h _).2 (.inl hf)) e
      | more _ e ih => exact .more ih e
    · induction hr with
      | one hf e => exact .one ((h _).2 (.inr hf)) e
      | more _ e ih => exact .more ih e
theorem rch_twice {E : Nat → List Nat} {F G : Nat → Prop} (h : ∀ i, G i → Rch E F i) {j : Nat} (hr : Rch E G j) : Rch E F j := by
  induction hr with
  | one hf e => exact .more (h _ hf) e
  | more _ e ih => exact .more ih e

/-- What no kept place follows. -/
def heads (m : Nat) (K : List Bool) (E : Nat → List Nat) : List Nat := (List.range m).filter fun i => K.getD i false && !((List.range m).any fun k => K.getD k false && decide (i ∈ E k))
theorem mem_heads {m : Nat} {K : List Bool} {E : Nat → List Nat} {i : Nat} : i ∈ heads m K E ↔ i < m ∧ K.getD i false = true ∧ ∀ k, k < m → K.getD k false = true → i ∉ E k := by
  simp only [heads, List.mem_filter, List.mem_range, Bool.and_eq_true, Bool.not_eq_true', List.any_eq_false, decide_eq_true_eq, not_and]
theorem heads_rise (m : Nat) (K : List Bool) (E : Nat → List Nat) : (heads m K E).Pairwise (· < ·) := rise_filter _ _
theorem heads_len (m : Nat) (K : List Bool) (E : Nat → List Nat) : (heads m K E).length ≤ m := by
  unfold heads
  exact Nat.le_trans (List.length_filter_le _ _) (by simp)
/-- All kept places are heads or lie in the past of heads, if all that kept ones follow is kept. -/
theorem tops {m n : Nat} {K : List Bool} {E : Nat → List Nat} (hE : ∀ i, ∀ j ∈ E i, j < i) (_hm : m ≤ n) (hK : ∀ i, i < m → K.getD i false = true → ∀ j ∈ E i, K.getD j false = true) {i : Nat} (hi : i < m) :
    (K.getD i false = true ↔ i ∈ heads m K E ∨ Rch E (fun k => k ∈ heads m K E) i) ∧ ¬ (i ∈ heads m K E ∧ Rch E (fun k => k ∈ heads m K E) i) := by
  have hR : ∀ j, Rch E (fun k => k ∈ heads m K E) j → j < m ∧ K.getD j false = true := by
    intro j h
    induction h with
    | one hf e =>
      have hf := mem_heads.1 hf
      exact ⟨Nat.lt_trans (hE _ _ e) hf.1, hK _ hf.1 hf.2.1 _ e⟩
    | more _ e ih => exact ⟨Nat.lt_trans (hE _ _ e) ih.1, hK _ ih.1 ih.2 _ e⟩
  have hall : ∀ d i, m - i ≤ d → i < m → K.getD i false = true → i ∈ heads m K E ∨ Rch E (fun k => k ∈ heads m K E) i := by
    intro d
    induction d with
    | zero => intro i h1 h2; omega
    | succ d ih =>
      intro i h1 h2 h3
      by_cases hh : i ∈ heads m K E
      · exact .inl hh
      · right
        have : ∃ k, k < m ∧ K.getD k false = true ∧ i ∈ E k := by
          refine Classical.byContradiction fun hn => hh (mem_heads.2 ⟨h2, h3, fun k hk hkk he => hn ⟨k, hk, hkk, he⟩⟩)
        obtain ⟨k, hk, hkk, he⟩ := this
        have hlt := hE k i he
        rcases ih k (by omega) hk hkk with h' | h'
        · exact .one h' he
        · exact .more h' he
  refine ⟨⟨fun h => hall _ i (Nat.le_refl _) hi h, ?_⟩, ?_⟩
  · rintro (h | h)
    · exact (mem_heads.1 h).2.1
    · exact (hR i h).2
  · rintro ⟨h1, h2⟩
    obtain ⟨k, hk | hk, e⟩ := rch_iff.1 h2
    · have hk := mem_heads.1 hk
      exact (mem_heads.1 h1).2.2 k hk.1 hk.2.1 e
    · exact (mem_heads.1 h1).2.2 k (hR k hk).1 (hR k hk).2 e

/-- The names of the first k that are none's, each once. -/
def missTo (N l : List ByteArray) : Nat → List ByteArray
  | 0 => []
  | k + 1 => if inn N (l.getD k ⟨#[]⟩) = false ∧ inn (l.take k) (l.getD k ⟨#[]⟩) = false then missTo N l k ++ [l.getD k ⟨#[]⟩] else missTo N l k
theorem missTo_len (N l : List ByteArray) (k : Nat) : (missTo N l k).length ≤ k := by
  induction k with
  | zero => simp [missTo]
  | succ k ih =>
    rw [missTo]
    split
    · rw [List.length_append]; simp only [List.length_cons, List.length_nil]; omega
    · omega
theorem take_mem_next {α : Type} {S : List α} {k : Nat} {x d : α} (hk : k < S.length) : x ∈ S.take (k + 1) ↔ x ∈ S.take k ∨ x = S.getD k d := by
  rw [List.take_succ_eq_append_getElem hk, getD_in hk, List.mem_append, List.mem_singleton]
theorem mem_missTo {N l : List ByteArray} {k : Nat} (hk : k ≤ l.length) {s : ByteArray} : s ∈ missTo N l k ↔ s ∈ l.take k ∧ s ∉ N := by
  induction k with
  | zero => simp [missTo]
  | succ k ih =>
    have ih := ih (by omega)
    rw [take_mem_next (d := ⟨#[]⟩) (by omega)]
    rw [missTo]
    split
    · rename_i h
      rw [List.mem_append, List.mem_singleton, ih]
      constructor
      · rintro (⟨h1, h2⟩ | rfl)
        · exact ⟨.inl h1, h2⟩
        · exact ⟨.inr rfl, inn_not.1 h.1⟩
      · rintro ⟨h1 | h1, h2⟩
        · exact .inl ⟨h1, h2⟩
        · exact .inr h1
    · rename_i h
      rw [ih]
      constructor
      · rintro ⟨h1, h2⟩; exact ⟨.inl h1, h2⟩
      · rintro ⟨h1 | rfl, h2⟩
        · exact ⟨h1, h2⟩
        · refine ⟨Classical.byContradiction fun hn => h ⟨inn_not.2 h2, inn_not.2 hn⟩, h2⟩

/-- Marks set at places. -/
def setAll (L : List Bool) (ns : List Nat) : List Bool := ns.foldl (fun L i => L.set i true) L
theorem setAll_len (L : List Bool) (ns : List Nat) : (setAll L ns).length = L.length := by
  unfold setAll
  induction ns generalizing L with
  | nil => rfl
  | cons i r ih => rw [List.foldl_cons, ih]; simp
theorem setAll_snoc (L : List Bool) (ns : List Nat) (k : Nat) (hk : k < ns.length) : setAll L (ns.take (k + 1)) = (setAll L (ns.take k)).set (ns.getD k 0) true := by
  unfold setAll
  rw [List.take_succ_eq_append_getElem hk, List.foldl_append, getD_in hk]
  rfl
theorem getD_setB (L : List Bool) (i j : Nat) (hj : j < L.length) : (L.set i true).getD j false = (decide (j = i) || L.getD j false) := by
  simp only [List.getD_eq_getElem?_getD, List.getElem?_set]
  by_cases h : i = j
  · subst h; simp [hj]
  · simp [h, Ne.symm h]
theorem setAll_at (L : List Bool) (ns : List Nat) (j : Nat) (hj : j < L.length) : (setAll L ns).getD j false = (L.getD j false || decide (j ∈ ns)) := by
  unfold setAll
  induction ns generalizing L with
  | nil => simp
  | cons i r ih =>
    rw [List.foldl_cons, ih (L.set i true) (by simpa using hj), getD_setB L i j hj]
    by_cases h : j = i
    · simp [h]
    · simp [h]
end Go.Proofs.Ytbjeaogblpjpeaa

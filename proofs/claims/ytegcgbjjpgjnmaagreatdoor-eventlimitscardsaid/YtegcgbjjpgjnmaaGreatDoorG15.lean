/-
  A text that is written is of letters.
  What is encoded is of letters, is decoded, and is bytes.
  What is encoded is bytes; and Encode's answer is read by Decode.
  The document's letters, by contracts: Letter, and Bad given Rune.
  Chapter 1's examples, as the reader and the writer have them.
  awake, by a contract.
  How many of so many values are left, by a contract: what is small is nowhere too long.
  Order, by a contract.
  The letters of bytes and the bytes of letters, as plain functions on lists of integers: what base.Encode and base.Decode tell.
  The small functions of base, by their contracts.
  Which letters a name may have, asked by a closure, and whether a text is of such letters: by contracts.
  Servers' names, local names and types: the program's own, and the document's, by contracts.
  The parts of a name with a sign ahead, as a plain function, and where its colon stands.
  strings.CutPrefix and strings.Cut at one sign, by contracts.
-/
import Derived.Test.YtegcgbjjpgjnmaaGreatDoorG14
import Derived.Test.YtegcgbjjpgjnmaaGreatDoorRows
import Derived.Lib.SlBytesConst
import Derived.Laws.BitsLemmas
import Derived.WalkKit
import Derived.WalkSpells
import Derived.WalkLawsBesides
import Derived.Lib.Strings
import Derived.Lib.Walk
import Derived.Lib.Bytealg
import Derived.BigQuiet
namespace Go.Proofs.YtegcgbjjpgjnmaaGreatDoor
open Go.RowKit
theorem rune_low {t : List Int} {p : Nat} (h : byteAt t p < 128) : runeAt t p = (byteAt t p, 1) := by unfold runeAt; rw [if_pos h]
theorem rune_hi {t : List Int} {p : Nat} {c : Int} {wd : Nat} (hr : runeAt t p = (c, wd)) (h : ¬ byteAt t p < 128) : ∀ i, i < wd → 128 ≤ byteAt t (p + i) := by
  have cont : ∀ i, contAt t i = true → 128 ≤ byteAt t i := fun i hi => by have := (cont_lt hi).2; omega
  have k0 : 128 ≤ byteAt t p := by omega
  unfold runeAt at hr
  rw [if_neg h] at hr
  intro i hi
  split at hr
  · rename_i b
    simp only [Bool.and_eq_true, decide_eq_true_eq] at b
    have hw : wd ≤ 2 := by split at hr <;> (have := (Prod.mk.inj hr).2; omega)
    match i, hi with
    | 0, _ => exact k0
    | 1, _ => exact cont _ b.2
    | i + 2, hi => omega
  · split at hr
    · rename_i b
      simp only [Bool.and_eq_true, decide_eq_true_eq] at b
      have hw : wd ≤ 3 := by split at hr <;> (have := (Prod.mk.inj hr).2; omega)
      match i, hi with
      | 0, _ => exact k0
      | 1, _ => exact cont _ b.1.2
      | 2, _ => exact cont _ b.2
      | i + 3, hi => omega
    · split at hr
      · rename_i b
        simp only [Bool.and_eq_true, decide_eq_true_eq] at b
        have hw : wd ≤ 4 := by split at hr <;> (have := (Prod.mk.inj hr).2; omega)
        match i, hi with
        | 0, _ => exact k0
        | 1, _ => exact cont _ b.1.1.2
        | 2, _ => exact cont _ b.1.2
        | 3, _ => exact cont _ b.2
        | i + 4, hi => omega
      · have := (Prod.mk.inj hr).2; omega
theorem escByte_ascii {c : Int} (h : 0 ≤ c ∧ c < 128) : ∀ x ∈ escByte c, 0 ≤ x ∧ x < 128 := by
  unfold escByte hexd
  repeat' split
  all_goals
    intro x hx
    simp at hx
    omega
theorem Fair.flat {t : List Int} (s : ByteArray) : ∀ (m pos q : Nat) (r : List Int), s.size ≤ pos + m → strayL (ints s) m pos = none → t.drop q = ((ints s).drop pos).flatMap escByte ++ r → Fair t (q + (((ints s).drop pos).flatMap escByte).length) → Fair t q
  | 0, pos, q, r, hm, _, hd, h => by
    rw [List.drop_eq_nil_of_le (by rw [ints_length]; omega)] at h
    simpa using h
  | m + 1, pos, q, r, hm, hs, hd, h => by
    by_cases hp : pos < s.size
    · unfold strayL at hs
      rw [ints_length, if_pos hp] at hs
      obtain ⟨⟨c, wd⟩, hr⟩ : ∃ r, runeAt (ints s) pos = r := ⟨_, rfl⟩
      rw [hr] at hs
      have h0 : wd ≠ 0 := fun e => by simp only [e, if_true] at hs; cases hs
      simp only [if_neg h0] at hs
      obtain ⟨he, hle, hc0, hc1⟩ := rune_esc (byte_bd s) (by rw [ints_length]; exact hp) hr h0
      have hsplit : (ints s).drop pos = ((ints s).drop pos).take wd ++ (ints s).drop (pos + wd) := by
        rw [← List.drop_drop]
        exact (List.take_append_drop wd _).symm
      rw [hsplit, List.flatMap_append, he, List.append_assoc] at hd
      rw [hsplit, List.flatMap_append, he, List.length_append, ← Nat.add_assoc] at h
      have hrest := Fair.flat s m (pos + wd) (q + (escRune c).length) r (by omega) hs (drop_app hd) h
      by_cases hb : byteAt (ints s) pos < 128
      · have e := rune_low hb
        rw [hr] at e
        obtain ⟨rfl, rfl⟩ := Prod.mk.inj e
        have ec : escRune (byteAt (ints s) pos) = escByte (byteAt (ints s) pos) := by unfold escRune; rw [if_pos hb]
        rw [ec] at hd hrest
        exact Fair.ascii _ _ q (escByte_ascii ⟨hc0, hb⟩) hd hrest
      · have hi := rune_hi hr hb
        have hlen : (((ints s).drop pos).take wd).length = wd := by
          rw [List.length_take, List.length_drop]
          rw [ints_length] at hle ⊢
          omega
        have et : escRune c = ((ints s).drop pos).take wd := by
          rw [← he]
          refine esc_high _ fun x hx => ?_
          obtain ⟨i, hi', rfl⟩ := List.getElem_of_mem hx
          rw [hlen] at hi'
          have := hi i hi'
          unfold byteAt at this
          rw [List.getD_eq_getElem?_getD, List.getElem?_eq_getElem (by rw [ints_length] at hle ⊢; omega)] at this
          simpa using this
        rw [et, hlen] at hrest
        rw [et] at hd
        refine Fair.step (rune_same hr h0 fun i hi' => ?_) h0 hrest
        rw [byte_at_drop hd (by rw [hlen]; exact hi')]
        unfold byteAt
        rw [List.getD_eq_getElem?_getD, List.getElem?_take, if_pos hi', List.getElem?_drop, List.getD_eq_getElem?_getD]
    · rw [List.drop_eq_nil_of_le (by rw [ints_length]; omega)] at h
      simpa using h
theorem Fair.quote {t r : List Int} {s : ByteArray} {q : Nat} (hs : stray (ints s) = none) (hd : t.drop q = quote (ints s) ++ r) (h : Fair t (q + (quote (ints s)).length)) : Fair t q := by
  unfold Go.Proofs.YtegcgbjjpgjnmaaGreatDoor.quote at hd h
  have hd1 : t.drop q = [34] ++ ((ints s).flatMap escByte ++ ([34] ++ r)) := by rw [hd]; simp
  have hd2 := drop_app hd1
  have hd3 := drop_app hd2
  refine Fair.ascii [34] _ q (by intro c hc; simp at hc; omega) hd1 ?_
  unfold stray at hs
  rw [ints_length] at hs
  refine Fair.flat s s.size 0 (q + 1) _ (by omega) hs (by simpa using hd2) ?_
  refine Fair.ascii [34] r _ (by intro c hc; simp at hc; omega) (by simpa using hd3) ?_
  simp only [List.length_cons, List.length_append, List.drop_zero, List.length_nil] at h ⊢
  rw [show q + 1 + ((ints s).flatMap escByte).length + (0 + 1) = q + (((ints s).flatMap escByte).length + (0 + 1) + 1) by omega]
  exact h
end Go.Proofs.YtegcgbjjpgjnmaaGreatDoor
namespace Go.Proofs.YtegcgbjjpgjnmaaGreatDoor
open Go.RowKit
/-- Wherever these bytes stand, they are letters. -/
def Pure (l : List Int) : Prop := ∀ (t r : List Int) (q : Nat), t.drop q = l ++ r → Fair t (q + l.length) → Fair t q
theorem Pure.nil : Pure [] := fun _ _ _ _ h => by simpa using h
theorem Pure.app {a b : List Int} (ha : Pure a) (hb : Pure b) : Pure (a ++ b) := fun t r q hd h => by
  rw [List.append_assoc] at hd
  rw [List.length_append, ← Nat.add_assoc] at h
  exact ha t _ q hd (hb t r _ (drop_app hd) h)
theorem Pure.ascii {l : List Int} (h : ∀ c ∈ l, 0 ≤ c ∧ c < 128) : Pure l := fun _ r q hd hf => Fair.ascii l r q h hd hf
theorem Pure.text {s : ByteArray} (h : letters s = true) : Pure (quote (ints s)) := fun _ _ _ hd hf => Fair.quote (Option.isNone_iff_eq_none.1 h) hd hf
theorem Pure.one {c : Int} (h : 0 ≤ c ∧ c < 128) : Pure [c] := Pure.ascii fun x hx => by rw [List.mem_singleton.1 hx]; exact h
theorem Pure.cons {c : Int} {l : List Int} (h : 0 ≤ c ∧ c < 128) (hl : Pure l) : Pure (c :: l) := (Pure.one h).app hl
theorem pure_comma (b : Bool) : Pure (if b then [] else [44]) := by
  cases b
  · exact Pure.one (by decide)
  · exact Pure.nil
theorem pure_list : ∀ (l : List J) (b : Bool), (∀ j ∈ l, Pure (enc' j)) → Pure (encL b l)
  | [], b, _ => by rw [encL]; exact Pure.nil
  | j :: r, b, h => by
    rw [encL_cons]
    exact (pure_comma b).app ((h j (List.mem_cons_self ..)).app (pure_list r false fun x hx => h x (List.mem_cons_of_mem _ hx)))
theorem letters_nix : letters nix = true := by decide
theorem headD_letters {ks : List ByteArray} (h : ∀ k ∈ ks, letters k = true) : letters (ks.headD nix) = true := by
  cases ks with
  | nil => exact letters_nix
  | cons k r => exact h k (List.mem_cons_self ..)
theorem pure_pairs : ∀ (l : List J) (ks : List ByteArray) (b : Bool), (∀ k ∈ ks, letters k = true) → (∀ j ∈ l, Pure (enc' j)) → Pure (encP b ks l)
  | [], ks, b, _, _ => by rw [encP]; exact Pure.nil
  | j :: r, ks, b, hk, h => by
    rw [encP_cons]
    exact (pure_comma b).app ((Pure.text (headD_letters hk)).app (Pure.cons (by decide) ((h j (List.mem_cons_self ..)).app (pure_pairs r ks.tail false (fun k hk' => hk k (List.mem_of_mem_tail hk')) fun x hx => h x (List.mem_cons_of_mem _ hx)))))
theorem dig_bd {c : Int} (h : isDig c = true) : 0 ≤ c ∧ c < 128 := by
  unfold isDig at h
  simp only [Bool.and_eq_true, decide_eq_true_eq] at h
  omega
theorem numB_ascii (n : Int) : ∀ c ∈ numB n, 0 ≤ c ∧ c < 128 := by
  intro c hc
  unfold numB Lib.itoa at hc
  split at hc
  · rw [List.map_cons] at hc
    rcases List.mem_cons.1 hc with rfl | hc
    · decide
    · exact dig_bd (ten_dig _ c hc)
  · exact dig_bd (ten_dig _ c hc)
theorem pure_enc : ∀ (d : Nat) (j : J), goodJ d j = true → Pure (enc' j)
  | 0, j, h => by unfold goodJ at h; cases h
  | d + 1, .mk k i t ks l, h => by
    obtain ⟨hgl, hg5, hgn⟩ := good_sub h
    have hall : ∀ x ∈ l, Pure (enc' x) := fun x hx => pure_enc d x (List.all_eq_true.1 hgl x hx)
    rw [goodJ, Bool.and_eq_true] at h
    have h2 := h.2
    rw [enc']
    split
    · exact Pure.ascii (by intro c hc; simp at hc; omega)
    · rename_i k0
      rw [if_neg k0] at h2
      split
      · split <;> exact Pure.ascii (by intro c hc; simp at hc; omega)
      · rename_i k1
        rw [if_neg k1] at h2
        split
        · exact Pure.ascii (numB_ascii i)
        · rename_i k2
          rw [if_neg k2] at h2
          split
          · rename_i k3
            rw [if_pos k3] at h2
            exact Pure.text h2
          · rename_i k3
            rw [if_neg k3] at h2
            split
            · exact Pure.cons (by decide) ((pure_list l true hall).app (Pure.one (by decide)))
            · rename_i k4
              rw [if_neg k4] at h2
              split
              · rename_i k5
                rw [if_pos k5] at h2
                simp only [Bool.and_eq_true] at h2
                exact Pure.cons (by decide) ((pure_pairs l ks true (List.all_eq_true.1 h2.1.2.1) hall).app (Pure.one (by decide)))
              · exact Pure.nil
theorem stray_enc {d : Nat} {j : J} (h : goodJ d j = true) : stray (enc' j) = none := by
  unfold stray
  exact pure_enc d j h (enc' j) [] 0 (by simp) (Fair.end (by omega)) _
theorem decode_enc {j : J} (hg : goodJ 12 j = true) (hl : (enc' (ord j)).length ≤ 16384) : decode (enc' (ord j)) = .ok (ord j) (enc' (ord j)).length := by
  unfold decode
  rw [if_neg (by omega), stray_enc (good_ord 12 j hg)]
  exact whole_ord hg
end Go.Proofs.YtegcgbjjpgjnmaaGreatDoor
namespace Go.Proofs.YtegcgbjjpgjnmaaGreatDoor
open Go.RowKit
def Bytes (l : List Int) : Prop := ∀ c ∈ l, 0 ≤ c ∧ c ≤ 255
theorem Bytes.nil : Bytes [] := fun _ h => by cases h
theorem Bytes.app {a b : List Int} (ha : Bytes a) (hb : Bytes b) : Bytes (a ++ b) := fun c hc => (List.mem_append.1 hc).elim (ha c) (hb c)
theorem Bytes.cons {c : Int} {l : List Int} (h : 0 ≤ c ∧ c ≤ 255) (hl : Bytes l) : Bytes (c :: l) := fun x hx => by
  rcases List.mem_cons.1 hx with rfl | hx
  · exact h
  · exact hl x hx
theorem ints_bytes (s : ByteArray) : Bytes (ints s) := fun c hc => by
  unfold ints at hc
  obtain ⟨x, _, rfl⟩ := List.mem_map.1 hc
  have := x.toNat_lt
  omega
theorem quote_bd (s : ByteArray) : Bytes (quote (ints s)) := by
  unfold quote
  refine Bytes.cons (by decide) (Bytes.app (fun c hc => ?_) (Bytes.cons (by decide) Bytes.nil))
  obtain ⟨x, hx, hc⟩ := List.mem_flatMap.1 hc
  exact (escByte_bd (ints_bytes s x hx)).1 c hc
theorem comma_bd (b : Bool) : Bytes (if b then [] else [44]) := by
  cases b
  · exact Bytes.cons (by decide) Bytes.nil
  · exact Bytes.nil
theorem encL_bd : ∀ (l : List J) (b : Bool), (∀ j ∈ l, Bytes (enc' j)) → Bytes (encL b l)
  | [], b, _ => by rw [encL]; exact Bytes.nil
  | j :: r, b, h => by
    rw [encL_cons]
    exact (comma_bd b).app ((h j (List.mem_cons_self ..)).app (encL_bd r false fun x hx => h x (List.mem_cons_of_mem _ hx)))
theorem encP_bd : ∀ (l : List J) (ks : List ByteArray) (b : Bool), (∀ j ∈ l, Bytes (enc' j)) → Bytes (encP b ks l)
  | [], ks, b, _ => by rw [encP]; exact Bytes.nil
  | j :: r, ks, b, h => by
    rw [encP_cons]
    exact (comma_bd b).app ((quote_bd _).app (Bytes.cons (by decide) ((h j (List.mem_cons_self ..)).app (encP_bd r ks.tail false fun x hx => h x (List.mem_cons_of_mem _ hx)))))
theorem enc_bd : ∀ (d : Nat) (j : J), goodJ d j = true → Bytes (enc' j)
  | 0, j, h => by unfold goodJ at h; cases h
  | d + 1, .mk k i t ks l, h => by
    obtain ⟨hgl, _, _⟩ := good_sub h
    have hall : ∀ x ∈ l, Bytes (enc' x) := fun x hx => enc_bd d x (List.all_eq_true.1 hgl x hx)
    rw [enc']
    split
    · intro c hc; simp at hc; omega
    · split
      · split <;> (intro c hc; simp at hc; omega)
      · split
        · intro c hc; have := numB_ascii i c hc; omega
        · split
          · exact quote_bd t
          · split
            · exact Bytes.cons (by decide) ((encL_bd l true hall).app (Bytes.cons (by decide) Bytes.nil))
            · split
              · exact Bytes.cons (by decide) ((encP_bd l ks true hall).app (Bytes.cons (by decide) Bytes.nil))
              · exact Bytes.nil
/-- Where Encode's answer lies, it is read. -/
theorem enc_rd {w w' : World} {j : J} {v : Value} (hg : goodJ 12 j = true) (h : w'.ownsRow w.heap.size 5 1 v (enc' (ord j)).length ((enc' (ord j)).map (Value.int .u8))) : ∃ q c, v = .slice q (enc' (ord j)).length c ∧ Rd w'.heap.size w' q c (enc' (ord j)) :=
  own_rd h (enc_bd 12 (ord j) (good_ord 12 j hg))
end Go.Proofs.YtegcgbjjpgjnmaaGreatDoor
namespace Go.Proofs.YtegcgbjjpgjnmaaGreatDoor
open Go.RowKit
theorem below_cat {B : Nat} {a b c : World} (h : Below B a b) (hB : B ≤ b.heap.size) (g : Below b.heap.size b c) : Below B a c := h.trans ⟨g.os, g.tape, g.output, g.size, fun k hk => g.block k (by omega)⟩
end Go.Proofs.YtegcgbjjpgjnmaaGreatDoor
namespace Go.Proofs.YtegcgbjjpgjnmaaGreatDoor
open Go.RowKit
theorem sz_less : ∀ (d e : Nat) (j : J), d ≤ e → szJ e j = true → szJ d j = true
  | 0, _, _, _, _ => by unfold szJ; rfl
  | d + 1, 0, _, h, _ => by omega
  | d + 1, e + 1, .mk k i t ks l, h, hs => by
    unfold szJ at hs ⊢
    simp only [Bool.and_eq_true] at hs ⊢
    refine ⟨hs.1, hs.2.1, hs.2.2.1, hs.2.2.2.1, ?_⟩
    rw [List.all_eq_true]
    intro x hx
    exact sz_less d e x (by omega) (List.all_eq_true.1 hs.2.2.2.2 x hx)
end Go.Proofs.YtegcgbjjpgjnmaaGreatDoor
namespace Go.Proofs.YtegcgbjjpgjnmaaGreatDoor
open Go.RowKit
/-- What Order makes of a value. -/
def ordT (j : J) : J := if goodJ 12 j = true then ord j else J.zero
theorem two_new {w : World} (o1 o2 : Obj) : ((w.alloc o1).alloc o2).heap[w.heap.size + 1]? = some o2 := by
  have := heap_alloc_new (w.alloc o1) o2
  simpa using this
theorem below_then2 {w w2 w3 : World} (h : Below w.heap.size w w2) (hk : Keep (One (w.heap.size + 1)) w2 w3) : Below w.heap.size w w3 :=
  h.trans (hk.below h.size fun k hk' e => by unfold One at e; omega)
end Go.Proofs.YtegcgbjjpgjnmaaGreatDoor
namespace Go.Proofs.YtegcgbjjpgjnmaaGreatDoor.Id
/-- The number of a letter, or -1. -/
def num (c : Int) : Int :=
  if 65 ≤ c ∧ c ≤ 90 then c - 65 else if 97 ≤ c ∧ c ≤ 122 then c - 71 else if 48 ≤ c ∧ c ≤ 57 then c + 4
  else if c = 43 then 62 else if c = 47 then 63 else -1

/-- The same, nought where it is none. -/
def num0 (c : Int) : Int := if 0 ≤ num c then num c else 0

/-- Is it a letter. -/
def isLet (c : Int) : Bool := decide (0 ≤ num c)

/-- The letter of a number. -/
def ltr (n : Int) : Int :=
  if n < 26 then n + 65 else if n < 52 then n + 71 else if n < 62 then n - 4 else if n = 62 then 43 else 47

theorem num_hi (c : Int) : num c ≤ 63 := by unfold num; repeat' split
                                            all_goals omega
theorem num0_lo (c : Int) : 0 ≤ num0 c := by unfold num0; split <;> omega
theorem num0_hi (c : Int) : num0 c ≤ 63 := by have := num_hi c; unfold num0; split <;> omega
theorem num_ltr (n : Int) (h0 : 0 ≤ n) (h1 : n ≤ 63) : num (ltr n) = n := by
  unfold ltr num
  repeat' split
  all_goals omega
theorem ltr_lo (n : Int) (h0 : 0 ≤ n) : 0 ≤ ltr n := by unfold ltr; repeat' split
                                                        all_goals omega
theorem ltr_hi (n : Int) (h1 : n ≤ 63) : ltr n ≤ 122 := by unfold ltr; repeat' split
                                                           all_goals omega

/-- How many letters a group of so many bytes has. -/
def lets (n : Int) : Int := if n = 0 then 0 else n + 1
/-- How many bytes a group of so many letters has. -/
def byts (n : Int) : Int := if n ≤ 1 then 0 else n - 1
/-- How many letters so many bytes have. -/
def siz (n : Int) : Int := if n < 0 then 0 else n / 3 * 4 + lets (n % 3)
theorem byts_bd (n : Int) (h1 : n ≤ 4) : 0 ≤ byts n ∧ byts n ≤ 3 := by unfold byts; split <;> omega
/-- The bytes of a text, as numbers. -/
def ints (s : ByteArray) : List Int := s.data.toList.map fun c => (c.toNat : Int)
theorem ints_length (s : ByteArray) : (ints s).length = s.size := by simp [ints]
theorem ints_getD (s : ByteArray) (k : Nat) (h : k < s.size) : (ints s).getD k 0 = (s[k].toNat : Int) := by
  have h' : k < s.data.toList.length := by simpa using h
  simp only [ints, List.getD_eq_getElem?_getD, List.getElem?_map, List.getElem?_eq_getElem h', Option.map_some, Option.getD_some]
  rfl
theorem ints_bd (s : ByteArray) : ∀ x ∈ ints s, 0 ≤ x ∧ x ≤ 255 := by
  intro x hx
  simp only [ints, List.mem_map] at hx
  obtain ⟨c, _, rfl⟩ := hx
  have := c.toNat_lt
  omega

theorem ints_extract (s : ByteArray) (k : Nat) : ints (s.extract k s.size) = (ints s).drop k := by
  simp only [ints, ByteArray.data_extract, Array.toList_extract, List.extract_eq_take_drop, List.map_take, List.map_drop]
  rw [List.take_of_length_le]
  have : (List.drop k (List.map (fun c : UInt8 => (c.toNat : Int)) s.data.toList)).length = s.size - k := by simp
  omega

/-- The bits of the last letter that no byte has: of so many letters. -/
def spar (zs : List Int) : Int :=
  if zs.length % 4 = 2 then num0 (zs.getD (zs.length - 1) 0) % 16 else if zs.length % 4 = 3 then num0 (zs.getD (zs.length - 1) 0) % 4 else 0
/-- How many letters stand ahead of the first byte that is none. -/
def good (zs : List Int) : Nat := (zs.takeWhile isLet).length
/-- The first error of a text, and its place. -/
def flt (zs : List Int) : Int × Int :=
  if good zs < zs.length then (20, good zs) else if zs.length % 4 = 1 then (22, zs.length) else if spar zs ≠ 0 then (21, zs.length - 1) else (0, 0)
theorem flt_ok (zs : List Int) (h : (flt zs).1 = 0) : good zs = zs.length ∧ zs.length % 4 ≠ 1 ∧ spar zs = 0 := by
  have hl : good zs ≤ zs.length := (List.takeWhile_sublist _).length_le
  unfold flt at h
  split at h
  · simp at h
  split at h
  · simp at h
  split at h
  · simp at h
  · exact ⟨by omega, by assumption, by simp_all⟩
theorem good_at (zs : List Int) (k : Nat) (hk : k < zs.length) (h : ∀ j, j < k → isLet (zs.getD j 0) = true) (hb : isLet (zs.getD k 0) = false) : good zs = k := by
  induction zs generalizing k with
  | nil => simp at hk
  | cons z r ih =>
    cases k with
    | zero => simp at hb; simp [good, hb]
    | succ k =>
      have h0 := h 0 (by omega)
      simp at h0
      have := ih k (by simpa using hk) (fun j hj => by have := h (j + 1) (by omega); simpa using this) (by simpa using hb)
      simp only [good, List.takeWhile_cons, h0, if_true, List.length_cons] at this ⊢
      omega
theorem good_all (zs : List Int) (h : ∀ j, j < zs.length → isLet (zs.getD j 0) = true) : good zs = zs.length := by
  induction zs with
  | nil => rfl
  | cons z r ih =>
    have h0 := h 0 (by simp)
    simp at h0
    have := ih (fun j hj => by have := h (j + 1) (by simpa using hj); simpa using this)
    simp only [good, List.takeWhile_cons, h0, if_true, List.length_cons] at this ⊢
    omega
/-- The letters of bytes. -/
def enc : List Int → List Int
  | [] => []
  | [a] => [ltr (a / 4), ltr (a % 4 * 16)]
  | [a, b] => [ltr (a / 4), ltr (a % 4 * 16 + b / 16), ltr (b % 16 * 4)]
  | a :: b :: c :: r => ltr (a / 4) :: ltr (a % 4 * 16 + b / 16) :: ltr (b % 16 * 4 + c / 64) :: ltr (c % 64) :: enc r

theorem enc_length (zs : List Int) : ((enc zs).length : Int) = siz zs.length := by
  induction zs using enc.induct with
  | case1 => rfl
  | case2 a => simp [enc, siz, lets]
  | case3 a b => simp [enc, siz, lets]
  | case4 a b c r ih =>
    simp only [enc, List.length_cons, siz, lets] at ih ⊢
    repeat' split at ih
    all_goals repeat' split
    all_goals omega
theorem siz_le (n : Nat) : siz n ≤ 2 * n := by
  unfold siz lets
  repeat' split
  all_goals omega
theorem enc_le (zs : List Int) : (enc zs).length ≤ 2 * zs.length := by
  have h1 := enc_length zs
  have h2 := siz_le zs.length
  omega
theorem enc_bd (zs : List Int) (h : ∀ x ∈ zs, 0 ≤ x ∧ x ≤ 255) : ∀ x ∈ enc zs, 0 ≤ x ∧ x ≤ 255 := by
  induction zs using enc.induct with
  | case1 => intro x hx; simp [enc] at hx
  | case2 a =>
    have ha := h a (by simp)
    intro x hx
    simp only [enc, List.mem_cons, List.not_mem_nil, or_false] at hx
    rcases hx with rfl | rfl
    · exact ⟨ltr_lo _ (by omega), by have := ltr_hi (a / 4) (by omega); omega⟩
    · exact ⟨ltr_lo _ (by omega), by have := ltr_hi (a % 4 * 16) (by omega); omega⟩
  | case3 a b =>
    have ha := h a (by simp)
    have hb := h b (by simp)
    intro x hx
    simp only [enc, List.mem_cons, List.not_mem_nil, or_false] at hx
    rcases hx with rfl | rfl | rfl
    · exact ⟨ltr_lo _ (by omega), by have := ltr_hi (a / 4) (by omega); omega⟩
    · exact ⟨ltr_lo _ (by omega), by have := ltr_hi (a % 4 * 16 + b / 16) (by omega); omega⟩
    · exact ⟨ltr_lo _ (by omega), by have := ltr_hi (b % 16 * 4) (by omega); omega⟩
  | case4 a b c r ih =>
    have ha := h a (by simp)
    have hb := h b (by simp)
    have hc := h c (by simp)
    intro x hx
    simp only [enc, List.mem_cons] at hx
    rcases hx with rfl | rfl | rfl | rfl | hx
    · exact ⟨ltr_lo _ (by omega), by have := ltr_hi (a / 4) (by omega); omega⟩
    · exact ⟨ltr_lo _ (by omega), by have := ltr_hi (a % 4 * 16 + b / 16) (by omega); omega⟩
    · exact ⟨ltr_lo _ (by omega), by have := ltr_hi (b % 16 * 4 + c / 64) (by omega); omega⟩
    · exact ⟨ltr_lo _ (by omega), by have := ltr_hi (c % 64) (by omega); omega⟩
    · exact ih (fun y hy => h y (by simp [hy])) x hx
/-- The bytes of letters. -/
def dec : List Int → List Int
  | [] => []
  | [_] => []
  | [a, b] => [num0 a * 4 + num0 b / 16]
  | [a, b, c] => [num0 a * 4 + num0 b / 16, num0 b % 16 * 16 + num0 c / 4]
  | a :: b :: c :: d :: r => (num0 a * 4 + num0 b / 16) :: (num0 b % 16 * 16 + num0 c / 4) :: (num0 c % 4 * 64 + num0 d) :: dec r

theorem dec_step (rs : List Int) (m : Nat) (a b c d : Int) (hm1 : 1 ≤ m) (hm : m + 1 = min rs.length 4) (ha : rs.getD 0 0 = a) (hb : rs.getD 1 0 = b) (hc : rs.getD 2 0 = c) (hd : rs.getD 3 0 = d) :
    dec rs = [num0 a * 4 + num0 b / 16, num0 b % 16 * 16 + num0 c / 4, num0 c % 4 * 64 + num0 d].take m ++ dec (rs.drop (m + 1)) := by
  match rs with
  | [] => simp at hm
  | [_] => simp at hm; omega
  | [x, y] => simp at ha hb hc hd hm; subst ha hb hc hd hm; simp [dec]
  | [x, y, z] => simp at ha hb hc hd hm; subst ha hb hc hd hm; simp [dec]
  | x :: y :: z :: u :: r =>
    simp at ha hb hc hd
    have hm3 : m = 3 := by simp at hm; omega
    subst ha hb hc hd hm3
    simp [dec]
theorem dec_length (zs : List Int) : ((dec zs).length : Int) = (zs.length : Int) / 4 * 3 + byts ((zs.length : Int) % 4) := by
  induction zs using dec.induct with
  | case1 => rfl
  | case2 a => simp [dec, byts]
  | case3 a b => simp [dec, byts]
  | case4 a b c => simp [dec, byts]
  | case5 a b c d r ih =>
    simp only [dec, List.length_cons, byts] at ih ⊢
    repeat' split at ih
    all_goals repeat' split
    all_goals omega
theorem dec_pos (zs : List Int) (h : zs.length % 4 ≠ 1) : 0 < (dec zs).length ↔ 0 < zs.length := by
  have h1 := dec_length zs
  unfold byts at h1
  split at h1 <;> omega
end Go.Proofs.YtegcgbjjpgjnmaaGreatDoor.Id
namespace Go.Proofs.YtegcgbjjpgjnmaaGreatDoor.Id
open Go.RowKit
theorem ret_int {k : IntKind} {a b : Int} (h : a = b) : Ending.returned (.int k a) = .returned (.int k b) := by rw [h]
theorem ret_num {a b : Int} {p q : Bool} (h : a = b) (hp : p = q) : Ending.returned (.tuple #[.int .u32 a, .bool p]) = .returned (.tuple #[.int .u32 b, .bool q]) := by rw [h, hp]



set_option maxHeartbeats 400000 in
theorem bytesOf_any (n : Int) (w : World) (h0 : 0 ≤ n) (h1 : n ≤ 4) :
    Calls Tryz.prog 153 #[.int .i64 n] w fun e w' => e = .returned (.int .i64 (byts n)) ∧ w = w' := by
  go_enter Tryz.func153, Tryz.ntmps153
  go_wp2
  all_goals
    go_ret
    exact ⟨ret_int (by unfold byts; split <;> omega), rfl⟩

theorem bytesOf_pos (m : Int) (w : World) (h0 : 1 ≤ m) (h1 : m ≤ 3) :
    Calls Tryz.prog 153 #[.int .i64 (m + 1)] w fun e w' => e = .returned (.int .i64 m) ∧ w = w' := by
  have h := bytesOf_any (m + 1) w (by omega) (by omega)
  have e : byts (m + 1) = m := by unfold byts; rw [if_neg (by omega)]; omega
  rw [e] at h
  exact h

theorem numW (c : Int) (n : Int) (b : Bool) (h : num c = if b then n else -1) (h0 : 0 ≤ n) (hz : b = false → n = 0) : n = num0 c ∧ b = isLet c := by
  cases b
  · simp [num0, isLet, h, hz rfl]
  · simp [num0, isLet, h, h0]
set_option maxHeartbeats 400000 in
theorem number_any (c : Int) (w : World) (h0 : 0 ≤ c) (h1 : c ≤ 255) :
    Calls Tryz.prog 172 #[.int .u8 c] w fun e w' => e = .returned (.tuple #[.int .u32 (num0 c), .bool (isLet c)]) ∧ w = w' := by
  by_cases e43 : c = 43
  · subst e43
    go_enter Tryz.func172, Tryz.ntmps172
    go_wp2
    go_ret2
    exact ⟨rfl, rfl⟩
  by_cases e47 : c = 47
  · subst e47
    go_enter Tryz.func172, Tryz.ntmps172
    go_wp2
    go_ret2
    exact ⟨rfl, rfl⟩
  go_enter Tryz.func172, Tryz.ntmps172
  go_wp2
  all_goals
    go_ret2
    refine ⟨(fun h => ret_num h.1 h.2) (numW c _ _ (by unfold num; repeat' split
                                                       all_goals first | omega | (simp_all; done) | (simp_all; omega)) (by first | omega | simp) (by simp)), rfl⟩

end Go.Proofs.YtegcgbjjpgjnmaaGreatDoor.Id
namespace Go.Proofs.YtegcgbjjpgjnmaaGreatDoor.Id
open Go.RowKit
theorem ret_bool {a b : Bool} (h : a = b) : Ending.returned (.bool a) = .returned (.bool b) := by rw [h]

set_option maxHeartbeats 1000000 in
set_option maxRecDepth 100000 in
theorem liteIndexByte_any (s : ByteArray) (c : Int) (w : World) :
    Calls Tryz.prog 171 #[.string s, .int .u8 c] w fun e w' => e = .returned (.int .i64 (Lib.indexByte s.data.toList c.toNat.toUInt8)) ∧ w = w' := by
  go_enter Tryz.func171, Tryz.ntmps171
  go_wp2
  rw [run_callFunc_extern Tryz.func185 (by kernel_rfl) (by kernel_rfl) (by kernel_rfl) (e := Extern.BytealgIndexByte.indexByte) (by kernel_rfl), Lib.run_indexByteString]
  simp only [Result.andThen]
  rw [Oper.upon_value]
  go_wp2
  go_ret
  exact ⟨rfl, rfl⟩

set_option maxHeartbeats 1000000 in
theorem indexByte_any (s : ByteArray) (c : Int) (w : World) :
    Calls Tryz.prog 150 #[.string s, .int .u8 c] w fun e w' => e = .returned (.int .i64 (Lib.indexByte s.data.toList c.toNat.toUInt8)) ∧ w = w' := by
  go_enter Tryz.func150, Tryz.ntmps150
  go_wp2_with (go_at_call 171; refine (liteIndexByte_any _ _ _).mono ?_; rintro e w' ⟨rfl, rfl⟩)
  go_ret
  exact ⟨rfl, rfl⟩

/-- A small letter, a digit, or one of the others. -/
def kind (o : List UInt8) (c : Int) : Bool := (decide (97 ≤ c) && decide (c ≤ 122)) || (decide (48 ≤ c) && decide (c ≤ 57)) || decide (0 ≤ Lib.indexByte o c.toNat.toUInt8)

set_option maxHeartbeats 1000000 in
theorem letter_clo (o : ByteArray) (c : Int) (B : Nat) (w : World) (hc : w.cell? ⟨B, 0, none⟩ = some (.string o)) (h0 : 0 ≤ c) (h1 : c ≤ 255) :
    Calls Tryz.prog 149 #[.int .u8 c, .pointer (some ⟨B, 0, none⟩)] w fun e w' => e = .returned (.bool (kind o.data.toList c)) ∧ w = w' := by
  go_enter Tryz.func149, Tryz.ntmps149
  go_wp2_with (go_at_call 150; refine (indexByte_any _ _ _).mono ?_; rintro e w' ⟨rfl, rfl⟩)
  all_goals
    go_ret
    refine ⟨ret_bool ?_, rfl⟩
    unfold kind
    rw [Bool.eq_iff_iff]
    simp
    omega

/-- A text of one to m letters, each of which is of the kind k. -/
def okText (k : Int → Bool) (m : Int) (s : ByteArray) : Bool := decide (1 ≤ s.size) && decide ((s.size : Int) ≤ m) && (ints s).all k

theorem okText_long (k : Int → Bool) (m : Int) (s : ByteArray) (h : m < s.size) : okText k m s = false := by
  unfold okText; simp; omega
theorem okText_none (k : Int → Bool) (m : Int) (s : ByteArray) (h : s.size = 0) : okText k m s = false := by
  unfold okText; simp [h]
theorem okText_all (k : Int → Bool) (m : Int) (s : ByteArray) (h : 1 ≤ s.size) (h' : (s.size : Int) ≤ m) (ha : ∀ j, j < s.size → k ((ints s).getD j 0) = true) : okText k m s = true := by
  unfold okText
  simp only [h, h', decide_true, Bool.true_and, List.all_eq_true]
  intro x hx
  obtain ⟨i, hi, rfl⟩ := List.mem_iff_getElem.1 hx
  have := ha i (by rw [← ints_length]; exact hi)
  rw [List.getD_eq_getElem?_getD, List.getElem?_eq_getElem hi] at this
  exact this
theorem okText_bad (k : Int → Bool) (m : Int) (s : ByteArray) (j : Nat) (hj : j < s.size) (ha : k ((ints s).getD j 0) = false) : okText k m s = false := by
  unfold okText
  have hj' : j < (ints s).length := by rw [ints_length]; exact hj
  have : (ints s).all k = false := by
    rw [List.all_eq_false]
    refine ⟨(ints s)[j], List.getElem_mem hj', ?_⟩
    rw [List.getD_eq_getElem?_getD, List.getElem?_eq_getElem hj'] at ha
    simpa using ha
  rw [this]; simp

set_option maxHeartbeats 1000000 in
theorem fits_any (s o : ByteArray) (m : Int) (B : Nat) (w : World) (hs : s.size ≤ 140737488351232) (hc : w.cell? ⟨B, 0, none⟩ = some (.string o)) :
    Calls Tryz.prog 122 #[.string s, .int .i64 m, .func (.func 149) #[] #[.pointer (some ⟨B, 0, none⟩)]] w fun e w' => e = .returned (.bool (okText (kind o.data.toList) m s)) ∧ w = w' := by
  by_cases he : s.size = 0
  · have he' : (s.size : Int) = 0 := by omega
    go_enter Tryz.func122, Tryz.ntmps122
    go_wp2
    go_ret
    exact ⟨ret_bool (okText_none _ _ _ he).symm, rfl⟩
  by_cases hm : m < (s.size : Int)
  · go_enter Tryz.func122, Tryz.ntmps122
    go_wp2
    go_ret
    exact ⟨ret_bool (okText_long _ _ _ hm).symm, rfl⟩
  go_enter Tryz.func122, Tryz.ntmps122
  go_wp2
  go_loop [19] (fun i => ∃ k : Nat, k ≤ s.size ∧ i = .int .i64 k ∧ ∀ j, j < k → kind o.data.toList ((ints s).getD j 0) = true) (fun i => s.size - (intOf i).toNat)
  case atStart => exact ⟨0, Nat.zero_le _, rfl, fun j hj => by omega⟩
  case round =>
    obtain ⟨k, hk, rfl, hall⟩ := hrel
    have HA : Hid (∀ j, j < k → kind o.data.toList ((ints s).getD j 0) = true) := hall
    clear hall
    by_cases hlt : k < s.size
    · have HG : Hid ((ints s).getD k 0 = (s[k].toNat : Int)) := ints_getD s k hlt
      have hb1 : (s[k].toNat : Int) ≤ 255 := by have := s[k].toNat_lt; omega
      by_cases hb : kind o.data.toList (s[k].toNat : Int) = true
      · go_wp2_with (go_at_call 149; refine (letter_clo o _ B _ hc (by omega) (by omega)).mono ?_; rintro e w' ⟨rfl, rfl⟩)
        go_round
        case rel => exact ⟨k + 1, by omega, by go_num, fun j hj => by
                              by_cases e : j = k
                              · rw [e, HG.out]; exact hb
                              · exact HA.out j (by omega)⟩
        case measure => simp [intOf]; omega
      · have hb' : kind o.data.toList (s[k].toNat : Int) = false := by simpa using hb
        clear hb
        go_wp2_with (go_at_call 149; refine (letter_clo o _ B _ hc (by omega) (by omega)).mono ?_; rintro e w' ⟨rfl, rfl⟩)
        go_ret
        exact ⟨ret_bool (okText_bad _ _ _ k hlt (by rw [HG.out]; exact hb')).symm, rfl⟩
    · obtain rfl : k = s.size := by omega
      go_wp2
      go_ret
      exact ⟨ret_bool (okText_all _ _ _ (by omega) (by omega) HA.out).symm, rfl⟩
end Go.Proofs.YtegcgbjjpgjnmaaGreatDoor.Id
namespace Go.Proofs.YtegcgbjjpgjnmaaGreatDoor.Id
open Go.RowKit
/-- A small letter, a digit or a dot. -/
def small (c : Int) : Bool := (decide (97 ≤ c) && decide (c ≤ 122)) || (decide (48 ≤ c) && decide (c ≤ 57)) || decide (c = 46)
def kSrv (c : Int) : Bool := small c || decide (c = 45)
def kLoc (c : Int) : Bool := small c || decide (c = 45) || decide (c = 95)
def kTyp (c : Int) : Bool := small c || decide (c = 95)
def srv (s : ByteArray) : Bool := okText kSrv 32 s
def loc (s : ByteArray) : Bool := okText kLoc 32 s
def typ (s : ByteArray) : Bool := okText kTyp 64 s

theorem kind_srv : ∀ n : Fin 256, kind [46, 45] (n.val : Int) = kSrv n.val := by decide +kernel
theorem kind_loc : ∀ n : Fin 256, kind [46, 95, 45] (n.val : Int) = kLoc n.val := by decide +kernel
theorem kind_typ : ∀ n : Fin 256, kind [46, 95] (n.val : Int) = kTyp n.val := by decide +kernel
theorem okText_congr {k k' : Int → Bool} (h : ∀ n : Fin 256, k (n.val : Int) = k' n.val) (m : Int) (s : ByteArray) : okText k m s = okText k' m s := by
  unfold okText
  congr 1
  rw [Bool.eq_iff_iff, List.all_eq_true, List.all_eq_true]
  constructor <;> intro ha x hx
  · have hb := ints_bd s x hx
    have := h ⟨x.toNat, by omega⟩
    have e : ((x.toNat : Nat) : Int) = x := by omega
    rw [e] at this
    rw [← this]; exact ha x hx
  · have hb := ints_bd s x hx
    have := h ⟨x.toNat, by omega⟩
    have e : ((x.toNat : Nat) : Int) = x := by omega
    rw [e] at this
    rw [this]; exact ha x hx

theorem cell_new (w : World) (v : Value) (t : Nat) : (w.alloc (.cells #[v] t)).cell? ⟨w.heap.size, 0, none⟩ = some v :=
  World.cell?_alloc_at _ _ _ _ rfl

set_option maxHeartbeats 1000000 in
theorem letterOr_any (o : ByteArray) (w : World) :
    Calls Tryz.prog 123 #[.string o] w fun e w' => e = .returned (.func (.func 149) #[] #[.pointer (some ⟨w.heap.size, 0, none⟩)]) ∧ w' = w.alloc (.cells #[.string o] 9) := by
  go_enter Tryz.func123, Tryz.ntmps123
  go_wp2
  go_ret
  exact ⟨rfl, rfl⟩

set_option maxHeartbeats 1000000 in
theorem server_any (s : ByteArray) (w : World) (hs : s.size ≤ 140737488351232) :
    Calls Tryz.prog 102 #[.string s] w fun e w' => e = .returned (.bool (srv s)) ∧ Below w.heap.size w w' := by
  have hc := cell_new w (.string ⟨#[46, 45]⟩) 9
  go_enter Tryz.func102, Tryz.ntmps102
  go_wp2_with (first
    | (go_at_call 123; refine (letterOr_any _ _).mono ?_; rintro e w' ⟨rfl, rfl⟩)
    | (go_at_call 122; refine (fits_any s _ 32 _ _ hs hc).mono ?_; rintro e w' ⟨rfl, rfl⟩))
  go_ret
  exact ⟨ret_bool (okText_congr kind_srv 32 s), (Below.refl _ _).alloc (Nat.le_refl _) _⟩

set_option maxHeartbeats 1000000 in
theorem local_any (s : ByteArray) (w : World) (hs : s.size ≤ 140737488351232) :
    Calls Tryz.prog 148 #[.string s] w fun e w' => e = .returned (.bool (loc s)) ∧ Below w.heap.size w w' := by
  have hc := cell_new w (.string ⟨#[46, 95, 45]⟩) 9
  go_enter Tryz.func148, Tryz.ntmps148
  go_wp2_with (first
    | (go_at_call 123; refine (letterOr_any _ _).mono ?_; rintro e w' ⟨rfl, rfl⟩)
    | (go_at_call 122; refine (fits_any s _ 32 _ _ hs hc).mono ?_; rintro e w' ⟨rfl, rfl⟩))
  go_ret
  exact ⟨ret_bool (okText_congr kind_loc 32 s), (Below.refl _ _).alloc (Nat.le_refl _) _⟩

set_option maxHeartbeats 1000000 in
theorem type_any (s : ByteArray) (w : World) (hs : s.size ≤ 140737488351232) :
    Calls Tryz.prog 98 #[.string s] w fun e w' => e = .returned (.bool (typ s)) ∧ Below w.heap.size w w' := by
  have hc := cell_new w (.string ⟨#[46, 95]⟩) 9
  go_enter Tryz.func98, Tryz.ntmps98
  go_wp2_with (first
    | (go_at_call 123; refine (letterOr_any _ _).mono ?_; rintro e w' ⟨rfl, rfl⟩)
    | (go_at_call 122; refine (fits_any s _ 64 _ _ hs hc).mono ?_; rintro e w' ⟨rfl, rfl⟩))
  go_ret
  exact ⟨ret_bool (okText_congr kind_typ 64 s), (Below.refl _ _).alloc (Nat.le_refl _) _⟩

end Go.Proofs.YtegcgbjjpgjnmaaGreatDoor.Id
namespace Go.Proofs.YtegcgbjjpgjnmaaGreatDoor.Id
open Go.RowKit
def nix : ByteArray := ⟨#[]⟩
/-- The local name, the server's name, and whether it is a name of that sign. -/
def parts (c : Int) (s : ByteArray) : ByteArray × ByteArray × Bool :=
  if 0 < s.size ∧ (ints s).getD 0 0 = c ∧ ((ints s).drop 1).findIdx (· == 58) + 1 < s.size ∧ loc (s.extract 1 (((ints s).drop 1).findIdx (· == 58) + 1)) = true ∧ srv (s.extract (((ints s).drop 1).findIdx (· == 58) + 2) s.size) = true
  then (s.extract 1 (((ints s).drop 1).findIdx (· == 58) + 1), s.extract (((ints s).drop 1).findIdx (· == 58) + 2) s.size, true) else (nix, nix, false)

theorem getD_drop1 (l : List Int) (j : Nat) : (l.drop 1).getD j 0 = l.getD (j + 1) 0 := by
  simp [List.getD_eq_getElem?_getD]
theorem find_hit (l : List Int) (k : Nat) (hk : k < l.length) (hc : l.getD k 0 = 58) (ha : ∀ j, j < k → l.getD j 0 ≠ 58) : l.findIdx (· == 58) = k := by
  induction l generalizing k with
  | nil => simp at hk
  | cons a l ih =>
    rw [List.findIdx_cons]
    match k with
    | 0 => simp at hc; simp [hc]
    | k + 1 =>
      have h0 := ha 0 (by omega)
      simp only [List.getD_cons_zero] at h0
      have h1 : (a == 58) = false := by simp [h0]
      rw [h1]
      simp only [cond_false]
      rw [ih k (by simpa using hk) (by simpa using hc) (fun j hj => by simpa using ha (j + 1) (by omega))]
theorem find_miss (l : List Int) (ha : ∀ j, j < l.length → l.getD j 0 ≠ 58) : l.findIdx (· == 58) = l.length := by
  induction l with
  | nil => rfl
  | cons a l ih =>
    have h0 := ha 0 (by simp)
    simp only [List.getD_cons_zero] at h0
    have h1 : (a == 58) = false := by simp [h0]
    rw [List.findIdx_cons, h1]
    simp only [cond_false]
    rw [ih (fun j hj => by simpa using ha (j + 1) (by simpa using hj))]
    simp
theorem idx_hit (l : List UInt8) (k : Nat) (hk : k < l.length) (hc : (l.map fun c => (c.toNat : Int)).getD k 0 = 58) (ha : ∀ j, j < k → (l.map fun c => (c.toNat : Int)).getD j 0 ≠ 58) : Lib.indexByte l 58 = k := by
  induction l generalizing k with
  | nil => simp at hk
  | cons a l ih =>
    unfold Lib.indexByte
    match k with
    | 0 =>
      have : a = 58 := by
        simp at hc
        exact UInt8.toNat_inj.1 (by simpa using (by omega : a.toNat = 58))
      simp [this]
    | k + 1 =>
      have h0 := ha 0 (by omega)
      have h1 : (a == 58) = false := by
        simp only [List.map_cons, List.getD_cons_zero] at h0
        simp only [beq_eq_false_iff_ne, ne_eq]
        intro h; subst h; exact h0 rfl
      rw [h1, ih k (by simpa using hk) (by simpa using hc) (fun j hj => by simpa using ha (j + 1) (by omega))]
      have h2 : ((k : Int) == -1) = false := by simp
      simp [h2]
theorem idx_miss (l : List UInt8) (ha : ∀ j, j < l.length → (l.map fun c => (c.toNat : Int)).getD j 0 ≠ 58) : Lib.indexByte l 58 = -1 := by
  induction l with
  | nil => rfl
  | cons a l ih =>
    unfold Lib.indexByte
    have h0 := ha 0 (by simp)
    have h1 : (a == 58) = false := by
      simp only [List.map_cons, List.getD_cons_zero] at h0
      simp only [beq_eq_false_iff_ne, ne_eq]
      intro h; subst h; exact h0 rfl
    rw [h1, ih (fun j hj => by simpa using ha (j + 1) (by simpa using hj))]
    simp
theorem parts_hit (c : Int) (s : ByteArray) (k : Nat) (h0 : (ints s).getD 0 0 = c) (h1 : 1 ≤ k) (hk : k < s.size) (hc : (ints s).getD k 0 = 58) (ha : ∀ j, 1 ≤ j → j < k → (ints s).getD j 0 ≠ 58) :
    parts c s = if loc (s.extract 1 k) = true ∧ srv (s.extract (k + 1) s.size) = true then (s.extract 1 k, s.extract (k + 1) s.size, true) else (nix, nix, false) := by
  have hf : ((ints s).drop 1).findIdx (· == 58) = k - 1 := by
    refine find_hit _ _ (by simp [ints_length]; omega) ?_ fun j hj => ?_
    · rw [getD_drop1, Nat.sub_add_cancel h1]; exact hc
    · rw [getD_drop1]; exact ha (j + 1) (by omega) (by omega)
  unfold parts
  rw [hf]
  have e1 : k - 1 + 1 = k := by omega
  have e2 : k - 1 + 2 = k + 1 := by omega
  rw [e1, e2]
  by_cases hl : loc (s.extract 1 k) = true ∧ srv (s.extract (k + 1) s.size) = true
  · rw [if_pos hl, if_pos ⟨by omega, h0, hk, hl.1, hl.2⟩]
  · rw [if_neg hl, if_neg fun h => hl ⟨h.2.2.2.1, h.2.2.2.2⟩]
theorem parts_other (c : Int) (s : ByteArray) (h : s.size = 0 ∨ (ints s).getD 0 0 ≠ c ∨ ∀ j, 1 ≤ j → j < s.size → (ints s).getD j 0 ≠ 58) : parts c s = (nix, nix, false) := by
  unfold parts
  rw [if_neg]
  intro ⟨g0, g1, g2, _⟩
  rcases h with h | h | h
  · omega
  · exact h g1
  · have : ((ints s).drop 1).findIdx (· == 58) = ((ints s).drop 1).length := find_miss _ fun j hj => by
      rw [getD_drop1]; exact h (j + 1) (by omega) (by simp [ints_length] at hj; omega)
    rw [this] at g2
    simp [ints_length] at g2
    omega
theorem colon_cases (s : ByteArray) : (∃ k, 1 ≤ k ∧ k < s.size ∧ (ints s).getD k 0 = 58 ∧ ∀ j, 1 ≤ j → j < k → (ints s).getD j 0 ≠ 58) ∨ ∀ j, 1 ≤ j → j < s.size → (ints s).getD j 0 ≠ 58 := by
  have : ∀ n, (∃ k, 1 ≤ k ∧ k < n ∧ (ints s).getD k 0 = 58 ∧ ∀ j, 1 ≤ j → j < k → (ints s).getD j 0 ≠ 58) ∨ ∀ j, 1 ≤ j → j < n → (ints s).getD j 0 ≠ 58 := by
    intro n
    induction n with
    | zero => exact .inr fun j _ hj => by omega
    | succ n ih =>
      rcases ih with ⟨k, h1, h2, h3, h4⟩ | h
      · exact .inl ⟨k, h1, by omega, h3, h4⟩
      · by_cases hn : 1 ≤ n ∧ (ints s).getD n 0 = 58
        · exact .inl ⟨n, hn.1, by omega, hn.2, h⟩
        · refine .inr fun j h1 h2 => ?_
          by_cases e : j = n
          · subst e; exact fun he => hn ⟨h1, he⟩
          · exact h j h1 (by omega)
  exact this s.size
theorem cut_name (s : ByteArray) (k : Nat) (h1 : 1 ≤ k) (hk : k ≤ s.size) : (s.extract 1 s.size).extract 0 (k - 1) = s.extract 1 k := by
  rw [ByteArray.extract_extract]
  congr 1
  omega
theorem cut_server (s : ByteArray) (k : Nat) : (s.extract 1 s.size).extract k (s.extract 1 s.size).size = s.extract (k + 1) s.size := by
  rw [ByteArray.extract_extract]
  simp
  congr 1
  all_goals omega
end Go.Proofs.YtegcgbjjpgjnmaaGreatDoor.Id
namespace Go.Proofs.YtegcgbjjpgjnmaaGreatDoor.Id
open Go.RowKit
theorem below_drewN (w : World) : ∀ n, Below w.heap.size w (w.drewN n)
  | 0 => by rw [World.drewN_zero]; exact Below.refl _ _
  | n + 1 => by rw [← World.drew_drewN]; exact (below_drewN w n).drew
theorem take_one' (l : List UInt8) (h : 0 < l.length) : l.take 1 = [l[0]] := by
  cases l with
  | nil => simp at h
  | cons a l => simp
theorem one_head (s : ByteArray) (h : 0 < s.size) : (s.extract 0 1).toList = [s[0]] := by
  rw [Lib.toList_data, ByteArray.data_extract, Array.toList_extract]
  simp only [List.extract_eq_take_drop, List.drop_zero, Nat.sub_zero]
  rw [take_one' _ (by simpa using h)]
  simp [ByteArray.getElem_eq_getElem_data]

set_option maxHeartbeats 1000000 in
theorem hasPrefix_yes (s : ByteArray) (c : UInt8) (w : World) (hs : s.size ≤ 140737488351232) (h : 0 < s.size) (hc : s[0] = c) :
    Calls Tryz.prog 137 #[.string s, .string ⟨#[c]⟩] w fun e w' => e = .returned (.bool true) ∧ w = w' := by
  have h1 : ((s.extract 0 1).toList == [c]) = true := by rw [one_head s h, hc]; simp
  go_enter Tryz.func137, Tryz.ntmps137
  go_wp2
  go_ret
  exact ⟨rfl, rfl⟩
set_option maxHeartbeats 1000000 in
theorem hasPrefix_no (s : ByteArray) (c : UInt8) (w : World) (hs : s.size ≤ 140737488351232) (h : ∀ h : 0 < s.size, s[0] ≠ c) :
    Calls Tryz.prog 137 #[.string s, .string ⟨#[c]⟩] w fun e w' => e = .returned (.bool false) ∧ w = w' := by
  by_cases h0 : 0 < s.size
  · have h1 : ((s.extract 0 1).toList == [c]) = false := by rw [one_head s h0]; simp [h h0]
    go_enter Tryz.func137, Tryz.ntmps137
    go_wp2
    go_ret
    exact ⟨rfl, rfl⟩
  · go_enter Tryz.func137, Tryz.ntmps137
    go_wp2
    go_ret
    exact ⟨rfl, rfl⟩

set_option maxHeartbeats 1000000 in
theorem liteCutPrefix_yes (s : ByteArray) (c : UInt8) (w : World) (hs : s.size ≤ 140737488351232) (h : 0 < s.size) (hc : s[0] = c) :
    Calls Tryz.prog 151 #[.string s, .string ⟨#[c]⟩] w fun e w' => e = .returned (.tuple #[.string (s.extract 1 s.size), .bool true]) ∧ w = w' := by
  go_enter Tryz.func151, Tryz.ntmps151
  go_wp2_with (go_at_call 137; refine (hasPrefix_yes s c _ hs h hc).mono ?_; rintro e w' ⟨rfl, rfl⟩)
  go_ret2
  exact ⟨rfl, rfl⟩
set_option maxHeartbeats 1000000 in
theorem liteCutPrefix_no (s : ByteArray) (c : UInt8) (w : World) (hs : s.size ≤ 140737488351232) (h : ∀ h : 0 < s.size, s[0] ≠ c) :
    Calls Tryz.prog 151 #[.string s, .string ⟨#[c]⟩] w fun e w' => e = .returned (.tuple #[.string s, .bool false]) ∧ w = w' := by
  go_enter Tryz.func151, Tryz.ntmps151
  go_wp2_with (go_at_call 137; refine (hasPrefix_no s c _ hs h).mono ?_; rintro e w' ⟨rfl, rfl⟩)
  go_ret2
  exact ⟨rfl, rfl⟩
set_option maxHeartbeats 1000000 in
theorem cutPrefix_yes (s : ByteArray) (c : UInt8) (w : World) (hs : s.size ≤ 140737488351232) (h : 0 < s.size) (hc : s[0] = c) :
    Calls Tryz.prog 125 #[.string s, .string ⟨#[c]⟩] w fun e w' => e = .returned (.tuple #[.string (s.extract 1 s.size), .bool true]) ∧ w = w' := by
  go_enter Tryz.func125, Tryz.ntmps125
  go_wp2_with (go_at_call 151; refine (liteCutPrefix_yes s c _ hs h hc).mono ?_; rintro e w' ⟨rfl, rfl⟩)
  go_ret2
  exact ⟨rfl, rfl⟩
set_option maxHeartbeats 1000000 in
theorem cutPrefix_no (s : ByteArray) (c : UInt8) (w : World) (hs : s.size ≤ 140737488351232) (h : ∀ h : 0 < s.size, s[0] ≠ c) :
    Calls Tryz.prog 125 #[.string s, .string ⟨#[c]⟩] w fun e w' => e = .returned (.tuple #[.string s, .bool false]) ∧ w = w' := by
  go_enter Tryz.func125, Tryz.ntmps125
  go_wp2_with (go_at_call 151; refine (liteCutPrefix_no s c _ hs h).mono ?_; rintro e w' ⟨rfl, rfl⟩)
  go_ret2
  exact ⟨rfl, rfl⟩

set_option maxHeartbeats 2000000 in
set_option maxRecDepth 100000 in
theorem index_one (s : ByteArray) (w : World) :
    Calls Tryz.prog 184 #[.string s, .string ⟨#[58]⟩] w fun e w' => e = .returned (.int .i64 (Lib.indexByte s.data.toList 58)) ∧ w = w' := by
  go_enter Tryz.func184, Tryz.ntmps184
  go_wp2_with (go_at_call 171; refine (liteIndexByte_any _ _ _).mono ?_; rintro e w' ⟨rfl, rfl⟩)
  · have h : ([58] == s.toList) = true := by assumption
    go_ret
    refine ⟨?_, rfl⟩
    have e : s.data.toList = [58] := by rw [← Lib.toList_data]; exact (beq_iff_eq.1 h).symm
    rw [e]
    simp [Lib.indexByte]
  · go_ret
    exact ⟨rfl, rfl⟩
set_option maxHeartbeats 1000000 in
theorem liteCut_no (t : ByteArray) (w : World) (hi : Lib.indexByte t.data.toList 58 = -1) :
    Calls Tryz.prog 170 #[.string t, .string ⟨#[58]⟩] w fun e w' => e = .returned (.tuple #[.string t, .string ⟨#[]⟩, .bool false]) ∧ Below w.heap.size w w' := by
  go_enter Tryz.func170, Tryz.ntmps170
  go_wp2_with (go_at_call 184; refine (index_one t _).mono ?_; rw [hi]; rintro e w' ⟨rfl, rfl⟩)
  go_ret3
  exact ⟨rfl, Below.refl _ _⟩
set_option maxHeartbeats 1000000 in
theorem cut_no (t : ByteArray) (w : World) (hi : Lib.indexByte t.data.toList 58 = -1) :
    Calls Tryz.prog 147 #[.string t, .string ⟨#[58]⟩] w fun e w' => e = .returned (.tuple #[.string t, .string ⟨#[]⟩, .bool false]) ∧ Below w.heap.size w w' := by
  go_enter Tryz.func147, Tryz.ntmps147
  go_wp2_with (go_at_call 170; refine (liteCut_no t _ hi).mono ?_; rintro e w' ⟨rfl, hb⟩)
  go_ret3
  exact ⟨rfl, hb⟩
set_option maxHeartbeats 1000000 in
theorem liteCut_yes (t : ByteArray) (k : Nat) (w : World) (hs : t.size ≤ 140737488351232) (hk : k < t.size) (hi : Lib.indexByte t.data.toList 58 = k) :
    Calls Tryz.prog 170 #[.string t, .string ⟨#[58]⟩] w fun e w' => e = .returned (.tuple #[.string (t.extract 0 k), .string (t.extract (k + 1) t.size), .bool true]) ∧ Below w.heap.size w w' := by
  go_enter Tryz.func170, Tryz.ntmps170
  go_wp2_with (go_at_call 184; refine (index_one t _).mono ?_; rw [hi]; rintro e w' ⟨rfl, rfl⟩)
  go_quiet (fail)
  go_wp2
  go_ret3
  exact ⟨rfl, below_drewN _ _⟩
set_option maxHeartbeats 1000000 in
theorem cut_yes (t : ByteArray) (k : Nat) (w : World) (hs : t.size ≤ 140737488351232) (hk : k < t.size) (hi : Lib.indexByte t.data.toList 58 = k) :
    Calls Tryz.prog 147 #[.string t, .string ⟨#[58]⟩] w fun e w' => e = .returned (.tuple #[.string (t.extract 0 k), .string (t.extract (k + 1) t.size), .bool true]) ∧ Below w.heap.size w w' := by
  go_enter Tryz.func147, Tryz.ntmps147
  go_wp2_with (go_at_call 170; refine (liteCut_yes t k _ hs hk hi).mono ?_; rintro e w' ⟨rfl, hb⟩)
  go_ret3
  exact ⟨rfl, hb⟩
end Go.Proofs.YtegcgbjjpgjnmaaGreatDoor.Id

/-
  Whether an event has a room, a type and a sender, and a key that may be: by contracts.
  Whether signatures may be: by a contract.
  Maps of signatures, as JSON: by a contract.
  An event's JSON, by a contract.
  Whether an event is well shaped but for its length, and its bytes: by contracts.
  Whether an event is well shaped but for its length: some of the ways.
  Whether an event is well shaped but for its length: some of the ways.
  Whether an event is well shaped but for its length: some of the ways.
  Whether an event is well shaped but for its length: some of the ways.
  Whether an event is well shaped but for its length: some of the ways.
  Whether an event is well shaped but for its length: some of the ways.
  Whether an event is well shaped but for its length: by a contract.
  What is decoded is of letters: the texts.
  Names are plain letters.
  An event that is well shaped has a good JSON: plain.
  An event's bytes, and its shape: by contracts.
  The reader of events: rows of texts, and signatures: by contracts.
  The reader of events: signatures: by a contract.
  What event a value says: plain.
  What event a value says: how its names and values are laid into the reader's map.
  Sixteen cells that are written one by one.
  What event a value says: by a contract.
  What event a value says: by a contract.
  What event a value says: by a contract.
  What event a value says: by a contract.
  What is decoded is good, and in order.
  Order, by a contract that tells where the value lies.
  The event of a value, of bytes: by contracts.
  An event's JSON, read: the event, its content in order.
  An event that is loaded, or stored, as one operation.
  Whether two values are the same, by a contract.
  Rows that are the same, and events that are: by contracts.
  Events that are the same, without signatures: by a contract.
  The events of the law's examples.
  The event of a value: by a contract.
  The event of a value: by a contract.
  The event of a value: by a contract.
  The event of a value, and of bytes: by contracts.
  The law's sample, by a contract.
  Bits of a letter's bytes, as sums and rests.
  Rune, by a contract.
-/
import Derived.Test.YtnngalkdjgjmbaaGreatPR11
import Derived.Laws.BitsAllLaws
set_option maxRecDepth 100000
set_option maxHeartbeats 16000000
namespace Go.Proofs.YtnngalkdjgjmbaaGreat
open Go.RowKit
theorem nilS {t : ByteArray} : t.toList.isEmpty = decide (t.size = 0) := by
 rw [Lib.toList_data, Bool.eq_iff_iff, List.isEmpty_iff, decide_eq_true_eq, ← List.length_eq_zero_iff]
 rfl
theorem geL_lt (a b : ByteArray) : Op.bytesLess a.toList b.toList = ltK a b := by
 rw [Lib.toList_data, Lib.toList_data]
 unfold ltK
 generalize a.data.toList = x
 generalize b.data.toList = y
 induction x generalizing y with
 | nil => cases y <;> simp [Op.bytesLess, lessB]
 | cons c x ih =>
  cases y with
  | nil => simp [Op.bytesLess, lessB]
  | cons d y =>
   unfold Op.bytesLess lessB
   rw [ih y]
   by_cases h1 : c < d
   · simp [h1]
   · by_cases h2 : c = d
     · subst h2; simp
     · simp [h1, h2]
theorem rise_at : ∀ (l : List (ByteArray × ByteArray)), riseS l = true ↔ ∀ j, 0 < j → j < l.length → ltK (l.getD (j - 1) (nix, nix)).1 (l.getD j (nix, nix)).1 = true
 | [] => ⟨fun _ j _ hj => absurd hj (by simp), fun _ => rfl⟩
 | [a] => ⟨fun _ j h0 hj => absurd hj (by simp; omega), fun _ => rfl⟩
 | a :: b :: r => by
  unfold riseS
  rw [Bool.and_eq_true, rise_at (b :: r)]
  constructor
  · rintro ⟨h1, h2⟩ j h0 hj
    match j, h0, hj with
    | 1, _, _ => simpa using h1
    | j + 2, _, hj =>
     have := h2 (j + 1) (by omega) (by simpa using hj)
     simpa using this
  · intro h
    refine ⟨by simpa using h 1 (by omega) (by simp), fun j h0 hj => ?_⟩
    have := h (j + 1) (by omega) (by simpa using hj)
    match j, h0 with
    | j + 1, _ => simpa using this
def sigOk (s : ByteArray × ByteArray) : Bool := Id.srv s.1 && digestE s.2
theorem signed_true {l : List (ByteArray × ByteArray)} (hl : l.length ≤ 4) (h : ∀ j, j < l.length → sigOk (l.getD j (nix, nix)) = true ∧ (0 < j → ltK (l.getD (j - 1) (nix, nix)).1 (l.getD j (nix, nix)).1 = true)) : signedE l = true := by
 unfold signedE
 rw [Bool.and_eq_true, Bool.and_eq_true, decide_eq_true_eq]
 refine ⟨⟨hl, ?_⟩, (rise_at l).2 fun j h0 hj => (h j hj).2 h0⟩
 rw [List.all_eq_true]
 intro x hx
 obtain ⟨j, hj, rfl⟩ := List.getElem_of_mem hx
 have := (h j hj).1
 rw [List.getD_eq_getElem?_getD, List.getElem?_eq_getElem hj] at this
 exact this
theorem signed_bad {l : List (ByteArray × ByteArray)} {j : Nat} (hj : j < l.length) (h : sigOk (l.getD j (nix, nix)) = false) : signedE l = false := by
 cases hs : signedE l with
 | false => rfl
 | true =>
  unfold signedE at hs
  rw [Bool.and_eq_true, Bool.and_eq_true, List.all_eq_true] at hs
  have := hs.1.2 (l.getD j (nix, nix)) (by rw [List.getD_eq_getElem?_getD, List.getElem?_eq_getElem hj]; exact List.getElem_mem _)
  unfold sigOk at h
  rw [h] at this
  cases this
theorem signed_unrise {l : List (ByteArray × ByteArray)} {j : Nat} (h0 : 0 < j) (hj : j < l.length) (h : ltK (l.getD (j - 1) (nix, nix)).1 (l.getD j (nix, nix)).1 = false) : signedE l = false := by
 cases hs : signedE l with
 | false => rfl
 | true =>
  unfold signedE at hs
  rw [Bool.and_eq_true] at hs
  rw [(rise_at l).1 hs.2 j h0 hj] at h
  cases h
theorem below_drewN {B : Nat} {a b : World} (h : Below B a b) (n : Nat) : Below B a (b.drewN n) := ⟨h.os, h.tape, h.output, h.size, h.block⟩
theorem byteAt_drop (t : List Int) (p i : Nat) : byteAt (t.drop p) i = byteAt t (p + i) := by
 unfold byteAt
 rw [List.getD_eq_getElem?_getD, List.getElem?_drop, ← List.getD_eq_getElem?_getD]
theorem runeAt_drop (t : List Int) (p : Nat) : runeAt (t.drop p) 0 = runeAt t p := by
 unfold runeAt contAt
 simp only [byteAt_drop, Nat.zero_add, Nat.add_zero]
theorem ints_drop (l : List UInt8) (p : Nat) : ints ⟨(l.drop p).toArray⟩ = (ints ⟨l.toArray⟩).drop p := by
 unfold ints
 simp [List.map_drop]
theorem valid_stray (l : List UInt8) : ∀ (m p : Nat), Lib.validGoD m (l.drop p) = (strayL (ints ⟨l.toArray⟩) m p).isNone
 | 0, p => by unfold Lib.validGoD strayL; rfl
 | m + 1, p => by
  unfold Lib.validGoD strayL
  have hlen : (ints ⟨l.toArray⟩).length = l.length := by rw [ints_length]; simp [ByteArray.size]
  rw [hlen]
  by_cases hp : l.length ≤ p
  · rw [if_pos (List.drop_eq_nil_iff.2 hp), if_neg (by omega)]; rfl
  · have hlt : p < l.length := by omega
    rw [if_neg (fun h => hp (List.drop_eq_nil_iff.1 h)), if_pos hlt]
    have hd : Lib.decodeL (l.drop p) = if (runeAt (ints ⟨l.toArray⟩) p).2 = 0 then (65533, 1) else ((runeAt (ints ⟨l.toArray⟩) p).1.toNat, (runeAt (ints ⟨l.toArray⟩) p).2) := by
     unfold Lib.decodeL
     rw [decode_rune, ints_drop, runeAt_drop]
    by_cases h0 : (runeAt (ints ⟨l.toArray⟩) p).2 = 0
    · rw [hd, if_pos h0, if_pos ⟨rfl, rfl⟩, if_pos h0]; rfl
    · have ih := valid_stray l m (p + (runeAt (ints ⟨l.toArray⟩) p).2)
      rw [hd, if_neg h0, if_neg h0]
      simp only
      rw [List.drop_drop, ih, if_neg ?_]
      rintro ⟨h1, h2⟩
      have hb : ∀ i, 0 ≤ byteAt (ints ⟨l.toArray⟩) i ∧ byteAt (ints ⟨l.toArray⟩) i ≤ 255 := fun i => byte_bd _ i
      have h3 := rune_is _ p hb h0 (by omega)
      have h4 := rune_fffd _ p h3.1 h3.2.1 h3.2.2
      rw [h4] at h2
      simp at h2
theorem valid_letters (s : ByteArray) : Lib.validD s.data.toList = letters s := by
 unfold Lib.validD letters stray
 have := valid_stray s.data.toList s.data.toList.length 0
 rw [List.drop_zero] at this
 rw [this, ints_length]
 rfl
end Go.Proofs.YtnngalkdjgjmbaaGreat
namespace Go.Proofs.YtnngalkdjgjmbaaGreat
open Go.RowKit Go.Maps
theorem isJ_at {O : Nat → Prop} {w : World} {j : J} {k i : Int} {t : ByteArray} {pk pl : Option Addr} {nk ck nl cl : Nat} (h : isJ O w j [.int .i64 k, .int .i64 i, .string t, .slice pk nk ck, .slice pl nl cl]) :
    j.kind = k ∧ j.int = i ∧ j.text = t ∧ nk = j.keys.length ∧ nl = j.list.length ∧ RdK O w pk ck j.keys ∧ j.list.length ≤ cl ∧ isJs O w pl 0 j.list := by
 cases j with
 | mk k' i' t' ks l =>
  unfold isJ at h
  obtain ⟨pk', ck', pl', cl', e, h1, h2, h3⟩ := h
  cases e
  exact ⟨rfl, rfl, rfl, rfl, rfl, h1, h2, h3⟩
theorem good_more : ∀ {d : Nat} {j : J}, goodJ d j = true → goodJ (d + 1) j = true
 | 0, j, h => by unfold goodJ at h; cases h
 | d + 1, .mk k i t ks l, h => by
  unfold goodJ at h ⊢
  rw [Bool.and_eq_true] at h ⊢
  refine ⟨h.1, ?_⟩
  have h2 := h.2
  have up : l.all (goodJ d) = true → l.all (goodJ (d + 1)) = true := fun hl => List.all_eq_true.2 fun x hx => good_more (List.all_eq_true.1 hl x hx)
  split at h2
  · rw [if_pos ‹_›]
  · rw [if_neg ‹_›]
    split at h2
    · rw [if_pos ‹_›]; exact h2
    · rw [if_neg ‹_›]
      split at h2
      · rw [if_pos ‹_›]; exact h2
      · rw [if_neg ‹_›]
        split at h2
        · rw [if_pos ‹_›]; exact h2
        · rw [if_neg ‹_›]
          split at h2
          · rw [if_pos ‹_›]; exact up h2
          · rw [if_neg ‹_›]
            split at h2
            · rw [if_pos ‹_›]
              rw [Bool.and_eq_true] at h2 ⊢
              exact ⟨h2.1, up h2.2⟩
            · cases h2
theorem results_cell {fn : Func} {a : Tmp} {t : TypeId} (h : fn.results = #[.cell a t]) (tmps : Array Value) (P : Program) (w : World) {ad : Addr} {v : Value} (hp : tmps.getD a undef = .pointer (some ad)) (hl : (loadVar t ad).run P w = .ok v w) :
    (results fn tmps).run P w = .ok v w := by
 rw [Array.getD_eq_getD_getElem?] at hp
 simp [results, h, hp, hl, asAddr]
end Go.Proofs.YtnngalkdjgjmbaaGreat
namespace Go.Proofs.YtnngalkdjgjmbaaGreat
open Go.RowKit
theorem ofInt_64 (a : Nat) (ha : a < 18446744073709551616) : (BitVec.ofInt 64 (a : Int)).toNat = a := by
 rw [BitVec.ofInt_natCast, BitVec.toNat_ofNat]; exact Nat.mod_eq_of_lt (by omega)
theorem wrap_i64_small (n : Int) (h0 : 0 ≤ n) (h1 : n < 9223372036854775808) : IntKind.i64.wrap n = n := by
 simp [IntKind.wrap, IntKind.bits, IntKind.signed]
 omega
theorem i64_and_nat (a b : Nat) (ha : a < 9223372036854775808) (hb : b < 9223372036854775808) : bits .and .i64 (a : Int) (b : Int) = ((a &&& b : Nat) : Int) := by
 have h1 : a &&& b ≤ a := Nat.and_le_left
 show IntKind.i64.wrap ((BitVec.ofInt 64 (a : Int) &&& BitVec.ofInt 64 (b : Int)).toNat : Int) = _
 rw [BitVec.toNat_and, ofInt_64 a (by omega), ofInt_64 b (by omega)]
 exact wrap_i64_small _ (by omega) (by omega)
theorem i64_or_nat (a b : Nat) (ha : a < 4611686018427387904) (hb : b < 4611686018427387904) : bits .or .i64 (a : Int) (b : Int) = ((a ||| b : Nat) : Int) := by
 have h1 : a ||| b < 2 ^ 62 := Nat.or_lt_two_pow (by omega) (by omega)
 show IntKind.i64.wrap ((BitVec.ofInt 64 (a : Int) ||| BitVec.ofInt 64 (b : Int)).toNat : Int) = _
 rw [BitVec.toNat_or, ofInt_64 a (by omega), ofInt_64 b (by omega)]
 exact wrap_i64_small _ (by omega) (by omega)
theorem and_31 (c : Int) (h0 : 0 ≤ c) (h1 : c ≤ 255) : bits .and .i64 c 31 = c % 32 := by
 obtain ⟨n, rfl⟩ := Int.eq_ofNat_of_zero_le h0
 have := i64_and_nat n 31 (by omega) (by omega)
 rw [show ((31 : Nat) : Int) = 31 from rfl] at this
 rw [this, show (31 : Nat) = 2 ^ 5 - 1 from rfl, Nat.and_two_pow_sub_one_eq_mod]
 omega
theorem and_15 (c : Int) (h0 : 0 ≤ c) (h1 : c ≤ 255) : bits .and .i64 c 15 = c % 16 := by
 obtain ⟨n, rfl⟩ := Int.eq_ofNat_of_zero_le h0
 have := i64_and_nat n 15 (by omega) (by omega)
 rw [show ((15 : Nat) : Int) = 15 from rfl] at this
 rw [this, show (15 : Nat) = 2 ^ 4 - 1 from rfl, Nat.and_two_pow_sub_one_eq_mod]
 omega
theorem and_7 (c : Int) (h0 : 0 ≤ c) (h1 : c ≤ 255) : bits .and .i64 c 7 = c % 8 := by
 obtain ⟨n, rfl⟩ := Int.eq_ofNat_of_zero_le h0
 have := i64_and_nat n 7 (by omega) (by omega)
 rw [show ((7 : Nat) : Int) = 7 from rfl] at this
 rw [this, show (7 : Nat) = 2 ^ 3 - 1 from rfl, Nat.and_two_pow_sub_one_eq_mod]
 omega
theorem and_63 (c : Int) (h0 : 0 ≤ c) (h1 : c ≤ 255) : bits .and .u8 c 63 = c % 64 := by
 obtain ⟨n, rfl⟩ := Int.eq_ofNat_of_zero_le h0
 have := u8_and_nat n 63 (by omega) (by omega)
 rw [show ((63 : Nat) : Int) = 63 from rfl] at this
 rw [this, show (63 : Nat) = 2 ^ 6 - 1 from rfl, Nat.and_two_pow_sub_one_eq_mod]
 omega
theorem and_192_all : ∀ n : Fin 256, (n : Nat) &&& 192 = (n : Nat) / 64 * 64 := by decide +kernel
theorem and_192 (c : Int) (h0 : 0 ≤ c) (h1 : c ≤ 255) : bits .and .u8 c 192 = c / 64 * 64 := by
 obtain ⟨n, rfl⟩ := Int.eq_ofNat_of_zero_le h0
 have := u8_and_nat n 192 (by omega) (by omega)
 rw [show ((192 : Nat) : Int) = 192 from rfl] at this
 rw [this]
 have h := and_192_all ⟨n, by omega⟩
 simp only at h
 rw [h]
 omega
theorem or_64 (c x : Int) (h0 : 0 ≤ c) (h1 : c ≤ 1000000) (h2 : 0 ≤ x) (h3 : x < 64) : bits .or .i64 (c * 64) x = c * 64 + x := by
 obtain ⟨n, rfl⟩ := Int.eq_ofNat_of_zero_le h0
 obtain ⟨m, rfl⟩ := Int.eq_ofNat_of_zero_le h2
 have := i64_or_nat (n * 64) m (by omega) (by omega)
 rw [show ((n * 64 : Nat) : Int) = (n : Int) * 64 by omega] at this
 rw [this]
 have h := Nat.two_pow_add_eq_or_of_lt (i := 6) (b := m) (by omega) n
 rw [show n * 64 = 2 ^ 6 * n by omega, ← h]
 omega
theorem s_at (s : ByteArray) (p : Nat) (hp : p < s.size) : ((s[p]'hp).toNat : Int) = byteAt (ints s) p := by
 unfold byteAt
 rw [ints_getD s p hp]
theorem byte_wrap {b : Int} (h : 0 ≤ b ∧ b ≤ 255) : wrap64 b = b := by
 unfold wrap64
 omega
def accU (t : List Int) (p : Nat) (c : Int) : Nat → Int
 | 0 => c
 | k + 1 => accU t p c k * 64 + byteAt t (p + (k + 1)) % 64
theorem acc_bd (t : List Int) (p : Nat) (c : Int) (h : 0 ≤ c ∧ c ≤ 31) : ∀ n, n ≤ 3 → 0 ≤ accU t p c n ∧ accU t p c n ≤ 32 * 64 ^ n - 1 := by
 have e1 : accU t p c 1 = c * 64 + byteAt t (p + 1) % 64 := rfl
 have e2 : accU t p c 2 = (c * 64 + byteAt t (p + 1) % 64) * 64 + byteAt t (p + 2) % 64 := rfl
 have e3 : accU t p c 3 = ((c * 64 + byteAt t (p + 1) % 64) * 64 + byteAt t (p + 2) % 64) * 64 + byteAt t (p + 3) % 64 := rfl
 intro n hn
 match n, hn with
 | 0, _ => exact ⟨h.1, by show c ≤ _; omega⟩
 | 1, _ => rw [e1]; omega
 | 2, _ => rw [e2]; omega
 | 3, _ => rw [e3]; omega
def runeM (t : List Int) (p : Nat) (many : Nat) (least c : Int) : Int × Nat :=
 if (∀ k, k < many → contAt t (p + (k + 1)) = true) ∧ least ≤ accU t p c many ∧ letterOk (accU t p c many) = true then (accU t p c many, many + 1) else (0, 0)
theorem rune_low1 (s : ByteArray) (p : Nat) (w : World) (hp : p < s.size) (b : Int) (hb : byteAt (ints s) p = b) (h0 : 0 ≤ b ∧ b ≤ 255) (hlow : b < 128) :
    Calls Tryz.prog 37 #[.string s, .int .i64 p] w fun x w' => x = .returned (.tuple #[.int .i64 b, .int .i64 1]) ∧ w = w' := by
 have e0 := s_at s p hp
 rw [hb] at e0
 have e1 := byte_wrap h0
 have hpi : (p : Int) < s.size := by omega
 go_enter Tryz.func37, Tryz.ntmps37
 go_wp2
 go_ret2
 exact ⟨rfl, rfl⟩
theorem rune_bad1 (s : ByteArray) (p : Nat) (w : World) (hp : p < s.size) (b : Int) (hb : byteAt (ints s) p = b) (h0 : 0 ≤ b ∧ b ≤ 255) (hlow : 128 ≤ b) (hbad : b < 192 ∨ 248 ≤ b) :
    Calls Tryz.prog 37 #[.string s, .int .i64 p] w fun x w' => x = .returned (.tuple #[.int .i64 0, .int .i64 0]) ∧ w = w' := by
 have e0 := s_at s p hp
 rw [hb] at e0
 have e1 := byte_wrap h0
 have hpi : (p : Int) < s.size := by omega
 rcases hbad with hbad | hbad
 · go_enter Tryz.func37, Tryz.ntmps37
   go_wp2
   go_ret2
   exact ⟨rfl, rfl⟩
 · go_enter Tryz.func37, Tryz.ntmps37
   go_wp2
   go_ret2
   exact ⟨rfl, rfl⟩
theorem rune_more1 (s : ByteArray) (p : Nat) (w : World) (hp : p < s.size) (hs : s.size ≤ 1000000000) (b : Int) (hb : byteAt (ints s) p = b) (h0 : 0 ≤ b ∧ b ≤ 255) (hlo : 192 ≤ b) (hhi : b < 224) :
    Calls Tryz.prog 37 #[.string s, .int .i64 p] w fun x w' => x = .returned (.tuple #[.int .i64 (runeM (ints s) p 1 128 (b % 32)).1, .int .i64 ((runeM (ints s) p 1 128 (b % 32)).2 : Nat)]) ∧ w = w' := by
 have e0 := s_at s p hp
 rw [hb] at e0
 have e1 := byte_wrap h0
 have hpi : (p : Int) < s.size := by omega
 have em : bits .and .i64 b 31 = b % 32 := and_31 b h0.1 h0.2
 have hbd : ∀ i, 0 ≤ byteAt (ints s) i ∧ byteAt (ints s) i ≤ 255 := byte_bd s
 have HB : Hid (∀ i, 0 ≤ byteAt (ints s) i ∧ byteAt (ints s) i ≤ 255) := hbd
 clear hbd
 obtain ⟨c0, hc0⟩ : ∃ c, b % 32 = c := ⟨_, rfl⟩
 have hcb : 0 ≤ c0 ∧ c0 ≤ 31 := by omega
 rw [hc0] at em ⊢
 go_enter Tryz.func37, Tryz.ntmps37
 go_wp2
 go_loopw [6, 9] (fun c i wr => ∃ n : Nat, i = .int .i64 ((n : Int) + 1) ∧ n ≤ 1 ∧ c = .int .i64 (accU (ints s) p c0 n) ∧ Hid (∀ k, k < n → contAt (ints s) (p + (k + 1)) = true) ∧ wr = w) (fun c i _ => 1 + 1 - (intOf i).toNat)
 case atStart => exact ⟨0, rfl, by omega, rfl, fun k hk => absurd hk (by omega), rfl⟩
 case round =>
  obtain ⟨n, rfl, hn, rfl, HC, rfl⟩ := hrel
  have hab := acc_bd (ints s) p c0 hcb n (by omega)
  have hab2 : 0 ≤ accU (ints s) p c0 n ∧ accU (ints s) p c0 n ≤ 10000000 := by
   refine ⟨hab.1, ?_⟩
   have : (64 : Int) ^ n ≤ 64 ^ 3 := by
    have := Nat.pow_le_pow_right (n := 64) (by decide) (show n ≤ 3 by omega)
    exact_mod_cast this
   omega
  obtain ⟨A, hA⟩ : ∃ A, accU (ints s) p c0 n = A := ⟨_, rfl⟩
  rw [hA] at hab2 ⊢
  have HA : Hid (accU (ints s) p c0 n = A) := hA
  clear hab hA
  by_cases hnM : n < 1
  · have hsmall : A ≤ 131071 := by
      have h1 := acc_bd (ints s) p c0 hcb n (by omega)
      rw [HA.out] at h1
      have : (64 : Int) ^ n ≤ 64 ^ 2 := by
       have := Nat.pow_le_pow_right (n := 64) (by decide) (show n ≤ 2 by omega)
       exact_mod_cast this
      omega
    have hM1 : (n : Int) + 1 ≤ 1 := by omega
    have HNM : Hid (n < 1) := hnM
    clear hnM
    by_cases hin : p + (n + 1) < s.size
    · have hini : (p : Int) + ((n : Int) + 1) < s.size := by omega
      have e2 := s_at s (p + (n + 1)) hin
      obtain ⟨b1, hb1⟩ : ∃ b1, byteAt (ints s) (p + (n + 1)) = b1 := ⟨_, rfl⟩
      have hbb := HB.out (p + (n + 1))
      rw [hb1] at e2 hbb
      have a1 := and_192 b1 hbb.1 hbb.2
      have a2 := and_63 b1 hbb.1 hbb.2
      have a3 := or_64 A (b1 % 64) hab2.1 (by omega) (by omega) (by omega)
      by_cases hcont : b1 / 64 * 64 = 128
      · have HC1 : Hid (contAt (ints s) (p + (n + 1)) = true) := by show _ = _; unfold contAt; rw [hb1]; exact decide_eq_true (by omega)
        go_wp2
        go_roundw
        case rel =>
         refine ⟨n + 1, by go_num, by omega, ?_, fun k hk => ?_, trivial⟩
         · rw [accU, HA.out, hb1]
         · rcases Nat.lt_or_ge k n with h | h
           · exact HC.out k h
           · obtain rfl : k = n := by omega
             exact HC1.out
        case measure => simp [intOf]; omega
      · have HR : Hid (runeM (ints s) p 1 128 c0 = (0, 0)) := by
          show _ = _
          unfold runeM
          refine if_neg fun h => ?_
          have := h.1 n HNM.out
          unfold contAt at this
          rw [hb1] at this
          have := of_decide_eq_true this
          omega
        have hne : (b1 / 64 * 64 != 128) = true := by simp [hcont]
        go_wp2
        go_ret2
        rw [HR.out]
        exact ⟨rfl, rfl⟩
    · have hini : ¬ ((p : Int) + ((n : Int) + 1) < s.size) := by omega
      have HR : Hid (runeM (ints s) p 1 128 c0 = (0, 0)) := by
       show _ = _
       unfold runeM
       refine if_neg fun h => ?_
       have h1 := h.1 n HNM.out
       have h2 : byteAt (ints s) (p + (n + 1)) = 0 := byte_past s (p + (n + 1)) (by omega)
       unfold contAt at h1
       rw [h2] at h1
       exact absurd (of_decide_eq_true h1) (by decide)
      go_wp2
      go_ret2
      rw [HR.out]
      exact ⟨rfl, rfl⟩
  · obtain rfl : n = 1 := by omega
    have hLt := letter_any A hab2.1
    by_cases hl : 128 ≤ A
    · cases hlet : letterOk A with
      | true =>
       have HR : Hid (runeM (ints s) p 1 128 c0 = (A, 1 + 1)) := by
        show _ = _
        unfold runeM
        rw [HA.out, if_pos ⟨HC.out, hl, hlet⟩]
       rw [hlet] at hLt
       go_wp2_with (go_at_call 55; refine (hLt _).mono ?_; rintro x w' ⟨rfl, rfl⟩)
       go_ret2
       rw [HR.out]
       exact ⟨rfl, rfl⟩
      | false =>
       have HR : Hid (runeM (ints s) p 1 128 c0 = (0, 0)) := by
        show _ = _
        unfold runeM
        rw [HA.out, if_neg (fun h => by rw [hlet] at h; cases h.2.2)]
       rw [hlet] at hLt
       go_wp2_with (go_at_call 55; refine (hLt _).mono ?_; rintro x w' ⟨rfl, rfl⟩)
       go_ret2
       rw [HR.out]
       exact ⟨rfl, rfl⟩
    · have HR : Hid (runeM (ints s) p 1 128 c0 = (0, 0)) := by
        show _ = _
        unfold runeM
        rw [HA.out, if_neg (fun h => hl h.2.1)]
      go_wp2
      go_ret2
      rw [HR.out]
      exact ⟨rfl, rfl⟩
theorem rune_more2 (s : ByteArray) (p : Nat) (w : World) (hp : p < s.size) (hs : s.size ≤ 1000000000) (b : Int) (hb : byteAt (ints s) p = b) (h0 : 0 ≤ b ∧ b ≤ 255) (hlo : 224 ≤ b) (hhi : b < 240) :
    Calls Tryz.prog 37 #[.string s, .int .i64 p] w fun x w' => x = .returned (.tuple #[.int .i64 (runeM (ints s) p 2 2048 (b % 16)).1, .int .i64 ((runeM (ints s) p 2 2048 (b % 16)).2 : Nat)]) ∧ w = w' := by
 have e0 := s_at s p hp
 rw [hb] at e0
 have e1 := byte_wrap h0
 have hpi : (p : Int) < s.size := by omega
 have em : bits .and .i64 b 15 = b % 16 := and_15 b h0.1 h0.2
 have hbd : ∀ i, 0 ≤ byteAt (ints s) i ∧ byteAt (ints s) i ≤ 255 := byte_bd s
 have HB : Hid (∀ i, 0 ≤ byteAt (ints s) i ∧ byteAt (ints s) i ≤ 255) := hbd
 clear hbd
 obtain ⟨c0, hc0⟩ : ∃ c, b % 16 = c := ⟨_, rfl⟩
 have hcb : 0 ≤ c0 ∧ c0 ≤ 31 := by omega
 rw [hc0] at em ⊢
 go_enter Tryz.func37, Tryz.ntmps37
 go_wp2
 go_loopw [6, 9] (fun c i wr => ∃ n : Nat, i = .int .i64 ((n : Int) + 1) ∧ n ≤ 2 ∧ c = .int .i64 (accU (ints s) p c0 n) ∧ Hid (∀ k, k < n → contAt (ints s) (p + (k + 1)) = true) ∧ wr = w) (fun c i _ => 2 + 1 - (intOf i).toNat)
 case atStart => exact ⟨0, rfl, by omega, rfl, fun k hk => absurd hk (by omega), rfl⟩
 case round =>
  obtain ⟨n, rfl, hn, rfl, HC, rfl⟩ := hrel
  have hab := acc_bd (ints s) p c0 hcb n (by omega)
  have hab2 : 0 ≤ accU (ints s) p c0 n ∧ accU (ints s) p c0 n ≤ 10000000 := by
   refine ⟨hab.1, ?_⟩
   have : (64 : Int) ^ n ≤ 64 ^ 3 := by
    have := Nat.pow_le_pow_right (n := 64) (by decide) (show n ≤ 3 by omega)
    exact_mod_cast this
   omega
  obtain ⟨A, hA⟩ : ∃ A, accU (ints s) p c0 n = A := ⟨_, rfl⟩
  rw [hA] at hab2 ⊢
  have HA : Hid (accU (ints s) p c0 n = A) := hA
  clear hab hA
  by_cases hnM : n < 2
  · have hsmall : A ≤ 131071 := by
      have h1 := acc_bd (ints s) p c0 hcb n (by omega)
      rw [HA.out] at h1
      have : (64 : Int) ^ n ≤ 64 ^ 2 := by
       have := Nat.pow_le_pow_right (n := 64) (by decide) (show n ≤ 2 by omega)
       exact_mod_cast this
      omega
    have hM1 : (n : Int) + 1 ≤ 2 := by omega
    have HNM : Hid (n < 2) := hnM
    clear hnM
    by_cases hin : p + (n + 1) < s.size
    · have hini : (p : Int) + ((n : Int) + 1) < s.size := by omega
      have e2 := s_at s (p + (n + 1)) hin
      obtain ⟨b1, hb1⟩ : ∃ b1, byteAt (ints s) (p + (n + 1)) = b1 := ⟨_, rfl⟩
      have hbb := HB.out (p + (n + 1))
      rw [hb1] at e2 hbb
      have a1 := and_192 b1 hbb.1 hbb.2
      have a2 := and_63 b1 hbb.1 hbb.2
      have a3 := or_64 A (b1 % 64) hab2.1 (by omega) (by omega) (by omega)
      by_cases hcont : b1 / 64 * 64 = 128
      · have HC1 : Hid (contAt (ints s) (p + (n + 1)) = true) := by show _ = _; unfold contAt; rw [hb1]; exact decide_eq_true (by omega)
        go_wp2
        go_roundw
        case rel =>
         refine ⟨n + 1, by go_num, by omega, ?_, fun k hk => ?_, trivial⟩
         · rw [accU, HA.out, hb1]
         · rcases Nat.lt_or_ge k n with h | h
           · exact HC.out k h
           · obtain rfl : k = n := by omega
             exact HC1.out
        case measure => simp [intOf]; omega
      · have HR : Hid (runeM (ints s) p 2 2048 c0 = (0, 0)) := by
          show _ = _
          unfold runeM
          refine if_neg fun h => ?_
          have := h.1 n HNM.out
          unfold contAt at this
          rw [hb1] at this
          have := of_decide_eq_true this
          omega
        have hne : (b1 / 64 * 64 != 128) = true := by simp [hcont]
        go_wp2
        go_ret2
        rw [HR.out]
        exact ⟨rfl, rfl⟩
    · have hini : ¬ ((p : Int) + ((n : Int) + 1) < s.size) := by omega
      have HR : Hid (runeM (ints s) p 2 2048 c0 = (0, 0)) := by
       show _ = _
       unfold runeM
       refine if_neg fun h => ?_
       have h1 := h.1 n HNM.out
       have h2 : byteAt (ints s) (p + (n + 1)) = 0 := byte_past s (p + (n + 1)) (by omega)
       unfold contAt at h1
       rw [h2] at h1
       exact absurd (of_decide_eq_true h1) (by decide)
      go_wp2
      go_ret2
      rw [HR.out]
      exact ⟨rfl, rfl⟩
  · obtain rfl : n = 2 := by omega
    have hLt := letter_any A hab2.1
    by_cases hl : 2048 ≤ A
    · cases hlet : letterOk A with
      | true =>
       have HR : Hid (runeM (ints s) p 2 2048 c0 = (A, 2 + 1)) := by
        show _ = _
        unfold runeM
        rw [HA.out, if_pos ⟨HC.out, hl, hlet⟩]
       rw [hlet] at hLt
       go_wp2_with (go_at_call 55; refine (hLt _).mono ?_; rintro x w' ⟨rfl, rfl⟩)
       go_ret2
       rw [HR.out]
       exact ⟨rfl, rfl⟩
      | false =>
       have HR : Hid (runeM (ints s) p 2 2048 c0 = (0, 0)) := by
        show _ = _
        unfold runeM
        rw [HA.out, if_neg (fun h => by rw [hlet] at h; cases h.2.2)]
       rw [hlet] at hLt
       go_wp2_with (go_at_call 55; refine (hLt _).mono ?_; rintro x w' ⟨rfl, rfl⟩)
       go_ret2
       rw [HR.out]
       exact ⟨rfl, rfl⟩
    · have HR : Hid (runeM (ints s) p 2 2048 c0 = (0, 0)) := by
        show _ = _
        unfold runeM
        rw [HA.out, if_neg (fun h => hl h.2.1)]
      go_wp2
      go_ret2
      rw [HR.out]
      exact ⟨rfl, rfl⟩
theorem rune_more3 (s : ByteArray) (p : Nat) (w : World) (hp : p < s.size) (hs : s.size ≤ 1000000000) (b : Int) (hb : byteAt (ints s) p = b) (h0 : 0 ≤ b ∧ b ≤ 255) (hlo : 240 ≤ b) (hhi : b < 248) :
    Calls Tryz.prog 37 #[.string s, .int .i64 p] w fun x w' => x = .returned (.tuple #[.int .i64 (runeM (ints s) p 3 65536 (b % 8)).1, .int .i64 ((runeM (ints s) p 3 65536 (b % 8)).2 : Nat)]) ∧ w = w' := by
 have e0 := s_at s p hp
 rw [hb] at e0
 have e1 := byte_wrap h0
 have hpi : (p : Int) < s.size := by omega
 have em : bits .and .i64 b 7 = b % 8 := and_7 b h0.1 h0.2
 have hbd : ∀ i, 0 ≤ byteAt (ints s) i ∧ byteAt (ints s) i ≤ 255 := byte_bd s
 have HB : Hid (∀ i, 0 ≤ byteAt (ints s) i ∧ byteAt (ints s) i ≤ 255) := hbd
 clear hbd
 obtain ⟨c0, hc0⟩ : ∃ c, b % 8 = c := ⟨_, rfl⟩
 have hcb : 0 ≤ c0 ∧ c0 ≤ 31 := by omega
 rw [hc0] at em ⊢
 go_enter Tryz.func37, Tryz.ntmps37
 go_wp2
 go_loopw [6, 9] (fun c i wr => ∃ n : Nat, i = .int .i64 ((n : Int) + 1) ∧ n ≤ 3 ∧ c = .int .i64 (accU (ints s) p c0 n) ∧ Hid (∀ k, k < n → contAt (ints s) (p + (k + 1)) = true) ∧ wr = w) (fun c i _ => 3 + 1 - (intOf i).toNat)
 case atStart => exact ⟨0, rfl, by omega, rfl, fun k hk => absurd hk (by omega), rfl⟩
 case round =>
  obtain ⟨n, rfl, hn, rfl, HC, rfl⟩ := hrel
  have hab := acc_bd (ints s) p c0 hcb n (by omega)
  have hab2 : 0 ≤ accU (ints s) p c0 n ∧ accU (ints s) p c0 n ≤ 10000000 := by
   refine ⟨hab.1, ?_⟩
   have : (64 : Int) ^ n ≤ 64 ^ 3 := by
    have := Nat.pow_le_pow_right (n := 64) (by decide) (show n ≤ 3 by omega)
    exact_mod_cast this
   omega
  obtain ⟨A, hA⟩ : ∃ A, accU (ints s) p c0 n = A := ⟨_, rfl⟩
  rw [hA] at hab2 ⊢
  have HA : Hid (accU (ints s) p c0 n = A) := hA
  clear hab hA
  by_cases hnM : n < 3
  · have hsmall : A ≤ 131071 := by
      have h1 := acc_bd (ints s) p c0 hcb n (by omega)
      rw [HA.out] at h1
      have : (64 : Int) ^ n ≤ 64 ^ 2 := by
       have := Nat.pow_le_pow_right (n := 64) (by decide) (show n ≤ 2 by omega)
       exact_mod_cast this
      omega
    have hM1 : (n : Int) + 1 ≤ 3 := by omega
    have HNM : Hid (n < 3) := hnM
    clear hnM
    by_cases hin : p + (n + 1) < s.size
    · have hini : (p : Int) + ((n : Int) + 1) < s.size := by omega
      have e2 := s_at s (p + (n + 1)) hin
      obtain ⟨b1, hb1⟩ : ∃ b1, byteAt (ints s) (p + (n + 1)) = b1 := ⟨_, rfl⟩
      have hbb := HB.out (p + (n + 1))
      rw [hb1] at e2 hbb
      have a1 := and_192 b1 hbb.1 hbb.2
      have a2 := and_63 b1 hbb.1 hbb.2
      have a3 := or_64 A (b1 % 64) hab2.1 (by omega) (by omega) (by omega)
      by_cases hcont : b1 / 64 * 64 = 128
      · have HC1 : Hid (contAt (ints s) (p + (n + 1)) = true) := by show _ = _; unfold contAt; rw [hb1]; exact decide_eq_true (by omega)
        go_wp2
        go_roundw
        case rel =>
         refine ⟨n + 1, by go_num, by omega, ?_, fun k hk => ?_, trivial⟩
         · rw [accU, HA.out, hb1]
         · rcases Nat.lt_or_ge k n with h | h
           · exact HC.out k h
           · obtain rfl : k = n := by omega
             exact HC1.out
        case measure => simp [intOf]; omega
      · have HR : Hid (runeM (ints s) p 3 65536 c0 = (0, 0)) := by
          show _ = _
          unfold runeM
          refine if_neg fun h => ?_
          have := h.1 n HNM.out
          unfold contAt at this
          rw [hb1] at this
          have := of_decide_eq_true this
          omega
        have hne : (b1 / 64 * 64 != 128) = true := by simp [hcont]
        go_wp2
        go_ret2
        rw [HR.out]
        exact ⟨rfl, rfl⟩
    · have hini : ¬ ((p : Int) + ((n : Int) + 1) < s.size) := by omega
      have HR : Hid (runeM (ints s) p 3 65536 c0 = (0, 0)) := by
       show _ = _
       unfold runeM
       refine if_neg fun h => ?_
       have h1 := h.1 n HNM.out
       have h2 : byteAt (ints s) (p + (n + 1)) = 0 := byte_past s (p + (n + 1)) (by omega)
       unfold contAt at h1
       rw [h2] at h1
       exact absurd (of_decide_eq_true h1) (by decide)
      go_wp2
      go_ret2
      rw [HR.out]
      exact ⟨rfl, rfl⟩
  · obtain rfl : n = 3 := by omega
    have hLt := letter_any A hab2.1
    by_cases hl : 65536 ≤ A
    · cases hlet : letterOk A with
      | true =>
       have HR : Hid (runeM (ints s) p 3 65536 c0 = (A, 3 + 1)) := by
        show _ = _
        unfold runeM
        rw [HA.out, if_pos ⟨HC.out, hl, hlet⟩]
       rw [hlet] at hLt
       go_wp2_with (go_at_call 55; refine (hLt _).mono ?_; rintro x w' ⟨rfl, rfl⟩)
       go_ret2
       rw [HR.out]
       exact ⟨rfl, rfl⟩
      | false =>
       have HR : Hid (runeM (ints s) p 3 65536 c0 = (0, 0)) := by
        show _ = _
        unfold runeM
        rw [HA.out, if_neg (fun h => by rw [hlet] at h; cases h.2.2)]
       rw [hlet] at hLt
       go_wp2_with (go_at_call 55; refine (hLt _).mono ?_; rintro x w' ⟨rfl, rfl⟩)
       go_ret2
       rw [HR.out]
       exact ⟨rfl, rfl⟩
    · have HR : Hid (runeM (ints s) p 3 65536 c0 = (0, 0)) := by
        show _ = _
        unfold runeM
        rw [HA.out, if_neg (fun h => hl h.2.1)]
      go_wp2
      go_ret2
      rw [HR.out]
      exact ⟨rfl, rfl⟩
theorem runeM_1 {t : List Int} {p : Nat} (hb : ∀ i, 0 ≤ byteAt t i ∧ byteAt t i ≤ 255) (h1 : 192 ≤ byteAt t p) (h2 : byteAt t p < 224) : runeAt t p = runeM t p 1 128 (byteAt t p % 32) := by
 have e1 : accU t p (byteAt t p % 32) 1 = byteAt t p % 32 * 64 + byteAt t (p + 1) % 64 := rfl
 have q1 := hb (p + 1)
 unfold runeAt runeM
 rw [e1, if_neg (by omega)]
 by_cases c1 : contAt t (p + 1) = true
 · rw [if_pos (by rw [c1, decide_eq_true (show byteAt t p / 32 = 6 by omega)]; rfl)]
   split
   · rename_i hl
     have hlet : letterOk (byteAt t p % 32 * 64 + byteAt t (p + 1) % 64) = true := by
      unfold letterOk
      simp only [Bool.and_eq_true, Bool.or_eq_true, decide_eq_true_eq]
      omega
     rw [if_pos ⟨fun k hk => (by obtain rfl : k = 0 := (by omega); exact c1), hl, hlet⟩]
   · rename_i hl
     rw [if_neg fun h => hl h.2.1]
 · rw [if_neg (fun h => c1 (Bool.and_eq_true _ _ ▸ h : _ ∧ _).2), decide_eq_false (show ¬ byteAt t p / 16 = 14 by omega), decide_eq_false (show ¬ byteAt t p / 8 = 30 by omega)]
   rw [if_neg (by simp), if_neg (by simp), if_neg fun h => c1 (h.1 0 (by omega))]
theorem runeM_2 {t : List Int} {p : Nat} (h1 : 224 ≤ byteAt t p) (h2 : byteAt t p < 240) : runeAt t p = runeM t p 2 2048 (byteAt t p % 16) := by
 have e1 : accU t p (byteAt t p % 16) 2 = byteAt t p % 16 * 4096 + byteAt t (p + 1) % 64 * 64 + byteAt t (p + 2) % 64 := by
  show (byteAt t p % 16 * 64 + byteAt t (p + 1) % 64) * 64 + byteAt t (p + 2) % 64 = _
  omega
 unfold runeAt runeM
 rw [e1, if_neg (by omega), decide_eq_false (show ¬ byteAt t p / 32 = 6 by omega), decide_eq_true (show byteAt t p / 16 = 14 by omega), decide_eq_false (show ¬ byteAt t p / 8 = 30 by omega), if_neg (by simp)]
 generalize byteAt t p % 16 * 4096 + byteAt t (p + 1) % 64 * 64 + byteAt t (p + 2) % 64 = A
 by_cases c1 : contAt t (p + 1) = true ∧ contAt t (p + 2) = true
 · rw [if_pos (by rw [c1.1, c1.2]; rfl)]
   by_cases hl : 2048 ≤ A ∧ letterOk A = true
   · rw [if_pos (by rw [hl.2, decide_eq_true hl.1]; rfl), if_pos ⟨fun k hk => by
       match k, hk with
       | 0, _ => exact c1.1
       | 1, _ => exact c1.2, hl.1, hl.2⟩]
   · rw [if_neg (fun h => hl (by simpa using h)), if_neg fun h => hl h.2]
 · rw [if_neg (fun h => c1 (by simpa using h)), if_neg (by simp), if_neg fun h => c1 ⟨h.1 0 (by omega), h.1 1 (by omega)⟩]
theorem runeM_3 {t : List Int} {p : Nat} (h1 : 240 ≤ byteAt t p) (h2 : byteAt t p < 248) : runeAt t p = runeM t p 3 65536 (byteAt t p % 8) := by
 have e1 : accU t p (byteAt t p % 8) 3 = byteAt t p % 8 * 262144 + byteAt t (p + 1) % 64 * 4096 + byteAt t (p + 2) % 64 * 64 + byteAt t (p + 3) % 64 := by
  show ((byteAt t p % 8 * 64 + byteAt t (p + 1) % 64) * 64 + byteAt t (p + 2) % 64) * 64 + byteAt t (p + 3) % 64 = _
  omega
 unfold runeAt runeM
 rw [e1, if_neg (by omega), decide_eq_false (show ¬ byteAt t p / 32 = 6 by omega), decide_eq_false (show ¬ byteAt t p / 16 = 14 by omega), decide_eq_true (show byteAt t p / 8 = 30 by omega), if_neg (by simp), if_neg (by simp)]
 generalize byteAt t p % 8 * 262144 + byteAt t (p + 1) % 64 * 4096 + byteAt t (p + 2) % 64 * 64 + byteAt t (p + 3) % 64 = A
 by_cases c1 : contAt t (p + 1) = true ∧ contAt t (p + 2) = true ∧ contAt t (p + 3) = true
 · rw [if_pos (by rw [c1.1, c1.2.1, c1.2.2]; rfl)]
   by_cases hl : 65536 ≤ A ∧ letterOk A = true
   · rw [if_pos (by rw [hl.2, decide_eq_true hl.1]; rfl), if_pos ⟨fun k hk => by
       match k, hk with
       | 0, _ => exact c1.1
       | 1, _ => exact c1.2.1
       | 2, _ => exact c1.2.2, hl.1, hl.2⟩]
   · rw [if_neg (fun h => hl (by simpa using h)), if_neg fun h => hl h.2]
 · rw [if_neg (fun h => c1 (by simp at h; exact ⟨h.1.1, h.1.2, h.2⟩)), if_neg fun h => c1 ⟨h.1 0 (by omega), h.1 1 (by omega), h.1 2 (by omega)⟩]
theorem rune_none {t : List Int} {p : Nat} (h1 : 128 ≤ byteAt t p) (h2 : byteAt t p < 192 ∨ 248 ≤ byteAt t p) : runeAt t p = (0, 0) := by
 unfold runeAt
 rw [if_neg (by omega), decide_eq_false (show ¬ byteAt t p / 32 = 6 by omega), decide_eq_false (show ¬ byteAt t p / 16 = 14 by omega), decide_eq_false (show ¬ byteAt t p / 8 = 30 by omega), if_neg (by simp), if_neg (by simp), if_neg (by simp)]
theorem runes : Runes := fun s p w hp hs => by
 have hbd := byte_bd s
 have h0 := hbd p
 by_cases c1 : byteAt (ints s) p < 128
 · have e : runeAt (ints s) p = (byteAt (ints s) p, 1) := by unfold runeAt; rw [if_pos c1]
   rw [e]
   exact rune_low1 s p w hp _ rfl h0 c1
 by_cases c2 : byteAt (ints s) p < 192 ∨ 248 ≤ byteAt (ints s) p
 · rw [rune_none (by omega) c2]
   exact rune_bad1 s p w hp _ rfl h0 (by omega) c2
 by_cases c3 : byteAt (ints s) p < 224
 · rw [runeM_1 hbd (by omega) c3]
   exact rune_more1 s p w hp hs _ rfl h0 (by omega) c3
 by_cases c4 : byteAt (ints s) p < 240
 · rw [runeM_2 (by omega) c4]
   exact rune_more2 s p w hp hs _ rfl h0 (by omega) c4
 · rw [runeM_3 (by omega) (by omega)]
   exact rune_more3 s p w hp hs _ rfl h0 (by omega) (by omega)
end Go.Proofs.YtnngalkdjgjmbaaGreat

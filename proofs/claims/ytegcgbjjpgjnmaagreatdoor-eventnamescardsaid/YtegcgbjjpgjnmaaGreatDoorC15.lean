/-
  Order, by a contract that tells where the value lies.
  The letters of bytes and the bytes of letters, as plain functions on lists of integers: what base.Encode and base.Decode tell.
  The small functions of base, by their contracts.
  Which letters a name may have, asked by a closure, and whether a text is of such letters: by contracts.
  Servers' names, local names and types: the program's own, and the document's, by contracts.
  The parts of a name with a sign ahead, as a plain function, and where its colon stands.
  strings.CutPrefix and strings.Cut at one sign, by contracts.
  Names taken apart: the program's own apart, User, Room and Home, by contracts.
  Servers' names, local names and types, as the document answers: by contracts.
  Names taken apart as the document answers, by contracts; and where a name is at home.
  spread and gather of base, by their contracts.
-/
import Derived.Test.YtegcgbjjpgjnmaaGreatDoorC14
import Derived.Laws.BitsLemmas
import Derived.Lib.Walk
import Derived.BigRegion
import Derived.RegionTactic
set_option maxRecDepth 100000
set_option maxHeartbeats 16000000
namespace Go.Proofs.YtegcgbjjpgjnmaaGreatDoor
open Go.RowKit
theorem order_new {w : World} {O : Nat → Prop} {j : J} {k i : Int} {t : ByteArray} {pk pl : Option Addr} {nk ck nl cl : Nat} (hO : ∀ x, O x → x < w.heap.size) (hsz : szJ 12 j = true)
    (hj : isJ O w j [.int .i64 k, .int .i64 i, .string t, .slice pk nk ck, .slice pl nl cl]) :
    Calls Tryz.prog 32 #[.agg #[.int .i64 k, .int .i64 i, .string t, .slice pk nk ck, .slice pl nl cl]] w fun x w' => (∃ kr ir tr pr nr cr qr mr dr, x = .returned (.agg #[.int .i64 kr, .int .i64 ir, .string tr, .slice pr nr cr, .slice qr mr dr]) ∧ isJ (fun b => O b ∨ New w w' b) w' (ordT j) [.int .i64 kr, .int .i64 ir, .string tr, .slice pr nr cr, .slice qr mr dr]) ∧ Below w.heap.size w w' := by
 have hbB : Below w.heap.size w ((w.alloc (.cells #[.int .i64 k, .int .i64 i, .string t, .slice pk nk ck, .slice pl nl cl] 25)).alloc (.cells #[.int .i64 0, .int .i64 0, .string ⟨#[]⟩, .slice none 0 0, .slice none 0 0] 25)) := ((Below.refl _ _).alloc (Nat.le_refl _) _).alloc (by simp) _
 obtain ⟨wB, hwB⟩ : ∃ wB, wB = ((w.alloc (.cells #[.int .i64 k, .int .i64 i, .string t, .slice pk nk ck, .slice pl nl cl] 25)).alloc (.cells #[.int .i64 0, .int .i64 0, .string ⟨#[]⟩, .slice none 0 0, .slice none 0 0] 25)) := ⟨_, rfl⟩
 have hA : wB.heap[w.heap.size]? = some (.cells #[.int .i64 k, .int .i64 i, .string t, .slice pk nk ck, .slice pl nl cl] 25 (0, 0)) := by
  rw [hwB, Below.heap_alloc _ _ _ (by simp)]
  exact heap_alloc_new _ _
 have hR : wB.heap[w.heap.size + 1]? = some (.cells #[.int .i64 0, .int .i64 0, .string ⟨#[]⟩, .slice none 0 0, .slice none 0 0] 25 (0, 0)) := by rw [hwB]; exact two_new _ _
 rw [← hwB] at hbB
 have hOB : ∀ x, O x → x < wB.heap.size := fun x hx => Nat.lt_of_lt_of_le (hO x hx) hbB.size
 have hjB := hj.carry (O' := O) (w' := wB) fun x hx => ⟨hx, hbB.block x (hO x hx)⟩
 have hG := good_any hOB hsz hjB
 have hsA : w.heap.size < wB.heap.size := (Array.getElem?_eq_some_iff.1 hA).1
 have hsR : w.heap.size + 1 < wB.heap.size := (Array.getElem?_eq_some_iff.1 hR).1
 have c0 := five_c0 hA
 cases hg : goodJ 12 j with
 | false =>
  have HZ : Hid (ordT j = J.zero) := by show _ = _; unfold ordT; rw [hg]; rfl
  rw [hg] at hG
  rw [hwB] at hG
  clear hj hjB c0
  go_enter Tryz.func32, Tryz.ntmps32
  go_wp2_with (go_at_call 64; refine hG.mono ?_; rintro x w2 ⟨rfl, hb2⟩
               rw [← hwB] at hb2
               have hres := (hb2.block _ hsR).trans hR
               have i0 := five_c0 hres; have i1 := five_c1 hres; have i2 := five_c2 hres; have i3 := five_c3 hres; have i4 := five_c4 hres
               have z0 := five_fz hres 0; have z1 := five_fz hres 1; have z2 := five_fz hres 2; have z3 := five_fz hres 3; have z4 := five_fz hres 4)
  have h5 := set5_heap hres (.int .i64 0) (.int .i64 0) (.string ⟨#[]⟩) (.slice none 0 0) (.slice none 0 0)
  have HK5 : Keep (One (w.heap.size + 1)) w2 _ := set5_keep w2 (w.heap.size + 1) (.int .i64 0) (.int .i64 0) (.string ⟨#[]⟩) (.slice none 0 0) (.slice none 0 0)
  unfold set5 at h5 HK5
  have k0 := five_c0 h5; have k1 := five_c1 h5; have k2 := five_c2 h5; have k3 := five_c3 h5; have k4 := five_c4 h5
  refine bodyPost_ret (v := .agg #[.int .i64 0, .int .i64 0, .string ⟨#[]⟩, .slice none 0 0, .slice none 0 0]) (by simp [results, Tryz.results32, go_sem, k0, k1, k2, k3, k4]) rfl ?_
  refine ⟨⟨_, _, _, _, _, _, _, _, _, rfl, ?_⟩, below_then2 (below_in hbB hb2) HK5⟩
  rw [HZ.out]
  exact isJ_zero _ _
 | true =>
  have HZ : Hid (ordT j = ord j) := by show _ = _; unfold ordT; rw [hg]; rfl
  have HGG : Hid (goodJ 12 j = true) := hg
  have HJ : Hid (isJ O wB j [.int .i64 k, .int .i64 i, .string t, .slice pk nk ck, .slice pl nl cl]) := hjB
  rw [hg] at hG
  rw [hwB] at hG
  clear hj hjB hg c0
  go_enter Tryz.func32, Tryz.ntmps32
  go_wp2_with (first
   | (go_at_call 64; refine hG.mono ?_; rintro x w2 ⟨rfl, hb2⟩
      rw [← hwB] at hb2
      have hA2 := (hb2.block _ hsA).trans hA
      have c0 := five_c0 hA2; have c1 := five_c1 hA2; have c2 := five_c2 hA2; have c3 := five_c3 hA2; have c4 := five_c4 hA2
      have hArr := arrs 12 w2 O j k i t pk pl nk ck nl cl (fun x hx => Nat.lt_of_lt_of_le (hOB x hx) hb2.size) HGG.out hsz (HJ.out.carry fun x hx => ⟨hx, hb2.block x (hOB x hx)⟩))
   | (go_at_call 65; refine hArr.mono ?_; rintro x w4 ⟨kr, ir, tr, pr, nr, cr, qr, mr, dr, rfl, hjr, hb4⟩
      have hB4 := below_in hb2 hb4
      have hres := (hB4.block _ hsR).trans hR
      have i0 := five_c0 hres; have i1 := five_c1 hres; have i2 := five_c2 hres; have i3 := five_c3 hres; have i4 := five_c4 hres
      have z0 := five_fz hres 0; have z1 := five_fz hres 1; have z2 := five_fz hres 2; have z3 := five_fz hres 3; have z4 := five_fz hres 4))
  have h5 := set5_heap hres (.int .i64 kr) (.int .i64 ir) (.string tr) (.slice pr nr cr) (.slice qr mr dr)
  have HK5 : Keep (One (w.heap.size + 1)) w4 _ := set5_keep w4 (w.heap.size + 1) (.int .i64 kr) (.int .i64 ir) (.string tr) (.slice pr nr cr) (.slice qr mr dr)
  unfold set5 at h5 HK5
  have k0 := five_c0 h5; have k1 := five_c1 h5; have k2 := five_c2 h5; have k3 := five_c3 h5; have k4 := five_c4 h5
  refine bodyPost_ret (v := .agg #[.int .i64 kr, .int .i64 ir, .string tr, .slice pr nr cr, .slice qr mr dr]) (by simp [results, Tryz.results32, go_sem, k0, k1, k2, k3, k4]) rfl ?_
  refine ⟨⟨_, _, _, _, _, _, _, _, _, rfl, ?_⟩, below_then2 (below_in hbB hB4) HK5⟩
  rw [HZ.out]
  refine hjr.carry fun x hx => ?_
  have hlt : x < w4.heap.size ∧ x ≠ w.heap.size + 1 := by
   have s2 := hb2.size
   have s4 := hb4.size
   rcases hx with hx | hx
   · have := hO x hx
     exact ⟨by have := hbB.size; omega, by omega⟩
   · have := hx.1
     exact ⟨hx.2, by omega⟩
  have hin : O x ∨ w.heap.size ≤ x := by
   rcases hx with hx | hx
   · exact .inl hx
   · have := hx.1
     have := hb2.size
     have := hbB.size
     exact .inr (by omega)
  exact ⟨hin.elim .inl fun h => .inr ⟨h, Nat.lt_of_lt_of_le hlt.1 HK5.size⟩, HK5.block x hlt.1 (by unfold One; exact hlt.2)⟩
end Go.Proofs.YtegcgbjjpgjnmaaGreatDoor
namespace Go.Proofs.YtegcgbjjpgjnmaaGreatDoor.Id
def num (c : Int) : Int :=
 if 65 ≤ c ∧ c ≤ 90 then c - 65 else if 97 ≤ c ∧ c ≤ 122 then c - 71 else if 48 ≤ c ∧ c ≤ 57 then c + 4
 else if c = 43 then 62 else if c = 47 then 63 else -1
def num0 (c : Int) : Int := if 0 ≤ num c then num c else 0
def isLet (c : Int) : Bool := decide (0 ≤ num c)
theorem num_hi (c : Int) : num c ≤ 63 := by unfold num; repeat' split
                                            all_goals omega
theorem num0_lo (c : Int) : 0 ≤ num0 c := by unfold num0; split <;> omega
theorem num0_hi (c : Int) : num0 c ≤ 63 := by have := num_hi c; unfold num0; split <;> omega
def byts (n : Int) : Int := if n ≤ 1 then 0 else n - 1
theorem byts_bd (n : Int) (h1 : n ≤ 4) : 0 ≤ byts n ∧ byts n ≤ 3 := by unfold byts; split <;> omega
def ints (s : ByteArray) : List Int := s.data.toList.map fun c => (c.toNat : Int)
theorem ints_length (s : ByteArray) : (ints s).length = s.size := by simp [ints]
theorem ints_getD (s : ByteArray) (k : Nat) (h : k < s.size) : (ints s).getD k 0 = (s[k].toNat : Int) := by
 have h' : k < s.data.toList.length := by simpa using h
 simp only [ints, List.getD_eq_getElem?_getD, List.getElem?_map, List.getElem?_eq_getElem h', Option.map_some, Option.getD_some]
 rfl
theorem ints_bd (s : ByteArray) : ∀ x ∈ ints s, 0 ≤ x ∧ x ≤ 255 := by
 intro x hx
 simp only [ints, List.mem_map] at hx
 obtain ⟨c, _, rfl⟩ := hx
 have := c.toNat_lt
 omega
theorem ints_extract (s : ByteArray) (k : Nat) : ints (s.extract k s.size) = (ints s).drop k := by
 simp only [ints, ByteArray.data_extract, Array.toList_extract, List.extract_eq_take_drop, List.map_take, List.map_drop]
 rw [List.take_of_length_le]
 have : (List.drop k (List.map (fun c : UInt8 => (c.toNat : Int)) s.data.toList)).length = s.size - k := by simp
 omega
def spar (zs : List Int) : Int :=
 if zs.length % 4 = 2 then num0 (zs.getD (zs.length - 1) 0) % 16 else if zs.length % 4 = 3 then num0 (zs.getD (zs.length - 1) 0) % 4 else 0
def good (zs : List Int) : Nat := (zs.takeWhile isLet).length
def flt (zs : List Int) : Int × Int :=
 if good zs < zs.length then (20, good zs) else if zs.length % 4 = 1 then (22, zs.length) else if spar zs ≠ 0 then (21, zs.length - 1) else (0, 0)
theorem flt_ok (zs : List Int) (h : (flt zs).1 = 0) : good zs = zs.length ∧ zs.length % 4 ≠ 1 ∧ spar zs = 0 := by
 have hl : good zs ≤ zs.length := (List.takeWhile_sublist _).length_le
 unfold flt at h
 split at h
 · simp at h
 split at h
 · simp at h
 split at h
 · simp at h
 · exact ⟨by omega, by assumption, by simp_all⟩
theorem good_at (zs : List Int) (k : Nat) (hk : k < zs.length) (h : ∀ j, j < k → isLet (zs.getD j 0) = true) (hb : isLet (zs.getD k 0) = false) : good zs = k := by
 induction zs generalizing k with
 | nil => simp at hk
 | cons z r ih =>
  cases k with
  | zero => simp at hb; simp [good, hb]
  | succ k =>
   have h0 := h 0 (by omega)
   simp at h0
   have := ih k (by simpa using hk) (fun j hj => by have := h (j + 1) (by omega); simpa using this) (by simpa using hb)
   simp only [good, List.takeWhile_cons, h0, if_true, List.length_cons] at this ⊢
   omega
theorem good_all (zs : List Int) (h : ∀ j, j < zs.length → isLet (zs.getD j 0) = true) : good zs = zs.length := by
 induction zs with
 | nil => rfl
 | cons z r ih =>
  have h0 := h 0 (by simp)
  simp at h0
  have := ih (fun j hj => by have := h (j + 1) (by simpa using hj); simpa using this)
  simp only [good, List.takeWhile_cons, h0, if_true, List.length_cons] at this ⊢
  omega
def dec : List Int → List Int
 | [] => []
 | [_] => []
 | [a, b] => [num0 a * 4 + num0 b / 16]
 | [a, b, c] => [num0 a * 4 + num0 b / 16, num0 b % 16 * 16 + num0 c / 4]
 | a :: b :: c :: d :: r => (num0 a * 4 + num0 b / 16) :: (num0 b % 16 * 16 + num0 c / 4) :: (num0 c % 4 * 64 + num0 d) :: dec r
theorem dec_step (rs : List Int) (m : Nat) (a b c d : Int) (hm1 : 1 ≤ m) (hm : m + 1 = min rs.length 4) (ha : rs.getD 0 0 = a) (hb : rs.getD 1 0 = b) (hc : rs.getD 2 0 = c) (hd : rs.getD 3 0 = d) :
    dec rs = [num0 a * 4 + num0 b / 16, num0 b % 16 * 16 + num0 c / 4, num0 c % 4 * 64 + num0 d].take m ++ dec (rs.drop (m + 1)) := by
 match rs with
 | [] => simp at hm
 | [_] => simp at hm; omega
 | [x, y] => simp at ha hb hc hd hm; subst ha hb hc hd hm; simp [dec]
 | [x, y, z] => simp at ha hb hc hd hm; subst ha hb hc hd hm; simp [dec]
 | x :: y :: z :: u :: r =>
  simp at ha hb hc hd
  have hm3 : m = 3 := by simp at hm; omega
  subst ha hb hc hd hm3
  simp [dec]
theorem dec_length (zs : List Int) : ((dec zs).length : Int) = (zs.length : Int) / 4 * 3 + byts ((zs.length : Int) % 4) := by
 induction zs using dec.induct with
 | case1 => rfl
 | case2 a => simp [dec, byts]
 | case3 a b => simp [dec, byts]
 | case4 a b c => simp [dec, byts]
 | case5 a b c d r ih =>
  simp only [dec, List.length_cons, byts] at ih ⊢
  repeat' split at ih
  all_goals repeat' split
  all_goals omega
theorem dec_pos (zs : List Int) (h : zs.length % 4 ≠ 1) : 0 < (dec zs).length ↔ 0 < zs.length := by
 have h1 := dec_length zs
 unfold byts at h1
 split at h1 <;> omega
end Go.Proofs.YtegcgbjjpgjnmaaGreatDoor.Id
namespace Go.Proofs.YtegcgbjjpgjnmaaGreatDoor.Id
open Go.RowKit
theorem ret_int {k : IntKind} {a b : Int} (h : a = b) : Ending.returned (.int k a) = .returned (.int k b) := by rw [h]
theorem ret_num {a b : Int} {p q : Bool} (h : a = b) (hp : p = q) : Ending.returned (.tuple #[.int .u32 a, .bool p]) = .returned (.tuple #[.int .u32 b, .bool q]) := by rw [h, hp]
theorem bytesOf_any (n : Int) (w : World) (h0 : 0 ≤ n) (h1 : n ≤ 4) :
    Calls Tryz.prog 153 #[.int .i64 n] w fun e w' => e = .returned (.int .i64 (byts n)) ∧ w = w' := by
 go_enter Tryz.func153, Tryz.ntmps153
 go_wp2
 all_goals
  go_ret
  exact ⟨ret_int (by unfold byts; split <;> omega), rfl⟩
theorem bytesOf_pos (m : Int) (w : World) (h0 : 1 ≤ m) (h1 : m ≤ 3) :
    Calls Tryz.prog 153 #[.int .i64 (m + 1)] w fun e w' => e = .returned (.int .i64 m) ∧ w = w' := by
 have h := bytesOf_any (m + 1) w (by omega) (by omega)
 have e : byts (m + 1) = m := by unfold byts; rw [if_neg (by omega)]; omega
 rw [e] at h
 exact h
theorem numW (c : Int) (n : Int) (b : Bool) (h : num c = if b then n else -1) (h0 : 0 ≤ n) (hz : b = false → n = 0) : n = num0 c ∧ b = isLet c := by
 cases b
 · simp [num0, isLet, h, hz rfl]
 · simp [num0, isLet, h, h0]
theorem number_any (c : Int) (w : World) (h0 : 0 ≤ c) (h1 : c ≤ 255) :
    Calls Tryz.prog 172 #[.int .u8 c] w fun e w' => e = .returned (.tuple #[.int .u32 (num0 c), .bool (isLet c)]) ∧ w = w' := by
 by_cases e43 : c = 43
 · subst e43
   go_enter Tryz.func172, Tryz.ntmps172
   go_wp2
   go_ret2
   exact ⟨rfl, rfl⟩
 by_cases e47 : c = 47
 · subst e47
   go_enter Tryz.func172, Tryz.ntmps172
   go_wp2
   go_ret2
   exact ⟨rfl, rfl⟩
 go_enter Tryz.func172, Tryz.ntmps172
 go_wp2
 all_goals
  go_ret2
  refine ⟨(fun h => ret_num h.1 h.2) (numW c _ _ (by unfold num; repeat' split
                                                     all_goals first | omega | (simp_all; done) | (simp_all; omega)) (by first | omega | simp) (by simp)), rfl⟩
theorem ret_bool {a b : Bool} (h : a = b) : Ending.returned (.bool a) = .returned (.bool b) := by rw [h]
theorem liteIndexByte_any (s : ByteArray) (c : Int) (w : World) :
    Calls Tryz.prog 171 #[.string s, .int .u8 c] w fun e w' => e = .returned (.int .i64 (Lib.indexByte s.data.toList c.toNat.toUInt8)) ∧ w = w' := by
 go_enter Tryz.func171, Tryz.ntmps171
 go_wp2
 rw [run_callFunc_extern Tryz.func185 (by kernel_rfl) (by kernel_rfl) (by kernel_rfl) (e := Extern.BytealgIndexByte.indexByte) (by kernel_rfl), Lib.run_indexByteString]
 simp only [Result.andThen]
 rw [Oper.upon_value]
 go_wp2
 go_ret
 exact ⟨rfl, rfl⟩
theorem indexByte_any (s : ByteArray) (c : Int) (w : World) :
    Calls Tryz.prog 150 #[.string s, .int .u8 c] w fun e w' => e = .returned (.int .i64 (Lib.indexByte s.data.toList c.toNat.toUInt8)) ∧ w = w' := by
 go_enter Tryz.func150, Tryz.ntmps150
 go_wp2_with (go_at_call 171; refine (liteIndexByte_any _ _ _).mono ?_; rintro e w' ⟨rfl, rfl⟩)
 go_ret
 exact ⟨rfl, rfl⟩
def kind (o : List UInt8) (c : Int) : Bool := (decide (97 ≤ c) && decide (c ≤ 122)) || (decide (48 ≤ c) && decide (c ≤ 57)) || decide (0 ≤ Lib.indexByte o c.toNat.toUInt8)
theorem letter_clo (o : ByteArray) (c : Int) (B : Nat) (w : World) (hc : w.cell? ⟨B, 0, none⟩ = some (.string o)) (h0 : 0 ≤ c) (h1 : c ≤ 255) :
    Calls Tryz.prog 149 #[.int .u8 c, .pointer (some ⟨B, 0, none⟩)] w fun e w' => e = .returned (.bool (kind o.data.toList c)) ∧ w = w' := by
 go_enter Tryz.func149, Tryz.ntmps149
 go_wp2_with (go_at_call 150; refine (indexByte_any _ _ _).mono ?_; rintro e w' ⟨rfl, rfl⟩)
 all_goals
  go_ret
  refine ⟨ret_bool ?_, rfl⟩
  unfold kind
  rw [Bool.eq_iff_iff]
  simp
  omega
def okText (k : Int → Bool) (m : Int) (s : ByteArray) : Bool := decide (1 ≤ s.size) && decide ((s.size : Int) ≤ m) && (ints s).all k
theorem okText_long (k : Int → Bool) (m : Int) (s : ByteArray) (h : m < s.size) : okText k m s = false := by
 unfold okText; simp; omega
theorem okText_none (k : Int → Bool) (m : Int) (s : ByteArray) (h : s.size = 0) : okText k m s = false := by
 unfold okText; simp [h]
theorem okText_all (k : Int → Bool) (m : Int) (s : ByteArray) (h : 1 ≤ s.size) (h' : (s.size : Int) ≤ m) (ha : ∀ j, j < s.size → k ((ints s).getD j 0) = true) : okText k m s = true := by
 unfold okText
 simp only [h, h', decide_true, Bool.true_and, List.all_eq_true]
 intro x hx
 obtain ⟨i, hi, rfl⟩ := List.mem_iff_getElem.1 hx
 have := ha i (by rw [← ints_length]; exact hi)
 rw [List.getD_eq_getElem?_getD, List.getElem?_eq_getElem hi] at this
 exact this
theorem okText_bad (k : Int → Bool) (m : Int) (s : ByteArray) (j : Nat) (hj : j < s.size) (ha : k ((ints s).getD j 0) = false) : okText k m s = false := by
 unfold okText
 have hj' : j < (ints s).length := by rw [ints_length]; exact hj
 have : (ints s).all k = false := by
  rw [List.all_eq_false]
  refine ⟨(ints s)[j], List.getElem_mem hj', ?_⟩
  rw [List.getD_eq_getElem?_getD, List.getElem?_eq_getElem hj'] at ha
  simpa using ha
 rw [this]; simp
theorem fits_any (s o : ByteArray) (m : Int) (B : Nat) (w : World) (hs : s.size ≤ 140737488351232) (hc : w.cell? ⟨B, 0, none⟩ = some (.string o)) :
    Calls Tryz.prog 122 #[.string s, .int .i64 m, .func (.func 149) #[] #[.pointer (some ⟨B, 0, none⟩)]] w fun e w' => e = .returned (.bool (okText (kind o.data.toList) m s)) ∧ w = w' := by
 by_cases he : s.size = 0
 · have he' : (s.size : Int) = 0 := by omega
   go_enter Tryz.func122, Tryz.ntmps122
   go_wp2
   go_ret
   exact ⟨ret_bool (okText_none _ _ _ he).symm, rfl⟩
 by_cases hm : m < (s.size : Int)
 · go_enter Tryz.func122, Tryz.ntmps122
   go_wp2
   go_ret
   exact ⟨ret_bool (okText_long _ _ _ hm).symm, rfl⟩
 go_enter Tryz.func122, Tryz.ntmps122
 go_wp2
 go_loop [19] (fun i => ∃ k : Nat, k ≤ s.size ∧ i = .int .i64 k ∧ ∀ j, j < k → kind o.data.toList ((ints s).getD j 0) = true) (fun i => s.size - (intOf i).toNat)
 case atStart => exact ⟨0, Nat.zero_le _, rfl, fun j hj => by omega⟩
 case round =>
  obtain ⟨k, hk, rfl, hall⟩ := hrel
  have HA : Hid (∀ j, j < k → kind o.data.toList ((ints s).getD j 0) = true) := hall
  clear hall
  by_cases hlt : k < s.size
  · have HG : Hid ((ints s).getD k 0 = (s[k].toNat : Int)) := ints_getD s k hlt
    have hb1 : (s[k].toNat : Int) ≤ 255 := by have := s[k].toNat_lt; omega
    by_cases hb : kind o.data.toList (s[k].toNat : Int) = true
    · go_wp2_with (go_at_call 149; refine (letter_clo o _ B _ hc (by omega) (by omega)).mono ?_; rintro e w' ⟨rfl, rfl⟩)
      go_round
      case rel => exact ⟨k + 1, by omega, by go_num, fun j hj => by
                            by_cases e : j = k
                            · rw [e, HG.out]; exact hb
                            · exact HA.out j (by omega)⟩
      case measure => simp [intOf]; omega
    · have hb' : kind o.data.toList (s[k].toNat : Int) = false := by simpa using hb
      clear hb
      go_wp2_with (go_at_call 149; refine (letter_clo o _ B _ hc (by omega) (by omega)).mono ?_; rintro e w' ⟨rfl, rfl⟩)
      go_ret
      exact ⟨ret_bool (okText_bad _ _ _ k hlt (by rw [HG.out]; exact hb')).symm, rfl⟩
  · obtain rfl : k = s.size := by omega
    go_wp2
    go_ret
    exact ⟨ret_bool (okText_all _ _ _ (by omega) (by omega) HA.out).symm, rfl⟩
def small (c : Int) : Bool := (decide (97 ≤ c) && decide (c ≤ 122)) || (decide (48 ≤ c) && decide (c ≤ 57)) || decide (c = 46)
def kSrv (c : Int) : Bool := small c || decide (c = 45)
def kLoc (c : Int) : Bool := small c || decide (c = 45) || decide (c = 95)
def kTyp (c : Int) : Bool := small c || decide (c = 95)
def srv (s : ByteArray) : Bool := okText kSrv 32 s
def loc (s : ByteArray) : Bool := okText kLoc 32 s
def typ (s : ByteArray) : Bool := okText kTyp 64 s
theorem kind_srv : ∀ n : Fin 256, kind [46, 45] (n.val : Int) = kSrv n.val := by decide +kernel
theorem kind_loc : ∀ n : Fin 256, kind [46, 95, 45] (n.val : Int) = kLoc n.val := by decide +kernel
theorem kind_typ : ∀ n : Fin 256, kind [46, 95] (n.val : Int) = kTyp n.val := by decide +kernel
theorem okText_congr {k k' : Int → Bool} (h : ∀ n : Fin 256, k (n.val : Int) = k' n.val) (m : Int) (s : ByteArray) : okText k m s = okText k' m s := by
 unfold okText
 congr 1
 rw [Bool.eq_iff_iff, List.all_eq_true, List.all_eq_true]
 constructor <;> intro ha x hx
 · have hb := ints_bd s x hx
   have := h ⟨x.toNat, by omega⟩
   have e : ((x.toNat : Nat) : Int) = x := by omega
   rw [e] at this
   rw [← this]; exact ha x hx
 · have hb := ints_bd s x hx
   have := h ⟨x.toNat, by omega⟩
   have e : ((x.toNat : Nat) : Int) = x := by omega
   rw [e] at this
   rw [this]; exact ha x hx
theorem cell_new (w : World) (v : Value) (t : Nat) : (w.alloc (.cells #[v] t)).cell? ⟨w.heap.size, 0, none⟩ = some v :=
 World.cell?_alloc_at _ _ _ _ rfl
theorem letterOr_any (o : ByteArray) (w : World) :
    Calls Tryz.prog 123 #[.string o] w fun e w' => e = .returned (.func (.func 149) #[] #[.pointer (some ⟨w.heap.size, 0, none⟩)]) ∧ w' = w.alloc (.cells #[.string o] 9) := by
 go_enter Tryz.func123, Tryz.ntmps123
 go_wp2
 go_ret
 exact ⟨rfl, rfl⟩
theorem server_any (s : ByteArray) (w : World) (hs : s.size ≤ 140737488351232) :
    Calls Tryz.prog 102 #[.string s] w fun e w' => e = .returned (.bool (srv s)) ∧ Below w.heap.size w w' := by
 have hc := cell_new w (.string ⟨#[46, 45]⟩) 9
 go_enter Tryz.func102, Tryz.ntmps102
 go_wp2_with (first
  | (go_at_call 123; refine (letterOr_any _ _).mono ?_; rintro e w' ⟨rfl, rfl⟩)
  | (go_at_call 122; refine (fits_any s _ 32 _ _ hs hc).mono ?_; rintro e w' ⟨rfl, rfl⟩))
 go_ret
 exact ⟨ret_bool (okText_congr kind_srv 32 s), (Below.refl _ _).alloc (Nat.le_refl _) _⟩
theorem local_any (s : ByteArray) (w : World) (hs : s.size ≤ 140737488351232) :
    Calls Tryz.prog 148 #[.string s] w fun e w' => e = .returned (.bool (loc s)) ∧ Below w.heap.size w w' := by
 have hc := cell_new w (.string ⟨#[46, 95, 45]⟩) 9
 go_enter Tryz.func148, Tryz.ntmps148
 go_wp2_with (first
  | (go_at_call 123; refine (letterOr_any _ _).mono ?_; rintro e w' ⟨rfl, rfl⟩)
  | (go_at_call 122; refine (fits_any s _ 32 _ _ hs hc).mono ?_; rintro e w' ⟨rfl, rfl⟩))
 go_ret
 exact ⟨ret_bool (okText_congr kind_loc 32 s), (Below.refl _ _).alloc (Nat.le_refl _) _⟩
theorem type_any (s : ByteArray) (w : World) (hs : s.size ≤ 140737488351232) :
    Calls Tryz.prog 98 #[.string s] w fun e w' => e = .returned (.bool (typ s)) ∧ Below w.heap.size w w' := by
 have hc := cell_new w (.string ⟨#[46, 95]⟩) 9
 go_enter Tryz.func98, Tryz.ntmps98
 go_wp2_with (first
  | (go_at_call 123; refine (letterOr_any _ _).mono ?_; rintro e w' ⟨rfl, rfl⟩)
  | (go_at_call 122; refine (fits_any s _ 64 _ _ hs hc).mono ?_; rintro e w' ⟨rfl, rfl⟩))
 go_ret
 exact ⟨ret_bool (okText_congr kind_typ 64 s), (Below.refl _ _).alloc (Nat.le_refl _) _⟩
def nix : ByteArray := ⟨#[]⟩
def parts (c : Int) (s : ByteArray) : ByteArray × ByteArray × Bool :=
 if 0 < s.size ∧ (ints s).getD 0 0 = c ∧ ((ints s).drop 1).findIdx (· == 58) + 1 < s.size ∧ loc (s.extract 1 (((ints s).drop 1).findIdx (· == 58) + 1)) = true ∧ srv (s.extract (((ints s).drop 1).findIdx (· == 58) + 2) s.size) = true
 then (s.extract 1 (((ints s).drop 1).findIdx (· == 58) + 1), s.extract (((ints s).drop 1).findIdx (· == 58) + 2) s.size, true) else (nix, nix, false)
theorem getD_drop1 (l : List Int) (j : Nat) : (l.drop 1).getD j 0 = l.getD (j + 1) 0 := by
 simp [List.getD_eq_getElem?_getD]
theorem find_hit (l : List Int) (k : Nat) (hk : k < l.length) (hc : l.getD k 0 = 58) (ha : ∀ j, j < k → l.getD j 0 ≠ 58) : l.findIdx (· == 58) = k := by
 induction l generalizing k with
 | nil => simp at hk
 | cons a l ih =>
  rw [List.findIdx_cons]
  match k with
  | 0 => simp at hc; simp [hc]
  | k + 1 =>
   have h0 := ha 0 (by omega)
   simp only [List.getD_cons_zero] at h0
   have h1 : (a == 58) = false := by simp [h0]
   rw [h1]
   simp only [cond_false]
   rw [ih k (by simpa using hk) (by simpa using hc) (fun j hj => by simpa using ha (j + 1) (by omega))]
theorem find_miss (l : List Int) (ha : ∀ j, j < l.length → l.getD j 0 ≠ 58) : l.findIdx (· == 58) = l.length := by
 induction l with
 | nil => rfl
 | cons a l ih =>
  have h0 := ha 0 (by simp)
  simp only [List.getD_cons_zero] at h0
  have h1 : (a == 58) = false := by simp [h0]
  rw [List.findIdx_cons, h1]
  simp only [cond_false]
  rw [ih (fun j hj => by simpa using ha (j + 1) (by simpa using hj))]
  simp
theorem idx_hit (l : List UInt8) (k : Nat) (hk : k < l.length) (hc : (l.map fun c => (c.toNat : Int)).getD k 0 = 58) (ha : ∀ j, j < k → (l.map fun c => (c.toNat : Int)).getD j 0 ≠ 58) : Lib.indexByte l 58 = k := by
 induction l generalizing k with
 | nil => simp at hk
 | cons a l ih =>
  unfold Lib.indexByte
  match k with
  | 0 =>
   have : a = 58 := by
    simp at hc
    exact UInt8.toNat_inj.1 (by simpa using (by omega : a.toNat = 58))
   simp [this]
  | k + 1 =>
   have h0 := ha 0 (by omega)
   have h1 : (a == 58) = false := by
    simp only [List.map_cons, List.getD_cons_zero] at h0
    simp only [beq_eq_false_iff_ne, ne_eq]
    intro h; subst h; exact h0 rfl
   rw [h1, ih k (by simpa using hk) (by simpa using hc) (fun j hj => by simpa using ha (j + 1) (by omega))]
   have h2 : ((k : Int) == -1) = false := by simp
   simp [h2]
theorem idx_miss (l : List UInt8) (ha : ∀ j, j < l.length → (l.map fun c => (c.toNat : Int)).getD j 0 ≠ 58) : Lib.indexByte l 58 = -1 := by
 induction l with
 | nil => rfl
 | cons a l ih =>
  unfold Lib.indexByte
  have h0 := ha 0 (by simp)
  have h1 : (a == 58) = false := by
   simp only [List.map_cons, List.getD_cons_zero] at h0
   simp only [beq_eq_false_iff_ne, ne_eq]
   intro h; subst h; exact h0 rfl
  rw [h1, ih (fun j hj => by simpa using ha (j + 1) (by simpa using hj))]
  simp
theorem parts_hit (c : Int) (s : ByteArray) (k : Nat) (h0 : (ints s).getD 0 0 = c) (h1 : 1 ≤ k) (hk : k < s.size) (hc : (ints s).getD k 0 = 58) (ha : ∀ j, 1 ≤ j → j < k → (ints s).getD j 0 ≠ 58) :
    parts c s = if loc (s.extract 1 k) = true ∧ srv (s.extract (k + 1) s.size) = true then (s.extract 1 k, s.extract (k + 1) s.size, true) else (nix, nix, false) := by
 have hf : ((ints s).drop 1).findIdx (· == 58) = k - 1 := by
  refine find_hit _ _ (by simp [ints_length]; omega) ?_ fun j hj => ?_
  · rw [getD_drop1, Nat.sub_add_cancel h1]; exact hc
  · rw [getD_drop1]; exact ha (j + 1) (by omega) (by omega)
 unfold parts
 rw [hf]
 have e1 : k - 1 + 1 = k := by omega
 have e2 : k - 1 + 2 = k + 1 := by omega
 rw [e1, e2]
 by_cases hl : loc (s.extract 1 k) = true ∧ srv (s.extract (k + 1) s.size) = true
 · rw [if_pos hl, if_pos ⟨by omega, h0, hk, hl.1, hl.2⟩]
 · rw [if_neg hl, if_neg fun h => hl ⟨h.2.2.2.1, h.2.2.2.2⟩]
theorem parts_other (c : Int) (s : ByteArray) (h : s.size = 0 ∨ (ints s).getD 0 0 ≠ c ∨ ∀ j, 1 ≤ j → j < s.size → (ints s).getD j 0 ≠ 58) : parts c s = (nix, nix, false) := by
 unfold parts
 rw [if_neg]
 intro ⟨g0, g1, g2, _⟩
 rcases h with h | h | h
 · omega
 · exact h g1
 · have : ((ints s).drop 1).findIdx (· == 58) = ((ints s).drop 1).length := find_miss _ fun j hj => by
     rw [getD_drop1]; exact h (j + 1) (by omega) (by simp [ints_length] at hj; omega)
   rw [this] at g2
   simp [ints_length] at g2
   omega
theorem colon_cases (s : ByteArray) : (∃ k, 1 ≤ k ∧ k < s.size ∧ (ints s).getD k 0 = 58 ∧ ∀ j, 1 ≤ j → j < k → (ints s).getD j 0 ≠ 58) ∨ ∀ j, 1 ≤ j → j < s.size → (ints s).getD j 0 ≠ 58 := by
 have : ∀ n, (∃ k, 1 ≤ k ∧ k < n ∧ (ints s).getD k 0 = 58 ∧ ∀ j, 1 ≤ j → j < k → (ints s).getD j 0 ≠ 58) ∨ ∀ j, 1 ≤ j → j < n → (ints s).getD j 0 ≠ 58 := by
  intro n
  induction n with
  | zero => exact .inr fun j _ hj => by omega
  | succ n ih =>
   rcases ih with ⟨k, h1, h2, h3, h4⟩ | h
   · exact .inl ⟨k, h1, by omega, h3, h4⟩
   · by_cases hn : 1 ≤ n ∧ (ints s).getD n 0 = 58
     · exact .inl ⟨n, hn.1, by omega, hn.2, h⟩
     · refine .inr fun j h1 h2 => ?_
       by_cases e : j = n
       · subst e; exact fun he => hn ⟨h1, he⟩
       · exact h j h1 (by omega)
 exact this s.size
theorem cut_name (s : ByteArray) (k : Nat) (h1 : 1 ≤ k) (hk : k ≤ s.size) : (s.extract 1 s.size).extract 0 (k - 1) = s.extract 1 k := by
 rw [ByteArray.extract_extract]
 congr 1
 omega
theorem cut_server (s : ByteArray) (k : Nat) : (s.extract 1 s.size).extract k (s.extract 1 s.size).size = s.extract (k + 1) s.size := by
 rw [ByteArray.extract_extract]
 simp
 congr 1
 all_goals omega
theorem below_drewN (w : World) : ∀ n, Below w.heap.size w (w.drewN n)
 | 0 => by rw [World.drewN_zero]; exact Below.refl _ _
 | n + 1 => by rw [← World.drew_drewN]; exact (below_drewN w n).drew
theorem take_one' (l : List UInt8) (h : 0 < l.length) : l.take 1 = [l[0]] := by
 cases l with
 | nil => simp at h
 | cons a l => simp
theorem one_head (s : ByteArray) (h : 0 < s.size) : (s.extract 0 1).toList = [s[0]] := by
 rw [Lib.toList_data, ByteArray.data_extract, Array.toList_extract]
 simp only [List.extract_eq_take_drop, List.drop_zero, Nat.sub_zero]
 rw [take_one' _ (by simpa using h)]
 simp [ByteArray.getElem_eq_getElem_data]
theorem hasPrefix_yes (s : ByteArray) (c : UInt8) (w : World) (hs : s.size ≤ 140737488351232) (h : 0 < s.size) (hc : s[0] = c) :
    Calls Tryz.prog 137 #[.string s, .string ⟨#[c]⟩] w fun e w' => e = .returned (.bool true) ∧ w = w' := by
 have h1 : ((s.extract 0 1).toList == [c]) = true := by rw [one_head s h, hc]; simp
 go_enter Tryz.func137, Tryz.ntmps137
 go_wp2
 go_ret
 exact ⟨rfl, rfl⟩
theorem hasPrefix_no (s : ByteArray) (c : UInt8) (w : World) (hs : s.size ≤ 140737488351232) (h : ∀ h : 0 < s.size, s[0] ≠ c) :
    Calls Tryz.prog 137 #[.string s, .string ⟨#[c]⟩] w fun e w' => e = .returned (.bool false) ∧ w = w' := by
 by_cases h0 : 0 < s.size
 · have h1 : ((s.extract 0 1).toList == [c]) = false := by rw [one_head s h0]; simp [h h0]
   go_enter Tryz.func137, Tryz.ntmps137
   go_wp2
   go_ret
   exact ⟨rfl, rfl⟩
 · go_enter Tryz.func137, Tryz.ntmps137
   go_wp2
   go_ret
   exact ⟨rfl, rfl⟩
theorem liteCutPrefix_yes (s : ByteArray) (c : UInt8) (w : World) (hs : s.size ≤ 140737488351232) (h : 0 < s.size) (hc : s[0] = c) :
    Calls Tryz.prog 151 #[.string s, .string ⟨#[c]⟩] w fun e w' => e = .returned (.tuple #[.string (s.extract 1 s.size), .bool true]) ∧ w = w' := by
 go_enter Tryz.func151, Tryz.ntmps151
 go_wp2_with (go_at_call 137; refine (hasPrefix_yes s c _ hs h hc).mono ?_; rintro e w' ⟨rfl, rfl⟩)
 go_ret2
 exact ⟨rfl, rfl⟩
theorem liteCutPrefix_no (s : ByteArray) (c : UInt8) (w : World) (hs : s.size ≤ 140737488351232) (h : ∀ h : 0 < s.size, s[0] ≠ c) :
    Calls Tryz.prog 151 #[.string s, .string ⟨#[c]⟩] w fun e w' => e = .returned (.tuple #[.string s, .bool false]) ∧ w = w' := by
 go_enter Tryz.func151, Tryz.ntmps151
 go_wp2_with (go_at_call 137; refine (hasPrefix_no s c _ hs h).mono ?_; rintro e w' ⟨rfl, rfl⟩)
 go_ret2
 exact ⟨rfl, rfl⟩
theorem cutPrefix_yes (s : ByteArray) (c : UInt8) (w : World) (hs : s.size ≤ 140737488351232) (h : 0 < s.size) (hc : s[0] = c) :
    Calls Tryz.prog 125 #[.string s, .string ⟨#[c]⟩] w fun e w' => e = .returned (.tuple #[.string (s.extract 1 s.size), .bool true]) ∧ w = w' := by
 go_enter Tryz.func125, Tryz.ntmps125
 go_wp2_with (go_at_call 151; refine (liteCutPrefix_yes s c _ hs h hc).mono ?_; rintro e w' ⟨rfl, rfl⟩)
 go_ret2
 exact ⟨rfl, rfl⟩
theorem cutPrefix_no (s : ByteArray) (c : UInt8) (w : World) (hs : s.size ≤ 140737488351232) (h : ∀ h : 0 < s.size, s[0] ≠ c) :
    Calls Tryz.prog 125 #[.string s, .string ⟨#[c]⟩] w fun e w' => e = .returned (.tuple #[.string s, .bool false]) ∧ w = w' := by
 go_enter Tryz.func125, Tryz.ntmps125
 go_wp2_with (go_at_call 151; refine (liteCutPrefix_no s c _ hs h).mono ?_; rintro e w' ⟨rfl, rfl⟩)
 go_ret2
 exact ⟨rfl, rfl⟩
theorem index_one (s : ByteArray) (w : World) :
    Calls Tryz.prog 184 #[.string s, .string ⟨#[58]⟩] w fun e w' => e = .returned (.int .i64 (Lib.indexByte s.data.toList 58)) ∧ w = w' := by
 go_enter Tryz.func184, Tryz.ntmps184
 go_wp2_with (go_at_call 171; refine (liteIndexByte_any _ _ _).mono ?_; rintro e w' ⟨rfl, rfl⟩)
 · have h : ([58] == s.toList) = true := by assumption
   go_ret
   refine ⟨?_, rfl⟩
   have e : s.data.toList = [58] := by rw [← Lib.toList_data]; exact (beq_iff_eq.1 h).symm
   rw [e]
   simp [Lib.indexByte]
 · go_ret
   exact ⟨rfl, rfl⟩
theorem liteCut_no (t : ByteArray) (w : World) (hi : Lib.indexByte t.data.toList 58 = -1) :
    Calls Tryz.prog 170 #[.string t, .string ⟨#[58]⟩] w fun e w' => e = .returned (.tuple #[.string t, .string ⟨#[]⟩, .bool false]) ∧ Below w.heap.size w w' := by
 go_enter Tryz.func170, Tryz.ntmps170
 go_wp2_with (go_at_call 184; refine (index_one t _).mono ?_; rw [hi]; rintro e w' ⟨rfl, rfl⟩)
 go_ret3
 exact ⟨rfl, Below.refl _ _⟩
theorem cut_no (t : ByteArray) (w : World) (hi : Lib.indexByte t.data.toList 58 = -1) :
    Calls Tryz.prog 147 #[.string t, .string ⟨#[58]⟩] w fun e w' => e = .returned (.tuple #[.string t, .string ⟨#[]⟩, .bool false]) ∧ Below w.heap.size w w' := by
 go_enter Tryz.func147, Tryz.ntmps147
 go_wp2_with (go_at_call 170; refine (liteCut_no t _ hi).mono ?_; rintro e w' ⟨rfl, hb⟩)
 go_ret3
 exact ⟨rfl, hb⟩
theorem liteCut_yes (t : ByteArray) (k : Nat) (w : World) (hs : t.size ≤ 140737488351232) (hk : k < t.size) (hi : Lib.indexByte t.data.toList 58 = k) :
    Calls Tryz.prog 170 #[.string t, .string ⟨#[58]⟩] w fun e w' => e = .returned (.tuple #[.string (t.extract 0 k), .string (t.extract (k + 1) t.size), .bool true]) ∧ Below w.heap.size w w' := by
 go_enter Tryz.func170, Tryz.ntmps170
 go_wp2_with (go_at_call 184; refine (index_one t _).mono ?_; rw [hi]; rintro e w' ⟨rfl, rfl⟩)
 go_quiet (fail)
 go_wp2
 go_ret3
 exact ⟨rfl, below_drewN _ _⟩
theorem cut_yes (t : ByteArray) (k : Nat) (w : World) (hs : t.size ≤ 140737488351232) (hk : k < t.size) (hi : Lib.indexByte t.data.toList 58 = k) :
    Calls Tryz.prog 147 #[.string t, .string ⟨#[58]⟩] w fun e w' => e = .returned (.tuple #[.string (t.extract 0 k), .string (t.extract (k + 1) t.size), .bool true]) ∧ Below w.heap.size w w' := by
 go_enter Tryz.func147, Tryz.ntmps147
 go_wp2_with (go_at_call 170; refine (liteCut_yes t k _ hs hk hi).mono ?_; rintro e w' ⟨rfl, hb⟩)
 go_ret3
 exact ⟨rfl, hb⟩
def told (p : ByteArray × ByteArray × Bool) : Value := .tuple #[.string p.1, .string p.2.1, .bool p.2.2]
theorem ret_told {a b : ByteArray} {t : Bool} {p : ByteArray × ByteArray × Bool} (h : p = (a, b, t)) : Ending.returned (.tuple #[.string a, .string b, .bool t]) = .returned (told p) := by rw [h]; rfl
theorem u8_int (a c : UInt8) : (a.toNat : Int) = (c.toNat : Int) ↔ a = c := by
 constructor
 · intro h; exact UInt8.toNat_inj.1 (by omega)
 · intro h; rw [h]
theorem apart_any (s : ByteArray) (c : UInt8) (w : World) (hs : s.size ≤ 140737488351232) :
    Calls Tryz.prog 121 #[.string s, .string ⟨#[c]⟩] w fun e w' => e = .returned (told (parts (c.toNat : Int) s)) ∧ Below w.heap.size w w' := by
 by_cases hp : ∀ h : 0 < s.size, s[0] ≠ c
 · have HP : Hid (parts (c.toNat : Int) s = (nix, nix, false)) := by
     refine parts_other _ _ ?_
     by_cases h0 : s.size = 0
     · exact .inl h0
     · refine .inr (.inl ?_)
       rw [ints_getD s 0 (by omega), ne_eq, u8_int]
       exact hp (by omega)
   go_enter Tryz.func121, Tryz.ntmps121
   go_wp2_with (go_at_call 125; refine (cutPrefix_no s c _ hs hp).mono ?_; rintro e w' ⟨rfl, rfl⟩)
   go_ret3
   exact ⟨ret_told HP.out, Below.refl _ _⟩
 · obtain ⟨h0, hc⟩ : ∃ h : 0 < s.size, s[0] = c := by simpa using hp
   clear hp
   have hg : (ints s).getD 0 0 = (c.toNat : Int) := by rw [ints_getD s 0 h0, hc]
   have hsz : (s.extract 1 s.size).size ≤ 140737488351232 := by simp; omega
   have hii : (s.extract 1 s.size).data.toList.map (fun c => (c.toNat : Int)) = (ints s).drop 1 := ints_extract s 1
   rcases colon_cases s with ⟨k, h1, hk, hkc, hka⟩ | hno
   · have hi : Lib.indexByte (s.extract 1 s.size).data.toList 58 = ((k - 1 : Nat) : Int) := by
       refine idx_hit _ _ ?_ ?_ fun j hj => ?_
       · rw [← Lib.size_eq]; simp; omega
       · rw [hii, getD_drop1, Nat.sub_add_cancel h1]; exact hkc
       · rw [hii, getD_drop1]; exact hka (j + 1) (by omega) (by omega)
     have hcut := fun wx : World => cut_yes (s.extract 1 s.size) (k - 1) wx hsz (by simp; omega) hi
     rw [cut_name s k h1 (by omega), Nat.sub_add_cancel h1, cut_server s k] at hcut
     have HP : Hid (parts (c.toNat : Int) s = if loc (s.extract 1 k) = true ∧ srv (s.extract (k + 1) s.size) = true then (s.extract 1 k, s.extract (k + 1) s.size, true) else (nix, nix, false)) := parts_hit _ s k hg h1 hk hkc hka
     have hl1 : (s.extract 1 k).size ≤ 140737488351232 := by simp; omega
     have hl2 : (s.extract (k + 1) s.size).size ≤ 140737488351232 := by simp; omega
     obtain ⟨t1, ht1⟩ : ∃ t, t = s.extract 1 k := ⟨_, rfl⟩
     obtain ⟨t2, ht2⟩ : ∃ t, t = s.extract (k + 1) s.size := ⟨_, rfl⟩
     rw [← ht1, ← ht2] at HP hcut
     rw [← ht1] at hl1
     rw [← ht2] at hl2
     clear ht1 ht2 hi hii hka hkc
     by_cases hL : loc t1 = true
     · by_cases hS : srv t2 = true
       · go_enter Tryz.func121, Tryz.ntmps121
         go_wp2_with (first
          | (go_at_call 125; refine (cutPrefix_yes s c _ hs h0 hc).mono ?_; rintro e w' ⟨rfl, rfl⟩)
          | (go_at_call 147; refine (hcut _).mono ?_; rintro e w1 ⟨rfl, hb1⟩)
          | (go_at_call 148; refine (local_any t1 _ hl1).mono ?_; rintro e w2 ⟨rfl, hb2⟩)
          | (go_at_call 102; refine (server_any t2 _ hl2).mono ?_; rintro e w3 ⟨rfl, hb3⟩))
         go_ret3
         have c2 := hb1.trans (hb2.mono hb1.size)
         exact ⟨ret_told (by rw [HP.out, if_pos ⟨hL, hS⟩]), c2.trans (hb3.mono c2.size)⟩
       · have hS' : srv t2 = false := by simpa using hS
         go_enter Tryz.func121, Tryz.ntmps121
         go_wp2_with (first
          | (go_at_call 125; refine (cutPrefix_yes s c _ hs h0 hc).mono ?_; rintro e w' ⟨rfl, rfl⟩)
          | (go_at_call 147; refine (hcut _).mono ?_; rintro e w1 ⟨rfl, hb1⟩)
          | (go_at_call 148; refine (local_any t1 _ hl1).mono ?_; rintro e w2 ⟨rfl, hb2⟩)
          | (go_at_call 102; refine (server_any t2 _ hl2).mono ?_; rintro e w3 ⟨rfl, hb3⟩))
         go_ret3
         have c2 := hb1.trans (hb2.mono hb1.size)
         exact ⟨ret_told (by rw [HP.out, if_neg (by simp [hS'])]; rfl), c2.trans (hb3.mono c2.size)⟩
     · have hL' : loc t1 = false := by simpa using hL
       clear hL
       go_enter Tryz.func121, Tryz.ntmps121
       go_wp2_with (first
        | (go_at_call 125; refine (cutPrefix_yes s c _ hs h0 hc).mono ?_; rintro e w' ⟨rfl, rfl⟩)
        | (go_at_call 147; refine (hcut _).mono ?_; rintro e w1 ⟨rfl, hb1⟩)
        | (go_at_call 148; refine (local_any t1 _ hl1).mono ?_; rintro e w2 ⟨rfl, hb2⟩))
       go_ret3
       exact ⟨ret_told (by rw [HP.out, if_neg (by simp [hL'])]; rfl), hb1.trans (hb2.mono hb1.size)⟩
   · have hi : Lib.indexByte (s.extract 1 s.size).data.toList 58 = -1 := by
       refine idx_miss _ fun j hj => ?_
       rw [← Lib.size_eq] at hj
       simp at hj
       rw [hii, getD_drop1]; exact hno (j + 1) (by omega) (by omega)
     have HP : Hid (parts (c.toNat : Int) s = (nix, nix, false)) := parts_other _ _ (.inr (.inr hno))
     have hcut := fun wx : World => cut_no (s.extract 1 s.size) wx hi
     go_enter Tryz.func121, Tryz.ntmps121
     go_wp2_with (first
      | (go_at_call 125; refine (cutPrefix_yes s c _ hs h0 hc).mono ?_; rintro e w' ⟨rfl, rfl⟩)
      | (go_at_call 147; refine (hcut _).mono ?_; rintro e w1 ⟨rfl, hb1⟩))
     go_ret3
     exact ⟨ret_told HP.out, hb1⟩
theorem user_any (s : ByteArray) (w : World) (hs : s.size ≤ 140737488351232) :
    Calls Tryz.prog 97 #[.string s] w fun e w' => e = .returned (told (parts 64 s)) ∧ Below w.heap.size w w' := by
 go_enter Tryz.func97, Tryz.ntmps97
 go_wp2_with (go_at_call 121; refine (apart_any s 64 _ hs).mono ?_; rintro e w1 ⟨rfl, hb1⟩; unfold told)
 go_ret3
 exact ⟨rfl, hb1⟩
theorem room_any (s : ByteArray) (w : World) (hs : s.size ≤ 140737488351232) :
    Calls Tryz.prog 96 #[.string s] w fun e w' => e = .returned (told (parts 33 s)) ∧ Below w.heap.size w w' := by
 go_enter Tryz.func96, Tryz.ntmps96
 go_wp2_with (go_at_call 121; refine (apart_any s 33 _ hs).mono ?_; rintro e w1 ⟨rfl, hb1⟩; unfold told)
 go_ret3
 exact ⟨rfl, hb1⟩
theorem wraps_u32 (n : Int) (h₀ : 0 ≤ n) (h₁ : n < 2 ^ 32) : IntKind.u32.wrap n = n := by rw [IntKind.wrap_u32]; omega
theorem or_join (i : Nat) (x y : Int) (hx₀ : 0 ≤ x) (hx : x % 2 ^ i = 0) (hx₁ : x < 4294967296) (hy₀ : 0 ≤ y) (hy : y < 2 ^ i) (hy₁ : y < 4294967296) : bits .or .u32 x y = x + y :=
 bits_join .u32 32 (by decide) wraps_u32 i x y hx₀ hx (by omega) hy₀ hy (by omega)
theorem gather_any (a b c d : Int) (w : World) (ha0 : 0 ≤ a) (ha : a ≤ 255) (hb0 : 0 ≤ b) (hb : b ≤ 255) (hc0 : 0 ≤ c) (hc : c ≤ 255) (hd0 : 0 ≤ d) (hd : d ≤ 255) :
    Calls Tryz.prog 154 #[.agg #[.int .u8 a, .int .u8 b, .int .u8 c, .int .u8 d]] w fun e w' => e = .returned (.agg #[.int .u8 (num0 a * 4 + num0 b / 16), .int .u8 (num0 b % 16 * 16 + num0 c / 4), .int .u8 (num0 c % 4 * 64 + num0 d)]) ∧ Below w.heap.size w w' := by
 have na := num0_hi a
 have nb := num0_hi b
 have nc := num0_hi c
 have nd := num0_hi d
 have ma := num0_lo a
 have mb := num0_lo b
 have mc := num0_lo c
 have md := num0_lo d
 have o0 : bits .or .u32 0 (num0 a) = num0 a := by rw [or_join 6 _ _ (by omega) (by omega) (by omega) (by omega) (by omega) (by omega)]; omega
 have o1 : bits .or .u32 (num0 a * 64) (num0 b) = num0 a * 64 + num0 b := or_join 6 _ _ (by omega) (by omega) (by omega) (by omega) (by omega) (by omega)
 have o2 : bits .or .u32 ((num0 a * 64 + num0 b) * 64) (num0 c) = (num0 a * 64 + num0 b) * 64 + num0 c := or_join 6 _ _ (by omega) (by omega) (by omega) (by omega) (by omega) (by omega)
 have o3 : bits .or .u32 (((num0 a * 64 + num0 b) * 64 + num0 c) * 64) (num0 d) = ((num0 a * 64 + num0 b) * 64 + num0 c) * 64 + num0 d := or_join 6 _ _ (by omega) (by omega) (by omega) (by omega) (by omega) (by omega)
 have r1 : (((num0 a * 64 + num0 b) * 64 + num0 c) * 64 + num0 d) / 65536 = num0 a * 4 + num0 b / 16 := by omega
 have r2 : (((num0 a * 64 + num0 b) * 64 + num0 c) * 64 + num0 d) / 256 % 256 = num0 b % 16 * 16 + num0 c / 4 := by omega
 have r3 : (((num0 a * 64 + num0 b) * 64 + num0 c) * 64 + num0 d) % 256 = num0 c % 4 * 64 + num0 d := by omega
 have i0 : ∀ w, (Instr.index 153 (.agg #[.int .u8 a, .int .u8 b, .int .u8 c, .int .u8 d]) (.int .i64 0)).run Tryz.prog w = .ok (.int .u8 a) w := fun _ => by kernel_rfl
 have i1 : ∀ w, (Instr.index 153 (.agg #[.int .u8 a, .int .u8 b, .int .u8 c, .int .u8 d]) (.int .i64 1)).run Tryz.prog w = .ok (.int .u8 b) w := fun _ => by kernel_rfl
 have i2 : ∀ w, (Instr.index 153 (.agg #[.int .u8 a, .int .u8 b, .int .u8 c, .int .u8 d]) (.int .i64 2)).run Tryz.prog w = .ok (.int .u8 c) w := fun _ => by kernel_rfl
 have i3 : ∀ w, (Instr.index 153 (.agg #[.int .u8 a, .int .u8 b, .int .u8 c, .int .u8 d]) (.int .i64 3)).run Tryz.prog w = .ok (.int .u8 d) w := fun _ => by kernel_rfl
 go_enter Tryz.func154, Tryz.ntmps154
 go_wp2
 refine wp_loop_rounds 5 ?_
 iterate 5 (rw [rounds_succ]; go_wp2_with (go_at_call 172; refine (number_any _ _ (by omega) (by omega)).mono ?_; rintro e w' ⟨rfl, rfl⟩))
 exact bodyPost_ret (v := .agg #[.int .u8 (num0 a * 4 + num0 b / 16), .int .u8 (num0 b % 16 * 16 + num0 c / 4), .int .u8 (num0 c % 4 * 64 + num0 d)]) (by simp [results, Tryz.results154, go_sem]) rfl ⟨rfl, ((Below.refl _ _).alloc (Nat.le_refl _) _).alloc (by simp) _⟩
end Go.Proofs.YtegcgbjjpgjnmaaGreatDoor.Id

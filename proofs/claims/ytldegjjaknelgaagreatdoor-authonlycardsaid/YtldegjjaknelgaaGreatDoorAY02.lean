/-
  Which letters a name may have, asked by a closure, and whether a text is of such letters: by contracts.
  Servers' names, local names and types: the program's own, and the document's, by contracts.
  The parts of a name with a sign ahead, as a plain function, and where its colon stands.
  strings.CutPrefix and strings.Cut at one sign, by contracts.
  Names taken apart: the program's own apart, User, Room and Home, by contracts.
  Servers' names, local names and types, as the document answers: by contracts.
  Names taken apart as the document answers, by contracts; and where a name is at home.
  spread and gather of base, by their contracts.
  spare and fault of base, by their contracts.
  A slice of bytes as it is read, and what a cut of it is.
  A copy out of a text into a row that the call itself made.
-/
import Derived.Test.YtldegjjaknelgaaGreatDoorAY01
import Derived.Lib.Walk
import Derived.BigQuiet
import Derived.BigRegion
import Derived.RegionTactic
import Derived.Laws.CopyOwn
set_option maxRecDepth 100000
set_option maxHeartbeats 16000000
namespace Go.Proofs.YtldegjjaknelgaaGreatDoor.Id
open Go.RowKit
theorem ret_bool {a b : Bool} (h : a = b) : Ending.returned (.bool a) = .returned (.bool b) := by rw [h]
theorem liteIndexByte_any (s : ByteArray) (c : Int) (w : World) :
    Calls Tryz.prog 186 #[.string s, .int .u8 c] w fun e w' => e = .returned (.int .i64 (Lib.indexByte s.data.toList c.toNat.toUInt8)) ∧ w = w' := by
 go_enter Tryz.func186, Tryz.ntmps186
 go_wp2
 rw [run_callFunc_extern Tryz.func202 (by kernel_rfl) (by kernel_rfl) (by kernel_rfl) (e := Extern.BytealgIndexByte.indexByte) (by kernel_rfl), Lib.run_indexByteString]
 simp only [Result.andThen]
 rw [Oper.upon_value]
 go_wp2
 go_ret
 exact ⟨rfl, rfl⟩
theorem indexByte_any (s : ByteArray) (c : Int) (w : World) :
    Calls Tryz.prog 172 #[.string s, .int .u8 c] w fun e w' => e = .returned (.int .i64 (Lib.indexByte s.data.toList c.toNat.toUInt8)) ∧ w = w' := by
 go_enter Tryz.func172, Tryz.ntmps172
 go_wp2_with (go_at_call 186; refine (liteIndexByte_any _ _ _).mono ?_; rintro e w' ⟨rfl, rfl⟩)
 go_ret
 exact ⟨rfl, rfl⟩
def kind (o : List UInt8) (c : Int) : Bool := (decide (97 ≤ c) && decide (c ≤ 122)) || (decide (48 ≤ c) && decide (c ≤ 57)) || decide (0 ≤ Lib.indexByte o c.toNat.toUInt8)
theorem letter_clo (o : ByteArray) (c : Int) (B : Nat) (w : World) (hc : w.cell? ⟨B, 0, none⟩ = some (.string o)) (h0 : 0 ≤ c) (h1 : c ≤ 255) :
    Calls Tryz.prog 171 #[.int .u8 c, .pointer (some ⟨B, 0, none⟩)] w fun e w' => e = .returned (.bool (kind o.data.toList c)) ∧ w = w' := by
 go_enter Tryz.func171, Tryz.ntmps171
 go_wp2_with (go_at_call 172; refine (indexByte_any _ _ _).mono ?_; rintro e w' ⟨rfl, rfl⟩)
 all_goals
  go_ret
  refine ⟨ret_bool ?_, rfl⟩
  unfold kind
  rw [Bool.eq_iff_iff]
  simp
  omega
def okText (k : Int → Bool) (m : Int) (s : ByteArray) : Bool := decide (1 ≤ s.size) && decide ((s.size : Int) ≤ m) && (ints s).all k
theorem okText_long (k : Int → Bool) (m : Int) (s : ByteArray) (h : m < s.size) : okText k m s = false := by
 unfold okText; simp; omega
theorem okText_none (k : Int → Bool) (m : Int) (s : ByteArray) (h : s.size = 0) : okText k m s = false := by
 unfold okText; simp [h]
theorem okText_all (k : Int → Bool) (m : Int) (s : ByteArray) (h : 1 ≤ s.size) (h' : (s.size : Int) ≤ m) (ha : ∀ j, j < s.size → k ((ints s).getD j 0) = true) : okText k m s = true := by
 unfold okText
 simp only [h, h', decide_true, Bool.true_and, List.all_eq_true]
 intro x hx
 obtain ⟨i, hi, rfl⟩ := List.mem_iff_getElem.1 hx
 have := ha i (by rw [← ints_length]; exact hi)
 rw [List.getD_eq_getElem?_getD, List.getElem?_eq_getElem hi] at this
 exact this
theorem okText_bad (k : Int → Bool) (m : Int) (s : ByteArray) (j : Nat) (hj : j < s.size) (ha : k ((ints s).getD j 0) = false) : okText k m s = false := by
 unfold okText
 have hj' : j < (ints s).length := by rw [ints_length]; exact hj
 have : (ints s).all k = false := by
  rw [List.all_eq_false]
  refine ⟨(ints s)[j], List.getElem_mem hj', ?_⟩
  rw [List.getD_eq_getElem?_getD, List.getElem?_eq_getElem hj'] at ha
  simpa using ha
 rw [this]; simp
theorem fits_any (s o : ByteArray) (m : Int) (B : Nat) (w : World) (hs : s.size ≤ 140737488351232) (hc : w.cell? ⟨B, 0, none⟩ = some (.string o)) :
    Calls Tryz.prog 153 #[.string s, .int .i64 m, .func (.func 171) #[] #[.pointer (some ⟨B, 0, none⟩)]] w fun e w' => e = .returned (.bool (okText (kind o.data.toList) m s)) ∧ w = w' := by
 by_cases he : s.size = 0
 · have he' : (s.size : Int) = 0 := by omega
   go_enter Tryz.func153, Tryz.ntmps153
   go_wp2
   go_ret
   exact ⟨ret_bool (okText_none _ _ _ he).symm, rfl⟩
 by_cases hm : m < (s.size : Int)
 · go_enter Tryz.func153, Tryz.ntmps153
   go_wp2
   go_ret
   exact ⟨ret_bool (okText_long _ _ _ hm).symm, rfl⟩
 go_enter Tryz.func153, Tryz.ntmps153
 go_wp2
 go_loop [19] (fun i => ∃ k : Nat, k ≤ s.size ∧ i = .int .i64 k ∧ ∀ j, j < k → kind o.data.toList ((ints s).getD j 0) = true) (fun i => s.size - (intOf i).toNat)
 case atStart => exact ⟨0, Nat.zero_le _, rfl, fun j hj => by omega⟩
 case round =>
  obtain ⟨k, hk, rfl, hall⟩ := hrel
  have HA : Hid (∀ j, j < k → kind o.data.toList ((ints s).getD j 0) = true) := hall
  clear hall
  by_cases hlt : k < s.size
  · have HG : Hid ((ints s).getD k 0 = (s[k].toNat : Int)) := ints_getD s k hlt
    have hb1 : (s[k].toNat : Int) ≤ 255 := by have := s[k].toNat_lt; omega
    by_cases hb : kind o.data.toList (s[k].toNat : Int) = true
    · go_wp2_with (go_at_call 171; refine (letter_clo o _ B _ hc (by omega) (by omega)).mono ?_; rintro e w' ⟨rfl, rfl⟩)
      go_round
      case rel => exact ⟨k + 1, by omega, by go_num, fun j hj => by
                            by_cases e : j = k
                            · rw [e, HG.out]; exact hb
                            · exact HA.out j (by omega)⟩
      case measure => simp [intOf]; omega
    · have hb' : kind o.data.toList (s[k].toNat : Int) = false := by simpa using hb
      clear hb
      go_wp2_with (go_at_call 171; refine (letter_clo o _ B _ hc (by omega) (by omega)).mono ?_; rintro e w' ⟨rfl, rfl⟩)
      go_ret
      exact ⟨ret_bool (okText_bad _ _ _ k hlt (by rw [HG.out]; exact hb')).symm, rfl⟩
  · obtain rfl : k = s.size := by omega
    go_wp2
    go_ret
    exact ⟨ret_bool (okText_all _ _ _ (by omega) (by omega) HA.out).symm, rfl⟩
def small (c : Int) : Bool := (decide (97 ≤ c) && decide (c ≤ 122)) || (decide (48 ≤ c) && decide (c ≤ 57)) || decide (c = 46)
def kSrv (c : Int) : Bool := small c || decide (c = 45)
def kLoc (c : Int) : Bool := small c || decide (c = 45) || decide (c = 95)
def kTyp (c : Int) : Bool := small c || decide (c = 95)
def srv (s : ByteArray) : Bool := okText kSrv 32 s
def loc (s : ByteArray) : Bool := okText kLoc 32 s
def typ (s : ByteArray) : Bool := okText kTyp 64 s
theorem kind_srv : ∀ n : Fin 256, kind [46, 45] (n.val : Int) = kSrv n.val := by decide +kernel
theorem kind_loc : ∀ n : Fin 256, kind [46, 95, 45] (n.val : Int) = kLoc n.val := by decide +kernel
theorem kind_typ : ∀ n : Fin 256, kind [46, 95] (n.val : Int) = kTyp n.val := by decide +kernel
theorem okText_congr {k k' : Int → Bool} (h : ∀ n : Fin 256, k (n.val : Int) = k' n.val) (m : Int) (s : ByteArray) : okText k m s = okText k' m s := by
 unfold okText
 congr 1
 rw [Bool.eq_iff_iff, List.all_eq_true, List.all_eq_true]
 constructor <;> intro ha x hx
 · have hb := ints_bd s x hx
   have := h ⟨x.toNat, by omega⟩
   have e : ((x.toNat : Nat) : Int) = x := by omega
   rw [e] at this
   rw [← this]; exact ha x hx
 · have hb := ints_bd s x hx
   have := h ⟨x.toNat, by omega⟩
   have e : ((x.toNat : Nat) : Int) = x := by omega
   rw [e] at this
   rw [this]; exact ha x hx
theorem cell_new (w : World) (v : Value) (t : Nat) : (w.alloc (.cells #[v] t)).cell? ⟨w.heap.size, 0, none⟩ = some v :=
 World.cell?_alloc_at _ _ _ _ rfl
theorem letterOr_any (o : ByteArray) (w : World) :
    Calls Tryz.prog 154 #[.string o] w fun e w' => e = .returned (.func (.func 171) #[] #[.pointer (some ⟨w.heap.size, 0, none⟩)]) ∧ w' = w.alloc (.cells #[.string o] 9) := by
 go_enter Tryz.func154, Tryz.ntmps154
 go_wp2
 go_ret
 exact ⟨rfl, rfl⟩
theorem server_any (s : ByteArray) (w : World) (hs : s.size ≤ 140737488351232) :
    Calls Tryz.prog 134 #[.string s] w fun e w' => e = .returned (.bool (srv s)) ∧ Below w.heap.size w w' := by
 have hc := cell_new w (.string ⟨#[46, 45]⟩) 9
 go_enter Tryz.func134, Tryz.ntmps134
 go_wp2_with (first
  | (go_at_call 154; refine (letterOr_any _ _).mono ?_; rintro e w' ⟨rfl, rfl⟩)
  | (go_at_call 153; refine (fits_any s _ 32 _ _ hs hc).mono ?_; rintro e w' ⟨rfl, rfl⟩))
 go_ret
 exact ⟨ret_bool (okText_congr kind_srv 32 s), (Below.refl _ _).alloc (Nat.le_refl _) _⟩
theorem local_any (s : ByteArray) (w : World) (hs : s.size ≤ 140737488351232) :
    Calls Tryz.prog 149 #[.string s] w fun e w' => e = .returned (.bool (loc s)) ∧ Below w.heap.size w w' := by
 have hc := cell_new w (.string ⟨#[46, 95, 45]⟩) 9
 go_enter Tryz.func149, Tryz.ntmps149
 go_wp2_with (first
  | (go_at_call 154; refine (letterOr_any _ _).mono ?_; rintro e w' ⟨rfl, rfl⟩)
  | (go_at_call 153; refine (fits_any s _ 32 _ _ hs hc).mono ?_; rintro e w' ⟨rfl, rfl⟩))
 go_ret
 exact ⟨ret_bool (okText_congr kind_loc 32 s), (Below.refl _ _).alloc (Nat.le_refl _) _⟩
theorem type_any (s : ByteArray) (w : World) (hs : s.size ≤ 140737488351232) :
    Calls Tryz.prog 130 #[.string s] w fun e w' => e = .returned (.bool (typ s)) ∧ Below w.heap.size w w' := by
 have hc := cell_new w (.string ⟨#[46, 95]⟩) 9
 go_enter Tryz.func130, Tryz.ntmps130
 go_wp2_with (first
  | (go_at_call 154; refine (letterOr_any _ _).mono ?_; rintro e w' ⟨rfl, rfl⟩)
  | (go_at_call 153; refine (fits_any s _ 64 _ _ hs hc).mono ?_; rintro e w' ⟨rfl, rfl⟩))
 go_ret
 exact ⟨ret_bool (okText_congr kind_typ 64 s), (Below.refl _ _).alloc (Nat.le_refl _) _⟩
def nix : ByteArray := ⟨#[]⟩
def parts (c : Int) (s : ByteArray) : ByteArray × ByteArray × Bool :=
 if 0 < s.size ∧ (ints s).getD 0 0 = c ∧ ((ints s).drop 1).findIdx (· == 58) + 1 < s.size ∧ loc (s.extract 1 (((ints s).drop 1).findIdx (· == 58) + 1)) = true ∧ srv (s.extract (((ints s).drop 1).findIdx (· == 58) + 2) s.size) = true
 then (s.extract 1 (((ints s).drop 1).findIdx (· == 58) + 1), s.extract (((ints s).drop 1).findIdx (· == 58) + 2) s.size, true) else (nix, nix, false)
theorem getD_drop1 (l : List Int) (j : Nat) : (l.drop 1).getD j 0 = l.getD (j + 1) 0 := by
 simp [List.getD_eq_getElem?_getD]
theorem find_hit (l : List Int) (k : Nat) (hk : k < l.length) (hc : l.getD k 0 = 58) (ha : ∀ j, j < k → l.getD j 0 ≠ 58) : l.findIdx (· == 58) = k := by
 induction l generalizing k with
 | nil => simp at hk
 | cons a l ih =>
  rw [List.findIdx_cons]
  match k with
  | 0 => simp at hc; simp [hc]
  | k + 1 =>
   have h0 := ha 0 (by omega)
   simp only [List.getD_cons_zero] at h0
   have h1 : (a == 58) = false := by simp [h0]
   rw [h1]
   simp only [cond_false]
   rw [ih k (by simpa using hk) (by simpa using hc) (fun j hj => by simpa using ha (j + 1) (by omega))]
theorem find_miss (l : List Int) (ha : ∀ j, j < l.length → l.getD j 0 ≠ 58) : l.findIdx (· == 58) = l.length := by
 induction l with
 | nil => rfl
 | cons a l ih =>
  have h0 := ha 0 (by simp)
  simp only [List.getD_cons_zero] at h0
  have h1 : (a == 58) = false := by simp [h0]
  rw [List.findIdx_cons, h1]
  simp only [cond_false]
  rw [ih (fun j hj => by simpa using ha (j + 1) (by simpa using hj))]
  simp
theorem idx_hit (l : List UInt8) (k : Nat) (hk : k < l.length) (hc : (l.map fun c => (c.toNat : Int)).getD k 0 = 58) (ha : ∀ j, j < k → (l.map fun c => (c.toNat : Int)).getD j 0 ≠ 58) : Lib.indexByte l 58 = k := by
 induction l generalizing k with
 | nil => simp at hk
 | cons a l ih =>
  unfold Lib.indexByte
  match k with
  | 0 =>
   have : a = 58 := by
    simp at hc
    exact UInt8.toNat_inj.1 (by simpa using (by omega : a.toNat = 58))
   simp [this]
  | k + 1 =>
   have h0 := ha 0 (by omega)
   have h1 : (a == 58) = false := by
    simp only [List.map_cons, List.getD_cons_zero] at h0
    simp only [beq_eq_false_iff_ne, ne_eq]
    intro h; subst h; exact h0 rfl
   rw [h1, ih k (by simpa using hk) (by simpa using hc) (fun j hj => by simpa using ha (j + 1) (by omega))]
   have h2 : ((k : Int) == -1) = false := by simp
   simp [h2]
theorem idx_miss (l : List UInt8) (ha : ∀ j, j < l.length → (l.map fun c => (c.toNat : Int)).getD j 0 ≠ 58) : Lib.indexByte l 58 = -1 := by
 induction l with
 | nil => rfl
 | cons a l ih =>
  unfold Lib.indexByte
  have h0 := ha 0 (by simp)
  have h1 : (a == 58) = false := by
   simp only [List.map_cons, List.getD_cons_zero] at h0
   simp only [beq_eq_false_iff_ne, ne_eq]
   intro h; subst h; exact h0 rfl
  rw [h1, ih (fun j hj => by simpa using ha (j + 1) (by simpa using hj))]
  simp
theorem parts_hit (c : Int) (s : ByteArray) (k : Nat) (h0 : (ints s).getD 0 0 = c) (h1 : 1 ≤ k) (hk : k < s.size) (hc : (ints s).getD k 0 = 58) (ha : ∀ j, 1 ≤ j → j < k → (ints s).getD j 0 ≠ 58) :
    parts c s = if loc (s.extract 1 k) = true ∧ srv (s.extract (k + 1) s.size) = true then (s.extract 1 k, s.extract (k + 1) s.size, true) else (nix, nix, false) := by
 have hf : ((ints s).drop 1).findIdx (· == 58) = k - 1 := by
  refine find_hit _ _ (by simp [ints_length]; omega) ?_ fun j hj => ?_
  · rw [getD_drop1, Nat.sub_add_cancel h1]; exact hc
  · rw [getD_drop1]; exact ha (j + 1) (by omega) (by omega)
 unfold parts
 rw [hf]
 have e1 : k - 1 + 1 = k := by omega
 have e2 : k - 1 + 2 = k + 1 := by omega
 rw [e1, e2]
 by_cases hl : loc (s.extract 1 k) = true ∧ srv (s.extract (k + 1) s.size) = true
 · rw [if_pos hl, if_pos ⟨by omega, h0, hk, hl.1, hl.2⟩]
 · rw [if_neg hl, if_neg fun h => hl ⟨h.2.2.2.1, h.2.2.2.2⟩]
theorem parts_other (c : Int) (s : ByteArray) (h : s.size = 0 ∨ (ints s).getD 0 0 ≠ c ∨ ∀ j, 1 ≤ j → j < s.size → (ints s).getD j 0 ≠ 58) : parts c s = (nix, nix, false) := by
 unfold parts
 rw [if_neg]
 intro ⟨g0, g1, g2, _⟩
 rcases h with h | h | h
 · omega
 · exact h g1
 · have : ((ints s).drop 1).findIdx (· == 58) = ((ints s).drop 1).length := find_miss _ fun j hj => by
     rw [getD_drop1]; exact h (j + 1) (by omega) (by simp [ints_length] at hj; omega)
   rw [this] at g2
   simp [ints_length] at g2
   omega
theorem colon_cases (s : ByteArray) : (∃ k, 1 ≤ k ∧ k < s.size ∧ (ints s).getD k 0 = 58 ∧ ∀ j, 1 ≤ j → j < k → (ints s).getD j 0 ≠ 58) ∨ ∀ j, 1 ≤ j → j < s.size → (ints s).getD j 0 ≠ 58 := by
 have : ∀ n, (∃ k, 1 ≤ k ∧ k < n ∧ (ints s).getD k 0 = 58 ∧ ∀ j, 1 ≤ j → j < k → (ints s).getD j 0 ≠ 58) ∨ ∀ j, 1 ≤ j → j < n → (ints s).getD j 0 ≠ 58 := by
  intro n
  induction n with
  | zero => exact .inr fun j _ hj => by omega
  | succ n ih =>
   rcases ih with ⟨k, h1, h2, h3, h4⟩ | h
   · exact .inl ⟨k, h1, by omega, h3, h4⟩
   · by_cases hn : 1 ≤ n ∧ (ints s).getD n 0 = 58
     · exact .inl ⟨n, hn.1, by omega, hn.2, h⟩
     · refine .inr fun j h1 h2 => ?_
       by_cases e : j = n
       · subst e; exact fun he => hn ⟨h1, he⟩
       · exact h j h1 (by omega)
 exact this s.size
theorem cut_name (s : ByteArray) (k : Nat) (h1 : 1 ≤ k) (hk : k ≤ s.size) : (s.extract 1 s.size).extract 0 (k - 1) = s.extract 1 k := by
 rw [ByteArray.extract_extract]
 congr 1
 omega
theorem cut_server (s : ByteArray) (k : Nat) : (s.extract 1 s.size).extract k (s.extract 1 s.size).size = s.extract (k + 1) s.size := by
 rw [ByteArray.extract_extract]
 simp
 congr 1
 all_goals omega
theorem below_drewN (w : World) : ∀ n, Below w.heap.size w (w.drewN n)
 | 0 => by rw [World.drewN_zero]; exact Below.refl _ _
 | n + 1 => by rw [← World.drew_drewN]; exact (below_drewN w n).drew
theorem take_one' (l : List UInt8) (h : 0 < l.length) : l.take 1 = [l[0]] := by
 cases l with
 | nil => simp at h
 | cons a l => simp
theorem one_head (s : ByteArray) (h : 0 < s.size) : (s.extract 0 1).toList = [s[0]] := by
 rw [Lib.toList_data, ByteArray.data_extract, Array.toList_extract]
 simp only [List.extract_eq_take_drop, List.drop_zero, Nat.sub_zero]
 rw [take_one' _ (by simpa using h)]
 simp [ByteArray.getElem_eq_getElem_data]
theorem hasPrefix_yes (s : ByteArray) (c : UInt8) (w : World) (hs : s.size ≤ 140737488351232) (h : 0 < s.size) (hc : s[0] = c) :
    Calls Tryz.prog 92 #[.string s, .string ⟨#[c]⟩] w fun e w' => e = .returned (.bool true) ∧ w = w' := by
 have h1 : ((s.extract 0 1).toList == [c]) = true := by rw [one_head s h, hc]; simp
 go_enter Tryz.func92, Tryz.ntmps92
 go_wp2
 go_ret
 exact ⟨rfl, rfl⟩
theorem hasPrefix_no (s : ByteArray) (c : UInt8) (w : World) (hs : s.size ≤ 140737488351232) (h : ∀ h : 0 < s.size, s[0] ≠ c) :
    Calls Tryz.prog 92 #[.string s, .string ⟨#[c]⟩] w fun e w' => e = .returned (.bool false) ∧ w = w' := by
 by_cases h0 : 0 < s.size
 · have h1 : ((s.extract 0 1).toList == [c]) = false := by rw [one_head s h0]; simp [h h0]
   go_enter Tryz.func92, Tryz.ntmps92
   go_wp2
   go_ret
   exact ⟨rfl, rfl⟩
 · go_enter Tryz.func92, Tryz.ntmps92
   go_wp2
   go_ret
   exact ⟨rfl, rfl⟩
theorem liteCutPrefix_yes (s : ByteArray) (c : UInt8) (w : World) (hs : s.size ≤ 140737488351232) (h : 0 < s.size) (hc : s[0] = c) :
    Calls Tryz.prog 168 #[.string s, .string ⟨#[c]⟩] w fun e w' => e = .returned (.tuple #[.string (s.extract 1 s.size), .bool true]) ∧ w = w' := by
 go_enter Tryz.func168, Tryz.ntmps168
 go_wp2_with (go_at_call 92; refine (hasPrefix_yes s c _ hs h hc).mono ?_; rintro e w' ⟨rfl, rfl⟩)
 go_ret2
 exact ⟨rfl, rfl⟩
theorem liteCutPrefix_no (s : ByteArray) (c : UInt8) (w : World) (hs : s.size ≤ 140737488351232) (h : ∀ h : 0 < s.size, s[0] ≠ c) :
    Calls Tryz.prog 168 #[.string s, .string ⟨#[c]⟩] w fun e w' => e = .returned (.tuple #[.string s, .bool false]) ∧ w = w' := by
 go_enter Tryz.func168, Tryz.ntmps168
 go_wp2_with (go_at_call 92; refine (hasPrefix_no s c _ hs h).mono ?_; rintro e w' ⟨rfl, rfl⟩)
 go_ret2
 exact ⟨rfl, rfl⟩
theorem cutPrefix_yes (s : ByteArray) (c : UInt8) (w : World) (hs : s.size ≤ 140737488351232) (h : 0 < s.size) (hc : s[0] = c) :
    Calls Tryz.prog 147 #[.string s, .string ⟨#[c]⟩] w fun e w' => e = .returned (.tuple #[.string (s.extract 1 s.size), .bool true]) ∧ w = w' := by
 go_enter Tryz.func147, Tryz.ntmps147
 go_wp2_with (go_at_call 168; refine (liteCutPrefix_yes s c _ hs h hc).mono ?_; rintro e w' ⟨rfl, rfl⟩)
 go_ret2
 exact ⟨rfl, rfl⟩
theorem cutPrefix_no (s : ByteArray) (c : UInt8) (w : World) (hs : s.size ≤ 140737488351232) (h : ∀ h : 0 < s.size, s[0] ≠ c) :
    Calls Tryz.prog 147 #[.string s, .string ⟨#[c]⟩] w fun e w' => e = .returned (.tuple #[.string s, .bool false]) ∧ w = w' := by
 go_enter Tryz.func147, Tryz.ntmps147
 go_wp2_with (go_at_call 168; refine (liteCutPrefix_no s c _ hs h).mono ?_; rintro e w' ⟨rfl, rfl⟩)
 go_ret2
 exact ⟨rfl, rfl⟩
theorem index_one (s : ByteArray) (w : World) :
    Calls Tryz.prog 185 #[.string s, .string ⟨#[58]⟩] w fun e w' => e = .returned (.int .i64 (Lib.indexByte s.data.toList 58)) ∧ w = w' := by
 go_enter Tryz.func185, Tryz.ntmps185
 go_wp2_with (go_at_call 186; refine (liteIndexByte_any _ _ _).mono ?_; rintro e w' ⟨rfl, rfl⟩)
 · have h : ([58] == s.toList) = true := by assumption
   go_ret
   refine ⟨?_, rfl⟩
   have e : s.data.toList = [58] := by rw [← Lib.toList_data]; exact (beq_iff_eq.1 h).symm
   rw [e]
   simp [Lib.indexByte]
 · go_ret
   exact ⟨rfl, rfl⟩
theorem liteCut_no (t : ByteArray) (w : World) (hi : Lib.indexByte t.data.toList 58 = -1) :
    Calls Tryz.prog 169 #[.string t, .string ⟨#[58]⟩] w fun e w' => e = .returned (.tuple #[.string t, .string ⟨#[]⟩, .bool false]) ∧ Below w.heap.size w w' := by
 go_enter Tryz.func169, Tryz.ntmps169
 go_wp2_with (go_at_call 185; refine (index_one t _).mono ?_; rw [hi]; rintro e w' ⟨rfl, rfl⟩)
 go_ret3
 exact ⟨rfl, Below.refl _ _⟩
theorem cut_no (t : ByteArray) (w : World) (hi : Lib.indexByte t.data.toList 58 = -1) :
    Calls Tryz.prog 148 #[.string t, .string ⟨#[58]⟩] w fun e w' => e = .returned (.tuple #[.string t, .string ⟨#[]⟩, .bool false]) ∧ Below w.heap.size w w' := by
 go_enter Tryz.func148, Tryz.ntmps148
 go_wp2_with (go_at_call 169; refine (liteCut_no t _ hi).mono ?_; rintro e w' ⟨rfl, hb⟩)
 go_ret3
 exact ⟨rfl, hb⟩
theorem liteCut_yes (t : ByteArray) (k : Nat) (w : World) (hs : t.size ≤ 140737488351232) (hk : k < t.size) (hi : Lib.indexByte t.data.toList 58 = k) :
    Calls Tryz.prog 169 #[.string t, .string ⟨#[58]⟩] w fun e w' => e = .returned (.tuple #[.string (t.extract 0 k), .string (t.extract (k + 1) t.size), .bool true]) ∧ Below w.heap.size w w' := by
 go_enter Tryz.func169, Tryz.ntmps169
 go_wp2_with (go_at_call 185; refine (index_one t _).mono ?_; rw [hi]; rintro e w' ⟨rfl, rfl⟩)
 go_quiet (fail)
 go_wp2
 go_ret3
 exact ⟨rfl, below_drewN _ _⟩
theorem cut_yes (t : ByteArray) (k : Nat) (w : World) (hs : t.size ≤ 140737488351232) (hk : k < t.size) (hi : Lib.indexByte t.data.toList 58 = k) :
    Calls Tryz.prog 148 #[.string t, .string ⟨#[58]⟩] w fun e w' => e = .returned (.tuple #[.string (t.extract 0 k), .string (t.extract (k + 1) t.size), .bool true]) ∧ Below w.heap.size w w' := by
 go_enter Tryz.func148, Tryz.ntmps148
 go_wp2_with (go_at_call 169; refine (liteCut_yes t k _ hs hk hi).mono ?_; rintro e w' ⟨rfl, hb⟩)
 go_ret3
 exact ⟨rfl, hb⟩
def told (p : ByteArray × ByteArray × Bool) : Value := .tuple #[.string p.1, .string p.2.1, .bool p.2.2]
theorem ret_told {a b : ByteArray} {t : Bool} {p : ByteArray × ByteArray × Bool} (h : p = (a, b, t)) : Ending.returned (.tuple #[.string a, .string b, .bool t]) = .returned (told p) := by rw [h]; rfl
theorem u8_int (a c : UInt8) : (a.toNat : Int) = (c.toNat : Int) ↔ a = c := by
 constructor
 · intro h; exact UInt8.toNat_inj.1 (by omega)
 · intro h; rw [h]
theorem apart_any (s : ByteArray) (c : UInt8) (w : World) (hs : s.size ≤ 140737488351232) :
    Calls Tryz.prog 121 #[.string s, .string ⟨#[c]⟩] w fun e w' => e = .returned (told (parts (c.toNat : Int) s)) ∧ Below w.heap.size w w' := by
 by_cases hp : ∀ h : 0 < s.size, s[0] ≠ c
 · have HP : Hid (parts (c.toNat : Int) s = (nix, nix, false)) := by
     refine parts_other _ _ ?_
     by_cases h0 : s.size = 0
     · exact .inl h0
     · refine .inr (.inl ?_)
       rw [ints_getD s 0 (by omega), ne_eq, u8_int]
       exact hp (by omega)
   go_enter Tryz.func121, Tryz.ntmps121
   go_wp2_with (go_at_call 147; refine (cutPrefix_no s c _ hs hp).mono ?_; rintro e w' ⟨rfl, rfl⟩)
   go_ret3
   exact ⟨ret_told HP.out, Below.refl _ _⟩
 · obtain ⟨h0, hc⟩ : ∃ h : 0 < s.size, s[0] = c := by simpa using hp
   clear hp
   have hg : (ints s).getD 0 0 = (c.toNat : Int) := by rw [ints_getD s 0 h0, hc]
   have hsz : (s.extract 1 s.size).size ≤ 140737488351232 := by simp; omega
   have hii : (s.extract 1 s.size).data.toList.map (fun c => (c.toNat : Int)) = (ints s).drop 1 := ints_extract s 1
   rcases colon_cases s with ⟨k, h1, hk, hkc, hka⟩ | hno
   · have hi : Lib.indexByte (s.extract 1 s.size).data.toList 58 = ((k - 1 : Nat) : Int) := by
       refine idx_hit _ _ ?_ ?_ fun j hj => ?_
       · rw [← Lib.size_eq]; simp; omega
       · rw [hii, getD_drop1, Nat.sub_add_cancel h1]; exact hkc
       · rw [hii, getD_drop1]; exact hka (j + 1) (by omega) (by omega)
     have hcut := fun wx : World => cut_yes (s.extract 1 s.size) (k - 1) wx hsz (by simp; omega) hi
     rw [cut_name s k h1 (by omega), Nat.sub_add_cancel h1, cut_server s k] at hcut
     have HP : Hid (parts (c.toNat : Int) s = if loc (s.extract 1 k) = true ∧ srv (s.extract (k + 1) s.size) = true then (s.extract 1 k, s.extract (k + 1) s.size, true) else (nix, nix, false)) := parts_hit _ s k hg h1 hk hkc hka
     have hl1 : (s.extract 1 k).size ≤ 140737488351232 := by simp; omega
     have hl2 : (s.extract (k + 1) s.size).size ≤ 140737488351232 := by simp; omega
     obtain ⟨t1, ht1⟩ : ∃ t, t = s.extract 1 k := ⟨_, rfl⟩
     obtain ⟨t2, ht2⟩ : ∃ t, t = s.extract (k + 1) s.size := ⟨_, rfl⟩
     rw [← ht1, ← ht2] at HP hcut
     rw [← ht1] at hl1
     rw [← ht2] at hl2
     clear ht1 ht2 hi hii hka hkc
     by_cases hL : loc t1 = true
     · by_cases hS : srv t2 = true
       · go_enter Tryz.func121, Tryz.ntmps121
         go_wp2_with (first
          | (go_at_call 147; refine (cutPrefix_yes s c _ hs h0 hc).mono ?_; rintro e w' ⟨rfl, rfl⟩)
          | (go_at_call 148; refine (hcut _).mono ?_; rintro e w1 ⟨rfl, hb1⟩)
          | (go_at_call 149; refine (local_any t1 _ hl1).mono ?_; rintro e w2 ⟨rfl, hb2⟩)
          | (go_at_call 134; refine (server_any t2 _ hl2).mono ?_; rintro e w3 ⟨rfl, hb3⟩))
         go_ret3
         have c2 := hb1.trans (hb2.mono hb1.size)
         exact ⟨ret_told (by rw [HP.out, if_pos ⟨hL, hS⟩]), c2.trans (hb3.mono c2.size)⟩
       · have hS' : srv t2 = false := by simpa using hS
         go_enter Tryz.func121, Tryz.ntmps121
         go_wp2_with (first
          | (go_at_call 147; refine (cutPrefix_yes s c _ hs h0 hc).mono ?_; rintro e w' ⟨rfl, rfl⟩)
          | (go_at_call 148; refine (hcut _).mono ?_; rintro e w1 ⟨rfl, hb1⟩)
          | (go_at_call 149; refine (local_any t1 _ hl1).mono ?_; rintro e w2 ⟨rfl, hb2⟩)
          | (go_at_call 134; refine (server_any t2 _ hl2).mono ?_; rintro e w3 ⟨rfl, hb3⟩))
         go_ret3
         have c2 := hb1.trans (hb2.mono hb1.size)
         exact ⟨ret_told (by rw [HP.out, if_neg (by simp [hS'])]; rfl), c2.trans (hb3.mono c2.size)⟩
     · have hL' : loc t1 = false := by simpa using hL
       clear hL
       go_enter Tryz.func121, Tryz.ntmps121
       go_wp2_with (first
        | (go_at_call 147; refine (cutPrefix_yes s c _ hs h0 hc).mono ?_; rintro e w' ⟨rfl, rfl⟩)
        | (go_at_call 148; refine (hcut _).mono ?_; rintro e w1 ⟨rfl, hb1⟩)
        | (go_at_call 149; refine (local_any t1 _ hl1).mono ?_; rintro e w2 ⟨rfl, hb2⟩))
       go_ret3
       exact ⟨ret_told (by rw [HP.out, if_neg (by simp [hL'])]; rfl), hb1.trans (hb2.mono hb1.size)⟩
   · have hi : Lib.indexByte (s.extract 1 s.size).data.toList 58 = -1 := by
       refine idx_miss _ fun j hj => ?_
       rw [← Lib.size_eq] at hj
       simp at hj
       rw [hii, getD_drop1]; exact hno (j + 1) (by omega) (by omega)
     have HP : Hid (parts (c.toNat : Int) s = (nix, nix, false)) := parts_other _ _ (.inr (.inr hno))
     have hcut := fun wx : World => cut_no (s.extract 1 s.size) wx hi
     go_enter Tryz.func121, Tryz.ntmps121
     go_wp2_with (first
      | (go_at_call 147; refine (cutPrefix_yes s c _ hs h0 hc).mono ?_; rintro e w' ⟨rfl, rfl⟩)
      | (go_at_call 148; refine (hcut _).mono ?_; rintro e w1 ⟨rfl, hb1⟩))
     go_ret3
     exact ⟨ret_told HP.out, hb1⟩
theorem user_any (s : ByteArray) (w : World) (hs : s.size ≤ 140737488351232) :
    Calls Tryz.prog 84 #[.string s] w fun e w' => e = .returned (told (parts 64 s)) ∧ Below w.heap.size w w' := by
 go_enter Tryz.func84, Tryz.ntmps84
 go_wp2_with (go_at_call 121; refine (apart_any s 64 _ hs).mono ?_; rintro e w1 ⟨rfl, hb1⟩; unfold told)
 go_ret3
 exact ⟨rfl, hb1⟩
theorem room_any (s : ByteArray) (w : World) (hs : s.size ≤ 140737488351232) :
    Calls Tryz.prog 119 #[.string s] w fun e w' => e = .returned (told (parts 33 s)) ∧ Below w.heap.size w w' := by
 go_enter Tryz.func119, Tryz.ntmps119
 go_wp2_with (go_at_call 121; refine (apart_any s 33 _ hs).mono ?_; rintro e w1 ⟨rfl, hb1⟩; unfold told)
 go_ret3
 exact ⟨rfl, hb1⟩
def home (s : ByteArray) : ByteArray := if (parts 64 s).2.2 = true then (parts 64 s).2.1 else (parts 33 s).2.1
theorem ret_text {a b : ByteArray} (h : a = b) : Ending.returned (.string a) = .returned (.string b) := by rw [h]
theorem home_any (s : ByteArray) (w : World) (hs : s.size ≤ 140737488351232) :
    Calls Tryz.prog 80 #[.string s] w fun e w' => e = .returned (.string (home s)) ∧ Below w.heap.size w w' := by
 cases hu : (parts 64 s).2.2 with
 | true =>
  go_enter Tryz.func80, Tryz.ntmps80
  go_wp2_with (go_at_call 84; refine (user_any s _ hs).mono ?_; rintro e w1 ⟨rfl, hb1⟩; unfold told)
  go_ret
  exact ⟨ret_text (by unfold home; rw [if_pos hu]), hb1⟩
 | false =>
  go_enter Tryz.func80, Tryz.ntmps80
  go_wp2_with (first
   | (go_at_call 84; refine (user_any s _ hs).mono ?_; rintro e w1 ⟨rfl, hb1⟩; unfold told)
   | (go_at_call 119; refine (room_any s _ hs).mono ?_; rintro e w2 ⟨rfl, hb2⟩; unfold told))
  go_ret
  exact ⟨ret_text (by unfold home; rw [if_neg (by simp [hu])]), hb1.trans (hb2.mono hb1.size)⟩
theorem wraps_u32 (n : Int) (h₀ : 0 ≤ n) (h₁ : n < 2 ^ 32) : IntKind.u32.wrap n = n := by rw [IntKind.wrap_u32]; omega
theorem or_join (i : Nat) (x y : Int) (hx₀ : 0 ≤ x) (hx : x % 2 ^ i = 0) (hx₁ : x < 4294967296) (hy₀ : 0 ≤ y) (hy : y < 2 ^ i) (hy₁ : y < 4294967296) : bits .or .u32 x y = x + y :=
 bits_join .u32 32 (by decide) wraps_u32 i x y hx₀ hx (by omega) hy₀ hy (by omega)
theorem gather_any (a b c d : Int) (w : World) (ha0 : 0 ≤ a) (ha : a ≤ 255) (hb0 : 0 ≤ b) (hb : b ≤ 255) (hc0 : 0 ≤ c) (hc : c ≤ 255) (hd0 : 0 ≤ d) (hd : d ≤ 255) :
    Calls Tryz.prog 175 #[.agg #[.int .u8 a, .int .u8 b, .int .u8 c, .int .u8 d]] w fun e w' => e = .returned (.agg #[.int .u8 (num0 a * 4 + num0 b / 16), .int .u8 (num0 b % 16 * 16 + num0 c / 4), .int .u8 (num0 c % 4 * 64 + num0 d)]) ∧ Below w.heap.size w w' := by
 have na := num0_hi a
 have nb := num0_hi b
 have nc := num0_hi c
 have nd := num0_hi d
 have ma := num0_lo a
 have mb := num0_lo b
 have mc := num0_lo c
 have md := num0_lo d
 have o0 : bits .or .u32 0 (num0 a) = num0 a := by rw [or_join 6 _ _ (by omega) (by omega) (by omega) (by omega) (by omega) (by omega)]; omega
 have o1 : bits .or .u32 (num0 a * 64) (num0 b) = num0 a * 64 + num0 b := or_join 6 _ _ (by omega) (by omega) (by omega) (by omega) (by omega) (by omega)
 have o2 : bits .or .u32 ((num0 a * 64 + num0 b) * 64) (num0 c) = (num0 a * 64 + num0 b) * 64 + num0 c := or_join 6 _ _ (by omega) (by omega) (by omega) (by omega) (by omega) (by omega)
 have o3 : bits .or .u32 (((num0 a * 64 + num0 b) * 64 + num0 c) * 64) (num0 d) = ((num0 a * 64 + num0 b) * 64 + num0 c) * 64 + num0 d := or_join 6 _ _ (by omega) (by omega) (by omega) (by omega) (by omega) (by omega)
 have r1 : (((num0 a * 64 + num0 b) * 64 + num0 c) * 64 + num0 d) / 65536 = num0 a * 4 + num0 b / 16 := by omega
 have r2 : (((num0 a * 64 + num0 b) * 64 + num0 c) * 64 + num0 d) / 256 % 256 = num0 b % 16 * 16 + num0 c / 4 := by omega
 have r3 : (((num0 a * 64 + num0 b) * 64 + num0 c) * 64 + num0 d) % 256 = num0 c % 4 * 64 + num0 d := by omega
 have i0 : ∀ w, (Instr.index 187 (.agg #[.int .u8 a, .int .u8 b, .int .u8 c, .int .u8 d]) (.int .i64 0)).run Tryz.prog w = .ok (.int .u8 a) w := fun _ => by kernel_rfl
 have i1 : ∀ w, (Instr.index 187 (.agg #[.int .u8 a, .int .u8 b, .int .u8 c, .int .u8 d]) (.int .i64 1)).run Tryz.prog w = .ok (.int .u8 b) w := fun _ => by kernel_rfl
 have i2 : ∀ w, (Instr.index 187 (.agg #[.int .u8 a, .int .u8 b, .int .u8 c, .int .u8 d]) (.int .i64 2)).run Tryz.prog w = .ok (.int .u8 c) w := fun _ => by kernel_rfl
 have i3 : ∀ w, (Instr.index 187 (.agg #[.int .u8 a, .int .u8 b, .int .u8 c, .int .u8 d]) (.int .i64 3)).run Tryz.prog w = .ok (.int .u8 d) w := fun _ => by kernel_rfl
 go_enter Tryz.func175, Tryz.ntmps175
 go_wp2
 refine wp_loop_rounds 5 ?_
 iterate 5 (rw [rounds_succ]; go_wp2_with (go_at_call 187; refine (number_any _ _ (by omega) (by omega)).mono ?_; rintro e w' ⟨rfl, rfl⟩))
 exact bodyPost_ret (v := .agg #[.int .u8 (num0 a * 4 + num0 b / 16), .int .u8 (num0 b % 16 * 16 + num0 c / 4), .int .u8 (num0 c % 4 * 64 + num0 d)]) (by simp [results, Tryz.results175, go_sem]) rfl ⟨rfl, ((Below.refl _ _).alloc (Nat.le_refl _) _).alloc (by simp) _⟩
theorem and15 (x : Int) (h₀ : 0 ≤ x) (h₁ : x < 4294967296) : bits .and .u32 x 15 = x % 16 :=
 bits_mask .u32 32 (by decide) wraps_u32 4 (by decide) x h₀ (by omega)
theorem and3 (x : Int) (h₀ : 0 ≤ x) (h₁ : x < 4294967296) : bits .and .u32 x 3 = x % 4 :=
 bits_mask .u32 32 (by decide) wraps_u32 2 (by decide) x h₀ (by omega)
theorem spare_any (s : ByteArray) (w : World) (hs : s.size ≤ 140737488351232) (h4 : s.size % 4 ≠ 1) :
    Calls Tryz.prog 188 #[.string s] w fun e w' => e = .returned (.int .u32 (spar (ints s))) ∧ w = w' := by
 have HL : Hid ((ints s).length = s.size) := ints_length s
 by_cases h0 : s.size % 4 = 0
 · have h0' : (s.size : Int) % 4 = 0 := by omega
   go_enter Tryz.func188, Tryz.ntmps188
   go_wp2
   go_ret
   exact ⟨ret_int (by unfold spar; rw [HL.out, if_neg (by omega), if_neg (by omega)]), rfl⟩
 have hg := ints_getD s (s.size - 1) (by omega)
 have hb0 : (0 : Int) ≤ (s[s.size - 1].toNat : Int) := by omega
 have hb1 : (s[s.size - 1].toNat : Int) ≤ 255 := by have := s[s.size - 1].toNat_lt; omega
 have n0 := num0_lo (s[s.size - 1].toNat : Int)
 have n1 := num0_hi (s[s.size - 1].toNat : Int)
 have HG : Hid ((ints s).getD (s.size - 1) 0 = (s[s.size - 1].toNat : Int)) := hg
 clear hg
 by_cases h2 : s.size % 4 = 2
 · have h2' : (s.size : Int) % 4 = 2 := by omega
   go_enter Tryz.func188, Tryz.ntmps188
   go_wp2_with (go_at_call 187; refine (number_any _ _ (by omega) (by omega)).mono ?_; rintro e w' ⟨rfl, rfl⟩)
   go_ret
   exact ⟨ret_int (by unfold spar; rw [HL.out, if_pos h2, HG.out]; exact and15 _ n0 (by omega)), rfl⟩
 · have h2' : (s.size : Int) % 4 = 3 := by omega
   go_enter Tryz.func188, Tryz.ntmps188
   go_wp2_with (go_at_call 187; refine (number_any _ _ (by omega) (by omega)).mono ?_; rintro e w' ⟨rfl, rfl⟩)
   go_ret
   exact ⟨ret_int (by unfold spar; rw [HL.out, if_neg h2, if_pos (by omega), HG.out]; exact and3 _ n0 (by omega)), rfl⟩
theorem ret_two {a b c d : Int} (h : a = c) (hp : b = d) : Ending.returned (.tuple #[.int .i64 a, .int .i64 b]) = .returned (.tuple #[.int .i64 c, .int .i64 d]) := by rw [h, hp]
theorem fault_any (s : ByteArray) (w : World) (hs : s.size ≤ 140737488351232) :
    Calls Tryz.prog 173 #[.string s] w fun e w' => e = .returned (.tuple #[.int .i64 (flt (ints s)).1, .int .i64 (flt (ints s)).2]) ∧ w = w' := by
 have HL : Hid ((ints s).length = s.size) := ints_length s
 go_enter Tryz.func173, Tryz.ntmps173
 go_wp2
 go_loop [9] (fun i => ∃ k : Nat, k ≤ s.size ∧ i = .int .i64 k ∧ ∀ j, j < k → isLet ((ints s).getD j 0) = true) (fun i => s.size - (intOf i).toNat)
 case atStart => exact ⟨0, Nat.zero_le _, rfl, fun j hj => by omega⟩
 case round =>
  obtain ⟨k, hk, rfl, hall⟩ := hrel
  have HA : Hid (∀ j, j < k → isLet ((ints s).getD j 0) = true) := hall
  clear hall
  by_cases hlt : k < s.size
  · have HG : Hid ((ints s).getD k 0 = (s[k].toNat : Int)) := ints_getD s k hlt
    have hb1 : (s[k].toNat : Int) ≤ 255 := by have := s[k].toNat_lt; omega
    by_cases hb : isLet (s[k].toNat : Int) = true
    · go_wp2_with (go_at_call 187; refine (number_any _ _ (by omega) (by omega)).mono ?_; rintro e w' ⟨rfl, rfl⟩)
      go_round
      case rel => exact ⟨k + 1, by omega, by go_num, fun j hj => by
                            by_cases e : j = k
                            · rw [e, HG.out]; exact hb
                            · exact HA.out j (by omega)⟩
      case measure => simp [intOf]; omega
    · have hb' : isLet (s[k].toNat : Int) = false := by simpa using hb
      clear hb
      go_wp2_with (go_at_call 187; refine (number_any _ _ (by omega) (by omega)).mono ?_; rintro e w' ⟨rfl, rfl⟩)
      go_ret2
      have hgood := good_at (ints s) k (by rw [HL.out]; exact hlt) HA.out (by rw [HG.out]; exact hb')
      exact ⟨ret_two (by unfold flt; rw [hgood, HL.out, if_pos hlt]) (by unfold flt; rw [hgood, HL.out, if_pos hlt]), rfl⟩
  · obtain rfl : k = s.size := by omega
    have hgood : Hid (good (ints s) = s.size) := (good_all (ints s) (by rw [HL.out]; exact HA.out)).trans HL.out
    by_cases h1 : s.size % 4 = 1
    · have h1' : (s.size : Int) % 4 = 1 := by omega
      go_wp2
      go_ret2
      exact ⟨ret_two (by unfold flt; rw [hgood.out, HL.out, if_neg (by omega), if_pos h1]) (by unfold flt; rw [hgood.out, HL.out, if_neg (by omega), if_pos h1]), rfl⟩
    · have h1' : ¬ (s.size : Int) % 4 = 1 := by omega
      by_cases hsp : spar (ints s) = 0
      · have hp : Hid (spar (ints s) = 0) := hsp
        go_wp2_with (go_at_call 188; refine (spare_any s _ hs (by omega)).mono ?_; rintro e w' ⟨rfl, rfl⟩)
        go_ret2
        exact ⟨ret_two (by unfold flt; rw [hgood.out, HL.out, if_neg (by omega), if_neg h1, if_neg (by simp [hp.out])]) (by unfold flt; rw [hgood.out, HL.out, if_neg (by omega), if_neg h1, if_neg (by simp [hp.out])]), rfl⟩
      · go_wp2_with (go_at_call 188; refine (spare_any s _ hs (by omega)).mono ?_; rintro e w' ⟨rfl, rfl⟩)
        go_ret2
        exact ⟨ret_two (by unfold flt; rw [hgood.out, HL.out, if_neg (by omega), if_neg h1, if_pos hsp]) (by unfold flt; rw [hgood.out, HL.out, if_neg (by omega), if_neg h1, if_pos hsp]), rfl⟩
theorem Tryz.info5 : (Tryz.prog.info? 5).map (fun i => (i.zero, i.size, i.bytes)) = some (some (.int .u8 0), 1, 1) := by kernel_rfl
theorem Tryz.size5 : (Tryz.prog.info? 5).map (·.size) = some 1 := by kernel_rfl
theorem u8_oneCell (l : List Int) : ∀ v ∈ l.map (Value.int .u8), v.oneCell' = true := by
 intro v hv
 simp only [List.mem_map] at hv
 obtain ⟨x, _, rfl⟩ := hv
 rfl
theorem splice4z (rs : List Int) : splice [Value.int .u8 0, .int .u8 0, .int .u8 0, .int .u8 0] 0 ((rs.take 4).map (Value.int .u8)) = [.int .u8 (rs.getD 0 0), .int .u8 (rs.getD 1 0), .int .u8 (rs.getD 2 0), .int .u8 (rs.getD 3 0)] := by
 match rs with
 | [] => rfl
 | [_] => rfl
 | [_, _] => rfl
 | [_, _, _] => rfl
 | _ :: _ :: _ :: _ :: _ => simp [splice]
theorem getD_bd {rs : List Int} (h : ∀ x ∈ rs, 0 ≤ x ∧ x ≤ 255) (j : Nat) : 0 ≤ rs.getD j 0 ∧ rs.getD j 0 ≤ 255 := by
 rw [List.getD_eq_getElem?_getD]
 rcases Nat.lt_or_ge j rs.length with hj | hj
 · rw [List.getElem?_eq_getElem hj]; exact h _ (List.getElem_mem hj)
 · rw [List.getElem?_eq_none hj]; simp
theorem cell_row {w : World} {g t : Nat} {fr : Nat × Nat} {cur : List Value} (h : w.heap[g]? = some (.cells cur.toArray t fr)) (j : Nat) (v : Value) (hj : cur[j]? = some v) : w.cell? ⟨g, j, none⟩ = some v := by
 simp [World.cell?, h, hj]
theorem sizeOf5 (w : World) : (sizeOf 5).run Tryz.prog w = .ok 1 w := by kernel_rfl
theorem elem80 : Tryz.prog.elem 80 = 5 := by kernel_rfl
theorem len188 : Tryz.prog.arrayLen 188 = 3 := by kernel_rfl
theorem elem188 : Tryz.prog.elem 188 = 5 := by kernel_rfl
theorem run_cut188 (m : Nat) (hm : m ≤ 3) (a : Addr) (wx : World) : (Instr.sliceAt 188 (.pointer (some a)) none (some (.int .i64 (m : Int))) none).run Tryz.prog wx = .ok (.slice (some a) m 3) wx := by
 rw [run_sliceAt_array_h wx 188 a (by rw [len188, elem188]; exact Tryz.underlying188) .i64 (m : Int) (by omega) (by rw [len188]; omega), elem188, sizeOf5, len188]
 simp [Result.andThen, slicedAt, Addr.add]
theorem cells_new (w : World) (L : List Int) (t n j : Nat) (u : Value) (h : ((L.take n).map (Value.int .u8))[j]? = some u) :
    (w.alloc (.cells (L.map (Value.int .u8)).toArray t)).cell? ((⟨w.heap.size, 0, none⟩ : Addr).add j) = some u := by
 have e : (⟨w.heap.size, 0, none⟩ : Addr).add j = ⟨w.heap.size, j, none⟩ := by unfold Addr.add; split <;> simp_all
 rw [e]
 refine cell_row (heap_alloc_new _ _) j u ?_
 rw [List.getElem?_map, List.getElem?_take] at h
 split at h
 · rw [List.getElem?_map]; exact h
 · cases h
def lenOf : Value → Nat
 | .slice _ n _ => n
 | _ => 0
theorem run_copy_str (w : World) (ty g dLen dCap : Nat) (s : ByteArray) (cur : List Value) (t n : Nat) (hg : w.heap[g]? = some (.cells cur.toArray t (0, 0))) (hn : n = min s.size dLen) (hfit : n ≤ cur.length) :
    (Builtin.copy_ #[80, 9] ty #[.slice (some ⟨g, 0, none⟩) dLen dCap, .string s]).run Tryz.prog w =
     .ok (goInt n) (w.setRow g (splice cur 0 (((ints s).take n).map (Value.int .u8))).toArray) := by
 have hlen : (((ints s).take n).map (Value.int .u8)).length = n := by simp [ints_length]; omega
 have hst := run_storeCells_at Tryz.prog g 0 t (((ints s).take n).map (Value.int .u8)) 0 cur.toArray w hg (by rw [hlen]; simpa using hfit) (u8_oneCell _)
 have hmin : Nat.min s.size dLen = n := hn.symm
 have htk : List.take n (List.map (fun b : UInt8 => Value.int IntKind.u8 (b.toNat : Int)) s.data.toList) = ((ints s).take n).map (Value.int .u8) := by
  simp [ints, List.map_take]
  rfl
 rw [hlen] at hst
 simp only [Nat.add_zero] at hst
 cases hq : Tryz.prog.info? 5 with
 | none => have := Tryz.size5; simp [hq] at this
 | some i =>
  simp [Builtin.copy_, run_underlying Tryz.underlying80, Builtin.lenOf, Builtin.firstCells, sizeOf, typeInfo, hq, hmin]
  rw [htk, hst]
  have hm : min n (ints s).length = n := by rw [ints_length]; omega
  simp [Result.andThen, splice, hm]
theorem wpList_copy_str {w : World} {ops : Array Oper} {rest : List Oper} {o : Oper} {a : Act} {Q : Exit → Act → World → Prop} (hgd : o.guard = none) (d s : Operand)
    (ho : o.op = .call { callee := .builtin .copy, args := #[d, s], argTypes := #[80, 9] })
    (g dLen dCap : Nat) (x : ByteArray) (hd : a.eval d = .slice (some ⟨g, 0, none⟩) dLen dCap) (hs : a.eval s = .string x)
    (cur : List Value) (t : Nat) (hg : w.heap[g]? = some (.cells cur.toArray t (0, 0))) (n : Nat) (hn : n = min x.size dLen) (hfit : n ≤ cur.length) (B : Nat) (w0 : World) (hb : Below B w0 w) (hBg : B ≤ g)
    (h : ∀ w', Hid (w'.heap[g]? = some (.cells (splice cur 0 (((ints x).take n).map (Value.int .u8))).toArray t (0, 0))) → Below B w0 w' → wpList Tryz.prog ops Q rest (a.put o.dst (goInt n)) w') :
    wpList Tryz.prog ops Q (o :: rest) a w := by
 refine wpList_plain hgd fun K hK => ?_
 have hrun := run_copy_str w o.type g dLen dCap x cur t n hg hn hfit
 unfold Oper.wp
 simp [execOp, ho, resolve, invoke, builtin, hd, hs, hrun, Result.andThen]
 exact hK _ _ (h _ (show _ = _ by rw [List.map_take]; exact setRow_heap w g _ _ t _ hg) (below_setRow hb hBg _))
end Go.Proofs.YtldegjjaknelgaaGreatDoor.Id

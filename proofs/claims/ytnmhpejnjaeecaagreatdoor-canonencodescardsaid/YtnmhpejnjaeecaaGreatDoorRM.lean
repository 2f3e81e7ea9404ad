/-
  How the document's answer writes a text, by a contract.
  How the document's answer writes a number, by a contract.
  How the document's answer writes a value, by a contract.
-/
import Derived.Test.YtnmhpejnjaeecaaGreatDoorM2
import Derived.Test.YtnmhpejnjaeecaaGreatDoorM1
import Derived.Test.YtnmhpejnjaeecaaGreatDoorM8
import Derived.BigQuiet
import Derived.Lib.ItoaLen
namespace Go.Proofs.YtnmhpejnjaeecaaGreatDoor
open Go.RowKit

theorem esc_len (c : Int) : (escByte c).length ≤ 6 := by
  unfold escByte
  repeat' split
  all_goals simp
theorem escs_len : ∀ l : List Int, (l.flatMap escByte).length ≤ 6 * l.length
  | [] => Nat.le_refl _
  | c :: r => by
    rw [List.flatMap_cons, List.length_append, List.length_cons]
    have h1 := esc_len c
    have h2 := escs_len r
    omega
theorem take_one {l : List Int} {i : Nat} (h : i < l.length) : l.take (i + 1) = l.take i ++ [byteAt l i] := by
  rw [List.take_add_one]
  unfold byteAt
  rw [List.getD_eq_getElem?_getD, List.getElem?_eq_getElem h]
  rfl
theorem esc_step {l : List Int} {i : Nat} (h : i < l.length) : strOfNums (34 :: (l.take (i + 1)).flatMap escByte) = strOfNums (34 :: (l.take i).flatMap escByte) ++ strOfNums (escByte (byteAt l i)) := by
  rw [take_one h, List.flatMap_append, str_append]
  simp
theorem byte_at (s : ByteArray) (i : Nat) (h : i < s.size) : byteAt (ints s) i = (s[i].toNat : Int) := ints_getD s i h
theorem ex_one (s : ByteArray) (i : Nat) (h : i < s.size) : s.extract i (i + 1) = ⟨#[s[i]]⟩ := by
  apply ByteArray.ext
  rw [ByteArray.data_extract]
  apply Array.ext
  · have : s.data.size = s.size := rfl
    simp
    omega
  · intro j h1 h2
    have h2' : j < 1 := by simpa using h2
    obtain rfl : j = 0 := by omega
    simp
    rfl
theorem ex_c (s : ByteArray) (i : Nat) (h : i < s.size) {c : Nat} (hc : s[i].toNat = c) : s.extract i (i + 1) = strOfNums [(c : Int)] := by
  rw [ex_one s i h, ← hc]
  simp [strOfNums]
theorem esc_big {c : Nat} (h : 32 ≤ c) (h34 : c ≠ 34) (h92 : c ≠ 92) : escByte (c : Int) = [(c : Int)] := by
  unfold escByte
  rw [if_neg (by omega), if_neg (by omega), if_neg (by omega), if_neg (by omega), if_neg (by omega), if_neg (by omega), if_neg (by omega), if_neg (by omega)]
theorem app3 (a b c : ByteArray) : a ++ b ++ c = a ++ (b ++ c) := ByteArray.append_assoc
theorem app_low {T a b c x : ByteArray} (h : a ++ b ++ c = x) : T ++ a ++ b ++ c = T ++ x := by rw [← h, app3, app3, app3]
set_option maxRecDepth 100000 in
set_option maxHeartbeats 64000000 in
theorem rText_any (s : ByteArray) (w : World) (hs : s.size ≤ 100000000000) : Calls Tryz.prog 30 #[.string s] w fun x w' => x = .returned (.string (strOfNums (quote (ints s)))) ∧ Keep (fun _ => False) w w' := by
  go_enter Tryz.func30, Tryz.ntmps30
  go_wp2
  go_loopw [3, 4] (fun t v wr => ∃ i : Nat, v = .int .i64 i ∧ i ≤ s.size ∧ t = .string (strOfNums (34 :: ((ints s).take i).flatMap escByte)) ∧ Keep (fun _ => False) w wr) (fun _ v _ => s.size - (intOf v).toNat)
  case atStart => exact ⟨0, rfl, Nat.zero_le _, rfl, Keep.refl _ _⟩
  case round =>
    obtain ⟨i, rfl, hi, rfl, hk⟩ := hrel
    have hz : (strOfNums (34 :: ((ints s).take i).flatMap escByte)).size ≤ 600000000001 := by
      rw [str_size, List.length_cons]
      have := escs_len ((ints s).take i)
      rw [List.length_take] at this
      omega
    by_cases hlt : i < s.size
    · have HSt := esc_step (l := ints s) (i := i) (by rw [ints_length]; exact hlt)
      obtain ⟨c, hc⟩ : ∃ c : Nat, s[i].toNat = c := ⟨_, rfl⟩
      have hcl : c < 256 := by rw [← hc]; exact s[i].toNat_lt
      rw [byte_at s i hlt, hc] at HSt
      have HE : Hid (s.extract i (i + 1) = strOfNums [(c : Int)]) := ex_c s i hlt hc
      obtain ⟨T, hT⟩ : ∃ T, strOfNums (34 :: ((ints s).take i).flatMap escByte) = T := ⟨_, rfl⟩
      rw [hT] at hz HSt ⊢
      have HS : Hid (strOfNums (34 :: ((ints s).take (i + 1)).flatMap escByte) = T ++ strOfNums (escByte (c : Int))) := HSt
      clear hT HSt
      by_cases hbig : 32 ≤ c ∧ c ≠ 34 ∧ c ≠ 92
      · have g1 : ((c : Int) == 34) = false := by simp; omega
        have g2 : ((c : Int) == 92) = false := by simp; omega
        have g3 : ((c : Int) == 8) = false := by simp; omega
        have g4 : ((c : Int) == 9) = false := by simp; omega
        have g5 : ((c : Int) == 10) = false := by simp; omega
        have g6 : ((c : Int) == 12) = false := by simp; omega
        have g7 : ((c : Int) == 13) = false := by simp; omega
        have g8 : ¬ (c : Int) < 32 := by omega
        go_wp2
        go_roundw
        case rel => exact ⟨i + 1, by go_num, hlt, by rw [HS.out, HE.out, esc_big hbig.1 hbig.2.1 hbig.2.2], hk⟩
        case measure => simp [intOf]; omega
      · have hcs : c = 0 ∨ c = 1 ∨ c = 2 ∨ c = 3 ∨ c = 4 ∨ c = 5 ∨ c = 6 ∨ c = 7 ∨ c = 8 ∨ c = 9 ∨ c = 10 ∨ c = 11 ∨ c = 12 ∨ c = 13 ∨ c = 14 ∨ c = 15 ∨ c = 16 ∨ c = 17 ∨ c = 18 ∨ c = 19 ∨ c = 20 ∨ c = 21 ∨ c = 22 ∨ c = 23 ∨ c = 24 ∨ c = 25 ∨ c = 26 ∨ c = 27 ∨ c = 28 ∨ c = 29 ∨ c = 30 ∨ c = 31 ∨ c = 34 ∨ c = 92 := by omega
        rcases hcs with rfl | rfl | rfl | rfl | rfl | rfl | rfl | rfl | rfl | rfl | rfl | rfl | rfl | rfl | rfl | rfl | rfl | rfl | rfl | rfl | rfl | rfl | rfl | rfl | rfl | rfl | rfl | rfl | rfl | rfl | rfl | rfl | rfl | rfl
        · go_wp2
          go_quiet (fail)
          go_wp2
          go_roundw
          case rel => exact ⟨i + 1, by go_num, hlt, by rw [HS.out]; exact congrArg Value.string (app_low (by kernel_rfl)), hk.drewN _⟩
          case measure => simp [intOf]; omega
        · go_wp2
          go_quiet (fail)
          go_wp2
          go_roundw
          case rel => exact ⟨i + 1, by go_num, hlt, by rw [HS.out]; exact congrArg Value.string (app_low (by kernel_rfl)), hk.drewN _⟩
          case measure => simp [intOf]; omega
        · go_wp2
          go_quiet (fail)
          go_wp2
          go_roundw
          case rel => exact ⟨i + 1, by go_num, hlt, by rw [HS.out]; exact congrArg Value.string (app_low (by kernel_rfl)), hk.drewN _⟩
          case measure => simp [intOf]; omega
        · go_wp2
          go_quiet (fail)
          go_wp2
          go_roundw
          case rel => exact ⟨i + 1, by go_num, hlt, by rw [HS.out]; exact congrArg Value.string (app_low (by kernel_rfl)), hk.drewN _⟩
          case measure => simp [intOf]; omega
        · go_wp2
          go_quiet (fail)
          go_wp2
          go_roundw
          case rel => exact ⟨i + 1, by go_num, hlt, by rw [HS.out]; exact congrArg Value.string (app_low (by kernel_rfl)), hk.drewN _⟩
          case measure => simp [intOf]; omega
        · go_wp2
          go_quiet (fail)
          go_wp2
          go_roundw
          case rel => exact ⟨i + 1, by go_num, hlt, by rw [HS.out]; exact congrArg Value.string (app_low (by kernel_rfl)), hk.drewN _⟩
          case measure => simp [intOf]; omega
        · go_wp2
          go_quiet (fail)
          go_wp2
          go_roundw
          case rel => exact ⟨i + 1, by go_num, hlt, by rw [HS.out]; exact congrArg Value.string (app_low (by kernel_rfl)), hk.drewN _⟩
          case measure => simp [intOf]; omega
        · go_wp2
          go_quiet (fail)
          go_wp2
          go_roundw
          case rel => exact ⟨i + 1, by go_num, hlt, by rw [HS.out]; exact congrArg Value.string (app_low (by kernel_rfl)), hk.drewN _⟩
          case measure => simp [intOf]; omega
        · go_wp2
          go_roundw
          case rel => exact ⟨i + 1, by go_num, hlt, by rw [HS.out]; rfl, hk⟩
          case measure => simp [intOf]; omega
        · go_wp2
          go_roundw
          case rel => exact ⟨i + 1, by go_num, hlt, by rw [HS.out]; rfl, hk⟩
          case measure => simp [intOf]; omega
        · go_wp2
          go_roundw
          case rel => exact ⟨i + 1, by go_num, hlt, by rw [HS.out]; rfl, hk⟩
          case measure => simp [intOf]; omega
        · go_wp2
          go_quiet (fail)
          go_wp2
          go_roundw
          case rel => exact ⟨i + 1, by go_num, hlt, by rw [HS.out]; exact congrArg Value.string (app_low (by kernel_rfl)), hk.drewN _⟩
          case measure => simp [intOf]; omega
        · go_wp2
          go_roundw
          case rel => exact ⟨i + 1, by go_num, hlt, by rw [HS.out]; rfl, hk⟩
          case measure => simp [intOf]; omega
        · go_wp2
          go_roundw
          case rel => exact ⟨i + 1, by go_num, hlt, by rw [HS.out]; rfl, hk⟩
          case measure => simp [intOf]; omega
        · go_wp2
          go_quiet (fail)
          go_wp2
          go_roundw
          case rel => exact ⟨i + 1, by go_num, hlt, by rw [HS.out]; exact congrArg Value.string (app_low (by kernel_rfl)), hk.drewN _⟩
          case measure => simp [intOf]; omega
        · go_wp2
          go_quiet (fail)
          go_wp2
          go_roundw
          case rel => exact ⟨i + 1, by go_num, hlt, by rw [HS.out]; exact congrArg Value.string (app_low (by kernel_rfl)), hk.drewN _⟩
          case measure => simp [intOf]; omega
        · go_wp2
          go_quiet (fail)
          go_wp2
          go_roundw
          case rel => exact ⟨i + 1, by go_num, hlt, by rw [HS.out]; exact congrArg Value.string (app_low (by kernel_rfl)), hk.drewN _⟩
          case measure => simp [intOf]; omega
        · go_wp2
          go_quiet (fail)
          go_wp2
          go_roundw
          case rel => exact ⟨i + 1, by go_num, hlt, by rw [HS.out]; exact congrArg Value.string (app_low (by kernel_rfl)), hk.drewN _⟩
          case measure => simp [intOf]; omega
        · go_wp2
          go_quiet (fail)
          go_wp2
          go_roundw
          case rel => exact ⟨i + 1, by go_num, hlt, by rw [HS.out]; exact congrArg Value.string (app_low (by kernel_rfl)), hk.drewN _⟩
          case measure => simp [intOf]; omega
        · go_wp2
          go_quiet (fail)
          go_wp2
          go_roundw
          case rel => exact ⟨i + 1, by go_num, hlt, by rw [HS.out]; exact congrArg Value.string (app_low (by kernel_rfl)), hk.drewN _⟩
          case measure => simp [intOf]; omega
        · go_wp2
          go_quiet (fail)
          go_wp2
          go_roundw
          case rel => exact ⟨i + 1, by go_num, hlt, by rw [HS.out]; exact congrArg Value.string (app_low (by kernel_rfl)), hk.drewN _⟩
          case measure => simp [intOf]; omega
        · go_wp2
          go_quiet (fail)
          go_wp2
          go_roundw
          case rel => exact ⟨i + 1, by go_num, hlt, by rw [HS.out]; exact congrArg Value.string (app_low (by kernel_rfl)), hk.drewN _⟩
          case measure => simp [intOf]; omega
        · go_wp2
          go_quiet (fail)
          go_wp2
          go_roundw
          case rel => exact ⟨i + 1, by go_num, hlt, by rw [HS.out]; exact congrArg Value.string (app_low (by kernel_rfl)), hk.drewN _⟩
          case measure => simp [intOf]; omega
        · go_wp2
          go_quiet (fail)
          go_wp2
          go_roundw
          case rel => exact ⟨i + 1, by go_num, hlt, by rw [HS.out]; exact congrArg Value.string (app_low (by kernel_rfl)), hk.drewN _⟩
          case measure => simp [intOf]; omega
        · go_wp2
          go_quiet (fail)
          go_wp2
          go_roundw
          case rel => exact ⟨i + 1, by go_num, hlt, by rw [HS.out]; exact congrArg Value.string (app_low (by kernel_rfl)), hk.drewN _⟩
          case measure => simp [intOf]; omega
        · go_wp2
          go_quiet (fail)
          go_wp2
          go_roundw
          case rel => exact ⟨i + 1, by go_num, hlt, by rw [HS.out]; exact congrArg Value.string (app_low (by kernel_rfl)), hk.drewN _⟩
          case measure => simp [intOf]; omega
        · go_wp2
          go_quiet (fail)
          go_wp2
          go_roundw
          case rel => exact ⟨i + 1, by go_num, hlt, by rw [HS.out]; exact congrArg Value.string (app_low (by kernel_rfl)), hk.drewN _⟩
          case measure => simp [intOf]; omega
        · go_wp2
          go_quiet (fail)
          go_wp2
          go_roundw
          case rel => exact ⟨i + 1, by go_num, hlt, by rw [HS.out]; exact congrArg Value.string (app_low (by kernel_rfl)), hk.drewN _⟩
          case measure => simp [intOf]; omega
        · go_wp2
          go_quiet (fail)
          go_wp2
          go_roundw
          case rel => exact ⟨i + 1, by go_num, hlt, by rw [HS.out]; exact congrArg Value.string (app_low (by kernel_rfl)), hk.drewN _⟩
          case measure => simp [intOf]; omega
        · go_wp2
          go_quiet (fail)
          go_wp2
          go_roundw
          case rel => exact ⟨i + 1, by go_num, hlt, by rw [HS.out]; exact congrArg Value.string (app_low (by kernel_rfl)), hk.drewN _⟩
          case measure => simp [intOf]; omega
        · go_wp2
          go_quiet (fail)
          go_wp2
          go_roundw
          case rel => exact ⟨i + 1, by go_num, hlt, by rw [HS.out]; exact congrArg Value.string (app_low (by kernel_rfl)), hk.drewN _⟩
          case measure => simp [intOf]; omega
        · go_wp2
          go_quiet (fail)
          go_wp2
          go_roundw
          case rel => exact ⟨i + 1, by go_num, hlt, by rw [HS.out]; exact congrArg Value.string (app_low (by kernel_rfl)), hk.drewN _⟩
          case measure => simp [intOf]; omega
        · go_wp2
          go_roundw
          case rel => exact ⟨i + 1, by go_num, hlt, by rw [HS.out, HE.out, app3]; rfl, hk⟩
          case measure => simp [intOf]; omega
        · go_wp2
          go_roundw
          case rel => exact ⟨i + 1, by go_num, hlt, by rw [HS.out, HE.out, app3]; rfl, hk⟩
          case measure => simp [intOf]; omega
    · obtain rfl : i = s.size := by omega
      have HQ : Hid (strOfNums (quote (ints s)) = strOfNums (34 :: ((ints s).take s.size).flatMap escByte) ++ ⟨#[34]⟩) := by
        show _ = _
        rw [List.take_of_length_le (by rw [ints_length]; exact Nat.le_refl _)]
        have e : (⟨#[34]⟩ : ByteArray) = strOfNums [34] := rfl
        rw [e, str_append]
        rfl
      obtain ⟨T, hT⟩ : ∃ T, strOfNums (34 :: ((ints s).take s.size).flatMap escByte) = T := ⟨_, rfl⟩
      rw [hT] at hz HQ ⊢
      clear hT
      go_wp2
      go_ret
      exact ⟨by rw [HQ.out]; rfl, hk⟩
end Go.Proofs.YtnmhpejnjaeecaaGreatDoor
namespace Go.Proofs.YtnmhpejnjaeecaaGreatDoor
open Go.RowKit

def restT (m : Nat) : List Int := if m = 0 then [] else ten m
theorem ten_rest (m : Nat) : ten m = restT (m / 10) ++ [48 + ((m % 10 : Nat) : Int)] := by
  unfold restT
  by_cases h : m < 10
  · rw [ten_small m h, if_pos (by omega), Nat.mod_eq_of_lt h]; rfl
  · rw [ten_big m h, if_neg (by omega)]
theorem one_string (w : World) (x : Int) : (convert 27 9 (.slice (some ⟨w.heap.size, 0, none⟩) 1 1)).run Tryz.prog (w.alloc (.cells #[.int .u8 x] 5)) = .ok (.string (strOfNums [x])) (w.alloc (.cells #[.int .u8 x] 5)) :=
  run_convert_bytes_arg _ 27 5 Tryz.underlying27 Tryz.underlying5 w.heap.size 0 1 1 [x] rfl (fun i hi => by
    obtain rfl : i = 0 := by simpa using hi
    exact cell_row (cur := [_]) (heap_alloc_new _ _) 0 _ rfl) 9 Tryz.underlying9
def lenOf : Value → Nat
  | .string b => b.size
  | _ => 0
set_option maxRecDepth 100000 in
set_option maxHeartbeats 16000000 in
theorem rDig_nat (u : Nat) (w : World) (hu : u ≤ 9007199254740991) (hl : (ten u).length ≤ 30) : Calls Tryz.prog 29 #[.int .i64 (u : Int)] w fun x w' => x = .returned (.string (strOfNums (ten u))) ∧ Keep (fun _ => False) w w' := by
  have hu0 : ¬ (u : Int) < 0 := by omega
  go_enter Tryz.func29, Tryz.ntmps29
  go_wp2
  go_loopw [0, 3] (fun v t wr => ∃ (m : Nat) (L : List Int), v = .int .i64 m ∧ t = .string (strOfNums L) ∧ m ≤ 9007199254740991 ∧ L.length ≤ 30 ∧ ((L = [] ∧ m = u) ∨ (L ≠ [] ∧ ten u = restT m ++ L)) ∧ Keep (fun _ => False) w wr) (fun v t _ => (intOf v).toNat + (if lenOf t = 0 then 1 else 0))
  case atStart => exact ⟨u, [], rfl, rfl, hu, by simp, .inl ⟨rfl, rfl⟩, Keep.refl _ _⟩
  case round =>
    obtain ⟨m, L, rfl, rfl, hm, hL, hcase, hk⟩ := hrel
    by_cases hgo : L = [] ∨ 0 < m
    · have hnew : ten u = restT (m / 10) ++ ([48 + ((m % 10 : Nat) : Int)] ++ L) := by
        rcases hcase with ⟨rfl, rfl⟩ | ⟨hne, he⟩
        · rw [List.append_nil]; exact ten_rest m
        · have h0 : 0 < m := by rcases hgo with h | h; exact absurd h hne; exact h
          rw [he, show restT m = ten m by unfold restT; rw [if_neg (by omega)], ten_rest m, List.append_assoc]
      have HNEW : Hid (ten u = restT (m / 10) ++ ([48 + ((m % 10 : Nat) : Int)] ++ L)) := hnew
      have hLn : ([48 + ((m % 10 : Nat) : Int)] ++ L).length ≤ 30 := by
        have := congrArg List.length hnew
        rw [List.length_append] at this
        omega
      have HLN : Hid (([48 + ((m % 10 : Nat) : Int)] ++ L).length ≤ 30) := hLn
      have hts : (strOfNums L).size ≤ 30 := by rw [str_size]; exact hL
      have HGO : Hid (L = [] ∨ 0 < m) := hgo
      have HZ : Hid ((strOfNums L).size = L.length) := by show _ = _; rw [str_size]
      have hd : ((m % 10 : Nat) : Int) = (m : Int) % 10 := by omega
      clear hnew hcase hLn
      have hcv := one_string wr (48 + (m : Int) % 10)
      obtain ⟨D, hD⟩ : ∃ D, strOfNums [48 + (m : Int) % 10] = D := ⟨_, rfl⟩
      have hDz : D.size ≤ 1 := by rw [← hD, str_size]; exact Nat.le_refl _
      have HDz : Hid (D.size = 1) := by show _ = _; rw [← hD, str_size]; rfl
      have HD : Hid (D = strOfNums [48 + (m : Int) % 10]) := hD.symm
      rw [hD] at hcv
      clear hD
      by_cases hLe : L = []
      · have e0 : strOfNums L = ⟨#[]⟩ := by rw [hLe]; rfl
        rw [e0]
        have HE : Hid ((⟨#[]⟩ : ByteArray) = strOfNums L) := e0.symm
        clear e0
        go_wp2
        go_roundw
        case rel => exact ⟨m / 10, [48 + ((m % 10 : Nat) : Int)] ++ L, by go_num, by rw [HD.out, HE.out, hd, ← str_append], by omega, HLN.out, .inr ⟨by simp, HNEW.out⟩, hk.alloc _⟩
        case measure =>
          have e1 : lenOf (.string (D ++ ⟨#[]⟩)) ≠ 0 := by show (D ++ _).size ≠ 0; rw [ByteArray.size_append, HDz.out]; omega
          have e2 : lenOf (.string ⟨#[]⟩) = 0 := rfl
          rw [if_neg e1, if_pos e2]
          simp [intOf]
          omega
      · have h0 : 0 < (m : Int) := by rcases HGO.out with h | h; exact absurd h hLe; omega
        obtain ⟨T, hT⟩ : ∃ T, strOfNums L = T := ⟨_, rfl⟩
        have HE : Hid (T = strOfNums L) := hT.symm
        have hTe : T.toList ≠ [] := by
          intro h
          have h1 : T.size = 0 := by
            have := congrArg List.length h
            rw [Lib.toList_data, Array.length_toList] at this
            exact this
          have h2 : L.length = 0 := by rw [← hT, str_size] at h1; exact h1
          exact hLe (List.eq_nil_of_length_eq_zero h2)
        rw [hT] at hts ⊢
        clear hT
        go_wp2
        go_roundw
        case rel => exact ⟨m / 10, [48 + ((m % 10 : Nat) : Int)] ++ L, by go_num, by rw [HD.out, HE.out, hd, ← str_append], by omega, HLN.out, .inr ⟨by simp, HNEW.out⟩, hk.alloc _⟩
        case measure =>
          have e1 : lenOf (.string (D ++ T)) ≠ 0 := by show (D ++ _).size ≠ 0; rw [ByteArray.size_append, HDz.out]; omega
          rw [if_neg e1]
          simp [intOf]
          omega
    · have hm0 : m = 0 := by omega
      subst hm0
      have hLe : L ≠ [] := fun h => hgo (.inl h)
      have HX : Hid (ten u = L) := by
        show _ = _
        rcases hcase with ⟨h, _⟩ | ⟨_, h⟩
        · exact absurd h hLe
        · rw [h]; rfl
      obtain ⟨T, hT⟩ : ∃ T, strOfNums L = T := ⟨_, rfl⟩
      have HE : Hid (T = strOfNums L) := hT.symm
      have hTe : T.toList ≠ [] := by
        intro h
        have h1 : T.size = 0 := by
          have := congrArg List.length h
          rw [Lib.toList_data, Array.length_toList] at this
          exact this
        have h2 : L.length = 0 := by rw [← hT, str_size] at h1; exact h1
        exact hLe (List.eq_nil_of_length_eq_zero h2)
      have hTf : T.toList.isEmpty = false := by
        cases h : T.toList with
        | nil => exact absurd h hTe
        | cons a r => rfl
      rw [hT, show (((0 : Nat) : Int)) = 0 from rfl]
      clear hT hcase
      go_wp2
      go_ret
      exact ⟨by rw [HX.out, HE.out]; rfl, hk⟩
theorem ten_len (u : Nat) (hu : u ≤ 9007199254740991) : (ten u).length ≤ 30 := by
  have := Lib.itoa_length_le (u : Int) (by omega) (by omega)
  unfold ten
  rw [List.length_map]
  unfold Lib.itoa at this
  rw [if_neg (by omega), Int.toNat_natCast] at this
  omega
set_option maxRecDepth 100000 in
set_option maxHeartbeats 16000000 in
theorem rDig_any (i : Int) (w : World) (h0 : -9007199254740991 ≤ i) (h1 : i ≤ 9007199254740991) : Calls Tryz.prog 29 #[.int .i64 i] w fun x w' => x = .returned (.string (strOfNums (numB i))) ∧ Keep (fun _ => False) w w' := by
  by_cases hi : i < 0
  · obtain ⟨u, hu⟩ : ∃ u : Nat, -i = (u : Int) := ⟨i.natAbs, by omega⟩
    have hD := rDig_nat u w (by omega) (ten_len u (by omega))
    have HN : Hid (strOfNums (numB i) = ⟨#[45]⟩ ++ strOfNums (ten u)) := by
      show _ = _
      have e : (⟨#[45]⟩ : ByteArray) = strOfNums [45] := rfl
      rw [e, str_append]
      congr 1
      unfold numB Lib.itoa ten
      rw [if_pos hi, show i.natAbs = u by omega]
      rfl
    have hz : (strOfNums (ten u)).size ≤ 30 := by rw [str_size]; exact ten_len u (by omega)
    obtain ⟨D, hDD⟩ : ∃ D, strOfNums (ten u) = D := ⟨_, rfl⟩
    rw [hDD] at hD HN hz
    clear hDD
    go_enter Tryz.func29, Tryz.ntmps29
    go_wp2_with (go_at_call 29; try rw [hu]
                 refine hD.mono ?_; rintro x w' ⟨rfl, hk⟩)
    go_ret
    exact ⟨by rw [HN.out]; rfl, hk⟩
  · obtain ⟨u, rfl⟩ : ∃ u : Nat, i = (u : Int) := ⟨i.natAbs, by omega⟩
    have e : numB (u : Int) = ten u := by
      unfold numB Lib.itoa ten
      rw [if_neg hi, Int.toNat_natCast]
    rw [e]
    exact rDig_nat u w (by omega) (ten_len u (by omega))
end Go.Proofs.YtnmhpejnjaeecaaGreatDoor
namespace Go.Proofs.YtnmhpejnjaeecaaGreatDoor
open Go.RowKit

theorem encL_le : ∀ (l : List J) (m : Nat) (b : Bool), (encL b (l.take m)).length ≤ (encL b l).length
  | [], m, b => by simp
  | j :: r, 0, b => by simp [encL]
  | j :: r, m + 1, b => by
    rw [List.take_succ_cons, encL_cons, encL_cons]
    have := encL_le r m false
    simp only [List.length_append]
    omega
theorem encP_le : ∀ (l : List J) (ks : List ByteArray) (m : Nat) (b : Bool), (encP b ks (l.take m)).length ≤ (encP b ks l).length
  | [], ks, m, b => by simp
  | j :: r, ks, 0, b => by simp [encP]
  | j :: r, ks, m + 1, b => by
    rw [List.take_succ_cons, encP_cons, encP_cons]
    have := encP_le r ks.tail m false
    simp only [List.length_append, List.length_cons]
    omega
theorem good_k {d : Nat} {k i : Int} {t : ByteArray} {ks : List ByteArray} {l : List J} (h : goodJ (d + 1) (.mk k i t ks l) = true) : (k = 0 ∨ k = 1 ∨ k = 2 ∨ k = 3 ∨ k = 4 ∨ k = 5) ∧ (k = 2 → -9007199254740991 ≤ i ∧ i ≤ 9007199254740991) := by
  rw [goodJ, Bool.and_eq_true] at h
  obtain ⟨_, h⟩ := h
  refine ⟨?_, fun e => ?_⟩
  · by_cases k0 : k = 0
    · omega
    by_cases k1 : k = 1
    · omega
    by_cases k2 : k = 2
    · omega
    by_cases k3 : k = 3
    · omega
    by_cases k4 : k = 4
    · omega
    by_cases k5 : k = 5
    · omega
    rw [if_neg k0, if_neg k1, if_neg k2, if_neg k3, if_neg k4, if_neg k5] at h
    cases h
  · subst e
    rw [if_neg (by decide), if_neg (by decide), if_pos rfl] at h
    rw [Bool.and_eq_true, decide_eq_true_eq, decide_eq_true_eq] at h
    exact h
theorem esc_pos (c : Int) : 1 ≤ (escByte c).length := by
  unfold escByte
  repeat' split
  all_goals simp
theorem esc_ge : ∀ l : List Int, l.length ≤ (l.flatMap escByte).length
  | [] => Nat.le_refl _
  | c :: r => by
    rw [List.flatMap_cons, List.length_append, List.length_cons]
    have h1 := esc_pos c
    have h2 := esc_ge r
    omega
def RTexts (d : Nat) : Prop := ∀ (w : World) (O : Nat → Prop) (j : J) (k i : Int) (t : ByteArray) (pk pl : Option Addr) (nk ck nl cl : Nat), (∀ x, O x → x < w.heap.size) → fitJ d j = true → (enc' j).length ≤ 100000000000 →
  isJ O w j [.int .i64 k, .int .i64 i, .string t, .slice pk nk ck, .slice pl nl cl] →
  Calls Tryz.prog 17 #[.agg #[.int .i64 k, .int .i64 i, .string t, .slice pk nk ck, .slice pl nl cl]] w fun x w' => x = .returned (.string (strOfNums (enc' j))) ∧ Below w.heap.size w w'
theorem rtext_zero : RTexts 0 := by
  intro w O j k i t pk pl nk ck nl cl hO hfit
  unfold fitJ goodJ at hfit
  cases hfit
theorem keepB {w w' : World} (h : Keep (fun _ => False) w w') : Below w.heap.size w w' := h.below (Nat.le_refl _) fun _ _ h => h
set_option maxRecDepth 100000 in
set_option maxHeartbeats 16000000 in
theorem rtext_step {d : Nat} (V : RTexts d) : RTexts (d + 1) := by
  intro w O j k i t pk pl nk ck nl cl hO hfit hlen hj
  obtain ⟨kx, ix, tx, ks, l⟩ := j
  unfold isJ at hj
  obtain ⟨pk', ck', pl', cl', e, hk, hl, hs⟩ := hj
  simp only [List.cons.injEq, Value.int.injEq, Value.string.injEq, Value.slice.injEq, true_and, and_true] at e
  obtain ⟨rfl, rfl, rfl, ⟨rfl, rfl, rfl⟩, rfl, rfl, rfl⟩ := e
  unfold fitJ at hfit
  rw [Bool.and_eq_true] at hfit
  obtain ⟨hg, hwide⟩ := hfit
  unfold wideJ at hwide
  simp only [Bool.and_eq_true, decide_eq_true_eq] at hwide
  obtain ⟨hll, hlw⟩ := hwide
  obtain ⟨hgl, hg5, hgn⟩ := good_sub hg
  obtain ⟨hkr, hg2⟩ := good_k hg
  have HFL : Hid (l.all (fitJ d) = true) := List.all_eq_true.2 fun x hx => by
    unfold fitJ
    rw [List.all_eq_true.1 hgl x hx, List.all_eq_true.1 hlw x hx]
    rfl
  have HLEN : Hid ((enc' (.mk k i t ks l)).length ≤ 100000000000) := hlen
  clear hgl hlw hg hgn hlen
  obtain ⟨nk, hnk⟩ : ∃ n, ks.length = n := ⟨_, rfl⟩
  obtain ⟨nl, hnl⟩ : ∃ n, l.length = n := ⟨_, rfl⟩
  have HNK : Hid (ks.length = nk) := hnk
  have HNL : Hid (l.length = nl) := hnl
  have hck := hk.1
  rw [hnk] at hck ⊢
  rw [hnl] at hl hll ⊢
  clear hnk hnl
  have hbA : Below w.heap.size w (w.alloc (.cells #[.int .i64 k, .int .i64 i, .string t, .slice pk nk ck, .slice pl nl cl] 25)) := (Below.refl _ _).alloc (Nat.le_refl _) _
  have hx0 := heap_alloc_new w (.cells #[.int .i64 k, .int .i64 i, .string t, .slice pk nk ck, .slice pl nl cl] 25)
  have c0 := five_c0 hx0; have c1 := five_c1 hx0; have c2 := five_c2 hx0; have c3 := five_c3 hx0; have c4 := five_c4 hx0
  rcases hkr with rfl | rfl | rfl | rfl | rfl | rfl
  · have HE : Hid (enc' (.mk 0 i t ks l) = [110, 117, 108, 108]) := by show _ = _; rw [enc', if_pos rfl]
    go_enter Tryz.func17, Tryz.ntmps17
    go_wp2
    go_ret
    exact ⟨by rw [HE.out]; rfl, hbA⟩
  · by_cases h1 : i = 1
    · subst h1
      have HE : Hid (enc' (.mk 1 1 t ks l) = [116, 114, 117, 101]) := by show _ = _; rw [enc', if_neg (by decide), if_pos rfl, if_pos rfl]
      go_enter Tryz.func17, Tryz.ntmps17
      go_wp2
      go_ret
      exact ⟨by rw [HE.out]; rfl, hbA⟩
    · have HE : Hid (enc' (.mk 1 i t ks l) = [102, 97, 108, 115, 101]) := by show _ = _; rw [enc', if_neg (by decide), if_pos rfl, if_neg h1]
      go_enter Tryz.func17, Tryz.ntmps17
      go_wp2
      go_ret
      exact ⟨by rw [HE.out]; rfl, hbA⟩
  · have HE : Hid (enc' (.mk 2 i t ks l) = numB i) := by show _ = _; rw [enc', if_neg (by decide), if_neg (by decide), if_pos rfl]
    have hD := rDig_any i (w.alloc (.cells #[.int .i64 2, .int .i64 i, .string t, .slice pk nk ck, .slice pl nl cl] 25)) (hg2 rfl).1 (hg2 rfl).2
    go_enter Tryz.func17, Tryz.ntmps17
    go_wp2_with (go_at_call 29; refine hD.mono ?_; rintro x w2 ⟨rfl, hk2⟩)
    go_ret
    exact ⟨by rw [HE.out]; rfl, below_in hbA (keepB hk2)⟩
  · have HE : Hid (enc' (.mk 3 i t ks l) = quote (ints t)) := by show _ = _; rw [enc', if_neg (by decide), if_neg (by decide), if_neg (by decide), if_pos rfl]
    have hts : t.size ≤ 100000000000 := by
      have := HLEN.out
      rw [HE.out] at this
      have h2 : (ints t).length ≤ ((ints t).flatMap escByte).length := esc_ge _
      unfold quote at this
      rw [List.length_cons, List.length_append] at this
      rw [ints_length] at h2
      omega
    have hD := rText_any t (w.alloc (.cells #[.int .i64 3, .int .i64 i, .string t, .slice pk nk ck, .slice pl nl cl] 25)) hts
    go_enter Tryz.func17, Tryz.ntmps17
    go_wp2_with (go_at_call 30; refine hD.mono ?_; rintro x w2 ⟨rfl, hk2⟩)
    go_ret
    exact ⟨by rw [HE.out]; rfl, below_in hbA (keepB hk2)⟩
  · have HE : Hid (enc' (.mk 4 i t ks l) = 91 :: (encL true l ++ [93])) := by show _ = _; rw [enc', if_neg (by decide), if_neg (by decide), if_neg (by decide), if_neg (by decide), if_pos rfl]
    obtain ⟨wB, hwB⟩ : ∃ wB, wB = w.alloc (.cells #[.int .i64 4, .int .i64 i, .string t, .slice pk nk ck, .slice pl nl cl] 25) := ⟨_, rfl⟩
    rw [← hwB] at hbA hx0
    have HX0 : Hid (wB.heap[w.heap.size]? = some (.cells #[.int .i64 4, .int .i64 i, .string t, .slice pk nk ck, .slice pl nl cl] 25 (0, 0))) := hx0
    have HLL : Hid ((encL true l).length + 2 ≤ 100000000000) := by
      have := HLEN.out
      rw [HE.out, List.length_cons, List.length_append, List.length_singleton] at this
      show _ ≤ _
      omega
    go_enter Tryz.func17, Tryz.ntmps17
    go_wp2
    rw [← hwB]
    clear c0 c1 c2 c3 c4 hx0 hwB
    go_loopw [3, 4] (fun s v wr => ∃ m : Nat, v = .int .i64 m ∧ m ≤ nl ∧ s = .string (strOfNums (91 :: encL true (l.take m))) ∧ Below wB.heap.size wB wr) (fun _ v _ => nl - (intOf v).toNat)
    case atStart => exact ⟨0, rfl, Nat.zero_le _, rfl, Below.refl _ _⟩
    case round =>
      obtain ⟨m, rfl, hm, rfl, hbr⟩ := hrel
      have hx1 := (hbr.block w.heap.size (Array.getElem?_eq_some_iff.1 HX0.out).1).trans HX0.out
      have c0 := five_c0 hx1; have c1 := five_c1 hx1; have c2 := five_c2 hx1; have c3 := five_c3 hx1; have c4 := five_c4 hx1
      have hz : (strOfNums (91 :: encL true (l.take m))).size ≤ 100000000000 := by
        rw [str_size, List.length_cons]
        have := encL_le l m true
        have := HLL.out
        omega
      by_cases hlt : m < nl
      · have hml : m < l.length := by rw [HNL.out]; exact hlt
        have hmi : (m : Int) < (nl : Int) := by omega
        obtain ⟨lb, lo, cs, hpl, hOb, hcells, hyj⟩ := isJs.at l 0 m hs hml
        subst hpl
        obtain ⟨kv, iv, tv, pv, nv, cv, qv, mv, dv, rfl⟩ := isJ_shape hyj
        have hblk : wr.heap[lb]? = w.heap[lb]? := (hbr.block lb (Nat.lt_of_lt_of_le (hO lb hOb) hbA.size)).trans (hbA.block lb (hO lb hOb))
        have cc : ∀ n v, [Value.int .i64 kv, .int .i64 iv, .string tv, .slice pv nv cv, .slice qv mv dv][n]? = some v → wr.cell? ⟨lb, lo + m * 5 + n, none⟩ = some v := fun n v h => by
          have := hcells n v h
          rw [Nat.zero_add] at this
          exact (World.cell?_of_block (a := ⟨lb, lo + m * 5 + n, none⟩) hblk).trans this
        have y0 : wr.cell? ⟨lb, lo + m * 5, none⟩ = some (.int .i64 kv) := cc 0 _ rfl
        have y1 := cc 1 _ rfl
        have y2 := cc 2 _ rfl
        have y3 := cc 3 _ rfl
        have y4 := cc 4 _ rfl
        clear cc hcells
        have hsn := encL_snoc (l.getD m J.zero) (l.take m) true
        rw [← take_snoc hml, List.length_take, Nat.min_eq_left (by omega)] at hsn
        have hle := encL_le l (m + 1) true
        have hLL := HLL.out
        have hV := V wr O _ kv iv tv pv qv nv cv mv dv (fun x hx => Nat.lt_of_lt_of_le (hO x hx) (Nat.le_trans hbA.size hbr.size)) (all_at HFL.out hml) (by
          rw [hsn] at hle
          simp only [List.length_append] at hle
          omega) (hyj.carry fun x hx => ⟨hx, (hbr.block x (Nat.lt_of_lt_of_le (hO x hx) hbA.size)).trans (hbA.block x (hO x hx))⟩)
        have HSN : Hid (strOfNums (91 :: encL true (l.take (m + 1))) = strOfNums (91 :: encL true (l.take m)) ++ strOfNums ((if m = 0 ∧ true = true then [] else [44]) ++ enc' (l.getD m J.zero))) := by
          show _ = _
          rw [str_append, hsn]
          rfl
        have hyz : (strOfNums (enc' (l.getD m J.zero))).size ≤ 100000000000 := by
          rw [str_size]
          rw [hsn] at hle
          simp only [List.length_append] at hle
          omega
        obtain ⟨S, hS⟩ : ∃ S, strOfNums (91 :: encL true (l.take m)) = S := ⟨_, rfl⟩
        obtain ⟨Y, hY⟩ : ∃ Y, strOfNums (enc' (l.getD m J.zero)) = Y := ⟨_, rfl⟩
        have HY : Hid (strOfNums (enc' (l.getD m J.zero)) = Y) := hY
        rw [hS] at hz HSN ⊢
        rw [hY] at hV hyz
        clear hS hY hsn hle hLL
        by_cases hm0 : m = 0
        · subst hm0
          have HR : Hid (S ++ Y = strOfNums (91 :: encL true (l.take (0 + 1)))) := by
            show _ = _
            rw [HSN.out, if_pos ⟨rfl, rfl⟩, List.nil_append, HY.out]
          have z0 : (((0 : Nat) : Int)) = 0 := rfl
          rw [z0]
          simp only [Nat.zero_mul, Nat.add_zero] at y0 y1 y2 y3 y4
          have h0n : 0 < (nl : Int) := by omega
          go_wp2_with (go_at_call 17; refine hV.mono ?_; rintro x w4 ⟨rfl, hb4⟩)
          go_roundw
          case rel => exact ⟨0 + 1, by go_num, hlt, by rw [HR.out], below_in hbr hb4⟩
          case measure => simp [intOf]; omega
        · have hmp : 0 < (m : Int) := by omega
          have HR : Hid (S ++ ⟨#[44]⟩ ++ Y = strOfNums (91 :: encL true (l.take (m + 1)))) := by
            show _ = _
            have e : (⟨#[44]⟩ : ByteArray) = strOfNums [44] := rfl
            rw [HSN.out, if_neg (by simp [hm0]), ← str_append, HY.out, ← e, app3]
          go_wp2_with (go_at_call 17; refine hV.mono ?_; rintro x w4 ⟨rfl, hb4⟩)
          go_roundw
          case rel => exact ⟨m + 1, by go_num, hlt, by rw [HR.out], below_in hbr hb4⟩
          case measure => simp [intOf]; omega
      · obtain rfl : m = nl := by omega
        have HR : Hid (strOfNums (91 :: encL true (l.take m)) ++ ⟨#[93]⟩ = strOfNums (enc' (.mk 4 i t ks l))) := by
          show _ = _
          have e : (⟨#[93]⟩ : ByteArray) = strOfNums [93] := rfl
          rw [HE.out, List.take_of_length_le (by rw [HNL.out]; exact Nat.le_refl _), e, str_append]
          rfl
        obtain ⟨S, hS⟩ : ∃ S, strOfNums (91 :: encL true (l.take m)) = S := ⟨_, rfl⟩
        rw [hS] at hz HR ⊢
        clear hS
        go_wp2
        go_ret
        exact ⟨by rw [← HR.out]; rfl, below_in hbA hbr⟩
  · have HE : Hid (enc' (.mk 5 i t ks l) = 123 :: (encP true ks l ++ [125])) := by show _ = _; rw [enc', if_neg (by decide), if_neg (by decide), if_neg (by decide), if_neg (by decide), if_neg (by decide), if_pos rfl]
    have HKN : Hid (ks.length = l.length) := (hg5 rfl).1
    obtain ⟨wB, hwB⟩ : ∃ wB, wB = w.alloc (.cells #[.int .i64 5, .int .i64 i, .string t, .slice pk nk ck, .slice pl nl cl] 25) := ⟨_, rfl⟩
    rw [← hwB] at hbA hx0
    have HX0 : Hid (wB.heap[w.heap.size]? = some (.cells #[.int .i64 5, .int .i64 i, .string t, .slice pk nk ck, .slice pl nl cl] 25 (0, 0))) := hx0
    have HLL : Hid ((encP true ks l).length + 2 ≤ 100000000000) := by
      have := HLEN.out
      rw [HE.out, List.length_cons, List.length_append, List.length_singleton] at this
      show _ ≤ _
      omega
    go_enter Tryz.func17, Tryz.ntmps17
    go_wp2
    rw [← hwB]
    clear c0 c1 c2 c3 c4 hx0 hwB
    go_loopw [5, 6] (fun s v wr => ∃ m : Nat, v = .int .i64 m ∧ m ≤ nl ∧ s = .string (strOfNums (123 :: encP true ks (l.take m))) ∧ Below wB.heap.size wB wr) (fun _ v _ => nl - (intOf v).toNat)
    case atStart => exact ⟨0, rfl, Nat.zero_le _, rfl, Below.refl _ _⟩
    case round =>
      obtain ⟨m, rfl, hm, rfl, hbr⟩ := hrel
      have hx1 := (hbr.block w.heap.size (Array.getElem?_eq_some_iff.1 HX0.out).1).trans HX0.out
      have c0 := five_c0 hx1; have c1 := five_c1 hx1; have c2 := five_c2 hx1; have c3 := five_c3 hx1; have c4 := five_c4 hx1
      have hz : (strOfNums (123 :: encP true ks (l.take m))).size ≤ 100000000000 := by
        rw [str_size, List.length_cons]
        have := encP_le l ks m true
        have := HLL.out
        omega
      by_cases hlt : m < nl
      · have hml : m < l.length := by rw [HNL.out]; exact hlt
        have HML : Hid (m < l.length) := hml
        have hmk : m < ks.length := by rw [HKN.out]; exact hml
        have hmi : (m : Int) < (nl : Int) := by omega
        have hmki : (m : Int) < (nk : Int) := by rw [HNK.out] at hmk; omega
        obtain ⟨ka, hpk, hOa, hkey⟩ := hk.2 m hmk
        obtain ⟨lb, lo, cs, hpl, hOb, hcells, hyj⟩ := isJs.at l 0 m hs hml
        subst hpl
        subst hpk
        obtain ⟨kv, iv, tv, pv, nv, cv, qv, mv, dv, rfl⟩ := isJ_shape hyj
        have hw0 := (Array.getElem?_eq_some_iff.1 HX0.out).1
        have HQ : Hid (∀ W : World, Below wB.heap.size wB W → ∀ n v, [Value.int .i64 5, .int .i64 i, .string t, .slice (some ka) nk ck, .slice (some ⟨lb, lo, none⟩) nl cl][n]? = some v → W.cell? ⟨w.heap.size, n, none⟩ = some v) := fun W hW n v h => (World.cell?_of_block (a := ⟨w.heap.size, n, none⟩) (hW.block w.heap.size hw0)).trans (cell_row (cur := [.int .i64 5, .int .i64 i, .string t, .slice (some ka) nk ck, .slice (some ⟨lb, lo, none⟩) nl cl]) HX0.out n v h)
        have HB2 : Hid (∀ W : World, Below wB.heap.size wB W → ∀ b, O b → W.heap[b]? = w.heap[b]?) := fun W hW b hb => (hW.block b (Nat.lt_of_lt_of_le (hO b hb) hbA.size)).trans (hbA.block b (hO b hb))
        have HYX : Hid (∀ W : World, Below wB.heap.size wB W → ∀ n v, [Value.int .i64 kv, .int .i64 iv, .string tv, .slice pv nv cv, .slice qv mv dv][n]? = some v → W.cell? ⟨lb, lo + m * 5 + n, none⟩ = some v) := fun W hW n v h => by
          have := hcells n v h
          rw [Nat.zero_add] at this
          exact (World.cell?_of_block (a := ⟨lb, lo + m * 5 + n, none⟩) (HB2.out W hW lb hOb)).trans this
        have HY0 : Hid (∀ W : World, Below wB.heap.size wB W → W.cell? ⟨lb, lo + m * 5, none⟩ = some (.int .i64 kv)) := fun W hW => HYX.out W hW 0 _ rfl
        obtain ⟨key, hkeyE⟩ : ∃ key, ks.getD m nix = key := ⟨_, rfl⟩
        rw [hkeyE] at hkey
        have HKX : Hid (∀ W : World, Below wB.heap.size wB W → W.cell? (ka.add m) = some (.string key)) := fun W hW => (World.cell?_of_block (by rw [add_block]; exact HB2.out W hW ka.block hOa)).trans hkey
        clear hcells hkey
        have hsn := encP_snoc (l.getD m J.zero) (l.take m) ks true
        rw [← take_snoc hml, List.length_take, Nat.min_eq_left (by omega), hkeyE] at hsn
        have hle := encP_le l ks (m + 1) true
        have hLL := HLL.out
        have hqz : (quote (ints key)).length ≤ 100000000000 := by
          rw [hsn] at hle
          simp only [List.length_append] at hle
          omega
        have HVL : Hid ((enc' (l.getD m J.zero)).length ≤ 100000000000) := by
          rw [hsn] at hle
          simp only [List.length_append, List.length_cons] at hle
          show _ ≤ _
          omega
        have hkz : key.size ≤ 100000000000 := by
          have h2 : (ints key).length ≤ ((ints key).flatMap escByte).length := esc_ge _
          unfold quote at hqz
          rw [List.length_cons, List.length_append] at hqz
          rw [ints_length] at h2
          omega
        have hC0 : Below wB.heap.size wB wr.drew := ⟨hbr.os, hbr.tape, hbr.output, hbr.size, hbr.block⟩
        have hTx := rText_any key wr.drew hkz
        have HSN : Hid (strOfNums (123 :: encP true ks (l.take (m + 1))) = strOfNums (123 :: encP true ks (l.take m)) ++ strOfNums ((if m = 0 ∧ true = true then [] else [44]) ++ (quote (ints key) ++ (58 :: enc' (l.getD m J.zero))))) := by
          show _ = _
          rw [str_append, hsn]
          rfl
        have hyz : (strOfNums (enc' (l.getD m J.zero))).size ≤ 100000000000 := by rw [str_size]; exact HVL.out
        have hxz : (strOfNums (quote (ints key))).size ≤ 100000000000 := by rw [str_size]; exact hqz
        obtain ⟨S, hS⟩ : ∃ S, strOfNums (123 :: encP true ks (l.take m)) = S := ⟨_, rfl⟩
        obtain ⟨Y, hY⟩ : ∃ Y, strOfNums (enc' (l.getD m J.zero)) = Y := ⟨_, rfl⟩
        obtain ⟨X, hX⟩ : ∃ X, strOfNums (quote (ints key)) = X := ⟨_, rfl⟩
        have HY : Hid (strOfNums (enc' (l.getD m J.zero)) = Y) := hY
        have HXX : Hid (strOfNums (quote (ints key)) = X) := hX
        have e58 : strOfNums (quote (ints key) ++ (58 :: enc' (l.getD m J.zero))) = X ++ ⟨#[58]⟩ ++ Y := by
          have e : (⟨#[58]⟩ : ByteArray) = strOfNums [58] := rfl
          rw [← hX, ← hY, e, str_append, str_append, List.append_assoc]
          rfl
        rw [hS] at hz HSN ⊢
        rw [hY] at hyz
        rw [hX] at hxz hTx
        have HRR : Hid (∀ p, strOfNums p = S → True) := fun _ _ => trivial
        by_cases hm0 : m = 0
        · have HR : Hid (S ++ X ++ ⟨#[58]⟩ ++ Y = strOfNums (123 :: encP true ks (l.take (m + 1)))) := by
            show _ = _
            rw [HSN.out, if_pos ⟨hm0, rfl⟩, List.nil_append, e58]
            simp only [app3]
          have hn1 : ¬ 0 < (m : Int) := by omega
          have hn2 : ¬ 0 < m := by omega
          clear hS hY hX hsn hle hLL e58 HSN HRR hkeyE hm0 hqz
          go_wp2
          refine wp_region_in (by kernel_rfl) (fun W => Below wB.heap.size wB W) ?_
          change wpIn _ _ _ _ _ _ _ _ (World.drew _)
          refine wpIn_take (i := 0) (d := (some 60)) (v := ?vqa0) (a' := ?aqa0) rfl rfl (by kernel_rfl) (by kernel_rfl) (by kernel_rfl) (fun _ _ _ h => h) (Or.inl ⟨by rfl, ?yqa0⟩) ?fqa0 ?_
          case yqa0 => (intro wq hq; go_simp; first | done | with_reducible rfl)
          case fqa0 => (go_frame; rfl)
          refine wpIn_take (i := 1) (d := (some 61)) (v := ?vqa1) (a' := ?aqa1) rfl rfl (by kernel_rfl) (by kernel_rfl) (by kernel_rfl) (fun _ _ _ h => h) (Or.inl ⟨by rfl, ?yqa1⟩) ?fqa1 ?_
          case yqa1 => (intro wq hq; have q0 := HQ.out wq hq 0 _ rfl; have q1 := HQ.out wq hq 1 _ rfl; have q2 := HQ.out wq hq 2 _ rfl; have q3 := HQ.out wq hq 3 _ rfl; have q4 := HQ.out wq hq 4 _ rfl; go_simp; first | done | with_reducible rfl)
          case fqa1 => (go_frame; rfl)
          refine wpIn_take (i := 2) (d := (some 62)) (v := ?vqa2) (a' := ?aqa2) rfl rfl (by kernel_rfl) (by kernel_rfl) (by kernel_rfl) (fun _ _ _ h => h) (Or.inl ⟨by rfl, ?yqa2⟩) ?fqa2 ?_
          case yqa2 => (intro wq hq; have q0 := HQ.out wq hq 0 _ rfl; have q1 := HQ.out wq hq 1 _ rfl; have q2 := HQ.out wq hq 2 _ rfl; have q3 := HQ.out wq hq 3 _ rfl; have q4 := HQ.out wq hq 4 _ rfl; go_simp; first | done | with_reducible rfl)
          case fqa2 => (go_frame; rfl)
          refine wpIn_take (i := 3) (d := (some 63)) (v := ?vqa3) (a' := ?aqa3) rfl rfl (by kernel_rfl) (by kernel_rfl) (by kernel_rfl) (fun _ _ _ h => h) (Or.inl ⟨by rfl, ?yqa3⟩) ?fqa3 ?_
          case yqa3 => (intro wq hq; go_simp; first | done | with_reducible rfl)
          case fqa3 => (go_frame; rfl)
          refine wpIn_take (i := 4) (d := (some 64)) (v := ?vqa4) (a' := ?aqa4) rfl rfl (by kernel_rfl) (by kernel_rfl) (by kernel_rfl) (fun _ _ _ h => h) (Or.inl ⟨by rfl, ?yqa4⟩) ?fqa4 ?_
          case yqa4 => (intro wq hq; go_simp; first | done | with_reducible rfl)
          case fqa4 => (go_frame; rfl)
          refine wpIn_take (i := 5) (d := (some 65)) (v := ?vqa5) (a' := ?aqa5) rfl rfl (by kernel_rfl) (by kernel_rfl) (by kernel_rfl) (fun _ _ _ h => h) (Or.inl ⟨by rfl, ?yqa5⟩) ?fqa5 ?_
          case yqa5 => (intro wq hq; have q0 := HKX.out wq hq; go_simp; first | done | with_reducible rfl)
          case fqa5 => (go_frame; rfl)
          refine wpIn_take (i := 9) (d := (some 69)) (v := ?vqa9) (a' := ?aqa9) rfl rfl (by kernel_rfl) (by kernel_rfl) (by kernel_rfl) (fun _ _ _ h => h) (Or.inl ⟨by rfl, ?yqa9⟩) ?fqa9 ?_
          case yqa9 => (intro wq hq; have q0 := HQ.out wq hq 0 _ rfl; have q1 := HQ.out wq hq 1 _ rfl; have q2 := HQ.out wq hq 2 _ rfl; have q3 := HQ.out wq hq 3 _ rfl; have q4 := HQ.out wq hq 4 _ rfl; go_simp; first | done | with_reducible rfl)
          case fqa9 => (go_frame; rfl)
          refine wpIn_take (i := 10) (d := (some 70)) (v := ?vqa10) (a' := ?aqa10) rfl rfl (by kernel_rfl) (by kernel_rfl) (by kernel_rfl) (fun _ _ _ h => h) (Or.inl ⟨by rfl, ?yqa10⟩) ?fqa10 ?_
          case yqa10 => (intro wq hq; have q0 := HQ.out wq hq 0 _ rfl; have q1 := HQ.out wq hq 1 _ rfl; have q2 := HQ.out wq hq 2 _ rfl; have q3 := HQ.out wq hq 3 _ rfl; have q4 := HQ.out wq hq 4 _ rfl; go_simp; first | done | with_reducible rfl)
          case fqa10 => (go_frame; rfl)
          refine wpIn_take (i := 11) (d := (some 71)) (v := ?vqa11) (a' := ?aqa11) rfl rfl (by kernel_rfl) (by kernel_rfl) (by kernel_rfl) (fun _ _ _ h => h) (Or.inl ⟨by rfl, ?yqa11⟩) ?fqa11 ?_
          case yqa11 => (intro wq hq; go_simp; first | done | with_reducible rfl)
          case fqa11 => (go_frame; rfl)
          refine wpIn_take (i := 12) (d := (some 72)) (v := ?vqa12) (a' := ?aqa12) rfl rfl (by kernel_rfl) (by kernel_rfl) (by kernel_rfl) (fun _ _ _ h => h) (Or.inl ⟨by rfl, ?yqa12⟩) ?fqa12 ?_
          case yqa12 => (intro wq hq; go_simp; first | done | with_reducible rfl)
          case fqa12 => (go_frame; rfl)
          refine wpIn_take (i := 13) (d := (some 73)) (v := ?vqa13) (a' := ?aqa13) rfl rfl (by kernel_rfl) (by kernel_rfl) (by kernel_rfl) (fun _ _ _ h => h) (Or.inl ⟨by rfl, ?yqa13⟩) ?fqa13 ?_
          case yqa13 => (intro wq hq; have q0 := HY0.out wq hq; have q1 := HYX.out wq hq 1 _ rfl; have q2 := HYX.out wq hq 2 _ rfl; have q3 := HYX.out wq hq 3 _ rfl; have q4 := HYX.out wq hq 4 _ rfl; go_simp; first | done | with_reducible rfl)
          case fqa13 => (go_frame; rfl)
          refine wpIn_do (i := 6) hC0 (by kernel_rfl) rfl (by rfl) ?_
          intro K hK
          go_simp
          go_wp2_with (go_at_call 30; refine hTx.mono ?_; rintro x w5 ⟨rfl, hk5⟩)
          have hC1 : Below wB.heap.size wB w5 := below_cat hC0 hC0.size (keepB hk5)
          have hV := V w5 O _ kv iv tv pv qv nv cv mv dv (fun x hx => Nat.lt_of_lt_of_le (hO x hx) (Nat.le_trans hbA.size hC1.size)) (all_at HFL.out HML.out) HVL.out (hyj.carry fun x hx => ⟨hx, (hC1.block x (Nat.lt_of_lt_of_le (hO x hx) hbA.size)).trans (hbA.block x (hO x hx))⟩)
          rw [HY.out] at hV
          clear hC0 hTx hk5
          refine wpIn_take (i := 7) (d := (some 67)) (v := ?vqa7) (a' := ?aqa7) rfl rfl (by kernel_rfl) (by kernel_rfl) (by kernel_rfl) (fun _ _ _ h => h) (Or.inl ⟨by rfl, ?yqa7⟩) ?fqa7 ?_
          case yqa7 => (intro wq hq; have q0 : ¬ 9223372036854775807 < S.size + X.size := (by omega); go_simp; first | done | with_reducible rfl)
          case fqa7 => (go_frame; rfl)
          refine wpIn_take (i := 8) (d := (some 68)) (v := ?vqa8) (a' := ?aqa8) rfl rfl (by kernel_rfl) (by kernel_rfl) (by kernel_rfl) (fun _ _ _ h => h) (Or.inl ⟨by rfl, ?yqa8⟩) ?fqa8 ?_
          case yqa8 => (intro wq hq; have q0 : ¬ 9223372036854775807 < S.size + X.size + 1 := (by omega); go_simp; first | done | with_reducible rfl)
          case fqa8 => (go_frame; rfl)
          refine wpIn_do (i := 14) hC1 (by kernel_rfl) rfl (by rfl) ?_
          intro K hK
          go_simp
          go_wp2_with (go_at_call 17; refine hV.mono ?_; rintro x w6 ⟨rfl, hb6⟩)
          have hC2 : Below wB.heap.size wB w6 := below_cat hC1 hC1.size hb6
          clear hC1 hV hb6
          refine wpIn_take (i := 15) (d := (some 75)) (v := ?vqa15) (a' := ?aqa15) rfl rfl (by kernel_rfl) (by kernel_rfl) (by kernel_rfl) (fun _ _ _ h => h) (Or.inl ⟨by rfl, ?yqa15⟩) ?fqa15 ?_
          case yqa15 => (intro wq hq; have q0 : ¬ 9223372036854775807 < S.size + X.size + 1 + Y.size := (by omega); go_simp; first | done | with_reducible rfl)
          case fqa15 => (go_frame; rfl)
          refine wpIn_take (i := 16) (d := (some 5)) (v := ?vqa16) (a' := ?aqa16) rfl rfl (by kernel_rfl) (by kernel_rfl) (by kernel_rfl) (fun _ _ _ h => h) (Or.inl ⟨by rfl, ?yqa16⟩) ?fqa16 ?_
          case yqa16 => (intro wq hq; go_simp; first | done | with_reducible rfl)
          case fqa16 => (go_frame; rfl)
          refine wpIn_done hC2 (by kernel_rfl) ?_ _
          go_wp2
          go_roundw
          case rel => exact ⟨m + 1, by go_num, hlt, by rw [HR.out], hC2⟩
          case measure => simp [intOf]; omega
        · have HR : Hid (S ++ ⟨#[44]⟩ ++ X ++ ⟨#[58]⟩ ++ Y = strOfNums (123 :: encP true ks (l.take (m + 1)))) := by
            show _ = _
            have e : (⟨#[44]⟩ : ByteArray) = strOfNums [44] := rfl
            rw [HSN.out, if_neg (by simp [hm0]), ← str_append, e58, ← e]
            simp only [app3]
          have hmp : 0 < (m : Int) := by omega
          clear hS hY hX hsn hle hLL e58 HSN HRR hkeyE hm0 hqz
          go_wp2
          refine wp_region_in (by kernel_rfl) (fun W => Below wB.heap.size wB W) ?_
          change wpIn _ _ _ _ _ _ _ _ (World.drew _)
          refine wpIn_take (i := 0) (d := (some 60)) (v := ?vqb0) (a' := ?aqb0) rfl rfl (by kernel_rfl) (by kernel_rfl) (by kernel_rfl) (fun _ _ _ h => h) (Or.inl ⟨by rfl, ?yqb0⟩) ?fqb0 ?_
          case yqb0 => (intro wq hq; go_simp; first | done | with_reducible rfl)
          case fqb0 => (go_frame; rfl)
          refine wpIn_take (i := 1) (d := (some 61)) (v := ?vqb1) (a' := ?aqb1) rfl rfl (by kernel_rfl) (by kernel_rfl) (by kernel_rfl) (fun _ _ _ h => h) (Or.inl ⟨by rfl, ?yqb1⟩) ?fqb1 ?_
          case yqb1 => (intro wq hq; have q0 := HQ.out wq hq 0 _ rfl; have q1 := HQ.out wq hq 1 _ rfl; have q2 := HQ.out wq hq 2 _ rfl; have q3 := HQ.out wq hq 3 _ rfl; have q4 := HQ.out wq hq 4 _ rfl; go_simp; first | done | with_reducible rfl)
          case fqb1 => (go_frame; rfl)
          refine wpIn_take (i := 2) (d := (some 62)) (v := ?vqb2) (a' := ?aqb2) rfl rfl (by kernel_rfl) (by kernel_rfl) (by kernel_rfl) (fun _ _ _ h => h) (Or.inl ⟨by rfl, ?yqb2⟩) ?fqb2 ?_
          case yqb2 => (intro wq hq; have q0 := HQ.out wq hq 0 _ rfl; have q1 := HQ.out wq hq 1 _ rfl; have q2 := HQ.out wq hq 2 _ rfl; have q3 := HQ.out wq hq 3 _ rfl; have q4 := HQ.out wq hq 4 _ rfl; go_simp; first | done | with_reducible rfl)
          case fqb2 => (go_frame; rfl)
          refine wpIn_take (i := 3) (d := (some 63)) (v := ?vqb3) (a' := ?aqb3) rfl rfl (by kernel_rfl) (by kernel_rfl) (by kernel_rfl) (fun _ _ _ h => h) (Or.inl ⟨by rfl, ?yqb3⟩) ?fqb3 ?_
          case yqb3 => (intro wq hq; go_simp; first | done | with_reducible rfl)
          case fqb3 => (go_frame; rfl)
          refine wpIn_take (i := 4) (d := (some 64)) (v := ?vqb4) (a' := ?aqb4) rfl rfl (by kernel_rfl) (by kernel_rfl) (by kernel_rfl) (fun _ _ _ h => h) (Or.inl ⟨by rfl, ?yqb4⟩) ?fqb4 ?_
          case yqb4 => (intro wq hq; go_simp; first | done | with_reducible rfl)
          case fqb4 => (go_frame; rfl)
          refine wpIn_take (i := 5) (d := (some 65)) (v := ?vqb5) (a' := ?aqb5) rfl rfl (by kernel_rfl) (by kernel_rfl) (by kernel_rfl) (fun _ _ _ h => h) (Or.inl ⟨by rfl, ?yqb5⟩) ?fqb5 ?_
          case yqb5 => (intro wq hq; have q0 := HKX.out wq hq; go_simp; first | done | with_reducible rfl)
          case fqb5 => (go_frame; rfl)
          refine wpIn_take (i := 9) (d := (some 69)) (v := ?vqb9) (a' := ?aqb9) rfl rfl (by kernel_rfl) (by kernel_rfl) (by kernel_rfl) (fun _ _ _ h => h) (Or.inl ⟨by rfl, ?yqb9⟩) ?fqb9 ?_
          case yqb9 => (intro wq hq; have q0 := HQ.out wq hq 0 _ rfl; have q1 := HQ.out wq hq 1 _ rfl; have q2 := HQ.out wq hq 2 _ rfl; have q3 := HQ.out wq hq 3 _ rfl; have q4 := HQ.out wq hq 4 _ rfl; go_simp; first | done | with_reducible rfl)
          case fqb9 => (go_frame; rfl)
          refine wpIn_take (i := 10) (d := (some 70)) (v := ?vqb10) (a' := ?aqb10) rfl rfl (by kernel_rfl) (by kernel_rfl) (by kernel_rfl) (fun _ _ _ h => h) (Or.inl ⟨by rfl, ?yqb10⟩) ?fqb10 ?_
          case yqb10 => (intro wq hq; have q0 := HQ.out wq hq 0 _ rfl; have q1 := HQ.out wq hq 1 _ rfl; have q2 := HQ.out wq hq 2 _ rfl; have q3 := HQ.out wq hq 3 _ rfl; have q4 := HQ.out wq hq 4 _ rfl; go_simp; first | done | with_reducible rfl)
          case fqb10 => (go_frame; rfl)
          refine wpIn_take (i := 11) (d := (some 71)) (v := ?vqb11) (a' := ?aqb11) rfl rfl (by kernel_rfl) (by kernel_rfl) (by kernel_rfl) (fun _ _ _ h => h) (Or.inl ⟨by rfl, ?yqb11⟩) ?fqb11 ?_
          case yqb11 => (intro wq hq; go_simp; first | done | with_reducible rfl)
          case fqb11 => (go_frame; rfl)
          refine wpIn_take (i := 12) (d := (some 72)) (v := ?vqb12) (a' := ?aqb12) rfl rfl (by kernel_rfl) (by kernel_rfl) (by kernel_rfl) (fun _ _ _ h => h) (Or.inl ⟨by rfl, ?yqb12⟩) ?fqb12 ?_
          case yqb12 => (intro wq hq; go_simp; first | done | with_reducible rfl)
          case fqb12 => (go_frame; rfl)
          refine wpIn_take (i := 13) (d := (some 73)) (v := ?vqb13) (a' := ?aqb13) rfl rfl (by kernel_rfl) (by kernel_rfl) (by kernel_rfl) (fun _ _ _ h => h) (Or.inl ⟨by rfl, ?yqb13⟩) ?fqb13 ?_
          case yqb13 => (intro wq hq; have q0 := HY0.out wq hq; have q1 := HYX.out wq hq 1 _ rfl; have q2 := HYX.out wq hq 2 _ rfl; have q3 := HYX.out wq hq 3 _ rfl; have q4 := HYX.out wq hq 4 _ rfl; go_simp; first | done | with_reducible rfl)
          case fqb13 => (go_frame; rfl)
          refine wpIn_do (i := 6) hC0 (by kernel_rfl) rfl (by rfl) ?_
          intro K hK
          go_simp
          go_wp2_with (go_at_call 30; refine hTx.mono ?_; rintro x w5 ⟨rfl, hk5⟩)
          have hC1 : Below wB.heap.size wB w5 := below_cat hC0 hC0.size (keepB hk5)
          have hV := V w5 O _ kv iv tv pv qv nv cv mv dv (fun x hx => Nat.lt_of_lt_of_le (hO x hx) (Nat.le_trans hbA.size hC1.size)) (all_at HFL.out HML.out) HVL.out (hyj.carry fun x hx => ⟨hx, (hC1.block x (Nat.lt_of_lt_of_le (hO x hx) hbA.size)).trans (hbA.block x (hO x hx))⟩)
          rw [HY.out] at hV
          clear hC0 hTx hk5
          refine wpIn_take (i := 7) (d := (some 67)) (v := ?vqb7) (a' := ?aqb7) rfl rfl (by kernel_rfl) (by kernel_rfl) (by kernel_rfl) (fun _ _ _ h => h) (Or.inl ⟨by rfl, ?yqb7⟩) ?fqb7 ?_
          case yqb7 => (intro wq hq; have q0 : ¬ 9223372036854775807 < S.size + 1 + X.size := (by omega); go_simp; first | done | with_reducible rfl)
          case fqb7 => (go_frame; rfl)
          refine wpIn_take (i := 8) (d := (some 68)) (v := ?vqb8) (a' := ?aqb8) rfl rfl (by kernel_rfl) (by kernel_rfl) (by kernel_rfl) (fun _ _ _ h => h) (Or.inl ⟨by rfl, ?yqb8⟩) ?fqb8 ?_
          case yqb8 => (intro wq hq; have q0 : ¬ 9223372036854775807 < S.size + 1 + X.size + 1 := (by omega); go_simp; first | done | with_reducible rfl)
          case fqb8 => (go_frame; rfl)
          refine wpIn_do (i := 14) hC1 (by kernel_rfl) rfl (by rfl) ?_
          intro K hK
          go_simp
          go_wp2_with (go_at_call 17; refine hV.mono ?_; rintro x w6 ⟨rfl, hb6⟩)
          have hC2 : Below wB.heap.size wB w6 := below_cat hC1 hC1.size hb6
          clear hC1 hV hb6
          refine wpIn_take (i := 15) (d := (some 75)) (v := ?vqb15) (a' := ?aqb15) rfl rfl (by kernel_rfl) (by kernel_rfl) (by kernel_rfl) (fun _ _ _ h => h) (Or.inl ⟨by rfl, ?yqb15⟩) ?fqb15 ?_
          case yqb15 => (intro wq hq; have q0 : ¬ 9223372036854775807 < S.size + 1 + X.size + 1 + Y.size := (by omega); go_simp; first | done | with_reducible rfl)
          case fqb15 => (go_frame; rfl)
          refine wpIn_take (i := 16) (d := (some 5)) (v := ?vqb16) (a' := ?aqb16) rfl rfl (by kernel_rfl) (by kernel_rfl) (by kernel_rfl) (fun _ _ _ h => h) (Or.inl ⟨by rfl, ?yqb16⟩) ?fqb16 ?_
          case yqb16 => (intro wq hq; go_simp; first | done | with_reducible rfl)
          case fqb16 => (go_frame; rfl)
          refine wpIn_done hC2 (by kernel_rfl) ?_ _
          go_wp2
          go_roundw
          case rel => exact ⟨m + 1, by go_num, hlt, by rw [HR.out], hC2⟩
          case measure => simp [intOf]; omega
      · obtain rfl : m = nl := by omega
        have HR : Hid (strOfNums (123 :: encP true ks (l.take m)) ++ ⟨#[125]⟩ = strOfNums (enc' (.mk 5 i t ks l))) := by
          show _ = _
          have e : (⟨#[125]⟩ : ByteArray) = strOfNums [125] := rfl
          rw [HE.out, List.take_of_length_le (by rw [HNL.out]; exact Nat.le_refl _), e, str_append]
          rfl
        obtain ⟨S, hS⟩ : ∃ S, strOfNums (123 :: encP true ks (l.take m)) = S := ⟨_, rfl⟩
        rw [hS] at hz HR ⊢
        clear hS
        go_wp2
        go_ret
        exact ⟨by rw [← HR.out]; rfl, below_in hbA hbr⟩
theorem rtexts : ∀ d, RTexts d
  | 0 => rtext_zero
  | d + 1 => rtext_step (rtexts d)
end Go.Proofs.YtnmhpejnjaeecaaGreatDoor

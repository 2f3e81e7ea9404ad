/-
  The document's Missing; rows held against one another; what is few: by contracts.
-/
import Derived.Test.YtbjeaogblpjpeaaGRefW
namespace Go.Proofs.Ytbjeaogblpjpeaa
open Go.RowKit Go.Maps

set_option maxHeartbeats 2000000 in
theorem ints_any {O O' : Nat → Prop} (a b : List Int) (p q : Option Addr) (c c' : Nat) (w : World) (r : RdI O w p c a) (s : RdI O' w q c' b) (ha : a.length ≤ 1000) (_hb : b.length ≤ 1000) :
    Calls Try.prog 16 #[.slice p a.length c, .slice q b.length c'] w fun e w' => e = .returned (.bool (decide (a = b))) ∧ ∃ n, w' = w.drewN n := by
  have hrc := r.1
  have hsc := s.1
  by_cases hl : a.length = b.length
  · have HL : Hid (a.length = b.length) := hl
    rw [hl] at ha hrc ⊢
    clear hl
    go_enter Try.func16, Try.ntmps16
    go_wp2
    go_loopw [5] (fun i wr => ∃ k : Nat, k ≤ b.length ∧ i = .int .i64 k ∧ a.take k = b.take k ∧ ∃ n, wr = w.drewN n) (fun i _ => b.length - (intOf i).toNat)
    case atStart => exact ⟨0, Nat.zero_le _, rfl, by simp, 0, rfl⟩
    case round =>
      obtain ⟨k, hk, rfl, heq, n, rfl⟩ := hrel
      have HA : Hid (a.take k = b.take k) := heq
      clear heq
      by_cases hlt : k < b.length
      · have hka : k < a.length := by rw [HL.out]; exact hlt
        obtain ⟨ad, rfl, _, hc1⟩ := r.at k 0 hka
        obtain ⟨ad', rfl, _, hc2⟩ := s.at k 0 hlt
        have HTA : Hid (a.take (k + 1) = a.take k ++ [a.getD k 0]) := take_next a k _ hka
        have HTB : Hid (b.take (k + 1) = b.take k ++ [b.getD k 0]) := take_next b k _ hlt
        have HX : Hid (a.getD k 0 ≠ b.getD k 0 → a ≠ b) := fun h e => h (by rw [e])
        generalize a.getD k 0 = x at *
        generalize b.getD k 0 = y at *
        clear hka
        by_cases hxy : x = y
        · subst hxy
          have HN : Hid (a.take (k + 1) = b.take (k + 1)) := by show _ = _; rw [HTA.out, HTB.out, HA.out]
          go_wp2
          go_quiet (fail)
          go_wp2
          go_roundw
          case rel => exact ⟨k + 1, by omega, by go_num, HN.out, _, rfl⟩
          case measure => simp [intOf]; omega
        · have HN : Hid (decide (a = b) = false) := decide_eq_false (HX.out hxy)
          go_wp2
          go_quiet (fail)
          go_wp2
          go_ret
          exact ⟨ret_bool HN.out.symm, _, World.drewN_drewN _ _ _⟩
      · obtain rfl : k = b.length := by omega
        have HE : Hid (decide (a = b) = true) := by
          have := HA.out
          rw [List.take_length, ← HL.out, List.take_length] at this
          exact decide_eq_true this
        go_wp2
        go_ret
        exact ⟨ret_bool HE.out.symm, _, rfl⟩
  · have HE : Hid (decide (a = b) = false) := decide_eq_false fun e => hl (by rw [e])
    go_enter Try.func16, Try.ntmps16
    go_wp2
    go_ret
    exact ⟨ret_bool HE.out.symm, 0, rfl⟩
theorem below_drewN (w : World) (n : Nat) : Below w.heap.size w (w.drewN n) := ⟨rfl, rfl, rfl, Nat.le_refl _, fun _ _ => rfl⟩
set_option maxHeartbeats 2000000 in
theorem strs_any {O O' : Nat → Prop} (a b : List ByteArray) (p q : Option Addr) (c c' : Nat) (w : World) (r : RdS O w p c a) (s : RdS O' w q c' b) (ha : a.length ≤ 1000) (_hb : b.length ≤ 1000) :
    Calls Try.prog 12 #[.slice p a.length c, .slice q b.length c'] w fun e w' => e = .returned (.bool (decide (a = b))) ∧ ∃ n, w' = w.drewN n := by
  have hrc := r.1
  have hsc := s.1
  by_cases hl : a.length = b.length
  · have HL : Hid (a.length = b.length) := hl
    rw [hl] at ha hrc ⊢
    clear hl
    go_enter Try.func12, Try.ntmps12
    go_wp2
    go_loopw [5] (fun i wr => ∃ k : Nat, k ≤ b.length ∧ i = .int .i64 k ∧ a.take k = b.take k ∧ ∃ n, wr = w.drewN n) (fun i _ => b.length - (intOf i).toNat)
    case atStart => exact ⟨0, Nat.zero_le _, rfl, by simp, 0, rfl⟩
    case round =>
      obtain ⟨k, hk, rfl, heq, n, rfl⟩ := hrel
      have HA : Hid (a.take k = b.take k) := heq
      clear heq
      by_cases hlt : k < b.length
      · have hka : k < a.length := by rw [HL.out]; exact hlt
        obtain ⟨ad, rfl, _, hc1⟩ := r.at k ⟨#[]⟩ hka
        obtain ⟨ad', rfl, _, hc2⟩ := s.at k ⟨#[]⟩ hlt
        have HTA : Hid (a.take (k + 1) = a.take k ++ [a.getD k ⟨#[]⟩]) := take_next a k _ hka
        have HTB : Hid (b.take (k + 1) = b.take k ++ [b.getD k ⟨#[]⟩]) := take_next b k _ hlt
        have HX : Hid (a.getD k ⟨#[]⟩ ≠ b.getD k ⟨#[]⟩ → a ≠ b) := fun h e => h (by rw [e])
        generalize a.getD k ⟨#[]⟩ = x at *
        generalize b.getD k ⟨#[]⟩ = y at *
        clear hka
        by_cases hxy : x = y
        · subst hxy
          have hb' : (x.toList == x.toList) = true := by simp
          have HN : Hid (a.take (k + 1) = b.take (k + 1)) := by show _ = _; rw [HTA.out, HTB.out, HA.out]
          go_wp2
          go_quiet (fail)
          go_wp2
          go_roundw
          case rel => exact ⟨k + 1, by omega, by go_num, HN.out, _, rfl⟩
          case measure => simp [intOf]; omega
        · have HN : Hid (decide (a = b) = false) := decide_eq_false (HX.out hxy)
          have hb' : (x.toList == y.toList) = false := by rw [beqS]; simpa using hxy
          go_wp2
          go_quiet (fail)
          go_wp2
          go_ret
          exact ⟨ret_bool HN.out.symm, _, World.drewN_drewN _ _ _⟩
      · obtain rfl : k = b.length := by omega
        have HE : Hid (decide (a = b) = true) := by
          have := HA.out
          rw [List.take_length, ← HL.out, List.take_length] at this
          exact decide_eq_true this
        go_wp2
        go_ret
        exact ⟨ret_bool HE.out.symm, _, rfl⟩
  · have HE : Hid (decide (a = b) = false) := decide_eq_false fun e => hl (by rw [e])
    go_enter Try.func12, Try.ntmps12
    go_wp2
    go_ret
    exact ⟨ret_bool HE.out.symm, 0, rfl⟩

/-- Few and small names. -/
def shortB (l : List ByteArray) : Bool := decide (l.length ≤ 10) && l.all fun s => decide (s.size ≤ 100)
theorem short_iff {l : List ByteArray} : shortB l = true ↔ l.length ≤ 10 ∧ ∀ s ∈ l, s.size ≤ 100 := by simp [shortB]
set_option maxHeartbeats 2000000 in
theorem short_any {O : Nat → Prop} (l : List ByteArray) (p : Option Addr) (c : Nat) (w : World) (r : RdS O w p c l) (hl : l.length ≤ 9223372036854775807) (hs : ∀ s ∈ l, s.size ≤ 9223372036854775807) :
    Calls Try.prog 10 #[.slice p l.length c] w fun e w' => e = .returned (.bool (shortB l)) ∧ w = w' := by
  have HS : Hid (∀ s ∈ l, s.size ≤ 9223372036854775807) := hs
  clear hs
  by_cases hlen : l.length ≤ 10
  · go_enter Try.func10, Try.ntmps10
    go_wp2
    go_loop [3] (fun i => ∃ k : Nat, k ≤ l.length ∧ i = .int .i64 k ∧ ∀ s ∈ l.take k, s.size ≤ 100) (fun i => l.length - (intOf i).toNat)
    case atStart => exact ⟨0, Nat.zero_le _, rfl, by simp⟩
    case round =>
      obtain ⟨k, hk, rfl, hall⟩ := hrel
      have HA : Hid (∀ s ∈ l.take k, s.size ≤ 100) := hall
      clear hall
      by_cases hlt : k < l.length
      · obtain ⟨ad, rfl, _, hcell⟩ := r.at k ⟨#[]⟩ hlt
        have HM : Hid (l.getD k ⟨#[]⟩ ∈ l) := getD_inm hlt
        have hx := HS.out _ HM.out
        have HT : Hid (l.take (k + 1) = l.take k ++ [l.getD k ⟨#[]⟩]) := take_next l k _ hlt
        generalize l.getD k ⟨#[]⟩ = x at *
        by_cases hb : x.size ≤ 100
        · have HX : Hid (∀ s ∈ l.take (k + 1), s.size ≤ 100) := by
            intro s hs
            rw [HT.out, List.mem_append, List.mem_singleton] at hs
            rcases hs with hs | rfl
            · exact HA.out s hs
            · exact hb
          go_wp2
          go_round
          case rel => exact ⟨k + 1, by omega, by go_num, HX.out⟩
          case measure => simp [intOf]; omega
        · have HX : Hid (shortB l = false) := by
            show _ = _
            rw [Bool.eq_false_iff]
            intro h
            exact hb ((short_iff.1 h).2 x HM.out)
          go_wp2
          go_ret
          exact ⟨ret_bool HX.out.symm, rfl⟩
      · obtain rfl : k = l.length := by omega
        have HX : Hid (shortB l = true) := by
          have := HA.out
          rw [List.take_length] at this
          exact short_iff.2 ⟨hlen, this⟩
        go_wp2
        go_ret
        exact ⟨ret_bool HX.out.symm, rfl⟩
  · have HX : Hid (shortB l = false) := by
      show _ = _
      rw [Bool.eq_false_iff]
      intro h
      exact hlen (short_iff.1 h).1
    go_enter Try.func10, Try.ntmps10
    go_wp2
    go_ret
    exact ⟨ret_bool HX.out.symm, rfl⟩

set_option maxRecDepth 100000 in
set_option maxHeartbeats 4000000 in
theorem rmissing_any {O : Nat → Prop} {hb : Nat} {T : List Th} (l : List ByteArray) (p : Option Addr) (c : Nat) (w : World) (h : Rp O w hb T) (r : RdS (· < w.heap.size) w p c l) (hT : T.length ≤ 100) (hl : l.length ≤ 10) :
    Calls Try.prog 14 #[.pointer (some ⟨hb, 0, none⟩), .slice p l.length c] w (MissP (nms T) l w) := by
  have HQ : Hid (∀ wx, Below w.heap.size w wx → Rp O wx hb T) := fun wx hb => h.below hb
  have hrc := r.1
  clear h
  go_enter Try.func14, Try.ntmps14
  go_wp2
  go_loopw [5, 6] (fun v i wr => ∃ k : Nat, k ≤ l.length ∧ i = .int .i64 k ∧ wr.ownsRow w.heap.size 9 1 v (missTo (nms T) l k).length ((missTo (nms T) l k).map Value.string) ∧ Below w.heap.size w wr) (fun _ i _ => l.length - (intOf i).toNat)
  case atStart => exact ⟨0, Nat.zero_le _, rfl, World.ownsRow_nil _ _ _ _, Below.refl _ _⟩
  case round =>
    obtain ⟨k, hk, rfl, hown, hb'⟩ := hrel
    have hsz := hb'.size
    by_cases hlt : k < l.length
    · obtain ⟨ad, rfl, _, hcell⟩ := (r.below hb').at k ⟨#[]⟩ hlt
      have HC : Hid (∀ wx, Below w.heap.size w wx → wx.cell? (ad.add k) = some (.string (l.getD k ⟨#[]⟩))) := fun wx hbx => by
        obtain ⟨ad', e, _, h'⟩ := (r.below hbx).at k ⟨#[]⟩ hlt
        cases e
        exact h'
      have HNO : Hid (¬ (l.getD k ⟨#[]⟩ ∉ nms T ∧ l.getD k ⟨#[]⟩ ∉ l.take k) → missTo (nms T) l (k + 1) = missTo (nms T) l k) := fun h => miss_no h
      have HYES : Hid (l.getD k ⟨#[]⟩ ∉ nms T → l.getD k ⟨#[]⟩ ∉ l.take k → missTo (nms T) l (k + 1) = missTo (nms T) l k ++ [l.getD k ⟨#[]⟩]) := fun h h' => miss_yes h h'
      have hlen := missTo_len (nms T) l k
      generalize l.getD k ⟨#[]⟩ = x at *
      have hpl := rplace_any x wr (HQ.out _ hb') hT
      obtain ⟨pz, hpz⟩ : ∃ z, plZ T x = z := ⟨_, rfl⟩
      obtain ⟨bi, hbi⟩ : ∃ b, inn (nms T) x = b := ⟨_, rfl⟩
      have HBI : Hid (inn (nms T) x = bi) := hbi
      rw [hpz, hbi] at hpl
      clear hpz hbi
      go_wp2_with (first
        | (go_at_call 20; refine hpl.mono ?_; rintro e w' ⟨rfl, rfl⟩))
      go_loopw [8, 9] (fun t i wx => ∃ m : Nat, ∃ b : Bool, m ≤ k ∧ i = .int .i64 m ∧ t = .bool b ∧ b = (bi || inn (l.take m) x) ∧ ∃ n, wx = wr.drewN n) (fun _ i _ => k - (intOf i).toNat)
      case atStart => exact ⟨0, bi, Nat.zero_le _, rfl, rfl, by simp [inn], 0, rfl⟩
      case round =>
        obtain ⟨m, b, hm, rfl, rfl, hbm, n, rfl⟩ := hrel
        have HBM : Hid (b = (bi || inn (l.take m) x)) := hbm
        clear hbm hpl
        by_cases hlt2 : m < k
        · have hml : m < l.length := by omega
          obtain ⟨ad', e, _, hcell2⟩ := (r.below hb').at m ⟨#[]⟩ hml
          cases e
          have HT : Hid (l.take (m + 1) = l.take m ++ [l.getD m ⟨#[]⟩]) := take_next l m _ hml
          generalize l.getD m ⟨#[]⟩ = y at *
          cases b with
          | true =>
            have HN : Hid (true = (bi || inn (l.take (m + 1)) x)) := by
              show _ = _
              have h1 := HBM.out
              cases bi with
              | true => rfl
              | false =>
                have : x ∈ l.take m := inn_iff.1 (by simpa using h1.symm)
                have : inn (l.take (m + 1)) x = true := inn_iff.2 (by rw [HT.out]; simp [this])
                rw [this]; rfl
            go_wp2
            go_quiet (fail)
            go_wp2
            go_roundw
            case rel => exact ⟨m + 1, true, by omega, by go_num, rfl, HN.out, _, rfl⟩
            case measure => simp [intOf]; omega
          | false =>
            have h1 := HBM.out
            have hbf : bi = false := by cases bi with | false => rfl | true => simp at h1
            subst hbf
            have HX : Hid (x ∉ l.take m) := inn_not.1 (by simpa using h1.symm)
            clear h1
            by_cases hxy : y = x
            · have hb1 : (y.toList == x.toList) = true := by rw [beqS]; simpa using hxy
              have HN : Hid (true = (false || inn (l.take (m + 1)) x)) := by
                show _ = _
                have : inn (l.take (m + 1)) x = true := inn_iff.2 (by rw [HT.out, hxy]; simp)
                rw [this]; rfl
              go_wp2
              go_quiet (fail)
              go_wp2
              go_roundw
              case rel => exact ⟨m + 1, true, by omega, by go_num, rfl, HN.out, _, rfl⟩
              case measure => simp [intOf]; omega
            · have hb1 : (y.toList == x.toList) = false := by rw [beqS]; simpa using hxy
              have HN : Hid (false = (false || inn (l.take (m + 1)) x)) := by
                show _ = _
                have : inn (l.take (m + 1)) x = false := inn_not.2 (by
                  rw [HT.out, List.mem_append, List.mem_singleton]
                  rintro (h | h)
                  · exact HX.out h
                  · exact hxy h.symm)
                rw [this]; rfl
              go_wp2
              go_quiet (fail)
              go_wp2
              go_roundw
              case rel => exact ⟨m + 1, false, by omega, by go_num, rfl, HN.out, _, rfl⟩
              case measure => simp [intOf]; omega
        · obtain rfl : m = k := by omega
          have hbd : Below w.heap.size w (wr.drewN n) := hb'.trans ((below_drewN wr n).mono hsz)
          have hownd := own_below hown (below_drewN wr n)
          have hcd := HC.out _ hbd
          have hszd := hbd.size
          cases b with
          | true =>
            have HE := HNO.out (fun h => by
              have h1 := HBM.out
              rw [← HBI.out, inn_not.2 h.1, inn_not.2 h.2] at h1
              cases h1)
            have HO := own_cast hownd HE
            clear HE hown hownd
            go_wp2
            go_roundw
            case rel => exact ⟨m + 1, by omega, by go_num, HO, hbd⟩
            case measure => simp [intOf]; omega
          | false =>
            have h1 := HBM.out
            have hbf : bi = false := by cases bi with | false => rfl | true => simp at h1
            have h2 : x ∉ l.take m := inn_not.1 (by rw [hbf] at h1; simpa using h1.symm)
            have HE : Hid (missTo (nms T) l (m + 1) = missTo (nms T) l m ++ [x]) := HYES.out (inn_not.1 (by rw [HBI.out, hbf])) h2
            clear h1 h2 hbf hown
            generalize missTo (nms T) l m = ms at *
            go_wp2_with (first
              | (at_builtin; refine wpList_push rfl (.tmp 44) (.tmp 49) 23 9 (.string ⟨#[]⟩) 16 rfl Try.underlying23 Try.info9 rfl (by decide) str_one w.heap.size _ ms rfl (hownd.alloc _) _ x rfl (cell_row (cur := [_]) (heap_alloc_new _ _) 0 _ rfl) (by omega) (by simp; omega) ?_
                 intro v' w3 hown3 hg3))
            have hb3 : Below w.heap.size w w3 := below_row (hbd.alloc hszd _) hg3 (hownd.alloc _) (by simp; omega)
            have HO : Hid (w3.ownsRow w.heap.size 9 1 v' (missTo (nms T) l (m + 1)).length ((missTo (nms T) l (m + 1)).map Value.string)) := by show World.ownsRow _ _ _ _ _ _ _; rw [HE.out]; exact hown3
            clear hown3 hownd
            go_wp2
            go_roundw
            case rel => exact ⟨m + 1, by omega, by go_num, HO.out, hb3⟩
            case measure => simp [intOf]; omega
    · obtain rfl : k = l.length := by omega
      go_wp2
      go_ret
      exact ⟨_, rfl, hown, hb'⟩
end Go.Proofs.Ytbjeaogblpjpeaa

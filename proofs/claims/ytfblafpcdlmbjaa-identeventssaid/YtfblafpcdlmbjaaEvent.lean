/-
  Events' names: the program's own answer and the document's, by contracts.
-/
import Derived.Test.YtfblafpcdlmbjaaAwake
import Derived.Test.YtfblafpcdlmbjaaRefDec
namespace Go.Proofs.Ytfblafpcdlmbjaa
open Go.RowKit

/-- An event's name: a sign and eleven letters that are bytes. -/
def evt (s : ByteArray) : Bool := decide (s.size = 12) && decide ((ints s).getD 0 0 = 36) && decide ((flt (ints (s.extract 1 s.size))).1 = 0)
theorem evt_size (s : ByteArray) (h : s.size ≠ 12) : evt s = false := by unfold evt; simp [h]
theorem evt_sign (s : ByteArray) (h : (ints s).getD 0 0 ≠ 36) : evt s = false := by
  unfold evt
  have : decide ((ints s).getD 0 0 = 36) = false := decide_eq_false h
  rw [this]; simp
theorem evt_bad (s : ByteArray) (h : (flt (ints (s.extract 1 s.size))).1 ≠ 0) : evt s = false := by
  unfold evt
  rw [decide_eq_false h]; simp
theorem evt_good (s : ByteArray) (h1 : s.size = 12) (h2 : (ints s).getD 0 0 = 36) (h3 : (flt (ints (s.extract 1 s.size))).1 = 0) : evt s = true := by
  unfold evt
  rw [decide_eq_true h1, decide_eq_true h2, decide_eq_true h3]; rfl
theorem dec_eight (t : ByteArray) (h : t.size = 11) : (dec (ints t)).length = 8 := by
  have := dec_length (ints t)
  rw [ints_length, h] at this
  have e : ((11 : Nat) : Int) / 4 * 3 + byts (((11 : Nat) : Int) % 4) = 8 := by decide
  omega

set_option maxHeartbeats 1000000 in
theorem event_any (s : ByteArray) (w : World) (hs : s.size ≤ 140737488351232) :
    Calls Try.prog 18 #[.string s] w fun e w' => e = .returned (.bool (evt s)) ∧ Below w.heap.size w w' := by
  by_cases hp : ∀ h : 0 < s.size, s[0] ≠ 36
  · have HE : Hid (evt s = false) := by
      by_cases h0 : s.size = 0
      · exact evt_size s (by omega)
      · refine evt_sign s ?_
        rw [ints_getD s 0 (by omega)]
        intro h
        exact hp (by omega) ((u8_int s[0] 36).1 h)
    go_enter Try.func18, Try.ntmps18
    go_wp2_with (go_at_call 31; refine (cutPrefix_no s 36 _ hs hp).mono ?_; rintro e w' ⟨rfl, rfl⟩)
    go_ret
    exact ⟨ret_bool HE.out.symm, Below.refl _ _⟩
  · obtain ⟨h0, hc⟩ : ∃ h : 0 < s.size, s[0] = 36 := by simpa using hp
    clear hp
    have HG : Hid ((ints s).getD 0 0 = 36) := by rw [ints_getD s 0 h0, hc]; rfl
    have hz : (s.extract 1 s.size).size = s.size - 1 := by simp
    obtain ⟨t, ht⟩ : ∃ t, t = s.extract 1 s.size := ⟨_, rfl⟩
    have hcut := fun wx : World => cutPrefix_yes s 36 wx hs h0 hc
    rw [← ht] at hz hcut
    have HT : Hid (t = s.extract 1 s.size) := ht
    clear ht
    by_cases h12 : s.size = 12
    · have hz11 : t.size = 11 := by omega
      have hz11' : (t.size : Int) = 11 := by omega
      by_cases hf : (flt (ints t)).1 = 0
      · have HE : Hid (evt s = true) := evt_good s h12 HG.out (by rw [← HT.out]; exact hf)
        go_enter Try.func18, Try.ntmps18
        go_wp2_with (first
          | (go_at_call 31; refine (hcut _).mono ?_; rintro e w' ⟨rfl, rfl⟩)
          | (go_at_call 32; refine (decode_good t _ (by omega) hf).mono ?_; rintro e w1 ⟨rfl, _, hb1⟩))
        go_ret
        exact ⟨ret_bool HE.out.symm, hb1⟩
      · have HE : Hid (evt s = false) := evt_bad s (by rw [← HT.out]; exact hf)
        have hfb : ((flt (ints t)).1 == 0) = false := by simp [hf]
        go_enter Try.func18, Try.ntmps18
        go_wp2_with (first
          | (go_at_call 31; refine (hcut _).mono ?_; rintro e w' ⟨rfl, rfl⟩)
          | (go_at_call 32; refine (decode_bad t _ (by omega) hf).mono ?_; rintro e w1 ⟨rfl, hb1⟩))
        go_ret
        exact ⟨ret_bool HE.out.symm, hb1⟩
    · have HE : Hid (evt s = false) := evt_size s h12
      have hn : ¬ (t.size : Int) = 11 := by omega
      have hnb : ((t.size : Int) != 11) = true := by simp [hn]
      go_enter Try.func18, Try.ntmps18
      go_wp2_with (go_at_call 31; refine (hcut _).mono ?_; rintro e w' ⟨rfl, rfl⟩)
      go_ret
      exact ⟨ret_bool HE.out.symm, Below.refl _ _⟩

set_option maxHeartbeats 1000000 in
theorem refEvent_any (s : ByteArray) (w : World) :
    Calls Try.prog 19 #[.string s] w fun e w' => e = .returned (.bool (evt s)) ∧ Below w.heap.size w w' := by
  by_cases h12 : s.size = 12
  · have h12' : (s.size : Int) = 12 := by omega
    have h0 : 0 < s.size := by omega
    have HG : Hid ((ints s).getD 0 0 = (s[0].toNat : Int)) := ints_getD s 0 h0
    by_cases hc : (s[0].toNat : Int) = 36
    · have hz : (s.extract 1 s.size).size = 11 := by simp; omega
      have hsl : ∀ wx : World, (Instr.slice 9 (.string s) (some (.int .i64 1)) none none).run Try.prog wx = .ok (.string (s.extract 1 s.size)) wx :=
        fun wx => run_slice_string_l wx 9 s Try.underlying9 .i64 1 (by omega) (by omega)
      obtain ⟨t, ht⟩ : ∃ t, t = s.extract 1 s.size := ⟨_, rfl⟩
      rw [← ht] at hz hsl
      have HT : Hid (t = s.extract 1 s.size) := ht
      clear ht
      have hd := dec_eight t hz
      by_cases hf : (flt (ints t)).1 = 0
      · have HE : Hid (evt s = true) := evt_good s h12 (by rw [HG.out]; exact hc) (by rw [← HT.out]; exact hf)
        have x := fun wx : World => refDecode_good t wx (by omega) hf
        rw [hd] at x
        go_enter Try.func19, Try.ntmps19
        go_wp2_with (go_at_call 33; refine (x _).mono ?_; rintro e w1 ⟨q, cq, rfl, _, hb1⟩)
        go_ret
        exact ⟨ret_bool HE.out.symm, hb1⟩
      · have HE : Hid (evt s = false) := evt_bad s (by rw [← HT.out]; exact hf)
        have hfb : ((flt (ints t)).1 == 0) = false := by simp [hf]
        have x := fun wx : World => refDecode_bad t wx (by omega) hf
        go_enter Try.func19, Try.ntmps19
        go_wp2_with (go_at_call 33; refine (x _).mono ?_; rintro e w1 ⟨rfl, hb1⟩)
        go_ret
        exact ⟨ret_bool HE.out.symm, hb1⟩
    · have HE : Hid (evt s = false) := evt_sign s (by rw [HG.out]; exact hc)
      have hcb : ((s[0].toNat : Int) != 36) = true := by simp [hc]
      go_enter Try.func19, Try.ntmps19
      go_wp2
      go_ret
      exact ⟨ret_bool HE.out.symm, Below.refl _ _⟩
  · have HE : Hid (evt s = false) := evt_size s h12
    have hn : ¬ (s.size : Int) = 12 := by omega
    have hnb : ((s.size : Int) != 12) = true := by simp [hn]
    go_enter Try.func19, Try.ntmps19
    go_wp2
    go_ret
    exact ⟨ret_bool HE.out.symm, Below.refl _ _⟩
end Go.Proofs.Ytfblafpcdlmbjaa

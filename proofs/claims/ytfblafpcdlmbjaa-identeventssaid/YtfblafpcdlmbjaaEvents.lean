/-
  The statement on the letters of eight bytes, walked.
-/
import Derived.Test.YtfblafpcdlmbjaaEvent
namespace Go.Proofs.Ytfblafpcdlmbjaa
open Go.RowKit

theorem dol_list (e : ByteArray) : ((⟨#[36]⟩ : ByteArray) ++ e).data.toList = 36 :: e.data.toList := by simp
theorem dol_ints (e : ByteArray) : ints ((⟨#[36]⟩ : ByteArray) ++ e) = 36 :: ints e := by
  unfold ints
  rw [dol_list]
  simp
theorem dol_size (e : ByteArray) : ((⟨#[36]⟩ : ByteArray) ++ e).size = e.size + 1 := by
  rw [← ints_length, dol_ints]
  simp [ints_length]
theorem siz_eight (n : Nat) : siz (n : Int) = 11 ↔ n = 8 := by
  unfold siz lets
  rw [if_neg (by omega)]
  constructor
  · intro h; split at h <;> omega
  · intro h; subst h; decide
theorem dol_cut (e : ByteArray) : ((⟨#[36]⟩ : ByteArray) ++ e).extract 1 ((⟨#[36]⟩ : ByteArray) ++ e).size = e := by
  have h1 := ints_extract ((⟨#[36]⟩ : ByteArray) ++ e) 1
  rw [dol_ints] at h1
  have h2 : ints (((⟨#[36]⟩ : ByteArray) ++ e).extract 1 ((⟨#[36]⟩ : ByteArray) ++ e).size) = ints e := h1
  rw [← str_ints (((⟨#[36]⟩ : ByteArray) ++ e).extract 1 ((⟨#[36]⟩ : ByteArray) ++ e).size), h2, str_ints]
theorem enc_text {zs : List Int} (hb : ∀ x ∈ zs, 0 ≤ x ∧ x ≤ 255) : ints (strOfNums (enc zs)) = enc zs := ints_str _ (enc_bd zs hb)
theorem ev_all (zs : List Int) (hb : ∀ x ∈ zs, 0 ≤ x ∧ x ≤ 255) : evt ((⟨#[36]⟩ : ByteArray) ++ strOfNums (enc zs)) = decide (zs.length = 8) := by
  have hl := enc_length zs
  by_cases h : zs.length = 8
  · rw [decide_eq_true h]
    refine evt_good _ ?_ ?_ ?_
    · rw [dol_size, str_size]
      have := (siz_eight zs.length).2 h
      omega
    · rw [dol_ints]; rfl
    · rw [dol_cut, enc_text hb, flt_enc zs hb]
  · rw [decide_eq_false h]
    refine evt_size _ ?_
    rw [dol_size, str_size]
    have := mt (siz_eight zs.length).1 h
    omega
theorem ev_bare (zs : List Int) (hb : ∀ x ∈ zs, 0 ≤ x ∧ x ≤ 255) : evt (strOfNums (enc zs)) = false := by
  by_cases h0 : (enc zs).length = 0
  · exact evt_size _ (by rw [str_size, h0]; decide)
  · refine evt_sign _ ?_
    rw [enc_text hb]
    have hg := good_enc zs hb
    cases he : enc zs with
    | nil => rw [he] at h0; exact absurd rfl h0
    | cons a r =>
      rw [he] at hg
      have := (good_cons a r hg).1
      intro hc
      simp only [List.getD_cons_zero] at hc
      rw [hc] at this
      revert this
      decide
theorem ev_more (zs : List Int) (h : zs.length = 8) : evt ((⟨#[36]⟩ : ByteArray) ++ strOfNums (enc zs) ++ (⟨#[65]⟩ : ByteArray)) = false := by
  refine evt_size _ ?_
  have hl := enc_length zs
  have := (siz_eight zs.length).2 h
  rw [ByteArray.size_append, dol_size, str_size]
  have e : (⟨#[65]⟩ : ByteArray).size = 1 := rfl
  omega

set_option maxHeartbeats 1000000 in
theorem identEvents_any (zs : List Int) (p : Option Addr) (c : Nat) (w : World) (hrd : Rd w.heap.size w p c zs) (hz : zs.length ≤ 140737488351232) :
    Calls Try.prog 8 #[.slice p zs.length c] w fun e w' => e = .returned (.bool true) ∧ Below w.heap.size w w' := by
  by_cases hl : 100 < zs.length
  · go_enter Try.func8, Try.ntmps8
    go_wp2
    go_ret
    exact ⟨rfl, Below.refl _ _⟩
  have x0 := fun (wx : World) (hr : Rd wx.heap.size wx p c zs) => refEncode_any zs p c wx (by omega) hr
  have he := enc_le zs
  have k1 := ev_all zs hrd.2.1
  have k2 := ev_bare zs hrd.2.1
  have k3 := ev_more zs
  have hsz : (strOfNums (enc zs)).size ≤ 1000 := by rw [str_size]; omega
  obtain ⟨E, hE⟩ : ∃ E, E = strOfNums (enc zs) := ⟨_, rfl⟩
  rw [← hE] at x0 k1 k2 k3 hsz
  have s1 : ((⟨#[36]⟩ : ByteArray) ++ E).size ≤ 140737488351232 := by rw [dol_size]; omega
  have s2 : E.size ≤ 140737488351232 := by omega
  have s3 : ((⟨#[36]⟩ : ByteArray) ++ E ++ (⟨#[65]⟩ : ByteArray)).size ≤ 140737488351232 := by
    have e : (⟨#[65]⟩ : ByteArray).size = 1 := rfl
    rw [ByteArray.size_append, dol_size]; omega
  have hsl : ∀ wx : World, (Instr.slice 9 (.string ((⟨#[36]⟩ : ByteArray) ++ E)) (some (.int .i64 1)) none none).run Try.prog wx = .ok (.string E) wx := fun wx => by
    have := run_slice_string_l (P := Try.prog) wx 9 ((⟨#[36]⟩ : ByteArray) ++ E) Try.underlying9 .i64 1 (by omega) (by rw [dol_size]; omega)
    rw [this]
    exact congrArg (fun z => Result.ok (Value.string z) wx) (dol_cut E)
  have y1 := fun wx : World => event_any ((⟨#[36]⟩ : ByteArray) ++ E) wx s1
  have y2 := fun wx : World => event_any E wx s2
  have y3 := fun wx : World => event_any ((⟨#[36]⟩ : ByteArray) ++ E ++ (⟨#[65]⟩ : ByteArray)) wx s3
  rw [k1] at y1
  rw [k2] at y2
  clear hE k1 k2 he
  by_cases h8 : zs.length = 8
  · rw [k3 h8] at y3
    rw [decide_eq_true h8] at y1
    have h8' : ((zs.length : Int) == 8) = true := by simp [h8]
    have h8n : ((zs.length : Int) != 8) = false := by simp [h8]
    clear k3
    rw [h8] at x0
    go_enter Try.func8, Try.ntmps8
    go_wp2_with (first
      | (go_at_call 25; refine (x0 _ hrd).mono ?_; rintro e w1 ⟨rfl, hb1⟩)
      | (go_at_call 18; have _h := hb3; refine (y3 _).mono ?_; rintro e w4 ⟨rfl, hb4⟩)
      | (go_at_call 18; have _h := hb2; refine (y2 _).mono ?_; rintro e w3 ⟨rfl, hb3⟩)
      | (go_at_call 18; refine (y1 _).mono ?_; rintro e w2 ⟨rfl, hb2⟩)
      | (go_at_call 13; refine (awake_any _).mono ?_; rintro e w5 ⟨rfl, hb5⟩))
    go_ret
    have c2 := hb1.trans (hb2.mono hb1.size)
    have c3 := c2.trans (hb3.mono c2.size)
    have c4 := c3.trans (hb4.mono c3.size)
    exact ⟨rfl, c4.trans (hb5.mono c4.size)⟩
  · rw [decide_eq_false h8] at y1
    have h8' : ((zs.length : Int) == 8) = false := by simp; omega
    have h8n : ((zs.length : Int) != 8) = true := by simp; omega
    clear k3 y3
    go_enter Try.func8, Try.ntmps8
    go_wp2_with (first
      | (go_at_call 25; refine (x0 _ hrd).mono ?_; rintro e w1 ⟨rfl, hb1⟩)
      | (go_at_call 18; have _h := hb2; refine (y2 _).mono ?_; rintro e w3 ⟨rfl, hb3⟩)
      | (go_at_call 18; refine (y1 _).mono ?_; rintro e w2 ⟨rfl, hb2⟩)
      | (go_at_call 13; refine (awake_any _).mono ?_; rintro e w5 ⟨rfl, hb5⟩))
    go_ret
    have c2 := hb1.trans (hb2.mono hb1.size)
    have c3 := c2.trans (hb3.mono c2.size)
    exact ⟨rfl, c3.trans (hb5.mono c3.size)⟩
end Go.Proofs.Ytfblafpcdlmbjaa

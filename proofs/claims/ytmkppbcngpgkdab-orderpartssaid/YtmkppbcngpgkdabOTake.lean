/-
  put and take: a heap of places, by contracts.
-/
import Derived.Test.YtmkppbcngpgkdabODown
namespace Go.Proofs.Ytmkppbcngpgkdab
open Go.RowKit Go.Maps

theorem perm_len {a b : List Nat} (h : a.Perm b) : a.length = b.length := h.length_eq
/-- What is told of put. -/
def PutP (B : Nat) (w : World) (qb : Nat) (rp : Option Addr) (rc : Nat) (R : List Int) (v : Value) (h : List Nat) (x : Nat) (e : Ending) (w' : World) : Prop :=
  e = .returned (.tuple #[]) ∧ ∃ v' h', Qk B w w' qb rp rc R v v' h' ∧ Hp R h' ∧ h'.Perm (h ++ [x])

set_option maxHeartbeats 4000000 in
theorem hpush_any {B : Nat} {w : World} {qb : Nat} {rp : Option Addr} {rc : Nat} {R : List Int} {v : Value} {h : List Nat} (H : Qu B w qb rp rc R v h) (HP : Hp R h) (x : Nat) (hx : x < R.length) (hl : h.length < 1000) (hR : R.length ≤ 1000) :
    Calls Try.prog 22 #[.iface 41 (.pointer (some ⟨qb, 0, none⟩)), .iface 3 (.int .i64 x)] w (PutP B w qb rp rc R v h x) := by
  have hmP := mPush
  have hmN := mLen
  have hc := qpush_any H x hx (by omega)
  have HL : Hid (∀ v' wx, Qu B wx qb rp rc R v' (h ++ [x]) → Calls Try.prog 18 #[.pointer (some ⟨qb, 0, none⟩)] wx fun e w' => e = .returned (.int .i64 ((h.length : Int) + 1)) ∧ wx = w') := fun v' wx hq => by
    have := qlen_any hq
    rw [List.length_append] at this
    exact this
  have HU : Hid (∀ v' wx, Qu B wx qb rp rc R v' (h ++ [x]) → Calls Try.prog 35 #[.iface 41 (.pointer (some ⟨qb, 0, none⟩)), .int .i64 h.length] wx fun e w' => e = .returned (.tuple #[]) ∧ ∃ v2, Qk B wx w' qb rp rc R v' v2 (upF R (h.length + 1) (h ++ [x]) h.length)) :=
    fun v' wx hq => up_any hq h.length (by simp) (by simp; omega) hR
  have HG : Hid _ := upF_good R (h.length + 1) (h ++ [x]) h.length (by omega) (by simp) (up_push R h x HP)
  clear H HP
  go_enter Try.func22, Try.ntmps22
  go_wp2_with (first
    | (go_at_call 62; refine hc.mono ?_; rintro e w1 ⟨rfl, v1, hq1, hk1, hl1⟩; have H1 : Qk B w w1 qb rp rc R v v1 (h ++ [x]) := ⟨hq1, hk1, hl1⟩; clear hk1 hl1)
    | (go_at_call 18; refine (HL.out _ _ hq1).mono ?_; rintro e w2 ⟨rfl, rfl⟩)
    | (go_at_call 35; refine (HU.out _ _ hq1).mono ?_; rintro e w3 ⟨rfl, v3, hq3⟩; have H3 := H1.trans hq3; clear H1 hq3 hq1))
  exact bodyPost_end (v := .tuple #[]) (by simp [results, Try.results22, go_sem]) rfl ⟨rfl, _, _, H3, HG.out.1, HG.out.2⟩

set_option maxHeartbeats 4000000 in
theorem put_any {B : Nat} {w : World} {qb : Nat} {rp : Option Addr} {rc : Nat} {R : List Int} {v : Value} {h : List Nat} (H : Qu B w qb rp rc R v h) (HP : Hp R h) (x : Nat) (hx : x < R.length) (hl : h.length < 1000) (hR : R.length ≤ 1000) :
    Calls Try.prog 17 #[.pointer (some ⟨qb, 0, none⟩), .int .i64 x] w (PutP B w qb rp rc R v h x) := by
  have hc := hpush_any H HP x hx hl hR
  go_enter Try.func17, Try.ntmps17
  go_wp2_with (first
    | (go_at_call 22; refine hc.mono ?_; rintro e w1 ⟨rfl, hr⟩))
  exact bodyPost_end (v := .tuple #[]) (by simp [results, Try.results17, go_sem]) rfl ⟨rfl, hr⟩

/-- What is told of take. -/
def TakeP (B : Nat) (w : World) (qb : Nat) (rp : Option Addr) (rc : Nat) (R : List Int) (v : Value) (h : List Nat) (w' : World) : Prop :=
  ∃ v' h', Qk B w w' qb rp rc R v v' h' ∧ Hp R h' ∧ (h.getD 0 0 :: h').Perm h

set_option maxHeartbeats 4000000 in
theorem hpop_any {B : Nat} {w : World} {qb : Nat} {rp : Option Addr} {rc : Nat} {R : List Int} {v : Value} {h : List Nat} (H : Qu B w qb rp rc R v h) (HP : Hp R h) (hp : 0 < h.length) (hl : h.length ≤ 1000) (hR : R.length ≤ 1000) :
    Calls Try.prog 23 #[.iface 41 (.pointer (some ⟨qb, 0, none⟩))] w fun e w' => e = .returned (.iface 3 (.int .i64 (h.getD 0 0 : Nat))) ∧ TakeP B w qb rp rc R v h w' := by
  have hmP := mPop
  have hmN := mLen
  have hmS := mSwap
  obtain ⟨m, hm⟩ : ∃ m, h.length = m + 1 := ⟨h.length - 1, by omega⟩
  have e1 : h.length - 1 = m := by omega
  have hlen := qlen_any H
  have hsw := swap_any H 0 m hp (by omega) hl
  obtain ⟨g1, g2, g3, g4⟩ := popF_good R h hp HP
  have hdl : (downF R m h.length (swp h 0 m) 0).length = m + 1 := by rw [downF_len, swp_len, hm]
  unfold popF at g1 g2 g4
  rw [e1] at g1 g2 g3 g4
  have HD : Hid (∀ v' wx, Qu B wx qb rp rc R v' (swp h 0 m) → Calls Try.prog 36 #[.iface 41 (.pointer (some ⟨qb, 0, none⟩)), .int .i64 0, .int .i64 m] wx fun e w' => (∃ t, e = .returned (.bool t)) ∧ ∃ v2, Qk B wx w' qb rp rc R v' v2 (downF R m h.length (swp h 0 m) 0)) :=
    fun v' wx hq => down_any hq 0 m (by rw [swp_len]; omega) (by rw [swp_len]; omega) (by rw [swp_len]; omega) hR h.length (by omega)
  generalize downF R m h.length (swp h 0 m) 0 = d at *
  have HQ : Hid (∀ v' wx, Qu B wx qb rp rc R v' d → Calls Try.prog 61 #[.pointer (some ⟨qb, 0, none⟩)] wx fun e w' => e = .returned (.iface 3 (.int .i64 (h.getD 0 0 : Nat))) ∧ ∃ v2, Qk B wx w' qb rp rc R v' v2 (d.take m)) := by
    intro v' wx hq
    have := qpop_any hq (by omega) (by omega)
    rw [hdl, Nat.add_sub_cancel, g3] at this
    refine this.mono ?_
    rintro e w' ⟨he, v2, q2, k2, l2⟩
    exact ⟨he, v2, q2, k2.mono fun _ _ h => .inl h, .inl l2⟩
  have HG1 : Hid _ := g1
  have HG2 : Hid _ := g2
  rw [hm] at hlen
  generalize swp h 0 m = s at *
  clear g1 g2 g3 g4 hdl H HP
  obtain ⟨y, hy⟩ : ∃ y, h.getD 0 0 = y := ⟨_, rfl⟩
  have HY : Hid (h.getD 0 0 = y) := hy
  rw [hy] at HG2 HQ ⊢
  clear hy
  go_enter Try.func23, Try.ntmps23
  go_wp2_with (first
    | (go_at_call 18; refine hlen.mono ?_; rintro e w2 ⟨rfl, rfl⟩)
    | (go_at_call 63; refine hsw.mono ?_; rintro e w1 ⟨rfl, hq1, hk1⟩; have H1 := Qk.mk_swap hq1 hk1; clear hk1)
    | (go_at_call 36; refine (HD.out _ _ hq1).mono ?_; rintro e w3 ⟨⟨t, rfl⟩, v3, hq3⟩; have H3 := H1.trans hq3; clear H1 hq3 hq1)
    | (go_at_call 61; refine (HQ.out _ _ H3.qu).mono ?_; rintro e w4 ⟨rfl, v4, hq4⟩; have H4 := H3.trans hq4; clear H3 hq4))
  go_ret
  exact ⟨rfl, _, _, H4, HG1.out, by rw [HY.out]; exact HG2.out⟩

set_option maxHeartbeats 4000000 in
theorem take_any {B : Nat} {w : World} {qb : Nat} {rp : Option Addr} {rc : Nat} {R : List Int} {v : Value} {h : List Nat} (H : Qu B w qb rp rc R v h) (HP : Hp R h) (hp : 0 < h.length) (hl : h.length ≤ 1000) (hR : R.length ≤ 1000) :
    Calls Try.prog 19 #[.pointer (some ⟨qb, 0, none⟩)] w fun e w' => e = .returned (.int .i64 (h.getD 0 0 : Nat)) ∧ TakeP B w qb rp rc R v h w' := by
  have hc := hpop_any H HP hp hl hR
  have hta := assert_int
  obtain ⟨y, hy⟩ : ∃ y, h.getD 0 0 = y := ⟨_, rfl⟩
  rw [hy] at hc ⊢
  clear hy
  go_enter Try.func19, Try.ntmps19
  go_wp2_with (first
    | (go_at_call 23; refine hc.mono ?_; rintro e w1 ⟨rfl, hr⟩))
  go_ret
  exact ⟨rfl, hr⟩
end Go.Proofs.Ytmkppbcngpgkdab

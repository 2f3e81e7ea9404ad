/-
  Linear, by a contract: the things told one after another.
-/
import Derived.Test.YtmkppbcngpgkdabOEdges
import Derived.Test.YtmkppbcngpgkdabOLinM
namespace Go.Proofs.Ytmkppbcngpgkdab
open Go.RowKit Go.Maps

/-- What lies in memory while things are told. -/
structure St (w1 : World) (B s wb : Nat) (rp : Option Addr) (rc : Nat) (R : List Int) (wr : World) (tv v : Value) (T : List Nat) (W : List Int) (h : List Nat) : Prop where
  size : w1.heap.size = s
  bl : B ≤ wb
  wl : wb < s
  keep : Keep (fun k => k = wb ∨ s ≤ k) w1 wr
  ik : Ik wr wb W
  qu : Qu B wr s rp rc R v h
  vl : ∀ k, v.ownBlock = some k → s ≤ k
  own : wr.ownsRow s 3 1 tv (zs T).length ((zs T).map (Value.int .i64))
  ne : tv.ownBlock ≠ some s
  apart : ∀ k, tv.ownBlock = some k → v.ownBlock ≠ some k
section
variable {w1 : World} {B s wb : Nat} {rp : Option Addr} {rc : Nat} {R : List Int} {wr w' : World} {tv v : Value} {T : List Nat} {W : List Int} {h : List Nat}
theorem St.queue {v' : Value} {h' : List Nat} (S : St w1 B s wb rp rc R wr tv v T W h) (Q : Qk B wr w' s rp rc R v v' h') : St w1 B s wb rp rc R w' tv v' T W h' := by
  have hs := S.keep.size
  refine ⟨S.size, S.bl, S.wl, S.keep.trans Q.keep fun k _ e => ?_, S.ik.same (Q.keep.block wb (by have := S.wl; have := S.size; omega) ?_), Q.qu, fun k hk => ?_, own_same S.own (Same.of_keep Q.keep fun k hk => ⟨(S.own.lt k hk).2, ?_⟩), S.ne, fun k hk e => ?_⟩
  · rcases e with e | e
    · right; omega
    · right; exact S.vl k e
  · rintro (e | e)
    · have := S.wl; omega
    · have := S.vl _ e; have := S.wl; omega
  · rcases Q.loc with h1 | h1
    · exact S.vl k (h1 ▸ hk)
    · have := h1 k hk; have := S.size; omega
  · rintro (e | e)
    · exact S.ne (e ▸ hk)
    · exact S.apart k hk e
  · rcases Q.loc with h1 | h1
    · exact S.apart k hk (h1 ▸ e)
    · have := h1 k e; have := (S.own.lt k hk).2; omega
theorem St.told {tv' : Value} {i : Nat} (S : St w1 B s wb rp rc R wr tv v T W h) (ho : w'.ownsRow s 3 1 tv' (zs T ++ [(i : Int)]).length ((zs T ++ [(i : Int)]).map (Value.int .i64))) (hk : Keep (tv.ownBlock = some ·) wr w') (hl : tv'.ownBlock = tv.ownBlock ∨ ∀ k, tv'.ownBlock = some k → wr.heap.size ≤ k) :
    St w1 B s wb rp rc R w' tv' v (T ++ [i]) W h := by
  have hs := S.keep.size
  have hsz := S.size
  have hq := obj_lt S.qu.obj
  have hnew : ∀ k, k < wr.heap.size → tv.ownBlock ≠ some k → tv'.ownBlock ≠ some k := by
    intro k h1 h2 e
    rcases hl with h' | h'
    · exact h2 (h'.symm.trans e)
    · have := h' k e; omega
  refine ⟨hsz, S.bl, S.wl, S.keep.trans hk fun k _ e => .inr (S.own.lt k e).1, S.ik.same (hk.block wb (by have := S.wl; omega) fun e => ?_), ?_, S.vl, ?_, hnew s hq S.ne, fun k hk' e => ?_⟩
  · have := (S.own.lt wb e).1; have := S.wl; omega
  · refine ⟨(hk.block s hq S.ne).trans S.qu.obj, own_same S.qu.row (Same.of_keep hk fun k e => ⟨(S.qu.row.lt k e).2, fun e' => S.apart k e' e⟩), S.qu.ne, S.qu.rank.same (Same.of_keep hk fun k hk' => ⟨by have := S.qu.le; omega, fun e => ?_⟩), S.qu.le, S.qu.lt⟩
    have := (S.own.lt k e).1
    have := S.qu.le
    omega
  · have e2 : zs (T ++ [i]) = zs T ++ [(i : Int)] := by simp [zs]
    rw [e2]
    exact ho
  · have hk2 := (S.qu.row.lt k e).2
    exact hnew k hk2 (fun e' => S.apart k e' e) hk'
theorem St.wait (S : St w1 B s wb rp rc R wr tv v T W h) (c : Nat) (x : Int) : St w1 B s wb rp rc R (wr.setCell ⟨wb, c, none⟩ (.int .i64 x)) tv v T (W.set c x) h := by
  have hs := S.keep.size
  have hsz := S.size
  have hwl := S.wl
  have hk : Keep (· = wb) wr (wr.setCell ⟨wb, c, none⟩ (.int .i64 x)) := (Keep.refl (· = wb) wr).setCell (p := ⟨wb, c, none⟩) (fun _ => rfl) _
  have hq := obj_lt S.qu.obj
  refine ⟨hsz, S.bl, hwl, S.keep.trans hk fun k _ e => .inl e, S.ik.set c x, ?_, S.vl, own_same S.own (Same.of_keep hk fun k hk' => ⟨(S.own.lt k hk').2, by have := (S.own.lt k hk').1; omega⟩), S.ne, S.apart⟩
  exact ⟨(hk.block s hq (by omega)).trans S.qu.obj, own_same S.qu.row (Same.of_keep hk fun k e => ⟨(S.qu.row.lt k e).2, by have := S.vl k e; omega⟩), S.qu.ne, S.qu.rank.same (Same.of_keep hk fun k hk' => ⟨by have := S.qu.le; omega, by have := S.bl; omega⟩), S.qu.le, S.qu.lt⟩
end
/-- What is told of Linear, as a list of places or none. -/
def toQ (P : List (List Int)) : List (List Nat) := P.map fun r => r.map Int.toNat
def linP (P : List (List Int)) (R : List Int) : Option (List Nat) := if R.length = P.length ∧ insB P.length P = true then lin (toQ P) R else none
theorem toQ_len (P : List (List Int)) : (toQ P).length = P.length := by simp [toQ]
theorem ins_mem {n : Nat} {P : List (List Int)} (h : insB n P = true) : ∀ r ∈ P, ∀ p ∈ r, 0 ≤ p ∧ p < (n : Int) := by
  unfold insB rowB at h
  simp only [List.all_eq_true, decide_eq_true_eq] at h
  exact h
theorem toQ_zs {n : Nat} {P : List (List Int)} (h : insB n P = true) : (toQ P).map zs = P := by
  unfold toQ
  rw [List.map_map]
  refine (List.map_congr_left (g := id) fun r hr => ?_).trans (List.map_id _)
  simp only [Function.comp, zs, List.map_map, id]
  refine (List.map_congr_left (g := id) fun p hp => ?_).trans (List.map_id _)
  have := (ins_mem h r hr p hp).1
  simp only [Function.comp, id]
  omega
theorem par_toQ {n : Nat} {P : List (List Int)} (h : insB n P = true) (i : Nat) : zs (par (toQ P) i) = P.getD i [] := by rw [← rows_at, toQ_zs h]
theorem par_lt {n : Nat} {P : List (List Int)} (h : insB n P = true) (i : Nat) : ∀ x ∈ par (toQ P) i, x < n := by
  intro x hx
  have h1 := (zs_mem _ _).2 hx
  rw [par_toQ h] at h1
  rcases Nat.lt_or_ge i P.length with h' | h'
  · have := (ins_mem h _ (getD_inm (d := []) h') _ h1).2
    omega
  · rw [List.getD_eq_getElem?_getD, List.getElem?_eq_none h'] at h1
    simp at h1
theorem par_len {n m : Nat} {P : List (List Int)} (h : insB n P = true) (hl : ∀ r ∈ P, r.length ≤ m) (i : Nat) : (par (toQ P) i).length ≤ m := by
  rw [← zs_len, par_toQ h]
  rcases Nat.lt_or_ge i P.length with h' | h'
  · exact hl _ (getD_inm (d := []) h')
  · rw [List.getD_eq_getElem?_getD, List.getElem?_eq_none h']
    simp
/-- What Linear tells. -/
def LinP (o : Option (List Nat)) (w : World) (e : Ending) (w' : World) : Prop :=
  ∃ v, e = .returned (.tuple #[v, .int .i64 (if o.isSome then 0 else 1)]) ∧ w'.ownsRow w.heap.size 3 1 v (zs (o.getD [])).length ((zs (o.getD [])).map (Value.int .i64)) ∧ Below w.heap.size w w'

theorem linP_len {P : List (List Int)} {R : List Int} (h : R.length ≠ P.length) : linP P R = none := by unfold linP; rw [if_neg fun h' => h h'.1]
theorem linP_ins {P : List (List Int)} {R : List Int} (h : insB P.length P = false) : linP P R = none := by unfold linP; rw [if_neg fun h' => by rw [h] at h'; exact Bool.false_ne_true h'.2]
theorem linP_ok {P : List (List Int)} {R : List Int} (h : R.length = P.length) (h' : insB P.length P = true) : linP P R = lin (toQ P) R := by unfold linP; rw [if_pos ⟨h, h'⟩]

set_option maxHeartbeats 4000000 in
theorem linear_len (P : List (List Int)) (R : List Int) (p rp : Option Addr) (c rc : Nat) (w : World) (hne : R.length ≠ P.length) (_hP : P.length ≤ 1000) (_hR : R.length ≤ 1000) :
    Calls Try.prog 12 #[.slice p P.length c, .slice rp R.length rc] w (LinP (linP P R) w) := by
  rw [linP_len hne]
  generalize P.length = n at *
  generalize R.length = m at *
  have hne' : ((m : Int) == (n : Int)) = false := by rw [beq_eq_false_iff_ne]; omega
  go_enter Try.func12, Try.ntmps12
  go_wp2
  go_ret2
  exact ⟨_, rfl, World.ownsRow_nil _ _ _ _, Below.refl _ _⟩

set_option maxHeartbeats 4000000 in
theorem linear_ins (P : List (List Int)) (R : List Int) (p rp : Option Addr) (c rc : Nat) (w : World) (he : R.length = P.length) (hi : insB P.length P = false) (r : RdR (· < w.heap.size) w p c P) (hP : P.length ≤ 1000) (hl : ∀ x ∈ P, x.length ≤ 1000) :
    Calls Try.prog 12 #[.slice p P.length c, .slice rp R.length rc] w (LinP (linP P R) w) := by
  have hin := inside_any P p c w r hP hl
  rw [hi] at hin
  rw [linP_ins hi, he]
  clear hi hl r he
  generalize P.length = n at *
  go_enter Try.func12, Try.ntmps12
  go_wp2_with (first
    | (go_at_call 15; refine hin.mono ?_; rintro e w' ⟨rfl, rfl⟩))
  go_ret2
  exact ⟨_, rfl, World.ownsRow_nil _ _ _ _, Below.refl _ _⟩
end Go.Proofs.Ytmkppbcngpgkdab

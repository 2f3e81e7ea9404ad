/-
  Whether an event has a room, a type and a sender, and a key that may be: by contracts.
  Whether signatures may be: by a contract.
  The reader of events: rows of texts, and signatures: by contracts.
  An event that came in, as the walks read it.
  Events that came in, as the laws are handed them.
  Rows of places that came in, as the walks read them.
  A past that came in, as the walks read it.
-/
import Derived.Test.YtimhpglfolbomabGreatRL20
import Derived.Deep.Slices
import Derived.Deep.Strs
import Derived.Deep.Grids
set_option maxRecDepth 100000
set_option maxHeartbeats 16000000
namespace Go.Proofs.YtimhpglfolbomabGreat
open Go.RowKit Go.Maps
theorem isJ_at {O : Nat → Prop} {w : World} {j : J} {k i : Int} {t : ByteArray} {pk pl : Option Addr} {nk ck nl cl : Nat} (h : isJ O w j [.int .i64 k, .int .i64 i, .string t, .slice pk nk ck, .slice pl nl cl]) :
    j.kind = k ∧ j.int = i ∧ j.text = t ∧ nk = j.keys.length ∧ nl = j.list.length ∧ RdK O w pk ck j.keys ∧ j.list.length ≤ cl ∧ isJs O w pl 0 j.list := by
 cases j with
 | mk k' i' t' ks l =>
  unfold isJ at h
  obtain ⟨pk', ck', pl', cl', e, h1, h2, h3⟩ := h
  cases e
  exact ⟨rfl, rfl, rfl, rfl, rfl, h1, h2, h3⟩
end Go.Proofs.YtimhpglfolbomabGreat
namespace Go.Proofs.YtimhpglfolbomabGreat
open Go.ChangeShapes Go.WideShapes Go.ChangeAt Go.RowKit
theorem cellsEv : Tryz.prog.cellsOf 41 = 16 := by kernel_rfl
theorem cellsB : Tryz.prog.cellsOf 4 = 1 := by kernel_rfl
theorem cellsGs : Tryz.prog.cellsOf 39 = 1 := by kernel_rfl
theorem cellsG : Tryz.prog.cellsOf 64 = 2 := by kernel_rfl
section
variable {H : Type} {enc : TypeId × Value → H} {W : World}
abbrev Wt (d : DataW H) (t : TypeId) : Prop := (d.weights Tryz.prog t).all (· ≤ reachBytes) = true
theorem wt_part {ts : List TypeId} {ds : List (DataW H)} (h : (DataW.weightsEach Tryz.prog ts ds).all (· ≤ reachBytes) = true) {j : Nat} {t : TypeId} {d : DataW H} (ht : ts[j]? = some t) (hd : ds[j]? = some d) : Wt d t :=
 List.all_eq_true.2 fun n hn => List.all_eq_true.1 h n (DataW.weights_mem_each ht hd n hn)
theorem wt_all {e : TypeId} : ∀ {ds : List (DataW H)}, (DataW.weightsAll Tryz.prog e ds).all (· ≤ reachBytes) = true → ∀ d ∈ ds, Wt d e
 | [], _, d, hd => by cases hd
 | a :: r, h, d, hd => by
  simp only [DataW.weightsAll, List.all_append, Bool.and_eq_true] at h
  rcases List.mem_cons.1 hd with rfl | hd
  · exact h.1
  · exact wt_all h.2 d hd
theorem wt_str {s : ByteArray} {t : TypeId} (h : Wt (.lit (.string s.data.toList) : DataW H) t) : s.size ≤ 140737488355328 := by
 have h1 := List.all_eq_true.1 h s.data.toList.length (by simp [DataW.weights])
 have h2 : s.data.toList.length ≤ reachBytes := by simpa using h1
 have h3 := reachBytes_lt
 have h4 : s.data.toList.length = s.size := by simp
 omega
theorem viewKs {fuel : Nat} {c : Value} {y : DataW H × List MemPlace} (h : DataW.trod enc Tryz.prog W 0 (fun _ => true) true fuel 22 [c] = some y) : ∃ pk ck ks, c = .slice pk (List.length ks) ck ∧ RdK (fun b => b < W.heap.size) W pk ck ks := by
 rcases open_strings Tryz.underlying22 Tryz.underlying9 cellsS h with ⟨e3, _⟩ | ⟨a, len, cap, ss, e3, _, hlc, _, hss, _, hcell, _⟩
 · simp only [List.cons.injEq, and_true] at e3
   exact ⟨none, 0, [], e3, RdK.nil _ _⟩
 · simp only [List.cons.injEq, and_true] at e3
   simp only [if_true] at hss
   have hl : (ss.take len).length = len := by simp; omega
   refine ⟨some a, cap, ss.take len, by rw [hl]; exact e3, by rw [hl]; exact hlc, fun j hj => ⟨a, rfl, ?_, ?_⟩⟩
   · have hj' : j < len := by rw [hl] at hj; exact hj
     have := cell_lt (hcell j (by omega))
     rwa [add_block] at this
   · have hj' : j < len := by rw [hl] at hj; exact hj
     rw [hcell j (by omega)]
     congr 2
     rw [List.getD_eq_getElem?_getD, List.getD_eq_getElem?_getD, List.getElem?_take, if_pos hj', List.getElem?_eq_getElem (by omega)]
     rfl
theorem viewS {fuel : Nat} {c : Value} {y : DataW H × List MemPlace} (h : DataW.trod enc Tryz.prog W 0 (fun _ => true) true fuel 39 [c] = some y) (hw : Wt y.1 39) : ∃ p k l, c = .slice p (List.length l) k ∧ RdS (fun b => b < W.heap.size) W p k l ∧ ∀ x ∈ l, x.1.size ≤ 140737488355328 ∧ x.2.size ≤ 140737488355328 := by
 rcases DataW.trod_slice Tryz.underlying39 h with ⟨e4, _⟩ | ⟨a, len, cap, elems, rest, n', hn', e4, hy, _, hlc, _, hel, hget, _, _⟩
 · simp only [List.cons.injEq, and_true] at e4
   exact ⟨none, 0, [], e4, RdS.nil _ _ _ _, fun x hx => by cases hx⟩
 · simp only [List.cons.injEq, and_true] at e4
   rw [cellsG] at hget
   have hwe : ∀ d ∈ elems.map (·.1), Wt d 64 := by
    rw [hy] at hw
    have hw' : ((((elems.map (·.1)).length + (rest.map (·.1)).length) * Tryz.prog.bytesOf 64) :: (DataW.weightsAll Tryz.prog 64 (elems.map (·.1)) ++ DataW.weightsAll Tryz.prog 64 (rest.map (·.1)))).all (· ≤ reachBytes) = true := by
     have e : DataW.weights Tryz.prog 39 (.slice (elems.map (·.1)) (rest.map (·.1))) = (((elems.map (·.1)).length + (rest.map (·.1)).length) * Tryz.prog.bytesOf 64) :: (DataW.weightsAll Tryz.prog 64 (elems.map (·.1)) ++ DataW.weightsAll Tryz.prog 64 (rest.map (·.1))) := by
      simp only [DataW.weights, Tryz.underlying39]
     rw [← e]
     exact hw
    simp only [List.all_cons, List.all_append, Bool.and_eq_true] at hw'
    exact wt_all hw'.2.1
   cases len with
   | zero => exact ⟨some a, cap, [], e4, RdS.nil _ _ _ _, fun x hx => by cases hx⟩
   | succ len =>
    obtain ⟨b, o, sp⟩ := a
    have hone : ∀ i, i < len + 1 → ∃ u v, W.cell? ((⟨b, o, sp⟩ : Addr).add (i * 2)) = some (.string u) ∧ W.cell? (((⟨b, o, sp⟩ : Addr).add (i * 2)).add 1) = some (.string v) ∧ u.size ≤ 140737488355328 ∧ v.size ≤ 140737488355328 := fun i hi => by
     have h1 := hget i hi
     rw [List.getElem?_eq_getElem (by omega), Option.bind_eq_some_iff] at h1
     obtain ⟨cs, h2, h3⟩ := h1
     have hwi := hwe (elems[i]'(by omega)).1 (List.mem_map_of_mem (List.getElem_mem _))
     obtain ⟨xs, n, _, hx, hl, hlen, hfs⟩ := DataW.trod_struct Tryz.underlying64 h3
     rw [cellsG] at hl
     rw [hx] at hwi
     have hwi2 : (DataW.weightsEach Tryz.prog [9, 9] (xs.map (·.1))).all (· ≤ reachBytes) = true := by
      have e : DataW.weights Tryz.prog 64 (.agg (xs.map (·.1))) = DataW.weightsEach Tryz.prog [9, 9] (xs.map (·.1)) := by
       simp only [DataW.weights, Tryz.underlying64]
       rfl
      rw [← e]
      exact hwi
     obtain ⟨c0, c1, rfl⟩ : ∃ c0 c1, cs = [c0, c1] := by
      match cs, hl with
      | [c0, c1], _ => exact ⟨c0, c1, rfl⟩
     obtain ⟨y0, y1, rfl⟩ : ∃ y0 y1, xs = [y0, y1] := by
      match xs, hlen with
      | [y0, y1], _ => exact ⟨y0, y1, rfl⟩
     · · have g0 : DataW.trod enc Tryz.prog W 0 (fun _ => true) true n 9 (([c0, c1].drop 0).take (Tryz.prog.cellsOf 9)) = some y0 := hfs 0 _ rfl
         have g1 : DataW.trod enc Tryz.prog W 0 (fun _ => true) true n 9 (([c0, c1].drop 1).take (Tryz.prog.cellsOf 9)) = some y1 := hfs 1 _ rfl
         rw [cellsS] at g0 g1
         obtain ⟨u, e0, x0, _⟩ := DataW.trod_string Tryz.underlying9 (show DataW.trod enc Tryz.prog W 0 (fun _ => true) true n 9 [c0] = some y0 from g0)
         obtain ⟨v, e1, x1, _⟩ := DataW.trod_string Tryz.underlying9 (show DataW.trod enc Tryz.prog W 0 (fun _ => true) true n 9 [c1] = some y1 from g1)
         simp only [List.cons.injEq, and_true] at e0 e1
         subst e0 e1
         have h5 := (World.cells?_some h2).2.2
         have a0 := h5 0 (by decide)
         have a1 := h5 1 (by decide)
         have ez : ((⟨b, o, sp⟩ : Addr).add (i * 2)).add 0 = (⟨b, o, sp⟩ : Addr).add (i * 2) := by unfold Addr.add; simp
         rw [ez] at a0
         have z0 := wt_part hwi2 (j := 0) rfl rfl
         have z1 := wt_part hwi2 (j := 1) rfl rfl
         rw [x0] at z0
         rw [x1] at z1
         exact ⟨u, v, a0, a1, wt_str z0, wt_str z1⟩
    have hsp : sp = none := by
     obtain ⟨u, v, h1, _⟩ := hone 0 (by omega)
     have h4 : (⟨b, o, sp⟩ : Addr).add (0 * 2) = ⟨b, o, sp⟩ := by unfold Addr.add; simp
     rw [h4] at h1
     exact cell_none h1
    subst hsp
    have hadd : ∀ m, (⟨b, o, none⟩ : Addr).add m = ⟨b, o + m, none⟩ := fun m => by unfold Addr.add; split <;> simp_all
    have hadd2 : ∀ m m', ((⟨b, o + m, none⟩ : Addr)).add m' = ⟨b, o + m + m', none⟩ := fun m m' => by unfold Addr.add; split <;> simp_all
    obtain ⟨l, hl1, hl2⟩ := pick_list (z := (nix, nix)) (P := fun i (x : ByteArray × ByteArray) => W.cell? ⟨b, o + i * 2, none⟩ = some (.string x.1) ∧ W.cell? ⟨b, o + i * 2 + 1, none⟩ = some (.string x.2) ∧ x.1.size ≤ 140737488355328 ∧ x.2.size ≤ 140737488355328) (len + 1) fun i hi => by
     obtain ⟨u, v, h1, h2, h3, h4⟩ := hone i hi
     rw [hadd] at h1
     rw [hadd, hadd2] at h2
     exact ⟨(u, v), h1, h2, h3, h4⟩
    refine ⟨some ⟨b, o, none⟩, cap, l, by rw [hl1]; exact e4, ⟨by omega, fun j hj => ⟨b, o, rfl, ?_, (hl2 j (by omega)).1, (hl2 j (by omega)).2.1⟩⟩, fun x hx => ?_⟩
    · exact cell_lt (hl2 j (by omega)).1
    · obtain ⟨y, hy, rfl⟩ := List.getElem_of_mem hx
      have := hl2 y (by omega)
      rw [List.getD_eq_getElem?_getD, List.getElem?_eq_getElem hy] at this
      exact this.2.2
theorem viewE : ∀ (fuel : Nat) (cs : List Value) (x : DataW H × List MemPlace), DataW.trod enc Tryz.prog W 0 (fun _ => true) true fuel 41 cs = some x → Wt x.1 41 → ∃ e p, cs = cellsE e p ∧ IsE (fun b => b < W.heap.size) W e p ∧ BigE e := by
 intro fuel cs x h hw0
 obtain ⟨xs, fuel, _, hx, hl, hlen, hfs⟩ := DataW.trod_struct Tryz.underlying41 h
 rw [cellsEv] at hl
 have hw : (DataW.weightsEach Tryz.prog [9, 9, 9, 4, 9, 38, 22, 22, 2, 2, 9, 39] (xs.map (·.1))).all (· ≤ reachBytes) = true := by
  have e : DataW.weights Tryz.prog 41 (.agg (xs.map (·.1))) = DataW.weightsEach Tryz.prog [9, 9, 9, 4, 9, 38, 22, 22, 2, 2, 9, 39] (xs.map (·.1)) := by
   simp only [DataW.weights, Tryz.underlying41]
   rfl
  rw [← e]
  rw [hx] at hw0
  exact hw0
 clear hx hw0 h
 match cs, hl with
 | [c0, c1, c2, c3, c4, c5, c6, c7, c8, c9, c10, c11, c12, c13, c14, c15], _ =>
  match xs, hlen with
  | [y0, y1, y2, y3, y4, y5, y6, y7, y8, y9, y10, y11], _ =>
   have g0 : DataW.trod enc Tryz.prog W 0 (fun _ => true) true fuel 9 (([c0, c1, c2, c3, c4, c5, c6, c7, c8, c9, c10, c11, c12, c13, c14, c15].drop 0).take (Tryz.prog.cellsOf 9)) = some y0 := hfs 0 _ rfl
   rw [cellsS] at g0
   have f0 : DataW.trod enc Tryz.prog W 0 (fun _ => true) true fuel 9 [c0] = some y0 := g0
   have g1 : DataW.trod enc Tryz.prog W 0 (fun _ => true) true fuel 9 (([c0, c1, c2, c3, c4, c5, c6, c7, c8, c9, c10, c11, c12, c13, c14, c15].drop 1).take (Tryz.prog.cellsOf 9)) = some y1 := hfs 1 _ rfl
   rw [cellsS] at g1
   have f1 : DataW.trod enc Tryz.prog W 0 (fun _ => true) true fuel 9 [c1] = some y1 := g1
   have g2 : DataW.trod enc Tryz.prog W 0 (fun _ => true) true fuel 9 (([c0, c1, c2, c3, c4, c5, c6, c7, c8, c9, c10, c11, c12, c13, c14, c15].drop 2).take (Tryz.prog.cellsOf 9)) = some y2 := hfs 2 _ rfl
   rw [cellsS] at g2
   have f2 : DataW.trod enc Tryz.prog W 0 (fun _ => true) true fuel 9 [c2] = some y2 := g2
   have g3 : DataW.trod enc Tryz.prog W 0 (fun _ => true) true fuel 4 (([c0, c1, c2, c3, c4, c5, c6, c7, c8, c9, c10, c11, c12, c13, c14, c15].drop 3).take (Tryz.prog.cellsOf 4)) = some y3 := hfs 3 _ rfl
   rw [cellsB] at g3
   have f3 : DataW.trod enc Tryz.prog W 0 (fun _ => true) true fuel 4 [c3] = some y3 := g3
   have g4 : DataW.trod enc Tryz.prog W 0 (fun _ => true) true fuel 9 (([c0, c1, c2, c3, c4, c5, c6, c7, c8, c9, c10, c11, c12, c13, c14, c15].drop 4).take (Tryz.prog.cellsOf 9)) = some y4 := hfs 4 _ rfl
   rw [cellsS] at g4
   have f4 : DataW.trod enc Tryz.prog W 0 (fun _ => true) true fuel 9 [c4] = some y4 := g4
   have g5 : DataW.trod enc Tryz.prog W 0 (fun _ => true) true fuel 38 (([c0, c1, c2, c3, c4, c5, c6, c7, c8, c9, c10, c11, c12, c13, c14, c15].drop 5).take (Tryz.prog.cellsOf 38)) = some y5 := hfs 5 _ rfl
   rw [cellsJ] at g5
   have f5 : DataW.trod enc Tryz.prog W 0 (fun _ => true) true fuel 38 [c5, c6, c7, c8, c9] = some y5 := g5
   have g6 : DataW.trod enc Tryz.prog W 0 (fun _ => true) true fuel 22 (([c0, c1, c2, c3, c4, c5, c6, c7, c8, c9, c10, c11, c12, c13, c14, c15].drop 10).take (Tryz.prog.cellsOf 22)) = some y6 := hfs 6 _ rfl
   rw [cellsKs] at g6
   have f6 : DataW.trod enc Tryz.prog W 0 (fun _ => true) true fuel 22 [c10] = some y6 := g6
   have g7 : DataW.trod enc Tryz.prog W 0 (fun _ => true) true fuel 22 (([c0, c1, c2, c3, c4, c5, c6, c7, c8, c9, c10, c11, c12, c13, c14, c15].drop 11).take (Tryz.prog.cellsOf 22)) = some y7 := hfs 7 _ rfl
   rw [cellsKs] at g7
   have f7 : DataW.trod enc Tryz.prog W 0 (fun _ => true) true fuel 22 [c11] = some y7 := g7
   have g8 : DataW.trod enc Tryz.prog W 0 (fun _ => true) true fuel 2 (([c0, c1, c2, c3, c4, c5, c6, c7, c8, c9, c10, c11, c12, c13, c14, c15].drop 12).take (Tryz.prog.cellsOf 2)) = some y8 := hfs 8 _ rfl
   rw [cellsI2] at g8
   have f8 : DataW.trod enc Tryz.prog W 0 (fun _ => true) true fuel 2 [c12] = some y8 := g8
   have g9 : DataW.trod enc Tryz.prog W 0 (fun _ => true) true fuel 2 (([c0, c1, c2, c3, c4, c5, c6, c7, c8, c9, c10, c11, c12, c13, c14, c15].drop 13).take (Tryz.prog.cellsOf 2)) = some y9 := hfs 9 _ rfl
   rw [cellsI2] at g9
   have f9 : DataW.trod enc Tryz.prog W 0 (fun _ => true) true fuel 2 [c13] = some y9 := g9
   have g10 : DataW.trod enc Tryz.prog W 0 (fun _ => true) true fuel 9 (([c0, c1, c2, c3, c4, c5, c6, c7, c8, c9, c10, c11, c12, c13, c14, c15].drop 14).take (Tryz.prog.cellsOf 9)) = some y10 := hfs 10 _ rfl
   rw [cellsS] at g10
   have f10 : DataW.trod enc Tryz.prog W 0 (fun _ => true) true fuel 9 [c14] = some y10 := g10
   have g11 : DataW.trod enc Tryz.prog W 0 (fun _ => true) true fuel 39 (([c0, c1, c2, c3, c4, c5, c6, c7, c8, c9, c10, c11, c12, c13, c14, c15].drop 15).take (Tryz.prog.cellsOf 39)) = some y11 := hfs 11 _ rfl
   rw [cellsGs] at g11
   have f11 : DataW.trod enc Tryz.prog W 0 (fun _ => true) true fuel 39 [c15] = some y11 := g11
   obtain ⟨room, e0, x0, _⟩ := DataW.trod_string Tryz.underlying9 f0
   obtain ⟨typ, e1, x1, _⟩ := DataW.trod_string Tryz.underlying9 f1
   obtain ⟨sender, e2, x2, _⟩ := DataW.trod_string Tryz.underlying9 f2
   obtain ⟨st, e3, x3⟩ := DataW.trod_bool Tryz.underlying4 f3
   obtain ⟨key, e4, x4, _⟩ := DataW.trod_string Tryz.underlying9 f4
   obtain ⟨cont, hj⟩ := viewJ fuel _ _ f5
   obtain ⟨k, i, t, pk, nk, ck, pl, nl, cl, e5⟩ := isJ_shape hj
   rw [e5] at hj
   obtain ⟨q1, q2, q3, q4, q5, _⟩ := isJ_at hj
   obtain ⟨pprev, kprev, prev, e6, hprev⟩ := viewKs f6
   obtain ⟨pauth, kauth, auth, e7, hauth⟩ := viewKs f7
   obtain ⟨depth, e8, _, _⟩ := DataW.trod_int Tryz.underlying2 f8
   obtain ⟨ts, e9, _, _⟩ := DataW.trod_int Tryz.underlying2 f9
   obtain ⟨hash, e10, x10, _⟩ := DataW.trod_string Tryz.underlying9 f10
   obtain ⟨psigs, ksigs, sigs, e11, hsigs, hbsigs⟩ := viewS f11 (wt_part hw (j := 11) rfl rfl)
   simp only [List.cons.injEq, and_true] at e0 e1 e2 e3 e4 e5 e8 e9 e10
   obtain ⟨w0, w1, w2, w3, w4⟩ := e5
   subst e0 e1 e2 e3 e4 e6 e7 e8 e9 e10 e11 w0 w1 w2 w3 w4
   have z0 : room.size ≤ 140737488355328 := by
    have h := wt_part hw (j := 0) rfl rfl
    rw [x0] at h
    exact wt_str h
   have z1 : typ.size ≤ 140737488355328 := by
    have h := wt_part hw (j := 1) rfl rfl
    rw [x1] at h
    exact wt_str h
   have z2 : sender.size ≤ 140737488355328 := by
    have h := wt_part hw (j := 2) rfl rfl
    rw [x2] at h
    exact wt_str h
   have z4 : key.size ≤ 140737488355328 := by
    have h := wt_part hw (j := 4) rfl rfl
    rw [x4] at h
    exact wt_str h
   have z10 : hash.size ≤ 140737488355328 := by
    have h := wt_part hw (j := 10) rfl rfl
    rw [x10] at h
    exact wt_str h
   subst q4 q5
   refine ⟨⟨room, typ, sender, st, key, cont, prev, auth, depth, ts, hash, sigs⟩, ⟨pk, ck, pl, cl, pprev, kprev, pauth, kauth, psigs, ksigs⟩, ?_, ⟨?_, hprev, hauth, hsigs⟩, ⟨z0, z1, z2, z4, z10, hbsigs⟩⟩
   · unfold cellsE
     simp only [q1, q2, q3]
   · unfold five
     simp only [q1, q2, q3]
     exact hj
end
end Go.Proofs.YtimhpglfolbomabGreat
namespace Go.Proofs.YtimhpglfolbomabGreat.Od
open Go.ChangeShapes Go.WideShapes Go.ChangeAt Go.RowKit
theorem ownKK : ownKnob Tryz.prog.godebug = none := by kernel_rfl
theorem laidOutK : laidOutB Tryz.prog = true := by kernel_rfl
theorem Tryz.cells3 : Tryz.prog.cellsOf 3 = 1 := by kernel_rfl
theorem Tryz.cellsI : Tryz.prog.cellsOf 28 = 1 := by kernel_rfl
theorem cell_lt {w : World} {a : Addr} {v : Value} (h : w.cell? a = some v) : a.block < w.heap.size := by
 rcases Nat.lt_or_ge a.block w.heap.size with h' | h'
 · exact h'
 · simp [World.cell?, Array.getElem?_eq_none h'] at h
theorem cell_none {w : World} {b o : Nat} {sp : Option Nat} {v : Value} (h : w.cell? ⟨b, o, sp⟩ = some v) : sp = none := by
 cases sp with
 | none => rfl
 | some x =>
  unfold World.cell? at h
  split at h <;> simp at h
theorem rd_of {α : Type} {enc : α → Value} {w : World} {a : Addr} {c : Nat} {xs : List α} (hc : xs.length ≤ c) (h : ∀ j x, xs[j]? = some x → w.cell? (a.add j) = some (enc x)) : Rd enc (· < w.heap.size) w (some a) c xs := by
 refine ⟨hc, fun hn => ?_⟩
 cases xs with
 | nil => exact absurd rfl hn
 | cons y r =>
  have h0 := h 0 y rfl
  have e0 : a.add 0 = a := by simp [Addr.add]
  rw [e0] at h0
  have hl := cell_lt h0
  obtain ⟨b, o, sp⟩ := a
  obtain rfl := cell_none h0
  exact ⟨b, o, rfl, hl, fun j x hj => by have := h j x hj; rw [add_flat] at this; exact this⟩
section
variable {H : Type} {enc : TypeId × Value → H} {W : World} {fuel : Nat} {cs : List Value} {x : DataW H × List MemPlace}
theorem ints_of (h : DataW.trod enc Tryz.prog W 0 (fun _ => true) true fuel 28 cs = some x) :
    ∃ p l c, cs = [.slice p l.length c] ∧ RdI (· < W.heap.size) W p c l ∧ l.length ≤ 9223372036854775807 ∧ ∀ y ∈ l, wf64 y := by
 rcases open_ints Tryz.underlying28 Tryz.underlying3 Tryz.cells3 h with ⟨rfl, hx⟩ | ⟨a, len, cap, zl, rfl, _, hl, hm, hz, hx, hcell, hwz⟩
 · exact ⟨none, [], 0, rfl, Rd.nil _ _ _ _ _, by simp, by simp⟩
 · simp only [if_true] at hz
   have hm' : cap ≤ 9223372036854775807 := hm
   have hlen : (zl.take len).length = len := by simp; omega
   refine ⟨some a, zl.take len, cap, by rw [hlen], rd_of (by rw [hlen]; exact hl) fun j y hj => ?_, by rw [hlen]; omega, fun y hy => ?_⟩
   · have hjl : j < len := by have := (List.getElem?_eq_some_iff.1 hj).1; rw [hlen] at this; exact this
     rw [List.getElem?_take, if_pos hjl] at hj
     rw [hcell j (by omega), List.getD_eq_getElem?_getD, hj]
     rfl
   · have := hwz y (List.mem_of_mem_take hy)
     have h1 : IntKind.i64.min = -9223372036854775808 := rfl
     have h2 : IntKind.i64.max = 9223372036854775807 := rfl
     simp only [Lit.wf, Bool.and_eq_true, decide_eq_true_eq] at this
     unfold wf64
     omega
theorem rows_of (h : DataW.trod enc Tryz.prog W 0 (fun _ => true) true fuel 24 cs = some x) :
    ∃ p P c, cs = [.slice p P.length c] ∧ RdR (· < W.heap.size) W p c P ∧ P.length ≤ 9223372036854775807 ∧ ∀ r ∈ P, r.length ≤ 9223372036854775807 ∧ ∀ y ∈ r, wf64 y := by
 rcases Go.Deep.open_slice Tryz.underlying24 h with ⟨rfl, hx⟩ | ⟨a, len, cap, m, n, D, Pl, rfl, _, hl, hm, hmm, hx, hcell⟩
 · exact ⟨none, [], 0, rfl, RdR.nil _ _ _ _, by simp, by simp⟩
 · simp only [if_true] at hmm
   subst hmm
   rw [Tryz.cellsI] at hcell
   have hm' : m ≤ 9223372036854775807 := hm
   have key : ∀ i, i < m → ∃ r : List Int, ∃ b o p1 c1, a = ⟨b, o, none⟩ ∧ b < W.heap.size ∧ W.cell? ⟨b, o + i, none⟩ = some (.slice p1 r.length c1) ∧ RdI (· < W.heap.size) W p1 c1 r ∧ r.length ≤ 9223372036854775807 ∧ ∀ y ∈ r, wf64 y := by
    intro i hi
    obtain ⟨cs', hcs', htr⟩ := hcell i hi
    obtain ⟨p1, r, c1, rfl, r1, hw⟩ := ints_of htr
    obtain ⟨_, _, hc⟩ := World.cells?_some hcs'
    have g0 := hc 0 (by omega)
    simp only [List.getElem?_cons_zero] at g0
    have e0 : ((a.add (i * 1)).add 0) = a.add i := by simp [Addr.add]
    rw [e0] at g0
    have hlt := cell_lt g0
    rw [add_block] at hlt
    obtain ⟨cs0, hcs0, htr0⟩ := hcell 0 (by omega)
    obtain ⟨_, _, _, rfl, _⟩ := ints_of htr0
    obtain ⟨_, _, hc0⟩ := World.cells?_some hcs0
    have k0 := hc0 0 (by omega)
    simp only [List.getElem?_cons_zero] at k0
    have e00 : (a.add (0 * 1)).add 0 = a := by simp [Addr.add]
    rw [e00] at k0
    obtain ⟨b, o, sp⟩ := a
    obtain rfl := cell_none k0
    rw [add_flat] at g0
    exact ⟨r, b, o, p1, c1, rfl, hlt, g0, r1, hw⟩
   obtain ⟨F, hF⟩ : ∃ F : Nat → List Int, ∀ i, i < m → ∃ b o p1 c1, a = ⟨b, o, none⟩ ∧ b < W.heap.size ∧ W.cell? ⟨b, o + i, none⟩ = some (.slice p1 (F i).length c1) ∧ RdI (· < W.heap.size) W p1 c1 (F i) ∧ (F i).length ≤ 9223372036854775807 ∧ ∀ y ∈ F i, wf64 y :=
    ⟨fun i => if h : i < m then Classical.choose (key i h) else [], fun i hi => by simp only [dif_pos hi]; exact Classical.choose_spec (key i hi)⟩
   have hlen : ((List.range len).map F).length = len := by simp
   refine ⟨some a, (List.range len).map F, m, by rw [hlen], ⟨by rw [hlen]; exact hl, fun j hj => ?_⟩, by rw [hlen]; omega, fun r hr => ?_⟩
   · rw [hlen] at hj
     have eg : ((List.range len).map F).getD j [] = F j := by simp [List.getD_eq_getElem?_getD, hj]
     rw [eg]
     obtain ⟨b, o, p1, c1, rfl, h1, h2, h3, _⟩ := hF j (by omega)
     exact ⟨b, o, p1, c1, rfl, h1, h2, h3⟩
   · obtain ⟨i, hi, rfl⟩ := List.mem_map.1 hr
     have := List.mem_range.1 hi
     obtain ⟨_, _, _, _, _, _, _, _, h⟩ := hF i (by omega)
     exact h
variable {base : Nat} {v : Value} {d : DataW H} {p0 : List MemPlace}
theorem viewInts (hval : Value.okWide Tryz.prog W .any base 28 v) (h0 : DataW.Trod enc Tryz.prog W 0 (fun _ => true) true 28 v d p0) :
    ∃ p l c, v = .slice p l.length c ∧ RdI (· < W.heap.size) W p c l ∧ l.length ≤ 9223372036854775807 ∧ ∀ y ∈ l, wf64 y := by
 obtain ⟨a0, len, cap, rfl⟩ := okWide_slice Tryz.underlying28 hval
 obtain ⟨fuel, hf⟩ := h0
 obtain ⟨p, l, c, hcs, r⟩ := ints_of hf
 simp [Value.cells] at hcs
 obtain ⟨rfl, rfl, rfl⟩ := hcs
 exact ⟨_, l, _, rfl, r⟩
end
theorem cellsPaN : Tryz.prog.cellsOf 27 = 5 := by kernel_rfl
theorem cellsEvs : Tryz.prog.cellsOf 23 = 1 := by kernel_rfl
theorem cellsRws : Tryz.prog.cellsOf 24 = 1 := by kernel_rfl
theorem cellsStr : Tryz.prog.cellsOf 22 = 1 := by kernel_rfl
theorem cellsBls : Tryz.prog.cellsOf 25 = 1 := by kernel_rfl
theorem cellsK9 : Tryz.prog.cellsOf 9 = 1 := by kernel_rfl
theorem cellsK4 : Tryz.prog.cellsOf 4 = 1 := by kernel_rfl
theorem bytesEv : Tryz.prog.bytesOf 41 = 256 := by kernel_rfl
section
variable {H : Type} {enc : TypeId × Value → H} {W : World}
theorem strsK_of {fuel : Nat} {cs : List Value} {x : DataW H × List MemPlace} (h : DataW.trod enc Tryz.prog W 0 (fun _ => true) true fuel 22 cs = some x) :
    ∃ p S c, cs = [.slice p S.length c] ∧ RdS (· < W.heap.size) W p c S ∧ S.length ≤ 9223372036854775807 ∧ ∀ s ∈ S, s.size ≤ 9223372036854775807 := by
 rcases Go.Deep.open_strs Tryz.underlying22 Tryz.underlying9 cellsK9 h with ⟨rfl, hx⟩ | ⟨a, len, cap, m, Sx, rfl, _, hl, hm, hmm, hx, hcell⟩
 · exact ⟨none, [], 0, rfl, Rd.nil _ _ _ _ _, by simp, by simp⟩
 · simp only [if_true] at hmm
   subst hmm
   have hlen : ((List.range len).map Sx).length = len := by simp
   have hm' : m ≤ 9223372036854775807 := hm
   refine ⟨some a, (List.range len).map Sx, m, by rw [hlen], rd_of (by rw [hlen]; exact hl) fun j y hj => ?_, by rw [hlen]; omega, fun s hs => ?_⟩
   · have hjl : j < len := by have := (List.getElem?_eq_some_iff.1 hj).1; rw [hlen] at this; exact this
     rw [List.getElem?_map, List.getElem?_range hjl] at hj
     cases hj
     exact (hcell j (by omega)).1
   · obtain ⟨i, hi, rfl⟩ := List.mem_map.1 hs
     have := List.mem_range.1 hi
     exact (hcell i (by omega)).2
theorem boolsK_of {fuel : Nat} {cs : List Value} {x : DataW H × List MemPlace} (h : DataW.trod enc Tryz.prog W 0 (fun _ => true) true fuel 25 cs = some x) :
    ∃ p l c, cs = [.slice p l.length c] ∧ RdB (· < W.heap.size) W p c l ∧ l.length ≤ 9223372036854775807 := by
 rcases Go.Deep.open_bools Tryz.underlying25 Tryz.underlying4 cellsK4 h with ⟨rfl, hx⟩ | ⟨a, len, cap, B, rfl, _, hl, hm, hx, hcell⟩
 · exact ⟨none, [], 0, rfl, Rd.nil _ _ _ _ _, by simp⟩
 · have hlen : ((List.range len).map B).length = len := by simp
   have hm' : cap ≤ 9223372036854775807 := hm
   refine ⟨some a, (List.range len).map B, cap, by rw [hlen], rd_of (by rw [hlen]; exact hl) fun j y hj => ?_, by rw [hlen]; omega⟩
   have hjl : j < len := by have := (List.getElem?_eq_some_iff.1 hj).1; rw [hlen] at this; exact this
   rw [List.getElem?_map, List.getElem?_range hjl] at hj
   cases hj
   exact hcell j (by omega)
theorem evs_of {fuel : Nat} {c : Value} {y : DataW H × List MemPlace} (h : DataW.trod enc Tryz.prog W 0 (fun _ => true) true fuel 23 [c] = some y) (hw : Wt y.1 23) : ∃ p k l, c = .slice p (List.length l) k ∧ RdEv (fun b => b < W.heap.size) W p k l ∧ (∀ e ∈ l, BigE e) ∧ l.length ≤ 9223372036854775807 := by
 rcases DataW.trod_slice Tryz.underlying23 h with ⟨e4, _⟩ | ⟨a, len, cap, elems, rest, n', hn', e4, hy, _, hlc, _, hel, hget, _, _⟩
 · simp only [List.cons.injEq, and_true] at e4
   exact ⟨none, 0, [], e4, RdEv.nil _ _ _ _, (fun x hx => by cases hx), by simp⟩
 · simp only [List.cons.injEq, and_true] at e4
   rw [cellsEv] at hget
   rw [hy] at hw
   have hw' : ((((elems.map (·.1)).length + (rest.map (·.1)).length) * Tryz.prog.bytesOf 41) :: (DataW.weightsAll Tryz.prog 41 (elems.map (·.1)) ++ DataW.weightsAll Tryz.prog 41 (rest.map (·.1)))).all (· ≤ reachBytes) = true := by
    have e : DataW.weights Tryz.prog 23 (.slice (elems.map (·.1)) (rest.map (·.1))) = (((elems.map (·.1)).length + (rest.map (·.1)).length) * Tryz.prog.bytesOf 41) :: (DataW.weightsAll Tryz.prog 41 (elems.map (·.1)) ++ DataW.weightsAll Tryz.prog 41 (rest.map (·.1))) := by
     simp only [DataW.weights, Tryz.underlying23]
    rw [← e]
    exact hw
   simp only [List.all_cons, List.all_append, Bool.and_eq_true, decide_eq_true_eq] at hw'
   have hwe : ∀ d ∈ elems.map (·.1), Wt d 41 := wt_all hw'.2.1
   have hln : elems.length ≤ 9223372036854775807 := by
    have h1 := hw'.1
    rw [bytesEv] at h1
    simp only [List.length_map] at h1
    have := reachBytes_lt
    omega
   cases len with
   | zero => exact ⟨some a, cap, [], e4, RdEv.nil _ _ _ _, (fun x hx => by cases hx), by simp⟩
   | succ len =>
    obtain ⟨b, o, sp⟩ := a
    have hone : ∀ i, i < len + 1 → ∃ (e : Ev) (q : Pt), (∀ n v, (cellsE e q)[n]? = some v → W.cell? (((⟨b, o, sp⟩ : Addr).add (i * 16)).add n) = some v) ∧ IsE (fun b => b < W.heap.size) W e q ∧ BigE e := fun i hi => by
     have h1 := hget i hi
     rw [List.getElem?_eq_getElem (by omega), Option.bind_eq_some_iff] at h1
     obtain ⟨cs, h2, h3⟩ := h1
     have hwi := hwe (elems[i]'(by omega)).1 (List.mem_map_of_mem (List.getElem_mem _))
     obtain ⟨e, q, hcs, hI, hB⟩ := viewE n' cs _ h3 hwi
     refine ⟨e, q, fun m v hv => ?_, hI, hB⟩
     have hm : m < 16 := (List.getElem?_eq_some_iff.1 hv).1
     rw [(World.cells?_some h2).2.2 m hm, hcs]
     exact hv
    have hsp : sp = none := by
     obtain ⟨x, q, h1, _⟩ := hone 0 (by omega)
     have h5 := h1 0 _ rfl
     have h4 : ((⟨b, o, sp⟩ : Addr).add (0 * 16)).add 0 = ⟨b, o, sp⟩ := by unfold Addr.add; simp
     rw [h4] at h5
     exact cell_none h5
    subst hsp
    have hadd : ∀ m, (⟨b, o, none⟩ : Addr).add m = ⟨b, o + m, none⟩ := fun m => by unfold Addr.add; split <;> simp_all
    have hadd2 : ∀ m m', ((⟨b, o + m, none⟩ : Addr)).add m' = ⟨b, o + m + m', none⟩ := fun m m' => by unfold Addr.add; split <;> simp_all
    obtain ⟨l, hl1, hl2⟩ := pick_list (z := Ev.zero) (P := fun i (x : Ev) => ∃ q, (∀ n v, (cellsE x q)[n]? = some v → W.cell? ⟨b, o + i * 16 + n, none⟩ = some v) ∧ IsE (fun b => b < W.heap.size) W x q ∧ BigE x) (len + 1) fun i hi => by
     obtain ⟨x, q, h1, h2, h3⟩ := hone i hi
     refine ⟨x, q, fun n v hv => ?_, h2, h3⟩
     have := h1 n v hv
     rwa [hadd, hadd2] at this
    refine ⟨some ⟨b, o, none⟩, cap, l, by rw [hl1]; exact e4, ⟨by omega, fun j hj => ?_⟩, fun x hx => ?_, by omega⟩
    · obtain ⟨q, h1, h2, _⟩ := hl2 j (by omega)
      exact ⟨b, o, q, rfl, cell_lt (h1 0 _ rfl), h1, h2⟩
    · obtain ⟨y, hy, rfl⟩ := List.getElem_of_mem hx
      obtain ⟨q, _, _, h3⟩ := hl2 y (by omega)
      rw [List.getD_eq_getElem?_getD, List.getElem?_eq_getElem hy] at h3
      exact h3
theorem pa_of {fuel : Nat} {cs : List Value} {x : DataW H × List MemPlace} (h : DataW.trod enc Tryz.prog W 0 (fun _ => true) true fuel 27 cs = some x) (hw0 : Wt x.1 27) : ∃ p q, cs = cellsPa p q ∧ IsPa (· < W.heap.size) W p q ∧ BigPa p := by
 obtain ⟨xs, n, _, hx, hl, hlen, hfs⟩ := DataW.trod_struct Tryz.underlying27 h
 rw [cellsPaN] at hl
 have hw : (DataW.weightsEach Tryz.prog [22, 23, 24, 24, 25] (xs.map (·.1))).all (· ≤ reachBytes) = true := by
  have e : DataW.weights Tryz.prog 27 (.agg (xs.map (·.1))) = DataW.weightsEach Tryz.prog [22, 23, 24, 24, 25] (xs.map (·.1)) := by
   simp only [DataW.weights, Tryz.underlying27]
   rfl
  rw [← e]
  rw [hx] at hw0
  exact hw0
 clear hx hw0 h
 match cs, hl with
 | [c0, c1, c2, c3, c4], _ =>
 match xs, hlen with
 | [y0, y1, y2, y3, y4], _ =>
  have g0 : DataW.trod enc Tryz.prog W 0 (fun _ => true) true n 22 (([c0, c1, c2, c3, c4].drop 0).take (Tryz.prog.cellsOf 22)) = some y0 := hfs 0 _ rfl
  have g1 : DataW.trod enc Tryz.prog W 0 (fun _ => true) true n 23 (([c0, c1, c2, c3, c4].drop 1).take (Tryz.prog.cellsOf 23)) = some y1 := hfs 1 _ rfl
  have g2 : DataW.trod enc Tryz.prog W 0 (fun _ => true) true n 24 (([c0, c1, c2, c3, c4].drop 2).take (Tryz.prog.cellsOf 24)) = some y2 := hfs 2 _ rfl
  have g3 : DataW.trod enc Tryz.prog W 0 (fun _ => true) true n 24 (([c0, c1, c2, c3, c4].drop 3).take (Tryz.prog.cellsOf 24)) = some y3 := hfs 3 _ rfl
  have g4 : DataW.trod enc Tryz.prog W 0 (fun _ => true) true n 25 (([c0, c1, c2, c3, c4].drop 4).take (Tryz.prog.cellsOf 25)) = some y4 := hfs 4 _ rfl
  rw [cellsStr] at g0
  rw [cellsEvs] at g1
  rw [cellsRws] at g2 g3
  rw [cellsBls] at g4
  obtain ⟨p0, S, k0, e0, r0, l0, z0⟩ := strsK_of g0
  obtain ⟨p1, k1, E, e1, r1, z1, l1⟩ := evs_of (show DataW.trod enc Tryz.prog W 0 (fun _ => true) true n 23 [c1] = some y1 from g1) (wt_part hw (j := 1) rfl rfl)
  obtain ⟨p2, P, k2, e2, r2, l2, z2⟩ := rows_of g2
  obtain ⟨p3, A, k3, e3, r3, l3, z3⟩ := rows_of g3
  obtain ⟨p4, D, k4, e4, r4, l4⟩ := boolsK_of g4
  simp only [List.drop, List.take, List.cons.injEq, and_true] at e0 e2 e3 e4
  subst e0 e1 e2 e3 e4
  exact ⟨⟨S, E, P, A, D⟩, ⟨p0, k0, p1, k1, p2, k2, p3, k3, p4, k4⟩, rfl, ⟨r0, r1, r2, r3, r4⟩, ⟨l0, z0, l1, z1, l2, fun r hr => (z2 r hr).1, l3, fun r hr => (z3 r hr).1, l4⟩⟩
theorem viewPa {base : Nat} {v : Value} {d : DataW H} {p0 : List MemPlace} (hval : Value.okWide Tryz.prog W .any base 27 v)
    (h0 : DataW.Trod enc Tryz.prog W 0 (fun _ => true) true 27 v d p0) (hw : Wt d 27) : ∃ p q, v = valPa p q ∧ IsPa (· < W.heap.size) W p q ∧ BigPa p := by
 obtain ⟨cs, rfl, _⟩ := okWide_struct Tryz.underlying27 hval
 obtain ⟨fuel, hf⟩ := h0
 have hf' : DataW.trod enc Tryz.prog W 0 (fun _ => true) true fuel 27 cs.toList = some (d, p0) := by simpa [Value.cells] using hf
 obtain ⟨p, q, hcs, hI, hB⟩ := pa_of hf' hw
 refine ⟨p, q, ?_, hI, hB⟩
 unfold valPa
 rw [← hcs]
end
end Go.Proofs.YtimhpglfolbomabGreat.Od

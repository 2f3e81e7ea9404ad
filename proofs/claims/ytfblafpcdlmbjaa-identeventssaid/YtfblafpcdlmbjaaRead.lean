/-
  A slice of bytes as it is read, and what a cut of it is.
-/
import Derived.Test.YtfblafpcdlmbjaaFault
import Derived.Laws.CopyOwn
import Derived.Laws.BytesArg
namespace Go.Proofs.Ytfblafpcdlmbjaa
open Go.RowKit

theorem Try.info5 : (Try.prog.info? 5).map (fun i => (i.zero, i.size, i.bytes)) = some (some (.int .u8 0), 1, 1) := by kernel_rfl
theorem Try.size5 : (Try.prog.info? 5).map (·.size) = some 1 := by kernel_rfl
/-- What is owned stays owned where all that was there is as it was. -/
theorem own_below {w w' : World} {B e size n : Nat} {v : Value} {xs : List Value} (h : w.ownsRow B e size v n xs) (hb : Below w.heap.size w w') : w'.ownsRow B e size v n xs := by
  refine ⟨h.1, ?_⟩
  rcases h.2 with hn | ⟨g, cap, cur, rfl, hg, hgg, rest⟩
  · exact .inl hn
  · exact .inr ⟨g, cap, cur, rfl, hg, by rw [hb.block g (Array.getElem?_eq_some_iff.1 hgg).1]; exact hgg, rest⟩

/-- At p, with room for c, the bytes rs are read; they lie below block B. -/
def Rd (B : Nat) (w : World) (p : Option Addr) (c : Nat) (rs : List Int) : Prop :=
  rs.length ≤ c ∧ (∀ x ∈ rs, 0 ≤ x ∧ x ≤ 255) ∧ ∀ j, j < rs.length → ∃ a, p = some a ∧ a.block < B ∧ w.cell? (a.add j) = some (.int .u8 (rs.getD j 0))

theorem add_add (a : Addr) (m j : Nat) : (a.add m).add j = a.add (m + j) := by
  unfold Addr.add
  by_cases hm : m = 0
  · subst hm; simp
  · by_cases hj : j = 0
    · subst hj; simp [hm]
    · simp [hm, hj, Nat.add_assoc]
theorem add_block (a : Addr) (m : Nat) : (a.add m).block = a.block := by unfold Addr.add; split <;> rfl

theorem Rd.cut {B : Nat} {w : World} {p : Option Addr} {c : Nat} {rs : List Int} (h : Rd B w p c rs) (m : Nat) (hm : m ≤ rs.length) :
    ∃ p', sliced p m rs.length c 1 = .slice p' (rs.drop m).length (c - m) ∧ Rd B w p' (c - m) (rs.drop m) := by
  refine ⟨if c = m then p else p.map (·.add (m * 1)), by simp [sliced], by have := h.1; simp; omega, fun x hx => h.2.1 x (List.mem_of_mem_drop hx), fun j hj => ?_⟩
  simp only [List.length_drop] at hj
  obtain ⟨a, rfl, hb, hc⟩ := h.2.2 (m + j) (by omega)
  have h1 := h.1
  rw [if_neg (by omega)]
  refine ⟨a.add m, by simp, by rw [add_block]; exact hb, ?_⟩
  rw [add_add, hc]
  simp [List.getD_eq_getElem?_getD, List.getElem?_drop]

theorem Rd.carry {B : Nat} {w w' : World} {p : Option Addr} {c : Nat} {rs : List Int} (h : Rd B w p c rs) (hb : Below B w w') : Rd B w' p c rs :=
  ⟨h.1, h.2.1, fun j hj => by
    obtain ⟨a, ha, hB, hc⟩ := h.2.2 j hj
    exact ⟨a, ha, hB, (hb.cell (by rw [add_block]; exact hB)).trans hc⟩⟩

/-- The cells of bytes that are read, as a list of values. -/
theorem Rd.src {B : Nat} {w : World} {q : Option Addr} {cq : Nat} {rs : List Int} (h : Rd B w q cq rs) (n : Nat) (hn : n ≤ rs.length) (h0 : 0 < n) {wx : World} (hb : Below B w wx) :
    ∃ ad, q = some ad ∧ ∀ j v, ((rs.take n).map (Value.int .u8))[j]? = some v → wx.cell? (ad.add j) = some v := by
  obtain ⟨a, ha, hB, _⟩ := h.2.2 0 (by omega)
  refine ⟨a, ha, fun j v hj => ?_⟩
  have hjl : j < n := by
    rcases Nat.lt_or_ge j n with h' | h'
    · exact h'
    · rw [List.getElem?_eq_none (by simp; omega)] at hj; cases hj
  obtain ⟨a', ha', _, hc⟩ := h.2.2 j (by omega)
  obtain rfl : a = a' := by rw [ha] at ha'; exact Option.some.inj ha'
  rw [hb.cell (by rw [add_block]; exact hB), hc]
  rw [← hj, List.getElem?_map, List.getElem?_take, if_pos hjl, List.getD_eq_getElem?_getD, List.getElem?_eq_getElem (by omega)]
  rfl
theorem u8_oneCell (l : List Int) : ∀ v ∈ l.map (Value.int .u8), v.oneCell' = true := by
  intro v hv
  simp only [List.mem_map] at hv
  obtain ⟨x, _, rfl⟩ := hv
  rfl
theorem splice3z (rs : List Int) : splice [Value.int .u8 0, .int .u8 0, .int .u8 0] 0 ((rs.take 3).map (Value.int .u8)) = [.int .u8 (rs.getD 0 0), .int .u8 (rs.getD 1 0), .int .u8 (rs.getD 2 0)] := by
  match rs with
  | [] => rfl
  | [_] => rfl
  | [_, _] => rfl
  | _ :: _ :: _ :: _ => simp [splice]
theorem splice4z (rs : List Int) : splice [Value.int .u8 0, .int .u8 0, .int .u8 0, .int .u8 0] 0 ((rs.take 4).map (Value.int .u8)) = [.int .u8 (rs.getD 0 0), .int .u8 (rs.getD 1 0), .int .u8 (rs.getD 2 0), .int .u8 (rs.getD 3 0)] := by
  match rs with
  | [] => rfl
  | [_] => rfl
  | [_, _] => rfl
  | [_, _, _] => rfl
  | _ :: _ :: _ :: _ :: _ => simp [splice]
theorem getD_bd {rs : List Int} (h : ∀ x ∈ rs, 0 ≤ x ∧ x ≤ 255) (j : Nat) : 0 ≤ rs.getD j 0 ∧ rs.getD j 0 ≤ 255 := by
  rw [List.getD_eq_getElem?_getD]
  rcases Nat.lt_or_ge j rs.length with hj | hj
  · rw [List.getElem?_eq_getElem hj]; exact h _ (List.getElem_mem hj)
  · rw [List.getElem?_eq_none hj]; simp
theorem cell_row {w : World} {g t : Nat} {fr : Nat × Nat} {cur : List Value} (h : w.heap[g]? = some (.cells cur.toArray t fr)) (j : Nat) (v : Value) (hj : cur[j]? = some v) : w.cell? ⟨g, j, none⟩ = some v := by
  simp [World.cell?, h, hj]
theorem sizeOf5 (w : World) : (sizeOf 5).run Try.prog w = .ok 1 w := by kernel_rfl
theorem elem33 : Try.prog.elem 33 = 5 := by kernel_rfl

theorem len53 : Try.prog.arrayLen 53 = 4 := by kernel_rfl
theorem elem53 : Try.prog.elem 53 = 5 := by kernel_rfl
theorem len54 : Try.prog.arrayLen 54 = 3 := by kernel_rfl
theorem elem54 : Try.prog.elem 54 = 5 := by kernel_rfl
theorem run_cut53 (m : Nat) (hm : m ≤ 3) (a : Addr) (wx : World) : (Instr.sliceAt 53 (.pointer (some a)) none (some (.int .i64 ((m : Int) + 1))) none).run Try.prog wx = .ok (.slice (some a) (m + 1) 4) wx := by
  rw [run_sliceAt_array_h wx 53 a (by rw [len53, elem53]; exact Try.underlying53) .i64 ((m : Int) + 1) (by omega) (by rw [len53]; omega), elem53, sizeOf5, len53]
  simp [Result.andThen, slicedAt, Addr.add]
theorem run_cut54 (m : Nat) (hm : m ≤ 3) (a : Addr) (wx : World) : (Instr.sliceAt 54 (.pointer (some a)) none (some (.int .i64 (m : Int))) none).run Try.prog wx = .ok (.slice (some a) m 3) wx := by
  rw [run_sliceAt_array_h wx 54 a (by rw [len54, elem54]; exact Try.underlying54) .i64 (m : Int) (by omega) (by rw [len54]; omega), elem54, sizeOf5, len54]
  simp [Result.andThen, slicedAt, Addr.add]

theorem own_base {w : World} {B e size n : Nat} {v : Value} {xs : List Value} (h : w.ownsRow B e size v n xs) : ∀ k, v.ownBlock = some k → B ≤ k := by
  intro k hk
  rcases h.2 with ⟨rfl, _⟩ | ⟨g, cap, cur, rfl, hg, _⟩
  · cases hk
  · cases hk; exact hg
theorem own_string {w : World} {B : Nat} {v : Value} {xs : List Int} (h : w.ownsRow B 5 1 v xs.length (xs.map (Value.int .u8))) :
    (convert 33 9 v).run Try.prog w = .ok (.string (strOfNums xs)) w := by
  rcases h.2 with ⟨rfl, hn⟩ | ⟨g, cap, cur, rfl, hg, _⟩
  · obtain rfl : xs = [] := List.eq_nil_of_length_eq_zero hn
    exact run_convert_bytes_nil w 33 5 Try.underlying33 Try.underlying5 0 0 9 Try.underlying9
  · refine run_convert_bytes_arg w 33 5 Try.underlying33 Try.underlying5 g 0 xs.length cap xs rfl (fun i hi => ?_) 9 Try.underlying9
    rw [Nat.zero_add, h.cellAt i (by omega), List.getElem?_map, List.getElem?_eq_getElem hi, List.getD_eq_getElem?_getD, List.getElem?_eq_getElem hi]
    rfl
theorem cells_new (w : World) (L : List Int) (t n j : Nat) (u : Value) (h : ((L.take n).map (Value.int .u8))[j]? = some u) :
    (w.alloc (.cells (L.map (Value.int .u8)).toArray t)).cell? ((⟨w.heap.size, 0, none⟩ : Addr).add j) = some u := by
  have e : (⟨w.heap.size, 0, none⟩ : Addr).add j = ⟨w.heap.size, j, none⟩ := by unfold Addr.add; split <;> simp_all
  rw [e]
  refine cell_row (heap_alloc_new _ _) j u ?_
  rw [List.getElem?_map, List.getElem?_take] at h
  split at h
  · rw [List.getElem?_map]; exact h
  · cases h

/-- The length of a slice. -/
def lenOf : Value → Nat
  | .slice _ n _ => n
  | _ => 0
end Go.Proofs.Ytfblafpcdlmbjaa

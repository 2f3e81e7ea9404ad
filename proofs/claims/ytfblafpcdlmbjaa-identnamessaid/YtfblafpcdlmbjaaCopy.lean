/-
  A copy out of a text into a row that the call itself made.
-/
import Derived.Test.YtfblafpcdlmbjaaRead
namespace Go.Proofs.Ytfblafpcdlmbjaa
open Go.RowKit

theorem run_copy_str (w : World) (ty g dLen dCap : Nat) (s : ByteArray) (cur : List Value) (t n : Nat) (hg : w.heap[g]? = some (.cells cur.toArray t (0, 0))) (hn : n = min s.size dLen) (hfit : n ≤ cur.length) :
    (Builtin.copy_ #[33, 9] ty #[.slice (some ⟨g, 0, none⟩) dLen dCap, .string s]).run Try.prog w =
      .ok (goInt n) (w.setRow g (splice cur 0 (((ints s).take n).map (Value.int .u8))).toArray) := by
  have hlen : (((ints s).take n).map (Value.int .u8)).length = n := by simp [ints_length]; omega
  have hst := run_storeCells_at Try.prog g 0 t (((ints s).take n).map (Value.int .u8)) 0 cur.toArray w hg (by rw [hlen]; simpa using hfit) (u8_oneCell _)
  have hmin : Nat.min s.size dLen = n := hn.symm
  have htk : List.take n (List.map (fun b : UInt8 => Value.int IntKind.u8 (b.toNat : Int)) s.data.toList) = ((ints s).take n).map (Value.int .u8) := by
    simp [ints, List.map_take]
    rfl
  rw [hlen] at hst
  simp only [Nat.add_zero] at hst
  cases hq : Try.prog.info? 5 with
  | none => have := Try.size5; simp [hq] at this
  | some i =>
    simp [Builtin.copy_, run_underlying Try.underlying33, Builtin.lenOf, Builtin.firstCells, sizeOf, typeInfo, hq, hmin]
    rw [htk, hst]
    have hm : min n (ints s).length = n := by rw [ints_length]; omega
    simp [Result.andThen, splice, hm]

theorem wpList_copy_str {w : World} {ops : Array Oper} {rest : List Oper} {o : Oper} {a : Act} {Q : Exit → Act → World → Prop} (hgd : o.guard = none) (d s : Operand)
    (ho : o.op = .call { callee := .builtin .copy, args := #[d, s], argTypes := #[33, 9] })
    (g dLen dCap : Nat) (x : ByteArray) (hd : a.eval d = .slice (some ⟨g, 0, none⟩) dLen dCap) (hs : a.eval s = .string x)
    (cur : List Value) (t : Nat) (hg : w.heap[g]? = some (.cells cur.toArray t (0, 0))) (n : Nat) (hn : n = min x.size dLen) (hfit : n ≤ cur.length) (B : Nat) (w0 : World) (hb : Below B w0 w) (hBg : B ≤ g)
    (h : ∀ w', Hid (w'.heap[g]? = some (.cells (splice cur 0 (((ints x).take n).map (Value.int .u8))).toArray t (0, 0))) → Below B w0 w' → wpList Try.prog ops Q rest (a.put o.dst (goInt n)) w') :
    wpList Try.prog ops Q (o :: rest) a w := by
  refine wpList_plain hgd fun K hK => ?_
  have hrun := run_copy_str w o.type g dLen dCap x cur t n hg hn hfit
  unfold Oper.wp
  simp [execOp, ho, resolve, invoke, builtin, hd, hs, hrun, Result.andThen]
  exact hK _ _ (h _ (show _ = _ by rw [List.map_take]; exact setRow_heap w g _ _ t _ hg) (below_setRow hb hBg _))
end Go.Proofs.Ytfblafpcdlmbjaa

/-
  NARROWER THAN 'FOR EVERY INPUT', by the rows' own cells (each row's printed sentence says how): RanksChains: loops · RanksPowers: loops · RanksLevels: loops · RanksByPower: loops · RanksBehind: loops · RanksLines: loops.
  DERIVED. THE GIVEN ROWS OF THIS SEAT. 6 by the template 'for every input the law returns true; each argument reads behind the call as it read before'; 0 by the template 'total and deterministic' (their statements: YtimhpglfolbomaaGreatTotals.lean).
  GIVEN WITH THE SEED: the statements are not yours to turn. If you find one false, say at which input.
  Laid BY PROGRAM, IN A SANDBOX (cutbox-rows.mjs): the forced cells as the released guide's own fill.sh prints them over the translation 8c49271faca70bda… (all of the seat's roots in one cut). By AI agents, Wed Nov 11 2026. No macro, syntax, notation, axiom, sorry.
-/
import Derived.Test.YtimhpglfolbomaaGreatChecked
import GoSem.Claim
import GoSem.ClaimJoined
import GoSem.ClaimMapViews
import Derived.JoinedTies
import Derived.KernelRfl
namespace Go.Proofs.YtimhpglfolbomaaGreat
/- THE CELL 'sum', in the pinned program and in every row, IS THE sha256 OF THE DUMP (.gsa) THAT YtimhpglfolbomaaGreatProg.lean LOADS. Nothing in Lean hashes anything: it is a label: what it is worth is what the hold of that sum in a sandbox is worth. -/
noncomputable def Tryz.pinned : Pinned := { name := "ytimhpglfolbomaagreat", sum := "8c49271faca70bda9137edef84ea89e4040496fa58a80b02ccfd8eee29375da5", checked := Tryz.checked }
namespace Rows
def none {H : Type} : Left H := { results := [], args := [] }

/-- 'agoralaw12.RanksChains': WHATEVER THE INPUT: true; the input reads as it did. -/
def ranksChainsSpec : ChangeSpec := { name := "ranksChains", fn := fun _ => fun
  | [d1, d2] => { results := [.lit (.bool true)], args := [d1, d2] }
  | _ => none }
def ranksChainsRow : OpenClaim := { program := "ytimhpglfolbomaagreat", sum := "8c49271faca70bda9137edef84ea89e4040496fa58a80b02ccfd8eee29375da5", func := "agora/agoralaw12.RanksChains", spec := "ranksChains", inPlace := ["internal/bytealg.abigen_runtime_cmpstring", "internal/bytealg.IndexByteString", "internal/bytealg.IndexString"], unfollowed := true, recurses := true, named := ["internal/bytealg.MaxLen"], loops := true, apart := false }
def RanksChainsSaid : Prop := ranksChainsRow.holds Tryz.pinned (OpenSpec.ofChange ranksChainsSpec)

/-- ITS FALSE NEIGHBOUR: 'it returns false'. Refute it at one input. -/
def ranksChainsWrong : ChangeSpec := { name := "ranksChains", fn := fun _ => fun
  | [d1, d2] => { results := [.lit (.bool false)], args := [d1, d2] }
  | _ => none }
def RanksChainsWrongFalsely : Prop := ranksChainsRow.holds Tryz.pinned (OpenSpec.ofChange ranksChainsWrong)

/-- 'agoralaw12.RanksPowers': WHATEVER THE INPUT: true; the input reads as it did. -/
def ranksPowersSpec : ChangeSpec := { name := "ranksPowers", fn := fun _ => fun
  | [d] => { results := [.lit (.bool true)], args := [d] }
  | _ => none }
def ranksPowersRow : OpenClaim := { program := "ytimhpglfolbomaagreat", sum := "8c49271faca70bda9137edef84ea89e4040496fa58a80b02ccfd8eee29375da5", func := "agora/agoralaw12.RanksPowers", spec := "ranksPowers", inPlace := ["internal/bytealg.abigen_runtime_cmpstring", "internal/bytealg.IndexByteString", "internal/bytealg.IndexString"], unfollowed := true, recurses := true, named := ["internal/bytealg.MaxLen"], loops := true, apart := false }
def RanksPowersSaid : Prop := ranksPowersRow.holds Tryz.pinned (OpenSpec.ofChange ranksPowersSpec)

/-- ITS FALSE NEIGHBOUR: 'it returns false'. Refute it at one input. -/
def ranksPowersWrong : ChangeSpec := { name := "ranksPowers", fn := fun _ => fun
  | [d] => { results := [.lit (.bool false)], args := [d] }
  | _ => none }
def RanksPowersWrongFalsely : Prop := ranksPowersRow.holds Tryz.pinned (OpenSpec.ofChange ranksPowersWrong)

/-- 'agoralaw12.RanksLevels': WHATEVER THE INPUT: true; the input reads as it did. -/
def ranksLevelsSpec : ChangeSpec := { name := "ranksLevels", fn := fun _ => fun
  | [d] => { results := [.lit (.bool true)], args := [d] }
  | _ => none }
def ranksLevelsRow : OpenClaim := { program := "ytimhpglfolbomaagreat", sum := "8c49271faca70bda9137edef84ea89e4040496fa58a80b02ccfd8eee29375da5", func := "agora/agoralaw12.RanksLevels", spec := "ranksLevels", inPlace := ["internal/bytealg.abigen_runtime_cmpstring", "internal/bytealg.IndexByteString", "internal/bytealg.IndexString"], unfollowed := true, recurses := true, named := ["internal/bytealg.MaxLen"], loops := true, apart := false }
def RanksLevelsSaid : Prop := ranksLevelsRow.holds Tryz.pinned (OpenSpec.ofChange ranksLevelsSpec)

/-- ITS FALSE NEIGHBOUR: 'it returns false'. Refute it at one input. -/
def ranksLevelsWrong : ChangeSpec := { name := "ranksLevels", fn := fun _ => fun
  | [d] => { results := [.lit (.bool false)], args := [d] }
  | _ => none }
def RanksLevelsWrongFalsely : Prop := ranksLevelsRow.holds Tryz.pinned (OpenSpec.ofChange ranksLevelsWrong)

/-- 'agoralaw12.RanksByPower': WHATEVER THE INPUT: true; the input reads as it did. -/
def ranksByPowerSpec : ChangeSpec := { name := "ranksByPower", fn := fun _ => fun
  | [d1, d2] => { results := [.lit (.bool true)], args := [d1, d2] }
  | _ => none }
def ranksByPowerRow : OpenClaim := { program := "ytimhpglfolbomaagreat", sum := "8c49271faca70bda9137edef84ea89e4040496fa58a80b02ccfd8eee29375da5", func := "agora/agoralaw12.RanksByPower", spec := "ranksByPower", inPlace := ["internal/bytealg.abigen_runtime_cmpstring", "internal/bytealg.IndexByteString", "internal/bytealg.IndexString"], unfollowed := true, recurses := true, named := ["internal/bytealg.MaxLen"], loops := true, apart := false }
def RanksByPowerSaid : Prop := ranksByPowerRow.holds Tryz.pinned (OpenSpec.ofChange ranksByPowerSpec)

/-- ITS FALSE NEIGHBOUR: 'it returns false'. Refute it at one input. -/
def ranksByPowerWrong : ChangeSpec := { name := "ranksByPower", fn := fun _ => fun
  | [d1, d2] => { results := [.lit (.bool false)], args := [d1, d2] }
  | _ => none }
def RanksByPowerWrongFalsely : Prop := ranksByPowerRow.holds Tryz.pinned (OpenSpec.ofChange ranksByPowerWrong)

/-- 'agoralaw12.RanksBehind': WHATEVER THE INPUT: true; the input reads as it did. -/
def ranksBehindSpec : ChangeSpec := { name := "ranksBehind", fn := fun _ => fun
  | [d1, d2] => { results := [.lit (.bool true)], args := [d1, d2] }
  | _ => none }
def ranksBehindRow : OpenClaim := { program := "ytimhpglfolbomaagreat", sum := "8c49271faca70bda9137edef84ea89e4040496fa58a80b02ccfd8eee29375da5", func := "agora/agoralaw12.RanksBehind", spec := "ranksBehind", inPlace := ["internal/bytealg.abigen_runtime_cmpstring", "internal/bytealg.IndexByteString", "internal/bytealg.IndexString"], unfollowed := true, recurses := true, named := ["internal/bytealg.MaxLen"], loops := true, apart := false }
def RanksBehindSaid : Prop := ranksBehindRow.holds Tryz.pinned (OpenSpec.ofChange ranksBehindSpec)

/-- ITS FALSE NEIGHBOUR: 'it returns false'. Refute it at one input. -/
def ranksBehindWrong : ChangeSpec := { name := "ranksBehind", fn := fun _ => fun
  | [d1, d2] => { results := [.lit (.bool false)], args := [d1, d2] }
  | _ => none }
def RanksBehindWrongFalsely : Prop := ranksBehindRow.holds Tryz.pinned (OpenSpec.ofChange ranksBehindWrong)

/-- 'agoralaw12.RanksLines': WHATEVER THE INPUT: true; the input reads as it did. -/
def ranksLinesSpec : ChangeSpec := { name := "ranksLines", fn := fun _ => fun
  | [d1, d2] => { results := [.lit (.bool true)], args := [d1, d2] }
  | _ => none }
def ranksLinesRow : OpenClaim := { program := "ytimhpglfolbomaagreat", sum := "8c49271faca70bda9137edef84ea89e4040496fa58a80b02ccfd8eee29375da5", func := "agora/agoralaw12.RanksLines", spec := "ranksLines", inPlace := ["internal/bytealg.abigen_runtime_cmpstring", "internal/bytealg.IndexByteString", "internal/bytealg.IndexString"], unfollowed := true, recurses := true, named := ["internal/bytealg.MaxLen"], loops := true, apart := false }
def RanksLinesSaid : Prop := ranksLinesRow.holds Tryz.pinned (OpenSpec.ofChange ranksLinesSpec)

/-- ITS FALSE NEIGHBOUR: 'it returns false'. Refute it at one input. -/
def ranksLinesWrong : ChangeSpec := { name := "ranksLines", fn := fun _ => fun
  | [d1, d2] => { results := [.lit (.bool false)], args := [d1, d2] }
  | _ => none }
def RanksLinesWrongFalsely : Prop := ranksLinesRow.holds Tryz.pinned (OpenSpec.ofChange ranksLinesWrong)

/- THE SECOND FORM. 'bulk': how many values and letters a reading holds, each counted each time it is reached (what is shared counts as often as it is met; a slice's spare places count too). A statement '..UptoSaid' is the law's where the arguments, and the package variables that the reading takes, are together of bulk at most 1048576: NARROWER than '..Said'. Prove '..Said' where nothing that the law and all that it calls make is longer than what came in: it says more and counts as full. Else prove '..UptoSaid'. A law counts once. -/
mutual
def uptoBulk {H : Type} : DataW H → Nat
  | .lit (.string bytes) => bytes.length + 1
  | .lit _ => 1
  | .nil => 1
  | .ptr d => uptoBulk d + 1
  | .slice elems spare => uptoBulkAll elems + uptoBulkAll spare + 1
  | .agg parts => uptoBulkAll parts + 1
  | .iface _ d => uptoBulk d + 1
  | .map entries => uptoBulkEntries entries + 1
  | .held _ => 1
def uptoBulkAll {H : Type} : List (DataW H) → Nat
  | [] => 0
  | d :: r => uptoBulk d + uptoBulkAll r
def uptoBulkEntries {H : Type} : List (Lit × DataW H) → Nat
  | [] => 0
  | x :: r => uptoBulkEntry x + uptoBulkEntries r
def uptoBulkEntry {H : Type} : Lit × DataW H → Nat
  | (.string bytes, d) => bytes.length + uptoBulk d + 1
  | (_, d) => uptoBulk d + 1
 end
def uptoSmall : (H : Type) → List (DataW H) → Bool := fun _ ds => decide (uptoBulkAll ds ≤ 1048576)
def OpenSpec.upto (s : _root_.Go.ChangeSpec) : _root_.Go.OpenSpec := { _root_.Go.OpenSpec.ofChange s with cond := some uptoSmall }

/-- 'agoralaw12.RanksChains', WHERE WHAT IT READS IS OF BULK AT MOST 1048576: true; the input reads as it did. -/
def ranksChainsUptoRow : OpenClaim := { program := "ytimhpglfolbomaagreat", sum := "8c49271faca70bda9137edef84ea89e4040496fa58a80b02ccfd8eee29375da5", func := "agora/agoralaw12.RanksChains", spec := "ranksChains", inPlace := ["internal/bytealg.abigen_runtime_cmpstring", "internal/bytealg.IndexByteString", "internal/bytealg.IndexString"], unfollowed := true, recurses := true, named := ["internal/bytealg.MaxLen"], loops := true, apart := false, narrowed := true }
def RanksChainsUptoSaid : Prop := ranksChainsUptoRow.holds Tryz.pinned (OpenSpec.upto ranksChainsSpec)

/-- 'agoralaw12.RanksPowers', WHERE WHAT IT READS IS OF BULK AT MOST 1048576: true; the input reads as it did. -/
def ranksPowersUptoRow : OpenClaim := { program := "ytimhpglfolbomaagreat", sum := "8c49271faca70bda9137edef84ea89e4040496fa58a80b02ccfd8eee29375da5", func := "agora/agoralaw12.RanksPowers", spec := "ranksPowers", inPlace := ["internal/bytealg.abigen_runtime_cmpstring", "internal/bytealg.IndexByteString", "internal/bytealg.IndexString"], unfollowed := true, recurses := true, named := ["internal/bytealg.MaxLen"], loops := true, apart := false, narrowed := true }
def RanksPowersUptoSaid : Prop := ranksPowersUptoRow.holds Tryz.pinned (OpenSpec.upto ranksPowersSpec)

/-- 'agoralaw12.RanksLevels', WHERE WHAT IT READS IS OF BULK AT MOST 1048576: true; the input reads as it did. -/
def ranksLevelsUptoRow : OpenClaim := { program := "ytimhpglfolbomaagreat", sum := "8c49271faca70bda9137edef84ea89e4040496fa58a80b02ccfd8eee29375da5", func := "agora/agoralaw12.RanksLevels", spec := "ranksLevels", inPlace := ["internal/bytealg.abigen_runtime_cmpstring", "internal/bytealg.IndexByteString", "internal/bytealg.IndexString"], unfollowed := true, recurses := true, named := ["internal/bytealg.MaxLen"], loops := true, apart := false, narrowed := true }
def RanksLevelsUptoSaid : Prop := ranksLevelsUptoRow.holds Tryz.pinned (OpenSpec.upto ranksLevelsSpec)

/-- 'agoralaw12.RanksByPower', WHERE WHAT IT READS IS OF BULK AT MOST 1048576: true; the input reads as it did. -/
def ranksByPowerUptoRow : OpenClaim := { program := "ytimhpglfolbomaagreat", sum := "8c49271faca70bda9137edef84ea89e4040496fa58a80b02ccfd8eee29375da5", func := "agora/agoralaw12.RanksByPower", spec := "ranksByPower", inPlace := ["internal/bytealg.abigen_runtime_cmpstring", "internal/bytealg.IndexByteString", "internal/bytealg.IndexString"], unfollowed := true, recurses := true, named := ["internal/bytealg.MaxLen"], loops := true, apart := false, narrowed := true }
def RanksByPowerUptoSaid : Prop := ranksByPowerUptoRow.holds Tryz.pinned (OpenSpec.upto ranksByPowerSpec)

/-- 'agoralaw12.RanksBehind', WHERE WHAT IT READS IS OF BULK AT MOST 1048576: true; the input reads as it did. -/
def ranksBehindUptoRow : OpenClaim := { program := "ytimhpglfolbomaagreat", sum := "8c49271faca70bda9137edef84ea89e4040496fa58a80b02ccfd8eee29375da5", func := "agora/agoralaw12.RanksBehind", spec := "ranksBehind", inPlace := ["internal/bytealg.abigen_runtime_cmpstring", "internal/bytealg.IndexByteString", "internal/bytealg.IndexString"], unfollowed := true, recurses := true, named := ["internal/bytealg.MaxLen"], loops := true, apart := false, narrowed := true }
def RanksBehindUptoSaid : Prop := ranksBehindUptoRow.holds Tryz.pinned (OpenSpec.upto ranksBehindSpec)

/-- 'agoralaw12.RanksLines', WHERE WHAT IT READS IS OF BULK AT MOST 1048576: true; the input reads as it did. -/
def ranksLinesUptoRow : OpenClaim := { program := "ytimhpglfolbomaagreat", sum := "8c49271faca70bda9137edef84ea89e4040496fa58a80b02ccfd8eee29375da5", func := "agora/agoralaw12.RanksLines", spec := "ranksLines", inPlace := ["internal/bytealg.abigen_runtime_cmpstring", "internal/bytealg.IndexByteString", "internal/bytealg.IndexString"], unfollowed := true, recurses := true, named := ["internal/bytealg.MaxLen"], loops := true, apart := false, narrowed := true }
def RanksLinesUptoSaid : Prop := ranksLinesUptoRow.holds Tryz.pinned (OpenSpec.upto ranksLinesSpec)

end Rows
end Go.Proofs.YtimhpglfolbomaaGreat

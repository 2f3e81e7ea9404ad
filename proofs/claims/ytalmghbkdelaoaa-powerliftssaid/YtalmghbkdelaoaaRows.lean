/-
  No cell of these rows narrows 'for every input' (looked for: loops, veiled, ifaces, maps, wideKeys, modest, calm, conditions, laid).
  DERIVED. THE GIVEN ROWS OF THIS SEAT. 4 by the template 'for every input the law returns true; each argument reads behind the call as it read before'; 0 by the template 'total and deterministic' (their statements: YtalmghbkdelaoaaTotals.lean).
  GIVEN WITH THE SEED: the statements are not yours to turn. If you find one false, say at which input.
  Laid BY PROGRAM, IN A SANDBOX (cutbox-rows.mjs): the forced cells as the released guide's own fill.sh prints them over the translation 2cbfd8f389daacaf… (all of the seat's roots in one cut). By AI agents, Wed Nov 11 2026. No macro, syntax, notation, axiom, sorry.
-/
import Derived.Test.YtalmghbkdelaoaaChecked
import GoSem.Claim
import GoSem.ClaimJoined
import GoSem.ClaimMapViews
import Derived.JoinedTies
import Derived.KernelRfl
namespace Go.Proofs.Ytalmghbkdelaoaa
/- THE CELL 'sum', in the pinned program and in every row, IS THE sha256 OF THE DUMP (.gsa) THAT YtalmghbkdelaoaaProg.lean LOADS. Nothing in Lean hashes anything: it is a label: what it is worth is what the hold of that sum in a sandbox is worth. -/
noncomputable def Try.pinned : Pinned := { name := "ytalmghbkdelaoaa", sum := "2cbfd8f389daacaf7f2c524f4052baa79249b948c7d9930ad2c692d80b56c5e1", checked := Try.checked }
namespace Rows
def none {H : Type} : Left H := { results := [], args := [] }

/-- 'agoralaw10.PowerLevels': WHATEVER THE INPUT: true; the input reads as it did. -/
def powerLevelsSpec : ChangeSpec := { name := "powerLevels", fn := fun _ => fun
  | [d1, d2, d3] => { results := [.lit (.bool true)], args := [d1, d2, d3] }
  | _ => none }
def powerLevelsRow : OpenClaim := { program := "ytalmghbkdelaoaa", sum := "2cbfd8f389daacaf7f2c524f4052baa79249b948c7d9930ad2c692d80b56c5e1", func := "agora/agoralaw10.PowerLevels", spec := "powerLevels", inPlace := ["internal/bytealg.abigen_runtime_cmpstring", "internal/bytealg.IndexByteString", "internal/bytealg.IndexString"], unfollowed := true, recurses := true, named := ["internal/bytealg.MaxLen"], apart := false }
def PowerLevelsSaid : Prop := powerLevelsRow.holds Try.pinned (OpenSpec.ofChange powerLevelsSpec)

/-- ITS FALSE NEIGHBOUR: 'it returns false'. Refute it at one input. -/
def powerLevelsWrong : ChangeSpec := { name := "powerLevels", fn := fun _ => fun
  | [d1, d2, d3] => { results := [.lit (.bool false)], args := [d1, d2, d3] }
  | _ => none }
def PowerLevelsWrongFalsely : Prop := powerLevelsRow.holds Try.pinned (OpenSpec.ofChange powerLevelsWrong)

/-- 'agoralaw10.PowerMay': WHATEVER THE INPUT: true; the input reads as it did. -/
def powerMaySpec : ChangeSpec := { name := "powerMay", fn := fun _ => fun
  | [d1, d2, d3] => { results := [.lit (.bool true)], args := [d1, d2, d3] }
  | _ => none }
def powerMayRow : OpenClaim := { program := "ytalmghbkdelaoaa", sum := "2cbfd8f389daacaf7f2c524f4052baa79249b948c7d9930ad2c692d80b56c5e1", func := "agora/agoralaw10.PowerMay", spec := "powerMay", inPlace := ["internal/bytealg.abigen_runtime_cmpstring", "internal/bytealg.IndexByteString", "internal/bytealg.IndexString"], unfollowed := true, recurses := true, named := ["internal/bytealg.MaxLen"], apart := false }
def PowerMaySaid : Prop := powerMayRow.holds Try.pinned (OpenSpec.ofChange powerMaySpec)

/-- ITS FALSE NEIGHBOUR: 'it returns false'. Refute it at one input. -/
def powerMayWrong : ChangeSpec := { name := "powerMay", fn := fun _ => fun
  | [d1, d2, d3] => { results := [.lit (.bool false)], args := [d1, d2, d3] }
  | _ => none }
def PowerMayWrongFalsely : Prop := powerMayRow.holds Try.pinned (OpenSpec.ofChange powerMayWrong)

/-- 'agoralaw10.PowerStays': WHATEVER THE INPUT: true; the input reads as it did. -/
def powerStaysSpec : ChangeSpec := { name := "powerStays", fn := fun _ => fun
  | [d1, d2] => { results := [.lit (.bool true)], args := [d1, d2] }
  | _ => none }
def powerStaysRow : OpenClaim := { program := "ytalmghbkdelaoaa", sum := "2cbfd8f389daacaf7f2c524f4052baa79249b948c7d9930ad2c692d80b56c5e1", func := "agora/agoralaw10.PowerStays", spec := "powerStays", inPlace := ["internal/bytealg.abigen_runtime_cmpstring", "internal/bytealg.IndexByteString", "internal/bytealg.IndexString"], unfollowed := true, recurses := true, named := ["internal/bytealg.MaxLen"], apart := false }
def PowerStaysSaid : Prop := powerStaysRow.holds Try.pinned (OpenSpec.ofChange powerStaysSpec)

/-- ITS FALSE NEIGHBOUR: 'it returns false'. Refute it at one input. -/
def powerStaysWrong : ChangeSpec := { name := "powerStays", fn := fun _ => fun
  | [d1, d2] => { results := [.lit (.bool false)], args := [d1, d2] }
  | _ => none }
def PowerStaysWrongFalsely : Prop := powerStaysRow.holds Try.pinned (OpenSpec.ofChange powerStaysWrong)

/-- 'agoralaw10.PowerLifts': WHATEVER THE INPUT: true; the input reads as it did. -/
def powerLiftsSpec : ChangeSpec := { name := "powerLifts", fn := fun _ => fun
  | [d1, d2, d3] => { results := [.lit (.bool true)], args := [d1, d2, d3] }
  | _ => none }
def powerLiftsRow : OpenClaim := { program := "ytalmghbkdelaoaa", sum := "2cbfd8f389daacaf7f2c524f4052baa79249b948c7d9930ad2c692d80b56c5e1", func := "agora/agoralaw10.PowerLifts", spec := "powerLifts", inPlace := ["internal/bytealg.abigen_runtime_cmpstring", "internal/bytealg.IndexByteString", "internal/bytealg.IndexString"], unfollowed := true, recurses := true, named := ["internal/bytealg.MaxLen"], apart := false }
def PowerLiftsSaid : Prop := powerLiftsRow.holds Try.pinned (OpenSpec.ofChange powerLiftsSpec)

/-- ITS FALSE NEIGHBOUR: 'it returns false'. Refute it at one input. -/
def powerLiftsWrong : ChangeSpec := { name := "powerLifts", fn := fun _ => fun
  | [d1, d2, d3] => { results := [.lit (.bool false)], args := [d1, d2, d3] }
  | _ => none }
def PowerLiftsWrongFalsely : Prop := powerLiftsRow.holds Try.pinned (OpenSpec.ofChange powerLiftsWrong)

/- THE SECOND FORM. 'bulk': how many values and letters a reading holds, each counted each time it is reached (what is shared counts as often as it is met; a slice's spare places count too). A statement '..UptoSaid' is the law's where the arguments, and the package variables that the reading takes, are together of bulk at most 1048576: NARROWER than '..Said'. Prove '..Said' where nothing that the law and all that it calls make is longer than what came in: it says more and counts as full. Else prove '..UptoSaid'. A law counts once. -/
mutual
def uptoBulk {H : Type} : DataW H → Nat
  | .lit (.string bytes) => bytes.length + 1
  | .lit _ => 1
  | .nil => 1
  | .ptr d => uptoBulk d + 1
  | .slice elems spare => uptoBulkAll elems + uptoBulkAll spare + 1
  | .agg parts => uptoBulkAll parts + 1
  | .iface _ d => uptoBulk d + 1
  | .map entries => uptoBulkEntries entries + 1
  | .held _ => 1
def uptoBulkAll {H : Type} : List (DataW H) → Nat
  | [] => 0
  | d :: r => uptoBulk d + uptoBulkAll r
def uptoBulkEntries {H : Type} : List (Lit × DataW H) → Nat
  | [] => 0
  | x :: r => uptoBulkEntry x + uptoBulkEntries r
def uptoBulkEntry {H : Type} : Lit × DataW H → Nat
  | (.string bytes, d) => bytes.length + uptoBulk d + 1
  | (_, d) => uptoBulk d + 1
 end
def uptoSmall : (H : Type) → List (DataW H) → Bool := fun _ ds => decide (uptoBulkAll ds ≤ 1048576)
def OpenSpec.upto (s : _root_.Go.ChangeSpec) : _root_.Go.OpenSpec := { _root_.Go.OpenSpec.ofChange s with cond := some uptoSmall }

/-- 'agoralaw10.PowerLevels', WHERE WHAT IT READS IS OF BULK AT MOST 1048576: true; the input reads as it did. -/
def powerLevelsUptoRow : OpenClaim := { program := "ytalmghbkdelaoaa", sum := "2cbfd8f389daacaf7f2c524f4052baa79249b948c7d9930ad2c692d80b56c5e1", func := "agora/agoralaw10.PowerLevels", spec := "powerLevels", inPlace := ["internal/bytealg.abigen_runtime_cmpstring", "internal/bytealg.IndexByteString", "internal/bytealg.IndexString"], unfollowed := true, recurses := true, named := ["internal/bytealg.MaxLen"], apart := false, narrowed := true }
def PowerLevelsUptoSaid : Prop := powerLevelsUptoRow.holds Try.pinned (OpenSpec.upto powerLevelsSpec)

/-- 'agoralaw10.PowerMay', WHERE WHAT IT READS IS OF BULK AT MOST 1048576: true; the input reads as it did. -/
def powerMayUptoRow : OpenClaim := { program := "ytalmghbkdelaoaa", sum := "2cbfd8f389daacaf7f2c524f4052baa79249b948c7d9930ad2c692d80b56c5e1", func := "agora/agoralaw10.PowerMay", spec := "powerMay", inPlace := ["internal/bytealg.abigen_runtime_cmpstring", "internal/bytealg.IndexByteString", "internal/bytealg.IndexString"], unfollowed := true, recurses := true, named := ["internal/bytealg.MaxLen"], apart := false, narrowed := true }
def PowerMayUptoSaid : Prop := powerMayUptoRow.holds Try.pinned (OpenSpec.upto powerMaySpec)

/-- 'agoralaw10.PowerStays', WHERE WHAT IT READS IS OF BULK AT MOST 1048576: true; the input reads as it did. -/
def powerStaysUptoRow : OpenClaim := { program := "ytalmghbkdelaoaa", sum := "2cbfd8f389daacaf7f2c524f4052baa79249b948c7d9930ad2c692d80b56c5e1", func := "agora/agoralaw10.PowerStays", spec := "powerStays", inPlace := ["internal/bytealg.abigen_runtime_cmpstring", "internal/bytealg.IndexByteString", "internal/bytealg.IndexString"], unfollowed := true, recurses := true, named := ["internal/bytealg.MaxLen"], apart := false, narrowed := true }
def PowerStaysUptoSaid : Prop := powerStaysUptoRow.holds Try.pinned (OpenSpec.upto powerStaysSpec)

/-- 'agoralaw10.PowerLifts', WHERE WHAT IT READS IS OF BULK AT MOST 1048576: true; the input reads as it did. -/
def powerLiftsUptoRow : OpenClaim := { program := "ytalmghbkdelaoaa", sum := "2cbfd8f389daacaf7f2c524f4052baa79249b948c7d9930ad2c692d80b56c5e1", func := "agora/agoralaw10.PowerLifts", spec := "powerLifts", inPlace := ["internal/bytealg.abigen_runtime_cmpstring", "internal/bytealg.IndexByteString", "internal/bytealg.IndexString"], unfollowed := true, recurses := true, named := ["internal/bytealg.MaxLen"], apart := false, narrowed := true }
def PowerLiftsUptoSaid : Prop := powerLiftsUptoRow.holds Try.pinned (OpenSpec.upto powerLiftsSpec)

end Rows
end Go.Proofs.Ytalmghbkdelaoaa

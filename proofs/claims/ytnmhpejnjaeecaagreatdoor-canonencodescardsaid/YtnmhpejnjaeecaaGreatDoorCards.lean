/-
  DERIVED. GIVEN WITH THE SEED: THE CARDS: each row of YtnmhpejnjaeecaaGreatDoorRows.lean that lists a variable, with what it lists TIED to the program's text (the seventh form; the later family's looks); each row that meets fmt, with fmt's text TOLD by the authors' own Lean function (tested against real Go, not proved from fmt's source: count such statements apart). THE CARD IS WHAT COUNTS. Prove the row's statement (the work); the ties are given (YtnmhpejnjaeecaaGreatDoorTie.lean); close each card by the builder's one call (the guide's Derived/Test/ToyasCard.lean, 'card_holds'). Laid BY PROGRAM, IN A SANDBOX (cutbox-door.mjs). By AI agents, Wed Nov 11 2026. No macro, syntax, notation, axiom, sorry.
-/
import Derived.Test.YtnmhpejnjaeecaaGreatDoorRows
import GoSem.ClaimSeven
namespace Go.Proofs.YtnmhpejnjaeecaaGreatDoor
namespace Rows

/-- THE TIED CARD OF 'agoralaw01.CanonEncodes'. -/
def canonEncodesCard : Claim7 := { stood := { row := canonEncodesRow, standIns := [], harness := (true, "5a57df66fd948b55689e6f6ca84598240700b947437993554baed777d7d29fb7"), looks := false }, kinds := [], alts := [], laidByText := true, laidKinds := [.data, .data, .data], laidTests := true, laidLooks := .later }
def CanonEncodesCardSaid : Prop := Claim7.holds Tryz.pinned (.plain (OpenSpec.ofChange canonEncodesSpec)) canonEncodesCard

/-- THE SECOND FORM's CARD OF 'agoralaw01.CanonEncodes'. -/
def canonEncodesUptoCard : Claim7 := { stood := { row := canonEncodesUptoRow, standIns := [], harness := (true, "5a57df66fd948b55689e6f6ca84598240700b947437993554baed777d7d29fb7"), looks := false }, kinds := [], alts := [], laidByText := true, laidKinds := [.data, .data, .data], laidTests := true, laidLooks := .later }
def CanonEncodesUptoCardSaid : Prop := Claim7.holds Tryz.pinned (.plain (OpenSpec.upto canonEncodesSpec)) canonEncodesUptoCard
end Rows
end Go.Proofs.YtnmhpejnjaeecaaGreatDoor

/-
  DERIVED. GIVEN WITH THE SEED: THE CARDS: each row of YtnmhpejnjaeecabDoorRows.lean that lists a variable, with what it lists TIED to the program's text (the seventh form; the later family's looks); each row that meets fmt, with fmt's text TOLD by the authors' own Lean function (tested against real Go, not proved from fmt's source: count such statements apart). THE CARD IS WHAT COUNTS. Prove the row's statement (the work); the ties are given (YtnmhpejnjaeecabDoorTie.lean); close each card by the builder's one call (the guide's Derived/Test/ToyasCard.lean, 'card_holds'). Laid BY PROGRAM, IN A SANDBOX (cutbox-door.mjs). By AI agents, Wed Nov 11 2026. No macro, syntax, notation, axiom, sorry.
-/
import Derived.Test.YtnmhpejnjaeecabDoorRows
import GoSem.ClaimSeven
namespace Go.Proofs.YtnmhpejnjaeecabDoor
namespace Rows

/-- THE TIED CARD OF 'agoralaw01.CanonEnds'. -/
def canonEndsCard : Claim7 := { stood := { row := canonEndsRow, standIns := [], harness := (true, "bed6817d7397041e5b9320dfd81e0f215de96056634fc4378d70b10181cf9b3a"), looks := false }, kinds := [], alts := [], laidByText := true, laidKinds := [.data, .data, .data], laidTests := true, laidLooks := .later }
def CanonEndsCardSaid : Prop := Claim7.holds Tryd.pinned (.plain (OpenSpec.ofChange canonEndsSpec)) canonEndsCard

/-- THE SECOND FORM's CARD OF 'agoralaw01.CanonEnds'. -/
def canonEndsUptoCard : Claim7 := { stood := { row := canonEndsUptoRow, standIns := [], harness := (true, "bed6817d7397041e5b9320dfd81e0f215de96056634fc4378d70b10181cf9b3a"), looks := false }, kinds := [], alts := [], laidByText := true, laidKinds := [.data, .data, .data], laidTests := true, laidLooks := .later }
def CanonEndsUptoCardSaid : Prop := Claim7.holds Tryd.pinned (.plain (OpenSpec.upto canonEndsSpec)) canonEndsUptoCard
end Rows
end Go.Proofs.YtnmhpejnjaeecabDoor

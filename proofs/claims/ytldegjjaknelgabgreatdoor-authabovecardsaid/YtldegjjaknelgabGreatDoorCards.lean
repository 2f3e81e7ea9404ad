/-
  DERIVED. GIVEN WITH THE SEED: THE CARDS: each row of YtldegjjaknelgabGreatDoorRows.lean that lists a variable, with what it lists TIED to the program's text (the seventh form; the later family's looks); each row that meets fmt, with fmt's text TOLD by the authors' own Lean function (tested against real Go, not proved from fmt's source: count such statements apart). THE CARD IS WHAT COUNTS. Prove the row's statement (the work); the ties are given (YtldegjjaknelgabGreatDoorTie.lean); close each card by the builder's one call (the guide's Derived/Test/ToyasCard.lean, 'card_holds'). Laid BY PROGRAM, IN A SANDBOX (cutbox-door.mjs). By AI agents, Wed Nov 11 2026. No macro, syntax, notation, axiom, sorry.
-/
import Derived.Test.YtldegjjaknelgabGreatDoorRows
import GoSem.ClaimSeven
namespace Go.Proofs.YtldegjjaknelgabGreatDoor
namespace Rows

/-- THE TIED CARD OF 'agoralaw11.AuthAbove'. -/
def authAboveCard : Claim7 := { stood := { row := authAboveRow, standIns := [], harness := (true, "75d1e0ea20d1dec4d87c92445bfb8bb9a9f4643890f240cc9cb154cd1a485b89"), looks := true }, kinds := [], alts := [], laidByText := true, laidKinds := [.data, .data, .data, .data, .pinned], laidTests := true, laidLooks := .later }
def AuthAboveCardSaid : Prop := Claim7.holds Tryz.pinned (.plain (OpenSpec.ofChange authAboveSpec)) authAboveCard

/-- THE TIED CARD OF 'agoralaw11.AuthOwn'. -/
def authOwnCard : Claim7 := { stood := { row := authOwnRow, standIns := [], harness := (true, "75d1e0ea20d1dec4d87c92445bfb8bb9a9f4643890f240cc9cb154cd1a485b89"), looks := true }, kinds := [], alts := [], laidByText := true, laidKinds := [.data, .data, .data, .data, .pinned], laidTests := true, laidLooks := .later }
def AuthOwnCardSaid : Prop := Claim7.holds Tryz.pinned (.plain (OpenSpec.ofChange authOwnSpec)) authOwnCard

/-- THE SECOND FORM's CARD OF 'agoralaw11.AuthAbove'. -/
def authAboveUptoCard : Claim7 := { stood := { row := authAboveUptoRow, standIns := [], harness := (true, "75d1e0ea20d1dec4d87c92445bfb8bb9a9f4643890f240cc9cb154cd1a485b89"), looks := true }, kinds := [], alts := [], laidByText := true, laidKinds := [.data, .data, .data, .data, .pinned], laidTests := true, laidLooks := .later }
def AuthAboveUptoCardSaid : Prop := Claim7.holds Tryz.pinned (.plain (OpenSpec.upto authAboveSpec)) authAboveUptoCard

/-- THE SECOND FORM's CARD OF 'agoralaw11.AuthOwn'. -/
def authOwnUptoCard : Claim7 := { stood := { row := authOwnUptoRow, standIns := [], harness := (true, "75d1e0ea20d1dec4d87c92445bfb8bb9a9f4643890f240cc9cb154cd1a485b89"), looks := true }, kinds := [], alts := [], laidByText := true, laidKinds := [.data, .data, .data, .data, .pinned], laidTests := true, laidLooks := .later }
def AuthOwnUptoCardSaid : Prop := Claim7.holds Tryz.pinned (.plain (OpenSpec.upto authOwnSpec)) authOwnUptoCard
end Rows
end Go.Proofs.YtldegjjaknelgabGreatDoor

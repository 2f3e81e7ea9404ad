/-
  DERIVED. GIVEN WITH THE SEED: THE CARDS: each row of YtldegjjaknelgaaGreatDoorRows.lean that lists a variable, with what it lists TIED to the program's text (the seventh form; the later family's looks); each row that meets fmt, with fmt's text TOLD by the authors' own Lean function (tested against real Go, not proved from fmt's source: count such statements apart). THE CARD IS WHAT COUNTS. Prove the row's statement (the work); the ties are given (YtldegjjaknelgaaGreatDoorTie.lean); close each card by the builder's one call (the guide's Derived/Test/ToyasCard.lean, 'card_holds'). Laid BY PROGRAM, IN A SANDBOX (cutbox-door.mjs). By AI agents, Wed Nov 11 2026. No macro, syntax, notation, axiom, sorry.
-/
import Derived.Test.YtldegjjaknelgaaGreatDoorRows
import GoSem.ClaimSeven
namespace Go.Proofs.YtldegjjaknelgaaGreatDoor
namespace Rows

/-- THE TIED CARD OF 'agoralaw11.AuthJudges'. -/
def authJudgesCard : Claim7 := { stood := { row := authJudgesRow, standIns := [], harness := (true, "8145ecd719879aa3b1e432f39339a5ade9a64f8955dda2eb837a2a73bc54a987"), looks := true }, kinds := [], alts := [], laidByText := true, laidKinds := [.data, .data, .data, .data, .pinned], laidTests := true, laidLooks := .later }
def AuthJudgesCardSaid : Prop := Claim7.holds Tryz.pinned (.plain (OpenSpec.ofChange authJudgesSpec)) authJudgesCard

/-- THE TIED CARD OF 'agoralaw11.AuthWanted'. -/
def authWantedCard : Claim7 := { stood := { row := authWantedRow, standIns := [], harness := (true, "8145ecd719879aa3b1e432f39339a5ade9a64f8955dda2eb837a2a73bc54a987"), looks := true }, kinds := [], alts := [], laidByText := true, laidKinds := [.data, .data, .data, .data, .pinned], laidTests := true, laidLooks := .later }
def AuthWantedCardSaid : Prop := Claim7.holds Tryz.pinned (.plain (OpenSpec.ofChange authWantedSpec)) authWantedCard

/-- THE TIED CARD OF 'agoralaw11.AuthOnly'. -/
def authOnlyCard : Claim7 := { stood := { row := authOnlyRow, standIns := [], harness := (true, "8145ecd719879aa3b1e432f39339a5ade9a64f8955dda2eb837a2a73bc54a987"), looks := true }, kinds := [], alts := [], laidByText := true, laidKinds := [.data, .data, .data, .data, .pinned], laidTests := true, laidLooks := .later }
def AuthOnlyCardSaid : Prop := Claim7.holds Tryz.pinned (.plain (OpenSpec.ofChange authOnlySpec)) authOnlyCard

/-- THE TIED CARD OF 'agoralaw11.AuthRedacted'. -/
def authRedactedCard : Claim7 := { stood := { row := authRedactedRow, standIns := [], harness := (true, "8145ecd719879aa3b1e432f39339a5ade9a64f8955dda2eb837a2a73bc54a987"), looks := true }, kinds := [], alts := [], laidByText := true, laidKinds := [.data, .data, .data, .data, .pinned], laidTests := true, laidLooks := .later }
def AuthRedactedCardSaid : Prop := Claim7.holds Tryz.pinned (.plain (OpenSpec.ofChange authRedactedSpec)) authRedactedCard

/-- THE TIED CARD OF 'agoralaw11.AuthOutside'. -/
def authOutsideCard : Claim7 := { stood := { row := authOutsideRow, standIns := [], harness := (true, "8145ecd719879aa3b1e432f39339a5ade9a64f8955dda2eb837a2a73bc54a987"), looks := true }, kinds := [], alts := [], laidByText := true, laidKinds := [.data, .data, .data, .data, .pinned], laidTests := true, laidLooks := .later }
def AuthOutsideCardSaid : Prop := Claim7.holds Tryz.pinned (.plain (OpenSpec.ofChange authOutsideSpec)) authOutsideCard

/-- THE TIED CARD OF 'agoralaw11.AuthBanned'. -/
def authBannedCard : Claim7 := { stood := { row := authBannedRow, standIns := [], harness := (true, "8145ecd719879aa3b1e432f39339a5ade9a64f8955dda2eb837a2a73bc54a987"), looks := true }, kinds := [], alts := [], laidByText := true, laidKinds := [.data, .data, .data, .data, .pinned], laidTests := true, laidLooks := .later }
def AuthBannedCardSaid : Prop := Claim7.holds Tryz.pinned (.plain (OpenSpec.ofChange authBannedSpec)) authBannedCard

/-- THE SECOND FORM's CARD OF 'agoralaw11.AuthJudges'. -/
def authJudgesUptoCard : Claim7 := { stood := { row := authJudgesUptoRow, standIns := [], harness := (true, "8145ecd719879aa3b1e432f39339a5ade9a64f8955dda2eb837a2a73bc54a987"), looks := true }, kinds := [], alts := [], laidByText := true, laidKinds := [.data, .data, .data, .data, .pinned], laidTests := true, laidLooks := .later }
def AuthJudgesUptoCardSaid : Prop := Claim7.holds Tryz.pinned (.plain (OpenSpec.upto authJudgesSpec)) authJudgesUptoCard

/-- THE SECOND FORM's CARD OF 'agoralaw11.AuthWanted'. -/
def authWantedUptoCard : Claim7 := { stood := { row := authWantedUptoRow, standIns := [], harness := (true, "8145ecd719879aa3b1e432f39339a5ade9a64f8955dda2eb837a2a73bc54a987"), looks := true }, kinds := [], alts := [], laidByText := true, laidKinds := [.data, .data, .data, .data, .pinned], laidTests := true, laidLooks := .later }
def AuthWantedUptoCardSaid : Prop := Claim7.holds Tryz.pinned (.plain (OpenSpec.upto authWantedSpec)) authWantedUptoCard

/-- THE SECOND FORM's CARD OF 'agoralaw11.AuthOnly'. -/
def authOnlyUptoCard : Claim7 := { stood := { row := authOnlyUptoRow, standIns := [], harness := (true, "8145ecd719879aa3b1e432f39339a5ade9a64f8955dda2eb837a2a73bc54a987"), looks := true }, kinds := [], alts := [], laidByText := true, laidKinds := [.data, .data, .data, .data, .pinned], laidTests := true, laidLooks := .later }
def AuthOnlyUptoCardSaid : Prop := Claim7.holds Tryz.pinned (.plain (OpenSpec.upto authOnlySpec)) authOnlyUptoCard

/-- THE SECOND FORM's CARD OF 'agoralaw11.AuthRedacted'. -/
def authRedactedUptoCard : Claim7 := { stood := { row := authRedactedUptoRow, standIns := [], harness := (true, "8145ecd719879aa3b1e432f39339a5ade9a64f8955dda2eb837a2a73bc54a987"), looks := true }, kinds := [], alts := [], laidByText := true, laidKinds := [.data, .data, .data, .data, .pinned], laidTests := true, laidLooks := .later }
def AuthRedactedUptoCardSaid : Prop := Claim7.holds Tryz.pinned (.plain (OpenSpec.upto authRedactedSpec)) authRedactedUptoCard

/-- THE SECOND FORM's CARD OF 'agoralaw11.AuthOutside'. -/
def authOutsideUptoCard : Claim7 := { stood := { row := authOutsideUptoRow, standIns := [], harness := (true, "8145ecd719879aa3b1e432f39339a5ade9a64f8955dda2eb837a2a73bc54a987"), looks := true }, kinds := [], alts := [], laidByText := true, laidKinds := [.data, .data, .data, .data, .pinned], laidTests := true, laidLooks := .later }
def AuthOutsideUptoCardSaid : Prop := Claim7.holds Tryz.pinned (.plain (OpenSpec.upto authOutsideSpec)) authOutsideUptoCard

/-- THE SECOND FORM's CARD OF 'agoralaw11.AuthBanned'. -/
def authBannedUptoCard : Claim7 := { stood := { row := authBannedUptoRow, standIns := [], harness := (true, "8145ecd719879aa3b1e432f39339a5ade9a64f8955dda2eb837a2a73bc54a987"), looks := true }, kinds := [], alts := [], laidByText := true, laidKinds := [.data, .data, .data, .data, .pinned], laidTests := true, laidLooks := .later }
def AuthBannedUptoCardSaid : Prop := Claim7.holds Tryz.pinned (.plain (OpenSpec.upto authBannedSpec)) authBannedUptoCard
end Rows
end Go.Proofs.YtldegjjaknelgaaGreatDoor

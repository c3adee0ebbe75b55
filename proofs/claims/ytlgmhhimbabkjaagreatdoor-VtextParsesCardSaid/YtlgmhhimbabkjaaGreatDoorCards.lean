/-
  DERIVED. GIVEN WITH THE SEED: THE CARDS: each row of YtlgmhhimbabkjaaGreatDoorRows.lean that lists a variable, with what it lists TIED to the program's text (the seventh form; the later family's looks); each row that meets fmt, with fmt's text TOLD by the authors' own Lean function (tested against real Go, not proved from fmt's source: count such statements apart). THE CARD IS WHAT COUNTS. Prove the row's statement (the work); the ties are given (YtlgmhhimbabkjaaGreatDoorTie.lean); close each card by the builder's one call (the guide's Derived/Test/ToyasCard.lean, 'card_holds'). Laid BY PROGRAM, IN A SANDBOX (cutbox-door.mjs). By AI agents, Wed Nov 11 2026. No macro, syntax, notation, axiom, sorry.
-/
import Derived.Test.YtlgmhhimbabkjaaGreatDoorRows
import GoSem.ClaimSeven
namespace Go.Proofs.YtlgmhhimbabkjaaGreatDoor
namespace Rows

/-- THE TIED CARD OF 'workflowlaw03.VtextPrints'. -/
def vtextPrintsCard : Claim7 := { stood := { row := vtextPrintsRow, standIns := [], harness := (true, "fe0d9424112cb371bb1f1ac3ea8c1ad4d7a81c9e75e0a1b0c539368b0408efe8"), looks := true }, kinds := [], alts := [], laidByText := true, laidKinds := [.data, .data, .data, .sentinel, .sentinel], laidTests := true, laidLooks := .later }
def VtextPrintsCardSaid : Prop := Claim7.holds Tryz.pinned (.plain (OpenSpec.ofChange vtextPrintsSpec)) vtextPrintsCard

/-- THE TIED CARD OF 'workflowlaw03.VtextParses'. -/
def vtextParsesCard : Claim7 := { stood := { row := vtextParsesRow, standIns := [], harness := (true, "fe0d9424112cb371bb1f1ac3ea8c1ad4d7a81c9e75e0a1b0c539368b0408efe8"), looks := true }, kinds := [], alts := [], laidByText := true, laidKinds := [.data, .data, .data, .sentinel, .sentinel], laidTests := true, laidLooks := .later }
def VtextParsesCardSaid : Prop := Claim7.holds Tryz.pinned (.plain (OpenSpec.ofChange vtextParsesSpec)) vtextParsesCard

/-- THE TIED CARD OF 'workflowlaw03.VtextRoundTrip'. -/
def vtextRoundTripCard : Claim7 := { stood := { row := vtextRoundTripRow, standIns := [], harness := (true, "fe0d9424112cb371bb1f1ac3ea8c1ad4d7a81c9e75e0a1b0c539368b0408efe8"), looks := true }, kinds := [], alts := [], laidByText := true, laidKinds := [.data, .data, .data, .sentinel, .sentinel], laidTests := true, laidLooks := .later }
def VtextRoundTripCardSaid : Prop := Claim7.holds Tryz.pinned (.plain (OpenSpec.ofChange vtextRoundTripSpec)) vtextRoundTripCard

/-- THE TIED CARD OF 'workflowlaw03.VtextCanonical'. -/
def vtextCanonicalCard : Claim7 := { stood := { row := vtextCanonicalRow, standIns := [], harness := (true, "fe0d9424112cb371bb1f1ac3ea8c1ad4d7a81c9e75e0a1b0c539368b0408efe8"), looks := true }, kinds := [], alts := [], laidByText := true, laidKinds := [.data, .data, .data, .sentinel, .sentinel], laidTests := true, laidLooks := .later }
def VtextCanonicalCardSaid : Prop := Claim7.holds Tryz.pinned (.plain (OpenSpec.ofChange vtextCanonicalSpec)) vtextCanonicalCard

/-- THE SECOND FORM's CARD OF 'workflowlaw03.VtextPrints'. -/
def vtextPrintsUptoCard : Claim7 := { stood := { row := vtextPrintsUptoRow, standIns := [], harness := (true, "fe0d9424112cb371bb1f1ac3ea8c1ad4d7a81c9e75e0a1b0c539368b0408efe8"), looks := true }, kinds := [], alts := [], laidByText := true, laidKinds := [.data, .data, .data, .sentinel, .sentinel], laidTests := true, laidLooks := .later }
def VtextPrintsUptoCardSaid : Prop := Claim7.holds Tryz.pinned (.plain (OpenSpec.upto vtextPrintsSpec)) vtextPrintsUptoCard

/-- THE SECOND FORM's CARD OF 'workflowlaw03.VtextParses'. -/
def vtextParsesUptoCard : Claim7 := { stood := { row := vtextParsesUptoRow, standIns := [], harness := (true, "fe0d9424112cb371bb1f1ac3ea8c1ad4d7a81c9e75e0a1b0c539368b0408efe8"), looks := true }, kinds := [], alts := [], laidByText := true, laidKinds := [.data, .data, .data, .sentinel, .sentinel], laidTests := true, laidLooks := .later }
def VtextParsesUptoCardSaid : Prop := Claim7.holds Tryz.pinned (.plain (OpenSpec.upto vtextParsesSpec)) vtextParsesUptoCard

/-- THE SECOND FORM's CARD OF 'workflowlaw03.VtextRoundTrip'. -/
def vtextRoundTripUptoCard : Claim7 := { stood := { row := vtextRoundTripUptoRow, standIns := [], harness := (true, "fe0d9424112cb371bb1f1ac3ea8c1ad4d7a81c9e75e0a1b0c539368b0408efe8"), looks := true }, kinds := [], alts := [], laidByText := true, laidKinds := [.data, .data, .data, .sentinel, .sentinel], laidTests := true, laidLooks := .later }
def VtextRoundTripUptoCardSaid : Prop := Claim7.holds Tryz.pinned (.plain (OpenSpec.upto vtextRoundTripSpec)) vtextRoundTripUptoCard

/-- THE SECOND FORM's CARD OF 'workflowlaw03.VtextCanonical'. -/
def vtextCanonicalUptoCard : Claim7 := { stood := { row := vtextCanonicalUptoRow, standIns := [], harness := (true, "fe0d9424112cb371bb1f1ac3ea8c1ad4d7a81c9e75e0a1b0c539368b0408efe8"), looks := true }, kinds := [], alts := [], laidByText := true, laidKinds := [.data, .data, .data, .sentinel, .sentinel], laidTests := true, laidLooks := .later }
def VtextCanonicalUptoCardSaid : Prop := Claim7.holds Tryz.pinned (.plain (OpenSpec.upto vtextCanonicalSpec)) vtextCanonicalUptoCard
end Rows
end Go.Proofs.YtlgmhhimbabkjaaGreatDoor

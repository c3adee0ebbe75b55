/-
  DERIVED. GIVEN WITH THE SEED: THE CARDS: each row of YtjblchdfkcbodaaDoorRows.lean that lists a variable, with what it lists TIED to the program's text (the seventh form; the later family's looks); each row that meets fmt, with fmt's text TOLD by the authors' own Lean function (tested against real Go, not proved from fmt's source: count such statements apart). THE CARD IS WHAT COUNTS. Prove the row's statement (the work); the ties are given (YtjblchdfkcbodaaDoorTie.lean); close each card by the builder's one call (the guide's Derived/Test/ToyasCard.lean, 'card_holds'). Laid BY PROGRAM, IN A SANDBOX (cutbox-door.mjs). By AI agents, Wed Nov 11 2026. No macro, syntax, notation, axiom, sorry.
-/
import Derived.Test.YtjblchdfkcbodaaDoorRows
import GoSem.ClaimSeven
namespace Go.Proofs.YtjblchdfkcbodaaDoor
namespace Rows

/-- THE TIED CARD OF 'workflowlaw03.VtextLiterals'. -/
def vtextLiteralsCard : Claim7 := { stood := { row := vtextLiteralsRow, standIns := [], harness := (true, "eab9d920ed6c5f030f204400a7b94e6753780ddb893fd172108fb4e00f9cb594"), looks := true }, kinds := [], alts := [], laidByText := true, laidKinds := [.data, .data, .data, .sentinel, .sentinel], laidTests := true, laidLooks := .later }
def VtextLiteralsCardSaid : Prop := Claim7.holds Tryd.pinned (.plain (OpenSpec.ofChange vtextLiteralsSpec)) vtextLiteralsCard

/-- THE TIED CARD OF 'workflowlaw03.VtextFirst'. -/
def vtextFirstCard : Claim7 := { stood := { row := vtextFirstRow, standIns := [], harness := (true, "eab9d920ed6c5f030f204400a7b94e6753780ddb893fd172108fb4e00f9cb594"), looks := true }, kinds := [], alts := [], laidByText := true, laidKinds := [.data, .data, .data, .sentinel, .sentinel], laidTests := true, laidLooks := .later }
def VtextFirstCardSaid : Prop := Claim7.holds Tryd.pinned (.plain (OpenSpec.ofChange vtextFirstSpec)) vtextFirstCard

/-- THE SECOND FORM's CARD OF 'workflowlaw03.VtextLiterals'. -/
def vtextLiteralsUptoCard : Claim7 := { stood := { row := vtextLiteralsUptoRow, standIns := [], harness := (true, "eab9d920ed6c5f030f204400a7b94e6753780ddb893fd172108fb4e00f9cb594"), looks := true }, kinds := [], alts := [], laidByText := true, laidKinds := [.data, .data, .data, .sentinel, .sentinel], laidTests := true, laidLooks := .later }
def VtextLiteralsUptoCardSaid : Prop := Claim7.holds Tryd.pinned (.plain (OpenSpec.upto vtextLiteralsSpec)) vtextLiteralsUptoCard

/-- THE SECOND FORM's CARD OF 'workflowlaw03.VtextFirst'. -/
def vtextFirstUptoCard : Claim7 := { stood := { row := vtextFirstUptoRow, standIns := [], harness := (true, "eab9d920ed6c5f030f204400a7b94e6753780ddb893fd172108fb4e00f9cb594"), looks := true }, kinds := [], alts := [], laidByText := true, laidKinds := [.data, .data, .data, .sentinel, .sentinel], laidTests := true, laidLooks := .later }
def VtextFirstUptoCardSaid : Prop := Claim7.holds Tryd.pinned (.plain (OpenSpec.upto vtextFirstSpec)) vtextFirstUptoCard
end Rows
end Go.Proofs.YtjblchdfkcbodaaDoor

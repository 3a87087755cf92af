/-
  DERIVED. GIVEN WITH THE SEED: THE CARDS: each row of YtlphojaeaogehaaGreatDoorRows.lean that lists a variable, with what it lists TIED to the program's text (the seventh form; the later family's looks); each row that meets fmt, with fmt's text TOLD by the authors' own Lean function (tested against real Go, not proved from fmt's source: count such statements apart). THE CARD IS WHAT COUNTS. Prove the row's statement (the work); the ties are given (YtlphojaeaogehaaGreatDoorTie.lean); close each card by the builder's one call (the guide's Derived/Test/ToyasCard.lean, 'card_holds'). Laid BY PROGRAM, IN A SANDBOX (cutbox-door.mjs). By AI agents, Wed Nov 11 2026. No macro, syntax, notation, axiom, sorry.
-/
import Derived.Test.YtlphojaeaogehaaGreatDoorRows
import GoSem.ClaimSeven
namespace Go.Proofs.YtlphojaeaogehaaGreatDoor
namespace Rows

/-- THE TIED CARD OF 'laws.FnExactReadFilter'. -/
def fnExactReadFilterCard : Claim7 := { stood := { row := fnExactReadFilterRow, standIns := [], harness := (true, "b4c77d59c902d0fd43ba36ec29c66e7305e6a598a19b083cc36fc7feb8691eb8"), looks := true }, kinds := [], alts := [], laidByText := true, laidKinds := [.data, .data, .data, .sentinel, .sentinel, .data, .data], laidTests := true, laidLooks := .later }
def FnExactReadFilterCardSaid : Prop := Claim7.holds Tryz.pinned (.plain (OpenSpec.ofChange fnExactReadFilterSpec)) fnExactReadFilterCard

/-- THE SECOND FORM's CARD OF 'laws.FnExactReadFilter'. -/
def fnExactReadFilterUptoCard : Claim7 := { stood := { row := fnExactReadFilterUptoRow, standIns := [], harness := (true, "b4c77d59c902d0fd43ba36ec29c66e7305e6a598a19b083cc36fc7feb8691eb8"), looks := true }, kinds := [], alts := [], laidByText := true, laidKinds := [.data, .data, .data, .sentinel, .sentinel, .data, .data], laidTests := true, laidLooks := .later }
def FnExactReadFilterUptoCardSaid : Prop := Claim7.holds Tryz.pinned (.plain (OpenSpec.upto fnExactReadFilterSpec)) fnExactReadFilterUptoCard
end Rows
end Go.Proofs.YtlphojaeaogehaaGreatDoor

/-
  DERIVED. GIVEN WITH THE SEED: THE CARDS: each row of YtfaeckaeaeadeaaGreatDoorRows.lean that lists a variable, with what it lists TIED to the program's text (the seventh form; the later family's looks); each row that meets fmt, with fmt's text TOLD by the authors' own Lean function (tested against real Go, not proved from fmt's source: count such statements apart). THE CARD IS WHAT COUNTS. Prove the row's statement (the work); the ties are given (YtfaeckaeaeadeaaGreatDoorTie.lean); close each card by the builder's one call (the guide's Derived/Test/ToyasCard.lean, 'card_holds'). Laid BY PROGRAM, IN A SANDBOX (cutbox-door.mjs). By AI agents, Wed Nov 11 2026. No macro, syntax, notation, axiom, sorry.
-/
import Derived.Test.YtfaeckaeaeadeaaGreatDoorRows
import GoSem.ClaimSeven
namespace Go.Proofs.YtfaeckaeaeadeaaGreatDoor
namespace Rows

/-- THE TIED CARD OF 'laws.FnExactWriteQuery'. -/
def fnExactWriteQueryCard : Claim7 := { stood := { row := fnExactWriteQueryRow, standIns := [], harness := (true, "dca6ea3c0b53ea5cc29cd4ca4d8ab4e306a7ec223691dbe1b855ea5175de7565"), looks := false }, kinds := [], alts := [], laidByText := true, laidKinds := [.data, .data, .data, .data, .data], laidTests := true, laidLooks := .later }
def FnExactWriteQueryCardSaid : Prop := Claim7.holds Tryz.pinned (.plain (OpenSpec.ofChange fnExactWriteQuerySpec)) fnExactWriteQueryCard

/-- THE SECOND FORM's CARD OF 'laws.FnExactWriteQuery'. -/
def fnExactWriteQueryUptoCard : Claim7 := { stood := { row := fnExactWriteQueryUptoRow, standIns := [], harness := (true, "dca6ea3c0b53ea5cc29cd4ca4d8ab4e306a7ec223691dbe1b855ea5175de7565"), looks := false }, kinds := [], alts := [], laidByText := true, laidKinds := [.data, .data, .data, .data, .data], laidTests := true, laidLooks := .later }
def FnExactWriteQueryUptoCardSaid : Prop := Claim7.holds Tryz.pinned (.plain (OpenSpec.upto fnExactWriteQuerySpec)) fnExactWriteQueryUptoCard
end Rows
end Go.Proofs.YtfaeckaeaeadeaaGreatDoor

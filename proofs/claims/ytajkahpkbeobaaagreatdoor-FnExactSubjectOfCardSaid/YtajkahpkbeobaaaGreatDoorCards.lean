/-
  DERIVED. GIVEN WITH THE SEED: THE CARDS: each row of YtajkahpkbeobaaaGreatDoorRows.lean that lists a variable, with what it lists TIED to the program's text (the seventh form; the later family's looks); each row that meets fmt, with fmt's text TOLD by the authors' own Lean function (tested against real Go, not proved from fmt's source: count such statements apart). THE CARD IS WHAT COUNTS. Prove the row's statement (the work); the ties are given (YtajkahpkbeobaaaGreatDoorTie.lean); close each card by the builder's one call (the guide's Derived/Test/ToyasCard.lean, 'card_holds'). Laid BY PROGRAM, IN A SANDBOX (cutbox-door.mjs). By AI agents, Wed Nov 11 2026. No macro, syntax, notation, axiom, sorry.
-/
import Derived.Test.YtajkahpkbeobaaaGreatDoorRows
import GoSem.ClaimSeven
namespace Go.Proofs.YtajkahpkbeobaaaGreatDoor
namespace Rows

/-- THE TIED CARD OF 'laws.FnExactSubjectOf'. -/
def fnExactSubjectOfCard : Claim7 := { stood := { row := fnExactSubjectOfRow, standIns := [], harness := (true, "7c1037e8fd92ebc11c7e30de2100bf15185efbea3e4f0659734b0277a24e1248"), looks := true }, kinds := [], alts := [], laidByText := true, laidKinds := [.data, .data, .data, .data, .sentinel, .sentinel, .data, .pinned], laidTests := true, laidLooks := .later }
def FnExactSubjectOfCardSaid : Prop := Claim7.holds Tryz.pinned (.plain (OpenSpec.ofChange fnExactSubjectOfSpec)) fnExactSubjectOfCard

/-- THE SECOND FORM's CARD OF 'laws.FnExactSubjectOf'. -/
def fnExactSubjectOfUptoCard : Claim7 := { stood := { row := fnExactSubjectOfUptoRow, standIns := [], harness := (true, "7c1037e8fd92ebc11c7e30de2100bf15185efbea3e4f0659734b0277a24e1248"), looks := true }, kinds := [], alts := [], laidByText := true, laidKinds := [.data, .data, .data, .data, .sentinel, .sentinel, .data, .pinned], laidTests := true, laidLooks := .later }
def FnExactSubjectOfUptoCardSaid : Prop := Claim7.holds Tryz.pinned (.plain (OpenSpec.upto fnExactSubjectOfSpec)) fnExactSubjectOfUptoCard
end Rows
end Go.Proofs.YtajkahpkbeobaaaGreatDoor

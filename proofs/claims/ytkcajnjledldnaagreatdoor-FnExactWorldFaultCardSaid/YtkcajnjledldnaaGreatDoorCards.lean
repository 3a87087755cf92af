/-
  DERIVED. GIVEN WITH THE SEED: THE CARDS: each row of YtkcajnjledldnaaGreatDoorRows.lean that lists a variable, with what it lists TIED to the program's text (the seventh form; the later family's looks); each row that meets fmt, with fmt's text TOLD by the authors' own Lean function (tested against real Go, not proved from fmt's source: count such statements apart). THE CARD IS WHAT COUNTS. Prove the row's statement (the work); the ties are given (YtkcajnjledldnaaGreatDoorTie.lean); close each card by the builder's one call (the guide's Derived/Test/ToyasCard.lean, 'card_holds'). Laid BY PROGRAM, IN A SANDBOX (cutbox-door.mjs). By AI agents, Wed Nov 11 2026. No macro, syntax, notation, axiom, sorry.
-/
import Derived.Test.YtkcajnjledldnaaGreatDoorRows
import GoSem.ClaimSeven
namespace Go.Proofs.YtkcajnjledldnaaGreatDoor
namespace Rows

/-- THE TIED CARD OF 'laws.FnExactWorldFault'. -/
def fnExactWorldFaultCard : Claim7 := { stood := { row := fnExactWorldFaultRow, standIns := [], harness := (true, "db81614a62daf61dbb3feb90c6210d454ad2c4ef37dacfc35adce4885bc470a6"), looks := true }, kinds := [], alts := [], laidByText := true, laidKinds := [.data, .data, .data, .data, .sentinel, .sentinel, .data, .data, .pinned], laidTests := true, laidLooks := .later }
def FnExactWorldFaultCardSaid : Prop := Claim7.holds Tryz.pinned (.plain (OpenSpec.ofChange fnExactWorldFaultSpec)) fnExactWorldFaultCard

/-- THE SECOND FORM's CARD OF 'laws.FnExactWorldFault'. -/
def fnExactWorldFaultUptoCard : Claim7 := { stood := { row := fnExactWorldFaultUptoRow, standIns := [], harness := (true, "db81614a62daf61dbb3feb90c6210d454ad2c4ef37dacfc35adce4885bc470a6"), looks := true }, kinds := [], alts := [], laidByText := true, laidKinds := [.data, .data, .data, .data, .sentinel, .sentinel, .data, .data, .pinned], laidTests := true, laidLooks := .later }
def FnExactWorldFaultUptoCardSaid : Prop := Claim7.holds Tryz.pinned (.plain (OpenSpec.upto fnExactWorldFaultSpec)) fnExactWorldFaultUptoCard
end Rows
end Go.Proofs.YtkcajnjledldnaaGreatDoor

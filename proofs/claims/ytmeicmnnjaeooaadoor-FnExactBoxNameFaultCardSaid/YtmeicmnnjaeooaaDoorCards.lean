/-
  DERIVED. GIVEN WITH THE SEED: THE CARDS: each row of YtmeicmnnjaeooaaDoorRows.lean that lists a variable, with what it lists TIED to the program's text (the seventh form; the later family's looks); each row that meets fmt, with fmt's text TOLD by the authors' own Lean function (tested against real Go, not proved from fmt's source: count such statements apart). THE CARD IS WHAT COUNTS. Prove the row's statement (the work); the ties are given (YtmeicmnnjaeooaaDoorTie.lean); close each card by the builder's one call (the guide's Derived/Test/ToyasCard.lean, 'card_holds'). Laid BY PROGRAM, IN A SANDBOX (cutbox-door.mjs). By AI agents, Wed Nov 11 2026. No macro, syntax, notation, axiom, sorry.
-/
import Derived.Test.YtmeicmnnjaeooaaDoorRows
import GoSem.ClaimSeven
namespace Go.Proofs.YtmeicmnnjaeooaaDoor
namespace Rows

/-- THE TIED CARD OF 'laws.FnExactBoxNameFault'. -/
def fnExactBoxNameFaultCard : Claim7 := { stood := { row := fnExactBoxNameFaultRow, standIns := [], harness := (true, "f37ee7b8fb432d7b9f7951d9f94324859f6b27802e8f70775994d54b126f4843"), looks := false }, kinds := [], alts := [], laidByText := true, laidKinds := [.data, .pinned], laidTests := true, laidLooks := .later }
def FnExactBoxNameFaultCardSaid : Prop := Claim7.holds Tryd.pinned (.plain (OpenSpec.ofChange fnExactBoxNameFaultSpec)) fnExactBoxNameFaultCard

/-- THE SECOND FORM's CARD OF 'laws.FnExactBoxNameFault'. -/
def fnExactBoxNameFaultUptoCard : Claim7 := { stood := { row := fnExactBoxNameFaultUptoRow, standIns := [], harness := (true, "f37ee7b8fb432d7b9f7951d9f94324859f6b27802e8f70775994d54b126f4843"), looks := false }, kinds := [], alts := [], laidByText := true, laidKinds := [.data, .pinned], laidTests := true, laidLooks := .later }
def FnExactBoxNameFaultUptoCardSaid : Prop := Claim7.holds Tryd.pinned (.plain (OpenSpec.upto fnExactBoxNameFaultSpec)) fnExactBoxNameFaultUptoCard
end Rows
end Go.Proofs.YtmeicmnnjaeooaaDoor

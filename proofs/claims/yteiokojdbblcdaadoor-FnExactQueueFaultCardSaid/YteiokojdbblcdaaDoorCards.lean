/-
  DERIVED. GIVEN WITH THE SEED: THE CARDS: each row of YteiokojdbblcdaaDoorRows.lean that lists a variable, with what it lists TIED to the program's text (the seventh form; the later family's looks); each row that meets fmt, with fmt's text TOLD by the authors' own Lean function (tested against real Go, not proved from fmt's source: count such statements apart). THE CARD IS WHAT COUNTS. Prove the row's statement (the work); the ties are given (YteiokojdbblcdaaDoorTie.lean); close each card by the builder's one call (the guide's Derived/Test/ToyasCard.lean, 'card_holds'). Laid BY PROGRAM, IN A SANDBOX (cutbox-door.mjs). By AI agents, Wed Nov 11 2026. No macro, syntax, notation, axiom, sorry.
-/
import Derived.Test.YteiokojdbblcdaaDoorRows
import GoSem.ClaimSeven
namespace Go.Proofs.YteiokojdbblcdaaDoor
namespace Rows

/-- THE TIED CARD OF 'laws.FnExactQueueFault'. -/
def fnExactQueueFaultCard : Claim7 := { stood := { row := fnExactQueueFaultRow, standIns := [], harness := (true, "3b8be3ef6352e04334abe6c6143f5ad745a1c24840a79c85e86ff8ebdaffd1ba"), looks := false }, kinds := [], alts := [], laidByText := true, laidKinds := [.data, .pinned], laidTests := true, laidLooks := .later }
def FnExactQueueFaultCardSaid : Prop := Claim7.holds Tryd.pinned (.plain (OpenSpec.ofChange fnExactQueueFaultSpec)) fnExactQueueFaultCard

/-- THE SECOND FORM's CARD OF 'laws.FnExactQueueFault'. -/
def fnExactQueueFaultUptoCard : Claim7 := { stood := { row := fnExactQueueFaultUptoRow, standIns := [], harness := (true, "3b8be3ef6352e04334abe6c6143f5ad745a1c24840a79c85e86ff8ebdaffd1ba"), looks := false }, kinds := [], alts := [], laidByText := true, laidKinds := [.data, .pinned], laidTests := true, laidLooks := .later }
def FnExactQueueFaultUptoCardSaid : Prop := Claim7.holds Tryd.pinned (.plain (OpenSpec.upto fnExactQueueFaultSpec)) fnExactQueueFaultUptoCard
end Rows
end Go.Proofs.YteiokojdbblcdaaDoor

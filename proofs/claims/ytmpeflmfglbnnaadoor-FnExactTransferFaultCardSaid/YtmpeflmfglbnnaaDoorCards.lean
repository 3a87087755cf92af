/-
  DERIVED. GIVEN WITH THE SEED: THE CARDS: each row of YtmpeflmfglbnnaaDoorRows.lean that lists a variable, with what it lists TIED to the program's text (the seventh form; the later family's looks); each row that meets fmt, with fmt's text TOLD by the authors' own Lean function (tested against real Go, not proved from fmt's source: count such statements apart). THE CARD IS WHAT COUNTS. Prove the row's statement (the work); the ties are given (YtmpeflmfglbnnaaDoorTie.lean); close each card by the builder's one call (the guide's Derived/Test/ToyasCard.lean, 'card_holds'). Laid BY PROGRAM, IN A SANDBOX (cutbox-door.mjs). By AI agents, Wed Nov 11 2026. No macro, syntax, notation, axiom, sorry.
-/
import Derived.Test.YtmpeflmfglbnnaaDoorRows
import GoSem.ClaimSeven
namespace Go.Proofs.YtmpeflmfglbnnaaDoor
namespace Rows

/-- THE TIED CARD OF 'laws.FnExactTransferFault'. -/
def fnExactTransferFaultCard : Claim7 := { stood := { row := fnExactTransferFaultRow, standIns := [], harness := (true, "82a1c57607596271d1aed06433e5caac5aa5979b54000666cdd2609ce7c51ad1"), looks := false }, kinds := [], alts := [], laidByText := true, laidKinds := [.data, .pinned], laidTests := true, laidLooks := .later }
def FnExactTransferFaultCardSaid : Prop := Claim7.holds Tryd.pinned (.plain (OpenSpec.ofChange fnExactTransferFaultSpec)) fnExactTransferFaultCard

/-- THE SECOND FORM's CARD OF 'laws.FnExactTransferFault'. -/
def fnExactTransferFaultUptoCard : Claim7 := { stood := { row := fnExactTransferFaultUptoRow, standIns := [], harness := (true, "82a1c57607596271d1aed06433e5caac5aa5979b54000666cdd2609ce7c51ad1"), looks := false }, kinds := [], alts := [], laidByText := true, laidKinds := [.data, .pinned], laidTests := true, laidLooks := .later }
def FnExactTransferFaultUptoCardSaid : Prop := Claim7.holds Tryd.pinned (.plain (OpenSpec.upto fnExactTransferFaultSpec)) fnExactTransferFaultUptoCard
end Rows
end Go.Proofs.YtmpeflmfglbnnaaDoor

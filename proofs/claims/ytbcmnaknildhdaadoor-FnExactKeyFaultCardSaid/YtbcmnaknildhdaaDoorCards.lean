/-
  DERIVED. GIVEN WITH THE SEED: THE CARDS: each row of YtbcmnaknildhdaaDoorRows.lean that lists a variable, with what it lists TIED to the program's text (the seventh form; the later family's looks); each row that meets fmt, with fmt's text TOLD by the authors' own Lean function (tested against real Go, not proved from fmt's source: count such statements apart). THE CARD IS WHAT COUNTS. Prove the row's statement (the work); the ties are given (YtbcmnaknildhdaaDoorTie.lean); close each card by the builder's one call (the guide's Derived/Test/ToyasCard.lean, 'card_holds'). Laid BY PROGRAM, IN A SANDBOX (cutbox-door.mjs). By AI agents, Wed Nov 11 2026. No macro, syntax, notation, axiom, sorry.
-/
import Derived.Test.YtbcmnaknildhdaaDoorRows
import GoSem.ClaimSeven
namespace Go.Proofs.YtbcmnaknildhdaaDoor
namespace Rows

/-- THE TIED CARD OF 'laws.FnExactKeyFault'. -/
def fnExactKeyFaultCard : Claim7 := { stood := { row := fnExactKeyFaultRow, standIns := [], harness := (true, "fc108c5d18d282a307ade688ee29743de5d3b9f9b95826be5244bcaa9a146d6a"), looks := false }, kinds := [], alts := [], laidByText := true, laidKinds := [.data, .pinned], laidTests := true, laidLooks := .later }
def FnExactKeyFaultCardSaid : Prop := Claim7.holds Tryd.pinned (.plain (OpenSpec.ofChange fnExactKeyFaultSpec)) fnExactKeyFaultCard

/-- THE SECOND FORM's CARD OF 'laws.FnExactKeyFault'. -/
def fnExactKeyFaultUptoCard : Claim7 := { stood := { row := fnExactKeyFaultUptoRow, standIns := [], harness := (true, "fc108c5d18d282a307ade688ee29743de5d3b9f9b95826be5244bcaa9a146d6a"), looks := false }, kinds := [], alts := [], laidByText := true, laidKinds := [.data, .pinned], laidTests := true, laidLooks := .later }
def FnExactKeyFaultUptoCardSaid : Prop := Claim7.holds Tryd.pinned (.plain (OpenSpec.upto fnExactKeyFaultSpec)) fnExactKeyFaultUptoCard
end Rows
end Go.Proofs.YtbcmnaknildhdaaDoor

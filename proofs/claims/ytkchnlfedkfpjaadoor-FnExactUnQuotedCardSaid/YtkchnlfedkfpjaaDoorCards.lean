/-
  DERIVED. GIVEN WITH THE SEED: THE CARDS: each row of YtkchnlfedkfpjaaDoorRows.lean that lists a variable, with what it lists TIED to the program's text (the seventh form; the later family's looks); each row that meets fmt, with fmt's text TOLD by the authors' own Lean function (tested against real Go, not proved from fmt's source: count such statements apart). THE CARD IS WHAT COUNTS. Prove the row's statement (the work); the ties are given (YtkchnlfedkfpjaaDoorTie.lean); close each card by the builder's one call (the guide's Derived/Test/ToyasCard.lean, 'card_holds'). Laid BY PROGRAM, IN A SANDBOX (cutbox-door.mjs). By AI agents, Wed Nov 11 2026. No macro, syntax, notation, axiom, sorry.
-/
import Derived.Test.YtkchnlfedkfpjaaDoorRows
import GoSem.ClaimSeven
namespace Go.Proofs.YtkchnlfedkfpjaaDoor
namespace Rows

/-- THE TIED CARD OF 'laws.FnExactUnQuoted'. -/
def fnExactUnQuotedCard : Claim7 := { stood := { row := fnExactUnQuotedRow, standIns := [], harness := (true, "3d4dc0985665d05f429c448103f027db73d3412b10671c44e98e67c5210bcde5"), looks := true }, kinds := [], alts := [], laidByText := true, laidKinds := [.data, .data, .data, .data, .sentinel, .sentinel, .pinned], laidTests := true, laidLooks := .later }
def FnExactUnQuotedCardSaid : Prop := Claim7.holds Tryd.pinned (.plain (OpenSpec.ofChange fnExactUnQuotedSpec)) fnExactUnQuotedCard

/-- THE SECOND FORM's CARD OF 'laws.FnExactUnQuoted'. -/
def fnExactUnQuotedUptoCard : Claim7 := { stood := { row := fnExactUnQuotedUptoRow, standIns := [], harness := (true, "3d4dc0985665d05f429c448103f027db73d3412b10671c44e98e67c5210bcde5"), looks := true }, kinds := [], alts := [], laidByText := true, laidKinds := [.data, .data, .data, .data, .sentinel, .sentinel, .pinned], laidTests := true, laidLooks := .later }
def FnExactUnQuotedUptoCardSaid : Prop := Claim7.holds Tryd.pinned (.plain (OpenSpec.upto fnExactUnQuotedSpec)) fnExactUnQuotedUptoCard
end Rows
end Go.Proofs.YtkchnlfedkfpjaaDoor

/-
  DERIVED. GIVEN WITH THE SEED: THE CARDS: each row of YtmkdgkelfpnmeaaDoorRows.lean that lists a variable, with what it lists TIED to the program's text (the seventh form; the later family's looks); each row that meets fmt, with fmt's text TOLD by the authors' own Lean function (tested against real Go, not proved from fmt's source: count such statements apart). THE CARD IS WHAT COUNTS. Prove the row's statement (the work); the ties are given (YtmkdgkelfpnmeaaDoorTie.lean); close each card by the builder's one call (the guide's Derived/Test/ToyasCard.lean, 'card_holds'). Laid BY PROGRAM, IN A SANDBOX (cutbox-door.mjs). By AI agents, Wed Nov 11 2026. No macro, syntax, notation, axiom, sorry.
-/
import Derived.Test.YtmkdgkelfpnmeaaDoorRows
import GoSem.ClaimSeven
namespace Go.Proofs.YtmkdgkelfpnmeaaDoor
namespace Rows

/-- THE TIED CARD OF 'laws.FnExactShowString'. -/
def fnExactShowStringCard : Claim7 := { stood := { row := fnExactShowStringRow, standIns := [], harness := (true, "3da3b142e12c1a0210b67aaeeadd4e091f2a5eb1fc03f63b2c38cf51bca35ee0"), looks := false }, kinds := [], alts := [], laidByText := true, laidKinds := [.data, .data, .data], laidTests := true, laidLooks := .later }
def FnExactShowStringCardSaid : Prop := Claim7.holds Tryd.pinned (.plain (OpenSpec.ofChange fnExactShowStringSpec)) fnExactShowStringCard

/-- THE SECOND FORM's CARD OF 'laws.FnExactShowString'. -/
def fnExactShowStringUptoCard : Claim7 := { stood := { row := fnExactShowStringUptoRow, standIns := [], harness := (true, "3da3b142e12c1a0210b67aaeeadd4e091f2a5eb1fc03f63b2c38cf51bca35ee0"), looks := false }, kinds := [], alts := [], laidByText := true, laidKinds := [.data, .data, .data], laidTests := true, laidLooks := .later }
def FnExactShowStringUptoCardSaid : Prop := Claim7.holds Tryd.pinned (.plain (OpenSpec.upto fnExactShowStringSpec)) fnExactShowStringUptoCard
end Rows
end Go.Proofs.YtmkdgkelfpnmeaaDoor

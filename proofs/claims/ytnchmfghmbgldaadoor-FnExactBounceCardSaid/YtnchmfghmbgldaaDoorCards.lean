/-
  DERIVED. GIVEN WITH THE SEED: THE CARDS: each row of YtnchmfghmbgldaaDoorRows.lean that lists a variable, with what it lists TIED to the program's text (the seventh form; the later family's looks); each row that meets fmt, with fmt's text TOLD by the authors' own Lean function (tested against real Go, not proved from fmt's source: count such statements apart). THE CARD IS WHAT COUNTS. Prove the row's statement (the work); the ties are given (YtnchmfghmbgldaaDoorTie.lean); close each card by the builder's one call (the guide's Derived/Test/ToyasCard.lean, 'card_holds'). Laid BY PROGRAM, IN A SANDBOX (cutbox-door.mjs). By AI agents, Wed Nov 11 2026. No macro, syntax, notation, axiom, sorry.
-/
import Derived.Test.YtnchmfghmbgldaaDoorRows
import GoSem.ClaimSeven
namespace Go.Proofs.YtnchmfghmbgldaaDoor
namespace Rows

/-- THE TIED CARD OF 'laws.FnExactBounce'. -/
def fnExactBounceCard : Claim7 := { stood := { row := fnExactBounceRow, standIns := [], harness := (true, "fe1eb91634f9e9c2f1ce12f013f41c5a58a6e9c6c80dc05722500771b3d86312"), looks := false }, kinds := [], alts := [], laidByText := true, laidKinds := [.data, .pinned], laidTests := true, laidLooks := .later }
def FnExactBounceCardSaid : Prop := Claim7.holds Tryd.pinned (.plain (OpenSpec.ofChange fnExactBounceSpec)) fnExactBounceCard

/-- THE SECOND FORM's CARD OF 'laws.FnExactBounce'. -/
def fnExactBounceUptoCard : Claim7 := { stood := { row := fnExactBounceUptoRow, standIns := [], harness := (true, "fe1eb91634f9e9c2f1ce12f013f41c5a58a6e9c6c80dc05722500771b3d86312"), looks := false }, kinds := [], alts := [], laidByText := true, laidKinds := [.data, .pinned], laidTests := true, laidLooks := .later }
def FnExactBounceUptoCardSaid : Prop := Claim7.holds Tryd.pinned (.plain (OpenSpec.upto fnExactBounceSpec)) fnExactBounceUptoCard
end Rows
end Go.Proofs.YtnchmfghmbgldaaDoor

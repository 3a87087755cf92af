/-
  DERIVED. GIVEN WITH THE SEED: THE CARDS: each row of YtifnndegpeggpaaDoorRows.lean that lists a variable, with what it lists TIED to the program's text (the seventh form; the later family's looks); each row that meets fmt, with fmt's text TOLD by the authors' own Lean function (tested against real Go, not proved from fmt's source: count such statements apart). THE CARD IS WHAT COUNTS. Prove the row's statement (the work); the ties are given (YtifnndegpeggpaaDoorTie.lean); close each card by the builder's one call (the guide's Derived/Test/ToyasCard.lean, 'card_holds'). Laid BY PROGRAM, IN A SANDBOX (cutbox-door.mjs). By AI agents, Wed Nov 11 2026. No macro, syntax, notation, axiom, sorry.
-/
import Derived.Test.YtifnndegpeggpaaDoorRows
import GoSem.ClaimSeven
namespace Go.Proofs.YtifnndegpeggpaaDoor
namespace Rows

/-- THE TIED CARD OF 'laws.FnExactCanonField'. -/
def fnExactCanonFieldCard : Claim7 := { stood := { row := fnExactCanonFieldRow, standIns := [], harness := (true, "ed36955d47d545cda5ed050de837e7148cc6b080554c0fb8201eacea8a96d507"), looks := false }, kinds := [], alts := [], laidByText := true, laidKinds := [.data, .pinned], laidTests := true, laidLooks := .later }
def FnExactCanonFieldCardSaid : Prop := Claim7.holds Tryd.pinned (.plain (OpenSpec.ofChange fnExactCanonFieldSpec)) fnExactCanonFieldCard

/-- THE SECOND FORM's CARD OF 'laws.FnExactCanonField'. -/
def fnExactCanonFieldUptoCard : Claim7 := { stood := { row := fnExactCanonFieldUptoRow, standIns := [], harness := (true, "ed36955d47d545cda5ed050de837e7148cc6b080554c0fb8201eacea8a96d507"), looks := false }, kinds := [], alts := [], laidByText := true, laidKinds := [.data, .pinned], laidTests := true, laidLooks := .later }
def FnExactCanonFieldUptoCardSaid : Prop := Claim7.holds Tryd.pinned (.plain (OpenSpec.upto fnExactCanonFieldSpec)) fnExactCanonFieldUptoCard
end Rows
end Go.Proofs.YtifnndegpeggpaaDoor

/-
  DERIVED. GIVEN WITH THE SEED: THE CARDS: each row of YtgbgepfefbkefaaDoorRows.lean that lists a variable, with what it lists TIED to the program's text (the seventh form; the later family's looks); each row that meets fmt, with fmt's text TOLD by the authors' own Lean function (tested against real Go, not proved from fmt's source: count such statements apart). THE CARD IS WHAT COUNTS. Prove the row's statement (the work); the ties are given (YtgbgepfefbkefaaDoorTie.lean); close each card by the builder's one call (the guide's Derived/Test/ToyasCard.lean, 'card_holds'). Laid BY PROGRAM, IN A SANDBOX (cutbox-door.mjs). By AI agents, Wed Nov 11 2026. No macro, syntax, notation, axiom, sorry.
-/
import Derived.Test.YtgbgepfefbkefaaDoorRows
import GoSem.ClaimSeven
namespace Go.Proofs.YtgbgepfefbkefaaDoor
namespace Rows

/-- THE TIED CARD OF 'laws.FnExactWriteRanges'. -/
def fnExactWriteRangesCard : Claim7 := { stood := { row := fnExactWriteRangesRow, standIns := [], harness := (true, "c467c608b7bfadc5f8fa161ad84c35bf8c6c489f9d6878d4f30a503346e5b3d0"), looks := false }, kinds := [], alts := [], laidByText := true, laidKinds := [.data, .data, .data], laidTests := true, laidLooks := .later }
def FnExactWriteRangesCardSaid : Prop := Claim7.holds Tryd.pinned (.plain (OpenSpec.ofChange fnExactWriteRangesSpec)) fnExactWriteRangesCard

/-- THE SECOND FORM's CARD OF 'laws.FnExactWriteRanges'. -/
def fnExactWriteRangesUptoCard : Claim7 := { stood := { row := fnExactWriteRangesUptoRow, standIns := [], harness := (true, "c467c608b7bfadc5f8fa161ad84c35bf8c6c489f9d6878d4f30a503346e5b3d0"), looks := false }, kinds := [], alts := [], laidByText := true, laidKinds := [.data, .data, .data], laidTests := true, laidLooks := .later }
def FnExactWriteRangesUptoCardSaid : Prop := Claim7.holds Tryd.pinned (.plain (OpenSpec.upto fnExactWriteRangesSpec)) fnExactWriteRangesUptoCard
end Rows
end Go.Proofs.YtgbgepfefbkefaaDoor

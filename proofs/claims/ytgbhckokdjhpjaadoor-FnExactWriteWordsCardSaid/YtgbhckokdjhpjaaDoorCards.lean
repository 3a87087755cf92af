/-
  DERIVED. GIVEN WITH THE SEED: THE CARDS: each row of YtgbhckokdjhpjaaDoorRows.lean that lists a variable, with what it lists TIED to the program's text (the seventh form; the later family's looks); each row that meets fmt, with fmt's text TOLD by the authors' own Lean function (tested against real Go, not proved from fmt's source: count such statements apart). THE CARD IS WHAT COUNTS. Prove the row's statement (the work); the ties are given (YtgbhckokdjhpjaaDoorTie.lean); close each card by the builder's one call (the guide's Derived/Test/ToyasCard.lean, 'card_holds'). Laid BY PROGRAM, IN A SANDBOX (cutbox-door.mjs). By AI agents, Wed Nov 11 2026. No macro, syntax, notation, axiom, sorry.
-/
import Derived.Test.YtgbhckokdjhpjaaDoorRows
import GoSem.ClaimSeven
namespace Go.Proofs.YtgbhckokdjhpjaaDoor
namespace Rows

/-- THE TIED CARD OF 'laws.FnExactWriteWords'. -/
def fnExactWriteWordsCard : Claim7 := { stood := { row := fnExactWriteWordsRow, standIns := [], harness := (true, "63a6a0a236d5e3d15e4e83bcad62b8ba546f08b77f5d11f4920d08b9dd33683f"), looks := false }, kinds := [], alts := [], laidByText := true, laidKinds := [.data], laidTests := true, laidLooks := .later }
def FnExactWriteWordsCardSaid : Prop := Claim7.holds Tryd.pinned (.plain (OpenSpec.ofChange fnExactWriteWordsSpec)) fnExactWriteWordsCard

/-- THE SECOND FORM's CARD OF 'laws.FnExactWriteWords'. -/
def fnExactWriteWordsUptoCard : Claim7 := { stood := { row := fnExactWriteWordsUptoRow, standIns := [], harness := (true, "63a6a0a236d5e3d15e4e83bcad62b8ba546f08b77f5d11f4920d08b9dd33683f"), looks := false }, kinds := [], alts := [], laidByText := true, laidKinds := [.data], laidTests := true, laidLooks := .later }
def FnExactWriteWordsUptoCardSaid : Prop := Claim7.holds Tryd.pinned (.plain (OpenSpec.upto fnExactWriteWordsSpec)) fnExactWriteWordsUptoCard
end Rows
end Go.Proofs.YtgbhckokdjhpjaaDoor

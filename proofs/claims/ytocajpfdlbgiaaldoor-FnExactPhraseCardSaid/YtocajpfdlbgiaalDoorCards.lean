/-
  DERIVED. GIVEN WITH THE SEED: THE CARDS: each row of YtocajpfdlbgiaalDoorRows.lean that lists a variable, with what it lists TIED to the program's text (the seventh form; the later family's looks); each row that meets fmt, with fmt's text TOLD by the authors' own Lean function (tested against real Go, not proved from fmt's source: count such statements apart). THE CARD IS WHAT COUNTS. Prove the row's statement (the work); the ties are given (YtocajpfdlbgiaalDoorTie.lean); close each card by the builder's one call (the guide's Derived/Test/ToyasCard.lean, 'card_holds'). Laid BY PROGRAM, IN A SANDBOX (cutbox-door.mjs). By AI agents, Wed Nov 11 2026. No macro, syntax, notation, axiom, sorry.
-/
import Derived.Test.YtocajpfdlbgiaalDoorRows
import GoSem.ClaimSeven
namespace Go.Proofs.YtocajpfdlbgiaalDoor
namespace Rows

/-- THE TIED CARD OF 'laws.FnExactPhrase'. -/
def fnExactPhraseCard : Claim7 := { stood := { row := fnExactPhraseRow, standIns := [], harness := (true, "0c0e9687802da1d91b0d8e85c49abc14d4bbd9f6e53872edcdbdd1a954c7b246"), looks := false }, kinds := [], alts := [], laidByText := true, laidKinds := [.data, .pinned], laidTests := true, laidLooks := .later }
def FnExactPhraseCardSaid : Prop := Claim7.holds Tryd.pinned (.plain (OpenSpec.ofChange fnExactPhraseSpec)) fnExactPhraseCard

/-- THE SECOND FORM's CARD OF 'laws.FnExactPhrase'. -/
def fnExactPhraseUptoCard : Claim7 := { stood := { row := fnExactPhraseUptoRow, standIns := [], harness := (true, "0c0e9687802da1d91b0d8e85c49abc14d4bbd9f6e53872edcdbdd1a954c7b246"), looks := false }, kinds := [], alts := [], laidByText := true, laidKinds := [.data, .pinned], laidTests := true, laidLooks := .later }
def FnExactPhraseUptoCardSaid : Prop := Claim7.holds Tryd.pinned (.plain (OpenSpec.upto fnExactPhraseSpec)) fnExactPhraseUptoCard
end Rows
end Go.Proofs.YtocajpfdlbgiaalDoor

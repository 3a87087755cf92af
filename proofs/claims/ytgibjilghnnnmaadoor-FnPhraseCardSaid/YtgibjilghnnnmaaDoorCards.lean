/-
  DERIVED. GIVEN WITH THE SEED: THE CARDS: each row of YtgibjilghnnnmaaDoorRows.lean that lists a variable, with what it lists TIED to the program's text (the seventh form; the later family's looks); each row that meets fmt, with fmt's text TOLD by the authors' own Lean function (tested against real Go, not proved from fmt's source: count such statements apart). THE CARD IS WHAT COUNTS. Prove the row's statement (the work); the ties are given (YtgibjilghnnnmaaDoorTie.lean); close each card by the builder's one call (the guide's Derived/Test/ToyasCard.lean, 'card_holds'). Laid BY PROGRAM, IN A SANDBOX (cutbox-door.mjs). By AI agents, Wed Nov 11 2026. No macro, syntax, notation, axiom, sorry.
-/
import Derived.Test.YtgibjilghnnnmaaDoorRows
import GoSem.ClaimSeven
namespace Go.Proofs.YtgibjilghnnnmaaDoor
namespace Rows

/-- THE TIED CARD OF 'laws.FnPhrase'. -/
def fnPhraseCard : Claim7 := { stood := { row := fnPhraseRow, standIns := [], harness := (true, "d1f9faaf821d07977e8c7a9295b02ea4de1d84d35716443efeb336026b33d4c7"), looks := true }, kinds := [], alts := [], laidByText := true, laidKinds := [.data, .pinned], laidTests := true, laidLooks := .later }
def FnPhraseCardSaid : Prop := Claim7.holds Tryd.pinned (.plain (OpenSpec.ofChange fnPhraseSpec)) fnPhraseCard

/-- THE SECOND FORM's CARD OF 'laws.FnPhrase'. -/
def fnPhraseUptoCard : Claim7 := { stood := { row := fnPhraseUptoRow, standIns := [], harness := (true, "d1f9faaf821d07977e8c7a9295b02ea4de1d84d35716443efeb336026b33d4c7"), looks := true }, kinds := [], alts := [], laidByText := true, laidKinds := [.data, .pinned], laidTests := true, laidLooks := .later }
def FnPhraseUptoCardSaid : Prop := Claim7.holds Tryd.pinned (.plain (OpenSpec.upto fnPhraseSpec)) fnPhraseUptoCard
end Rows
end Go.Proofs.YtgibjilghnnnmaaDoor

/-
  DERIVED. GIVEN WITH THE SEED: THE CARDS: each row of YtgfgondjpfnmiaaGreatDoorRows.lean that lists a variable, with what it lists TIED to the program's text (the seventh form; the later family's looks); each row that meets fmt, with fmt's text TOLD by the authors' own Lean function (tested against real Go, not proved from fmt's source: count such statements apart). THE CARD IS WHAT COUNTS. Prove the row's statement (the work); the ties are given (YtgfgondjpfnmiaaGreatDoorTie.lean); close each card by the builder's one call (the guide's Derived/Test/ToyasCard.lean, 'card_holds'). Laid BY PROGRAM, IN A SANDBOX (cutbox-door.mjs). By AI agents, Wed Nov 11 2026. No macro, syntax, notation, axiom, sorry.
-/
import Derived.Test.YtgfgondjpfnmiaaGreatDoorRows
import GoSem.ClaimSeven
namespace Go.Proofs.YtgfgondjpfnmiaaGreatDoor
namespace Rows

/-- THE TIED CARD OF 'laws.FnExactReadWords'. -/
def fnExactReadWordsCard : Claim7 := { stood := { row := fnExactReadWordsRow, standIns := [], harness := (true, "da8d782d446eaabddaff19437235279d022a537c43888db2211b15ceeea896c3"), looks := true }, kinds := [], alts := [], laidByText := true, laidKinds := [.data, .data, .data, .data, .sentinel, .sentinel, .data, .pinned], laidTests := true, laidLooks := .later }
def FnExactReadWordsCardSaid : Prop := Claim7.holds Tryz.pinned (.plain (OpenSpec.ofChange fnExactReadWordsSpec)) fnExactReadWordsCard

/-- THE SECOND FORM's CARD OF 'laws.FnExactReadWords'. -/
def fnExactReadWordsUptoCard : Claim7 := { stood := { row := fnExactReadWordsUptoRow, standIns := [], harness := (true, "da8d782d446eaabddaff19437235279d022a537c43888db2211b15ceeea896c3"), looks := true }, kinds := [], alts := [], laidByText := true, laidKinds := [.data, .data, .data, .data, .sentinel, .sentinel, .data, .pinned], laidTests := true, laidLooks := .later }
def FnExactReadWordsUptoCardSaid : Prop := Claim7.holds Tryz.pinned (.plain (OpenSpec.upto fnExactReadWordsSpec)) fnExactReadWordsUptoCard
end Rows
end Go.Proofs.YtgfgondjpfnmiaaGreatDoor

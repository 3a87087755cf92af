/-
  DERIVED. GIVEN WITH THE SEED: THE CARDS: each row of YtdlbkedjkkapgaaDoorRows.lean that lists a variable, with what it lists TIED to the program's text (the seventh form; the later family's looks); each row that meets fmt, with fmt's text TOLD by the authors' own Lean function (tested against real Go, not proved from fmt's source: count such statements apart). THE CARD IS WHAT COUNTS. Prove the row's statement (the work); the ties are given (YtdlbkedjkkapgaaDoorTie.lean); close each card by the builder's one call (the guide's Derived/Test/ToyasCard.lean, 'card_holds'). Laid BY PROGRAM, IN A SANDBOX (cutbox-door.mjs). By AI agents, Wed Nov 11 2026. No macro, syntax, notation, axiom, sorry.
-/
import Derived.Test.YtdlbkedjkkapgaaDoorRows
import GoSem.ClaimSeven
namespace Go.Proofs.YtdlbkedjkkapgaaDoor
namespace Rows

/-- THE TIED CARD OF 'laws.FnExactReadRanges'. -/
def fnExactReadRangesCard : Claim7 := { stood := { row := fnExactReadRangesRow, standIns := [], harness := (true, "a1c53f2a9b756629e606cd35b6008a083d2552f75d3634ef9811feb0553f2113"), looks := true }, kinds := [], alts := [], laidByText := true, laidKinds := [.data, .data, .data, .data, .sentinel, .sentinel, .pinned], laidTests := true, laidLooks := .later }
def FnExactReadRangesCardSaid : Prop := Claim7.holds Tryd.pinned (.plain (OpenSpec.ofChange fnExactReadRangesSpec)) fnExactReadRangesCard

/-- THE SECOND FORM's CARD OF 'laws.FnExactReadRanges'. -/
def fnExactReadRangesUptoCard : Claim7 := { stood := { row := fnExactReadRangesUptoRow, standIns := [], harness := (true, "a1c53f2a9b756629e606cd35b6008a083d2552f75d3634ef9811feb0553f2113"), looks := true }, kinds := [], alts := [], laidByText := true, laidKinds := [.data, .data, .data, .data, .sentinel, .sentinel, .pinned], laidTests := true, laidLooks := .later }
def FnExactReadRangesUptoCardSaid : Prop := Claim7.holds Tryd.pinned (.plain (OpenSpec.upto fnExactReadRangesSpec)) fnExactReadRangesUptoCard
end Rows
end Go.Proofs.YtdlbkedjkkapgaaDoor

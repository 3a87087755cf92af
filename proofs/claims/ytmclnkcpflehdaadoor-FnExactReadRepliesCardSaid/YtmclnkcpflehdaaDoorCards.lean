/-
  DERIVED. GIVEN WITH THE SEED: THE CARDS: each row of YtmclnkcpflehdaaDoorRows.lean that lists a variable, with what it lists TIED to the program's text (the seventh form; the later family's looks); each row that meets fmt, with fmt's text TOLD by the authors' own Lean function (tested against real Go, not proved from fmt's source: count such statements apart). THE CARD IS WHAT COUNTS. Prove the row's statement (the work); the ties are given (YtmclnkcpflehdaaDoorTie.lean); close each card by the builder's one call (the guide's Derived/Test/ToyasCard.lean, 'card_holds'). Laid BY PROGRAM, IN A SANDBOX (cutbox-door.mjs). By AI agents, Wed Nov 11 2026. No macro, syntax, notation, axiom, sorry.
-/
import Derived.Test.YtmclnkcpflehdaaDoorRows
import GoSem.ClaimSeven
namespace Go.Proofs.YtmclnkcpflehdaaDoor
namespace Rows

/-- THE TIED CARD OF 'laws.FnExactReadReplies'. -/
def fnExactReadRepliesCard : Claim7 := { stood := { row := fnExactReadRepliesRow, standIns := [], harness := (true, "5d2350c71b5cf2ecc59f32179a82dd2633b6c5d7d52ee86bd2a1d8576014b172"), looks := true }, kinds := [], alts := [], laidByText := true, laidKinds := [.data, .data, .data, .sentinel, .sentinel], laidTests := true, laidLooks := .later }
def FnExactReadRepliesCardSaid : Prop := Claim7.holds Tryd.pinned (.plain (OpenSpec.ofChange fnExactReadRepliesSpec)) fnExactReadRepliesCard

/-- THE SECOND FORM's CARD OF 'laws.FnExactReadReplies'. -/
def fnExactReadRepliesUptoCard : Claim7 := { stood := { row := fnExactReadRepliesUptoRow, standIns := [], harness := (true, "5d2350c71b5cf2ecc59f32179a82dd2633b6c5d7d52ee86bd2a1d8576014b172"), looks := true }, kinds := [], alts := [], laidByText := true, laidKinds := [.data, .data, .data, .sentinel, .sentinel], laidTests := true, laidLooks := .later }
def FnExactReadRepliesUptoCardSaid : Prop := Claim7.holds Tryd.pinned (.plain (OpenSpec.upto fnExactReadRepliesSpec)) fnExactReadRepliesUptoCard
end Rows
end Go.Proofs.YtmclnkcpflehdaaDoor

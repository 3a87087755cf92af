/-
  DERIVED. GIVEN WITH THE SEED: THE CARDS: each row of YtpjpnjbegjiegaaDoorRows.lean that lists a variable, with what it lists TIED to the program's text (the seventh form; the later family's looks); each row that meets fmt, with fmt's text TOLD by the authors' own Lean function (tested against real Go, not proved from fmt's source: count such statements apart). THE CARD IS WHAT COUNTS. Prove the row's statement (the work); the ties are given (YtpjpnjbegjiegaaDoorTie.lean); close each card by the builder's one call (the guide's Derived/Test/ToyasCard.lean, 'card_holds'). Laid BY PROGRAM, IN A SANDBOX (cutbox-door.mjs). By AI agents, Wed Nov 11 2026. No macro, syntax, notation, axiom, sorry.
-/
import Derived.Test.YtpjpnjbegjiegaaDoorRows
import GoSem.ClaimSeven
namespace Go.Proofs.YtpjpnjbegjiegaaDoor
namespace Rows

/-- THE TIED CARD OF 'laws.FnExactContentFault'. -/
def fnExactContentFaultCard : Claim7 := { stood := { row := fnExactContentFaultRow, standIns := [], harness := (true, "991a6adae0d611ec535b958a54ce85c52749de90f09a7633aa25b80088a4df35"), looks := false }, kinds := [], alts := [], laidByText := true, laidKinds := [.data, .pinned], laidTests := true, laidLooks := .later }
def FnExactContentFaultCardSaid : Prop := Claim7.holds Tryd.pinned (.plain (OpenSpec.ofChange fnExactContentFaultSpec)) fnExactContentFaultCard

/-- THE TIED CARD OF 'laws.FnExactWriteContent'. -/
def fnExactWriteContentCard : Claim7 := { stood := { row := fnExactWriteContentRow, standIns := [], harness := (true, "991a6adae0d611ec535b958a54ce85c52749de90f09a7633aa25b80088a4df35"), looks := false }, kinds := [], alts := [], laidByText := true, laidKinds := [.data, .data, .data, .data, .pinned], laidTests := true, laidLooks := .later }
def FnExactWriteContentCardSaid : Prop := Claim7.holds Tryd.pinned (.plain (OpenSpec.ofChange fnExactWriteContentSpec)) fnExactWriteContentCard

/-- THE SECOND FORM's CARD OF 'laws.FnExactContentFault'. -/
def fnExactContentFaultUptoCard : Claim7 := { stood := { row := fnExactContentFaultUptoRow, standIns := [], harness := (true, "991a6adae0d611ec535b958a54ce85c52749de90f09a7633aa25b80088a4df35"), looks := false }, kinds := [], alts := [], laidByText := true, laidKinds := [.data, .pinned], laidTests := true, laidLooks := .later }
def FnExactContentFaultUptoCardSaid : Prop := Claim7.holds Tryd.pinned (.plain (OpenSpec.upto fnExactContentFaultSpec)) fnExactContentFaultUptoCard

/-- THE SECOND FORM's CARD OF 'laws.FnExactWriteContent'. -/
def fnExactWriteContentUptoCard : Claim7 := { stood := { row := fnExactWriteContentUptoRow, standIns := [], harness := (true, "991a6adae0d611ec535b958a54ce85c52749de90f09a7633aa25b80088a4df35"), looks := false }, kinds := [], alts := [], laidByText := true, laidKinds := [.data, .data, .data, .data, .pinned], laidTests := true, laidLooks := .later }
def FnExactWriteContentUptoCardSaid : Prop := Claim7.holds Tryd.pinned (.plain (OpenSpec.upto fnExactWriteContentSpec)) fnExactWriteContentUptoCard
end Rows
end Go.Proofs.YtpjpnjbegjiegaaDoor

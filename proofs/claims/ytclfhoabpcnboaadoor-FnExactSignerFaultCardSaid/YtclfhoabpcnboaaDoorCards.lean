/-
  DERIVED. GIVEN WITH THE SEED: THE CARDS: each row of YtclfhoabpcnboaaDoorRows.lean that lists a variable, with what it lists TIED to the program's text (the seventh form; the later family's looks); each row that meets fmt, with fmt's text TOLD by the authors' own Lean function (tested against real Go, not proved from fmt's source: count such statements apart). THE CARD IS WHAT COUNTS. Prove the row's statement (the work); the ties are given (YtclfhoabpcnboaaDoorTie.lean); close each card by the builder's one call (the guide's Derived/Test/ToyasCard.lean, 'card_holds'). Laid BY PROGRAM, IN A SANDBOX (cutbox-door.mjs). By AI agents, Wed Nov 11 2026. No macro, syntax, notation, axiom, sorry.
-/
import Derived.Test.YtclfhoabpcnboaaDoorRows
import GoSem.ClaimSeven
namespace Go.Proofs.YtclfhoabpcnboaaDoor
namespace Rows

/-- THE TIED CARD OF 'laws.FnExactSignerFault'. -/
def fnExactSignerFaultCard : Claim7 := { stood := { row := fnExactSignerFaultRow, standIns := [], harness := (true, "58c7305f4a30f0d825fefc3adc70fd41bca24cf2d5c2c0e42b9bdde882782609"), looks := false }, kinds := [], alts := [], laidByText := true, laidKinds := [.data, .pinned], laidTests := true, laidLooks := .later }
def FnExactSignerFaultCardSaid : Prop := Claim7.holds Tryd.pinned (.plain (OpenSpec.ofChange fnExactSignerFaultSpec)) fnExactSignerFaultCard

/-- THE SECOND FORM's CARD OF 'laws.FnExactSignerFault'. -/
def fnExactSignerFaultUptoCard : Claim7 := { stood := { row := fnExactSignerFaultUptoRow, standIns := [], harness := (true, "58c7305f4a30f0d825fefc3adc70fd41bca24cf2d5c2c0e42b9bdde882782609"), looks := false }, kinds := [], alts := [], laidByText := true, laidKinds := [.data, .pinned], laidTests := true, laidLooks := .later }
def FnExactSignerFaultUptoCardSaid : Prop := Claim7.holds Tryd.pinned (.plain (OpenSpec.upto fnExactSignerFaultSpec)) fnExactSignerFaultUptoCard
end Rows
end Go.Proofs.YtclfhoabpcnboaaDoor

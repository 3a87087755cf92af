/-
  DERIVED. GIVEN WITH THE SEED: THE CARDS: each row of YthgjflgidalmlaaDoorRows.lean that lists a variable, with what it lists TIED to the program's text (the seventh form; the later family's looks); each row that meets fmt, with fmt's text TOLD by the authors' own Lean function (tested against real Go, not proved from fmt's source: count such statements apart). THE CARD IS WHAT COUNTS. Prove the row's statement (the work); the ties are given (YthgjflgidalmlaaDoorTie.lean); close each card by the builder's one call (the guide's Derived/Test/ToyasCard.lean, 'card_holds'). Laid BY PROGRAM, IN A SANDBOX (cutbox-door.mjs). By AI agents, Wed Nov 11 2026. No macro, syntax, notation, axiom, sorry.
-/
import Derived.Test.YthgjflgidalmlaaDoorRows
import GoSem.ClaimSeven
namespace Go.Proofs.YthgjflgidalmlaaDoor
namespace Rows

/-- THE TIED CARD OF 'laws.FnExactClientText'. -/
def fnExactClientTextCard : Claim7 := { stood := { row := fnExactClientTextRow, standIns := [], harness := (true, "2c4db007eb39570c08b6b131699f99929334976afecdfca63340aa53d25cb4ef"), looks := false }, kinds := [], alts := [], laidByText := true, laidKinds := [.data, .pinned], laidTests := true, laidLooks := .later }
def FnExactClientTextCardSaid : Prop := Claim7.holds Tryd.pinned (.plain (OpenSpec.ofChange fnExactClientTextSpec)) fnExactClientTextCard

/-- THE SECOND FORM's CARD OF 'laws.FnExactClientText'. -/
def fnExactClientTextUptoCard : Claim7 := { stood := { row := fnExactClientTextUptoRow, standIns := [], harness := (true, "2c4db007eb39570c08b6b131699f99929334976afecdfca63340aa53d25cb4ef"), looks := false }, kinds := [], alts := [], laidByText := true, laidKinds := [.data, .pinned], laidTests := true, laidLooks := .later }
def FnExactClientTextUptoCardSaid : Prop := Claim7.holds Tryd.pinned (.plain (OpenSpec.upto fnExactClientTextSpec)) fnExactClientTextUptoCard
end Rows
end Go.Proofs.YthgjflgidalmlaaDoor

/-
  DERIVED. GIVEN WITH THE SEED: THE CARDS: each row of YtbknckieodpjaaaDoorRows.lean that lists a variable, with what it lists TIED to the program's text (the seventh form; the later family's looks); each row that meets fmt, with fmt's text TOLD by the authors' own Lean function (tested against real Go, not proved from fmt's source: count such statements apart). THE CARD IS WHAT COUNTS. Prove the row's statement (the work); the ties are given (YtbknckieodpjaaaDoorTie.lean); close each card by the builder's one call (the guide's Derived/Test/ToyasCard.lean, 'card_holds'). Laid BY PROGRAM, IN A SANDBOX (cutbox-door.mjs). By AI agents, Wed Nov 11 2026. No macro, syntax, notation, axiom, sorry.
-/
import Derived.Test.YtbknckieodpjaaaDoorRows
import GoSem.ClaimSeven
namespace Go.Proofs.YtbknckieodpjaaaDoor
namespace Rows

/-- THE TIED CARD OF 'laws.FnExactWriteDate'. -/
def fnExactWriteDateCard : Claim7 := { stood := { row := fnExactWriteDateRow, standIns := [], harness := (true, "f49a0ec5c02aef9d8df36809997ce65624b59c03e97f611b4a7051f82a23e5d4"), looks := false }, kinds := [], alts := [], laidByText := true, laidKinds := [.data, .data, .data, .data, .data], laidTests := true, laidLooks := .later }
def FnExactWriteDateCardSaid : Prop := Claim7.holds Tryd.pinned (.plain (OpenSpec.ofChange fnExactWriteDateSpec)) fnExactWriteDateCard

/-- THE TIED CARD OF 'laws.FnExactWriteStamp'. -/
def fnExactWriteStampCard : Claim7 := { stood := { row := fnExactWriteStampRow, standIns := [], harness := (true, "f49a0ec5c02aef9d8df36809997ce65624b59c03e97f611b4a7051f82a23e5d4"), looks := false }, kinds := [], alts := [], laidByText := true, laidKinds := [.data, .data, .data, .data], laidTests := true, laidLooks := .later }
def FnExactWriteStampCardSaid : Prop := Claim7.holds Tryd.pinned (.plain (OpenSpec.ofChange fnExactWriteStampSpec)) fnExactWriteStampCard

/-- THE SECOND FORM's CARD OF 'laws.FnExactWriteDate'. -/
def fnExactWriteDateUptoCard : Claim7 := { stood := { row := fnExactWriteDateUptoRow, standIns := [], harness := (true, "f49a0ec5c02aef9d8df36809997ce65624b59c03e97f611b4a7051f82a23e5d4"), looks := false }, kinds := [], alts := [], laidByText := true, laidKinds := [.data, .data, .data, .data, .data], laidTests := true, laidLooks := .later }
def FnExactWriteDateUptoCardSaid : Prop := Claim7.holds Tryd.pinned (.plain (OpenSpec.upto fnExactWriteDateSpec)) fnExactWriteDateUptoCard

/-- THE SECOND FORM's CARD OF 'laws.FnExactWriteStamp'. -/
def fnExactWriteStampUptoCard : Claim7 := { stood := { row := fnExactWriteStampUptoRow, standIns := [], harness := (true, "f49a0ec5c02aef9d8df36809997ce65624b59c03e97f611b4a7051f82a23e5d4"), looks := false }, kinds := [], alts := [], laidByText := true, laidKinds := [.data, .data, .data, .data], laidTests := true, laidLooks := .later }
def FnExactWriteStampUptoCardSaid : Prop := Claim7.holds Tryd.pinned (.plain (OpenSpec.upto fnExactWriteStampSpec)) fnExactWriteStampUptoCard
end Rows
end Go.Proofs.YtbknckieodpjaaaDoor

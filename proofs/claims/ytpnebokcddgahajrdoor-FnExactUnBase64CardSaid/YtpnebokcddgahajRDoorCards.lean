/-
  DERIVED. GIVEN WITH THE SEED: THE CARDS: each row of YtpnebokcddgahajRDoorRows.lean that lists a variable, with what it lists TIED to the program's text (the seventh form; the later family's looks); each row that meets fmt, with fmt's text TOLD by the authors' own Lean function (tested against real Go, not proved from fmt's source: count such statements apart). THE CARD IS WHAT COUNTS. Prove the row's statement (the work); the ties are given (YtpnebokcddgahajRDoorTie.lean); close each card by the builder's one call (the guide's Derived/Test/ToyasCard.lean, 'card_holds'). Laid BY PROGRAM, IN A SANDBOX (cutbox-door.mjs). By AI agents, Wed Nov 11 2026. No macro, syntax, notation, axiom, sorry.
-/
import Derived.Test.YtpnebokcddgahajRDoorRows
import GoSem.ClaimSeven
namespace Go.Proofs.YtpnebokcddgahajRDoor
namespace Rows

/-- THE TIED CARD OF 'laws.FnExactUnBase64'. -/
def fnExactUnBase64Card : Claim7 := { stood := { row := fnExactUnBase64Row, standIns := [], harness := (true, "a4d8e40253f39e3d212922f659426c77026fbea030e546a0189259652806e541"), looks := true }, kinds := [], alts := [], laidByText := true, laidKinds := [.data, .pinned], laidTests := true, laidLooks := .later }
def FnExactUnBase64CardSaid : Prop := Claim7.holds Tryd.pinned (.plain (OpenSpec.ofChange fnExactUnBase64Spec)) fnExactUnBase64Card

/-- THE TIED CARD OF 'laws.FnExactUnQuoted'. -/
def fnExactUnQuotedCard : Claim7 := { stood := { row := fnExactUnQuotedRow, standIns := [], harness := (true, "a4d8e40253f39e3d212922f659426c77026fbea030e546a0189259652806e541"), looks := true }, kinds := [], alts := [], laidByText := true, laidKinds := [.data, .data, .data, .data, .sentinel, .sentinel, .pinned], laidTests := true, laidLooks := .later }
def FnExactUnQuotedCardSaid : Prop := Claim7.holds Tryd.pinned (.plain (OpenSpec.ofChange fnExactUnQuotedSpec)) fnExactUnQuotedCard

/-- THE TIED CARD OF 'laws.FnExactCharsetOf'. -/
def fnExactCharsetOfCard : Claim7 := { stood := { row := fnExactCharsetOfRow, standIns := [], harness := (true, "a4d8e40253f39e3d212922f659426c77026fbea030e546a0189259652806e541"), looks := true }, kinds := [], alts := [], laidByText := true, laidKinds := [.data], laidTests := true, laidLooks := .later }
def FnExactCharsetOfCardSaid : Prop := Claim7.holds Tryd.pinned (.plain (OpenSpec.ofChange fnExactCharsetOfSpec)) fnExactCharsetOfCard

/-- THE TIED CARD OF 'laws.FnExactCharsetName'. -/
def fnExactCharsetNameCard : Claim7 := { stood := { row := fnExactCharsetNameRow, standIns := [], harness := (true, "a4d8e40253f39e3d212922f659426c77026fbea030e546a0189259652806e541"), looks := true }, kinds := [], alts := [], laidByText := true, laidKinds := [.data], laidTests := true, laidLooks := .later }
def FnExactCharsetNameCardSaid : Prop := Claim7.holds Tryd.pinned (.plain (OpenSpec.ofChange fnExactCharsetNameSpec)) fnExactCharsetNameCard

/-- THE SECOND FORM's CARD OF 'laws.FnExactUnBase64'. -/
def fnExactUnBase64UptoCard : Claim7 := { stood := { row := fnExactUnBase64UptoRow, standIns := [], harness := (true, "a4d8e40253f39e3d212922f659426c77026fbea030e546a0189259652806e541"), looks := true }, kinds := [], alts := [], laidByText := true, laidKinds := [.data, .pinned], laidTests := true, laidLooks := .later }
def FnExactUnBase64UptoCardSaid : Prop := Claim7.holds Tryd.pinned (.plain (OpenSpec.upto fnExactUnBase64Spec)) fnExactUnBase64UptoCard

/-- THE SECOND FORM's CARD OF 'laws.FnExactUnQuoted'. -/
def fnExactUnQuotedUptoCard : Claim7 := { stood := { row := fnExactUnQuotedUptoRow, standIns := [], harness := (true, "a4d8e40253f39e3d212922f659426c77026fbea030e546a0189259652806e541"), looks := true }, kinds := [], alts := [], laidByText := true, laidKinds := [.data, .data, .data, .data, .sentinel, .sentinel, .pinned], laidTests := true, laidLooks := .later }
def FnExactUnQuotedUptoCardSaid : Prop := Claim7.holds Tryd.pinned (.plain (OpenSpec.upto fnExactUnQuotedSpec)) fnExactUnQuotedUptoCard

/-- THE SECOND FORM's CARD OF 'laws.FnExactCharsetOf'. -/
def fnExactCharsetOfUptoCard : Claim7 := { stood := { row := fnExactCharsetOfUptoRow, standIns := [], harness := (true, "a4d8e40253f39e3d212922f659426c77026fbea030e546a0189259652806e541"), looks := true }, kinds := [], alts := [], laidByText := true, laidKinds := [.data], laidTests := true, laidLooks := .later }
def FnExactCharsetOfUptoCardSaid : Prop := Claim7.holds Tryd.pinned (.plain (OpenSpec.upto fnExactCharsetOfSpec)) fnExactCharsetOfUptoCard

/-- THE SECOND FORM's CARD OF 'laws.FnExactCharsetName'. -/
def fnExactCharsetNameUptoCard : Claim7 := { stood := { row := fnExactCharsetNameUptoRow, standIns := [], harness := (true, "a4d8e40253f39e3d212922f659426c77026fbea030e546a0189259652806e541"), looks := true }, kinds := [], alts := [], laidByText := true, laidKinds := [.data], laidTests := true, laidLooks := .later }
def FnExactCharsetNameUptoCardSaid : Prop := Claim7.holds Tryd.pinned (.plain (OpenSpec.upto fnExactCharsetNameSpec)) fnExactCharsetNameUptoCard
end Rows
end Go.Proofs.YtpnebokcddgahajRDoor

/-
  DERIVED. GIVEN WITH THE SEED: THE CARDS: each row of YtpnebokcddgahaiDoorRows.lean that lists a variable, with what it lists TIED to the program's text (the seventh form; the later family's looks); each row that meets fmt, with fmt's text TOLD by the authors' own Lean function (tested against real Go, not proved from fmt's source: count such statements apart). THE CARD IS WHAT COUNTS. Prove the row's statement (the work); the ties are given (YtpnebokcddgahaiDoorTie.lean); close each card by the builder's one call (the guide's Derived/Test/ToyasCard.lean, 'card_holds'). Laid BY PROGRAM, IN A SANDBOX (cutbox-door.mjs). By AI agents, Wed Nov 11 2026. No macro, syntax, notation, axiom, sorry.
-/
import Derived.Test.YtpnebokcddgahaiDoorRows
import GoSem.ClaimSeven
namespace Go.Proofs.YtpnebokcddgahaiDoor
namespace Rows

/-- THE TIED CARD OF 'laws.FnExactBase64'. -/
def fnExactBase64Card : Claim7 := { stood := { row := fnExactBase64Row, standIns := [], harness := (true, "7834cde684af645e01cd47c05d42420a4bcc17bb6e5cd052f91fd5af423dce26"), looks := false }, kinds := [], alts := [], laidByText := true, laidKinds := [.data], laidTests := true, laidLooks := .later }
def FnExactBase64CardSaid : Prop := Claim7.holds Tryd.pinned (.plain (OpenSpec.ofChange fnExactBase64Spec)) fnExactBase64Card

/-- THE SECOND FORM's CARD OF 'laws.FnExactBase64'. -/
def fnExactBase64UptoCard : Claim7 := { stood := { row := fnExactBase64UptoRow, standIns := [], harness := (true, "7834cde684af645e01cd47c05d42420a4bcc17bb6e5cd052f91fd5af423dce26"), looks := false }, kinds := [], alts := [], laidByText := true, laidKinds := [.data], laidTests := true, laidLooks := .later }
def FnExactBase64UptoCardSaid : Prop := Claim7.holds Tryd.pinned (.plain (OpenSpec.upto fnExactBase64Spec)) fnExactBase64UptoCard
end Rows
end Go.Proofs.YtpnebokcddgahaiDoor

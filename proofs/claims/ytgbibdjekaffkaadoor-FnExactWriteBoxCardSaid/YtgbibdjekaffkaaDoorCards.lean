/-
  DERIVED. GIVEN WITH THE SEED: THE CARDS: each row of YtgbibdjekaffkaaDoorRows.lean that lists a variable, with what it lists TIED to the program's text (the seventh form; the later family's looks); each row that meets fmt, with fmt's text TOLD by the authors' own Lean function (tested against real Go, not proved from fmt's source: count such statements apart). THE CARD IS WHAT COUNTS. Prove the row's statement (the work); the ties are given (YtgbibdjekaffkaaDoorTie.lean); close each card by the builder's one call (the guide's Derived/Test/ToyasCard.lean, 'card_holds'). Laid BY PROGRAM, IN A SANDBOX (cutbox-door.mjs). By AI agents, Wed Nov 11 2026. No macro, syntax, notation, axiom, sorry.
-/
import Derived.Test.YtgbibdjekaffkaaDoorRows
import GoSem.ClaimSeven
namespace Go.Proofs.YtgbibdjekaffkaaDoor
namespace Rows

/-- THE TIED CARD OF 'laws.FnExactPhrase'. -/
def fnExactPhraseCard : Claim7 := { stood := { row := fnExactPhraseRow, standIns := [], harness := (true, "3f55aa58dc35878d4019642cf43af42687aa1d864515e73fb64c2918ca1f1ea5"), looks := false }, kinds := [], alts := [], laidByText := true, laidKinds := [.data, .pinned], laidTests := true, laidLooks := .later }
def FnExactPhraseCardSaid : Prop := Claim7.holds Tryd.pinned (.plain (OpenSpec.ofChange fnExactPhraseSpec)) fnExactPhraseCard

/-- THE TIED CARD OF 'laws.FnExactDomainFault'. -/
def fnExactDomainFaultCard : Claim7 := { stood := { row := fnExactDomainFaultRow, standIns := [], harness := (true, "3f55aa58dc35878d4019642cf43af42687aa1d864515e73fb64c2918ca1f1ea5"), looks := false }, kinds := [], alts := [], laidByText := true, laidKinds := [.data, .pinned], laidTests := true, laidLooks := .later }
def FnExactDomainFaultCardSaid : Prop := Claim7.holds Tryd.pinned (.plain (OpenSpec.ofChange fnExactDomainFaultSpec)) fnExactDomainFaultCard

/-- THE TIED CARD OF 'laws.FnExactAddressFault'. -/
def fnExactAddressFaultCard : Claim7 := { stood := { row := fnExactAddressFaultRow, standIns := [], harness := (true, "3f55aa58dc35878d4019642cf43af42687aa1d864515e73fb64c2918ca1f1ea5"), looks := false }, kinds := [], alts := [], laidByText := true, laidKinds := [.data, .pinned], laidTests := true, laidLooks := .later }
def FnExactAddressFaultCardSaid : Prop := Claim7.holds Tryd.pinned (.plain (OpenSpec.ofChange fnExactAddressFaultSpec)) fnExactAddressFaultCard

/-- THE TIED CARD OF 'laws.FnExactWriteBox'. -/
def fnExactWriteBoxCard : Claim7 := { stood := { row := fnExactWriteBoxRow, standIns := [], harness := (true, "3f55aa58dc35878d4019642cf43af42687aa1d864515e73fb64c2918ca1f1ea5"), looks := false }, kinds := [], alts := [], laidByText := true, laidKinds := [.data, .pinned], laidTests := true, laidLooks := .later }
def FnExactWriteBoxCardSaid : Prop := Claim7.holds Tryd.pinned (.plain (OpenSpec.ofChange fnExactWriteBoxSpec)) fnExactWriteBoxCard

/-- THE TIED CARD OF 'laws.FnExactAddressKey'. -/
def fnExactAddressKeyCard : Claim7 := { stood := { row := fnExactAddressKeyRow, standIns := [], harness := (true, "3f55aa58dc35878d4019642cf43af42687aa1d864515e73fb64c2918ca1f1ea5"), looks := false }, kinds := [], alts := [], laidByText := true, laidKinds := [.data, .pinned], laidTests := true, laidLooks := .later }
def FnExactAddressKeyCardSaid : Prop := Claim7.holds Tryd.pinned (.plain (OpenSpec.ofChange fnExactAddressKeySpec)) fnExactAddressKeyCard

/-- THE SECOND FORM's CARD OF 'laws.FnExactPhrase'. -/
def fnExactPhraseUptoCard : Claim7 := { stood := { row := fnExactPhraseUptoRow, standIns := [], harness := (true, "3f55aa58dc35878d4019642cf43af42687aa1d864515e73fb64c2918ca1f1ea5"), looks := false }, kinds := [], alts := [], laidByText := true, laidKinds := [.data, .pinned], laidTests := true, laidLooks := .later }
def FnExactPhraseUptoCardSaid : Prop := Claim7.holds Tryd.pinned (.plain (OpenSpec.upto fnExactPhraseSpec)) fnExactPhraseUptoCard

/-- THE SECOND FORM's CARD OF 'laws.FnExactDomainFault'. -/
def fnExactDomainFaultUptoCard : Claim7 := { stood := { row := fnExactDomainFaultUptoRow, standIns := [], harness := (true, "3f55aa58dc35878d4019642cf43af42687aa1d864515e73fb64c2918ca1f1ea5"), looks := false }, kinds := [], alts := [], laidByText := true, laidKinds := [.data, .pinned], laidTests := true, laidLooks := .later }
def FnExactDomainFaultUptoCardSaid : Prop := Claim7.holds Tryd.pinned (.plain (OpenSpec.upto fnExactDomainFaultSpec)) fnExactDomainFaultUptoCard

/-- THE SECOND FORM's CARD OF 'laws.FnExactAddressFault'. -/
def fnExactAddressFaultUptoCard : Claim7 := { stood := { row := fnExactAddressFaultUptoRow, standIns := [], harness := (true, "3f55aa58dc35878d4019642cf43af42687aa1d864515e73fb64c2918ca1f1ea5"), looks := false }, kinds := [], alts := [], laidByText := true, laidKinds := [.data, .pinned], laidTests := true, laidLooks := .later }
def FnExactAddressFaultUptoCardSaid : Prop := Claim7.holds Tryd.pinned (.plain (OpenSpec.upto fnExactAddressFaultSpec)) fnExactAddressFaultUptoCard

/-- THE SECOND FORM's CARD OF 'laws.FnExactWriteBox'. -/
def fnExactWriteBoxUptoCard : Claim7 := { stood := { row := fnExactWriteBoxUptoRow, standIns := [], harness := (true, "3f55aa58dc35878d4019642cf43af42687aa1d864515e73fb64c2918ca1f1ea5"), looks := false }, kinds := [], alts := [], laidByText := true, laidKinds := [.data, .pinned], laidTests := true, laidLooks := .later }
def FnExactWriteBoxUptoCardSaid : Prop := Claim7.holds Tryd.pinned (.plain (OpenSpec.upto fnExactWriteBoxSpec)) fnExactWriteBoxUptoCard

/-- THE SECOND FORM's CARD OF 'laws.FnExactAddressKey'. -/
def fnExactAddressKeyUptoCard : Claim7 := { stood := { row := fnExactAddressKeyUptoRow, standIns := [], harness := (true, "3f55aa58dc35878d4019642cf43af42687aa1d864515e73fb64c2918ca1f1ea5"), looks := false }, kinds := [], alts := [], laidByText := true, laidKinds := [.data, .pinned], laidTests := true, laidLooks := .later }
def FnExactAddressKeyUptoCardSaid : Prop := Claim7.holds Tryd.pinned (.plain (OpenSpec.upto fnExactAddressKeySpec)) fnExactAddressKeyUptoCard
end Rows
end Go.Proofs.YtgbibdjekaffkaaDoor

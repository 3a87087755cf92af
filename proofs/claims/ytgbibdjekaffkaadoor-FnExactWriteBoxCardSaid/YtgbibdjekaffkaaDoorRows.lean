/-
  NARROWER THAN 'FOR EVERY INPUT', by the rows' own cells (each row's printed sentence says how): FnExactPhrase: laid · FnExactDomainFault: laid · FnExactAddressFault: laid · FnExactWriteBox: laid · FnExactAddressKey: laid.
  DERIVED. THE GIVEN ROWS OF THIS SEAT. 5 by the template 'for every input the law returns true; each argument reads behind the call as it read before'; 0 by the template 'total and deterministic' (their statements: YtgbibdjekaffkaaDoorTotals.lean).
  GIVEN WITH THE SEED: the statements are not yours to turn. If you find one false, say at which input.
  Laid BY PROGRAM, IN A SANDBOX (cutbox-rows.mjs): the forced cells as the released guide's own fill.sh prints them over the translation 804a74ff5d8662af… (all of the seat's roots in one cut). By AI agents, Wed Nov 11 2026. No macro, syntax, notation, axiom, sorry.
-/
import Derived.Test.YtgbibdjekaffkaaDoorChecked
import GoSem.PinnedTables
import GoSem.Claim
import GoSem.ClaimJoined
import GoSem.ClaimMapViews
import Derived.JoinedTies
import Derived.KernelRfl
namespace Go.Proofs.YtgbibdjekaffkaaDoor
/- THE CELL 'sum', in the pinned program and in every row, IS THE sha256 OF THE DUMP (.gsa) THAT YtgbibdjekaffkaaDoorProg.lean LOADS. Nothing in Lean hashes anything: it is a label: what it is worth is what the hold of that sum in a sandbox is worth. -/
noncomputable def Tryd.pinned : Pinned := { name := "ytgbibdjekaffkaadoor", sum := "804a74ff5d8662af0bba4a0b57ca6660fc19aff67ba8636433f559f883589844", checked := Tryd.checked }
namespace Rows
def none {H : Type} : Left H := { results := [], args := [] }

/- WHAT THE LISTED PACKAGE-LEVEL VARIABLES READ AS WHEN THE CALL BEGINS. Each datum BY PROGRAM (the guide's laid-datum.mjs) off the statement by which the dump's own 'gosem.cut.vars' lays the variable. In a bare row this is a premise. The card (YtgbibdjekaffkaaDoorCards.lean) ties it to the program's text. -/
def laid_unicode_utf8_acceptRanges {H : Type} : DataW H := .agg [.agg [.lit (.int .u8 128), .lit (.int .u8 191)], .agg [.lit (.int .u8 160), .lit (.int .u8 191)], .agg [.lit (.int .u8 128), .lit (.int .u8 159)], .agg [.lit (.int .u8 144), .lit (.int .u8 191)], .agg [.lit (.int .u8 128), .lit (.int .u8 143)], .agg [.lit (.int .u8 0), .lit (.int .u8 0)], .agg [.lit (.int .u8 0), .lit (.int .u8 0)], .agg [.lit (.int .u8 0), .lit (.int .u8 0)], .agg [.lit (.int .u8 0), .lit (.int .u8 0)], .agg [.lit (.int .u8 0), .lit (.int .u8 0)], .agg [.lit (.int .u8 0), .lit (.int .u8 0)], .agg [.lit (.int .u8 0), .lit (.int .u8 0)], .agg [.lit (.int .u8 0), .lit (.int .u8 0)], .agg [.lit (.int .u8 0), .lit (.int .u8 0)], .agg [.lit (.int .u8 0), .lit (.int .u8 0)], .agg [.lit (.int .u8 0), .lit (.int .u8 0)]]
/-- One of Go's own tables, pinned by name: the form's constant. -/
def laid_unicode_utf8_first : DataW Unit := Go.Pinned.utf8First

/-- 'laws.FnExactPhrase': WHATEVER THE INPUT: true; the input reads as it did. -/
def fnExactPhraseSpec : ChangeSpec := { name := "fnExactPhrase", fn := fun _ => fun
  | [d] => { results := [.lit (.bool true)], args := [d] }
  | _ => none }
def fnExactPhraseRow : OpenClaim := { program := "ytgbibdjekaffkaadoor", sum := "804a74ff5d8662af0bba4a0b57ca6660fc19aff67ba8636433f559f883589844", func := "loop.example/g00013/laws.FnExactPhrase", spec := "fnExactPhrase", inPlace := ["internal/bytealg.CountString", "internal/bytealg.IndexByteString", "internal/bytealg.IndexString"], unfollowed := true, recurses := true, named := ["unicode/utf8.first", "unicode/utf8.acceptRanges", "internal/bytealg.MaxLen"], apart := false, laid := [("unicode/utf8.acceptRanges", laid_unicode_utf8_acceptRanges), ("unicode/utf8.first", laid_unicode_utf8_first)] }
def FnExactPhraseSaid : Prop := fnExactPhraseRow.holds Tryd.pinned (OpenSpec.ofChange fnExactPhraseSpec)

/-- ITS FALSE NEIGHBOUR: 'it returns false'. Refute it at one input. -/
def fnExactPhraseWrong : ChangeSpec := { name := "fnExactPhrase", fn := fun _ => fun
  | [d] => { results := [.lit (.bool false)], args := [d] }
  | _ => none }
def FnExactPhraseWrongFalsely : Prop := fnExactPhraseRow.holds Tryd.pinned (OpenSpec.ofChange fnExactPhraseWrong)

/-- 'laws.FnExactDomainFault': WHATEVER THE INPUT: true; the input reads as it did. -/
def fnExactDomainFaultSpec : ChangeSpec := { name := "fnExactDomainFault", fn := fun _ => fun
  | [d] => { results := [.lit (.bool true)], args := [d] }
  | _ => none }
def fnExactDomainFaultRow : OpenClaim := { program := "ytgbibdjekaffkaadoor", sum := "804a74ff5d8662af0bba4a0b57ca6660fc19aff67ba8636433f559f883589844", func := "loop.example/g00013/laws.FnExactDomainFault", spec := "fnExactDomainFault", inPlace := ["internal/bytealg.CountString", "internal/bytealg.IndexByteString", "internal/bytealg.IndexString"], unfollowed := true, recurses := true, named := ["unicode/utf8.first", "unicode/utf8.acceptRanges", "internal/bytealg.MaxLen"], apart := false, laid := [("unicode/utf8.acceptRanges", laid_unicode_utf8_acceptRanges), ("unicode/utf8.first", laid_unicode_utf8_first)] }
def FnExactDomainFaultSaid : Prop := fnExactDomainFaultRow.holds Tryd.pinned (OpenSpec.ofChange fnExactDomainFaultSpec)

/-- ITS FALSE NEIGHBOUR: 'it returns false'. Refute it at one input. -/
def fnExactDomainFaultWrong : ChangeSpec := { name := "fnExactDomainFault", fn := fun _ => fun
  | [d] => { results := [.lit (.bool false)], args := [d] }
  | _ => none }
def FnExactDomainFaultWrongFalsely : Prop := fnExactDomainFaultRow.holds Tryd.pinned (OpenSpec.ofChange fnExactDomainFaultWrong)

/-- 'laws.FnExactAddressFault': WHATEVER THE INPUT: true; the input reads as it did. -/
def fnExactAddressFaultSpec : ChangeSpec := { name := "fnExactAddressFault", fn := fun _ => fun
  | [d] => { results := [.lit (.bool true)], args := [d] }
  | _ => none }
def fnExactAddressFaultRow : OpenClaim := { program := "ytgbibdjekaffkaadoor", sum := "804a74ff5d8662af0bba4a0b57ca6660fc19aff67ba8636433f559f883589844", func := "loop.example/g00013/laws.FnExactAddressFault", spec := "fnExactAddressFault", inPlace := ["internal/bytealg.CountString", "internal/bytealg.IndexByteString", "internal/bytealg.IndexString"], unfollowed := true, recurses := true, named := ["unicode/utf8.first", "unicode/utf8.acceptRanges", "internal/bytealg.MaxLen"], apart := false, laid := [("unicode/utf8.acceptRanges", laid_unicode_utf8_acceptRanges), ("unicode/utf8.first", laid_unicode_utf8_first)] }
def FnExactAddressFaultSaid : Prop := fnExactAddressFaultRow.holds Tryd.pinned (OpenSpec.ofChange fnExactAddressFaultSpec)

/-- ITS FALSE NEIGHBOUR: 'it returns false'. Refute it at one input. -/
def fnExactAddressFaultWrong : ChangeSpec := { name := "fnExactAddressFault", fn := fun _ => fun
  | [d] => { results := [.lit (.bool false)], args := [d] }
  | _ => none }
def FnExactAddressFaultWrongFalsely : Prop := fnExactAddressFaultRow.holds Tryd.pinned (OpenSpec.ofChange fnExactAddressFaultWrong)

/-- 'laws.FnExactWriteBox': WHATEVER THE INPUT: true; the input reads as it did. -/
def fnExactWriteBoxSpec : ChangeSpec := { name := "fnExactWriteBox", fn := fun _ => fun
  | [d] => { results := [.lit (.bool true)], args := [d] }
  | _ => none }
def fnExactWriteBoxRow : OpenClaim := { program := "ytgbibdjekaffkaadoor", sum := "804a74ff5d8662af0bba4a0b57ca6660fc19aff67ba8636433f559f883589844", func := "loop.example/g00013/laws.FnExactWriteBox", spec := "fnExactWriteBox", inPlace := ["internal/bytealg.CountString", "internal/bytealg.IndexByteString", "internal/bytealg.IndexString"], unfollowed := true, recurses := true, named := ["unicode/utf8.first", "unicode/utf8.acceptRanges", "internal/bytealg.MaxLen"], apart := false, laid := [("unicode/utf8.acceptRanges", laid_unicode_utf8_acceptRanges), ("unicode/utf8.first", laid_unicode_utf8_first)] }
def FnExactWriteBoxSaid : Prop := fnExactWriteBoxRow.holds Tryd.pinned (OpenSpec.ofChange fnExactWriteBoxSpec)

/-- ITS FALSE NEIGHBOUR: 'it returns false'. Refute it at one input. -/
def fnExactWriteBoxWrong : ChangeSpec := { name := "fnExactWriteBox", fn := fun _ => fun
  | [d] => { results := [.lit (.bool false)], args := [d] }
  | _ => none }
def FnExactWriteBoxWrongFalsely : Prop := fnExactWriteBoxRow.holds Tryd.pinned (OpenSpec.ofChange fnExactWriteBoxWrong)

/-- 'laws.FnExactAddressKey': WHATEVER THE INPUT: true; the input reads as it did. -/
def fnExactAddressKeySpec : ChangeSpec := { name := "fnExactAddressKey", fn := fun _ => fun
  | [d] => { results := [.lit (.bool true)], args := [d] }
  | _ => none }
def fnExactAddressKeyRow : OpenClaim := { program := "ytgbibdjekaffkaadoor", sum := "804a74ff5d8662af0bba4a0b57ca6660fc19aff67ba8636433f559f883589844", func := "loop.example/g00013/laws.FnExactAddressKey", spec := "fnExactAddressKey", inPlace := ["internal/bytealg.CountString", "internal/bytealg.IndexByteString", "internal/bytealg.IndexString"], unfollowed := true, recurses := true, named := ["unicode/utf8.first", "unicode/utf8.acceptRanges", "internal/bytealg.MaxLen"], apart := false, laid := [("unicode/utf8.acceptRanges", laid_unicode_utf8_acceptRanges), ("unicode/utf8.first", laid_unicode_utf8_first)] }
def FnExactAddressKeySaid : Prop := fnExactAddressKeyRow.holds Tryd.pinned (OpenSpec.ofChange fnExactAddressKeySpec)

/-- ITS FALSE NEIGHBOUR: 'it returns false'. Refute it at one input. -/
def fnExactAddressKeyWrong : ChangeSpec := { name := "fnExactAddressKey", fn := fun _ => fun
  | [d] => { results := [.lit (.bool false)], args := [d] }
  | _ => none }
def FnExactAddressKeyWrongFalsely : Prop := fnExactAddressKeyRow.holds Tryd.pinned (OpenSpec.ofChange fnExactAddressKeyWrong)

/- THE SECOND FORM. 'bulk': how many values and letters a reading holds, each counted each time it is reached (what is shared counts as often as it is met; a slice's spare places count too). A statement '..UptoSaid' is the law's where the arguments, and the package variables that the reading takes, are together of bulk at most 1048576: NARROWER than '..Said'. Prove '..Said' where nothing that the law and all that it calls make is longer than what came in: it says more and counts as full. Else prove '..UptoSaid'. A law counts once. -/
mutual
def uptoBulk {H : Type} : DataW H → Nat
  | .lit (.string bytes) => bytes.length + 1
  | .lit _ => 1
  | .nil => 1
  | .ptr d => uptoBulk d + 1
  | .slice elems spare => uptoBulkAll elems + uptoBulkAll spare + 1
  | .agg parts => uptoBulkAll parts + 1
  | .iface _ d => uptoBulk d + 1
  | .map entries => uptoBulkEntries entries + 1
  | .held _ => 1
def uptoBulkAll {H : Type} : List (DataW H) → Nat
  | [] => 0
  | d :: r => uptoBulk d + uptoBulkAll r
def uptoBulkEntries {H : Type} : List (Lit × DataW H) → Nat
  | [] => 0
  | x :: r => uptoBulkEntry x + uptoBulkEntries r
def uptoBulkEntry {H : Type} : Lit × DataW H → Nat
  | (.string bytes, d) => bytes.length + uptoBulk d + 1
  | (_, d) => uptoBulk d + 1
 end
def uptoSmall : (H : Type) → List (DataW H) → Bool := fun _ ds => decide (uptoBulkAll ds ≤ 1048576)
def OpenSpec.upto (s : _root_.Go.ChangeSpec) : _root_.Go.OpenSpec := { _root_.Go.OpenSpec.ofChange s with cond := some uptoSmall }

/-- 'laws.FnExactPhrase', WHERE WHAT IT READS IS OF BULK AT MOST 1048576: true; the input reads as it did. -/
def fnExactPhraseUptoRow : OpenClaim := { program := "ytgbibdjekaffkaadoor", sum := "804a74ff5d8662af0bba4a0b57ca6660fc19aff67ba8636433f559f883589844", func := "loop.example/g00013/laws.FnExactPhrase", spec := "fnExactPhrase", inPlace := ["internal/bytealg.CountString", "internal/bytealg.IndexByteString", "internal/bytealg.IndexString"], unfollowed := true, recurses := true, named := ["unicode/utf8.first", "unicode/utf8.acceptRanges", "internal/bytealg.MaxLen"], apart := false, laid := [("unicode/utf8.acceptRanges", laid_unicode_utf8_acceptRanges), ("unicode/utf8.first", laid_unicode_utf8_first)], narrowed := true }
def FnExactPhraseUptoSaid : Prop := fnExactPhraseUptoRow.holds Tryd.pinned (OpenSpec.upto fnExactPhraseSpec)

/-- 'laws.FnExactDomainFault', WHERE WHAT IT READS IS OF BULK AT MOST 1048576: true; the input reads as it did. -/
def fnExactDomainFaultUptoRow : OpenClaim := { program := "ytgbibdjekaffkaadoor", sum := "804a74ff5d8662af0bba4a0b57ca6660fc19aff67ba8636433f559f883589844", func := "loop.example/g00013/laws.FnExactDomainFault", spec := "fnExactDomainFault", inPlace := ["internal/bytealg.CountString", "internal/bytealg.IndexByteString", "internal/bytealg.IndexString"], unfollowed := true, recurses := true, named := ["unicode/utf8.first", "unicode/utf8.acceptRanges", "internal/bytealg.MaxLen"], apart := false, laid := [("unicode/utf8.acceptRanges", laid_unicode_utf8_acceptRanges), ("unicode/utf8.first", laid_unicode_utf8_first)], narrowed := true }
def FnExactDomainFaultUptoSaid : Prop := fnExactDomainFaultUptoRow.holds Tryd.pinned (OpenSpec.upto fnExactDomainFaultSpec)

/-- 'laws.FnExactAddressFault', WHERE WHAT IT READS IS OF BULK AT MOST 1048576: true; the input reads as it did. -/
def fnExactAddressFaultUptoRow : OpenClaim := { program := "ytgbibdjekaffkaadoor", sum := "804a74ff5d8662af0bba4a0b57ca6660fc19aff67ba8636433f559f883589844", func := "loop.example/g00013/laws.FnExactAddressFault", spec := "fnExactAddressFault", inPlace := ["internal/bytealg.CountString", "internal/bytealg.IndexByteString", "internal/bytealg.IndexString"], unfollowed := true, recurses := true, named := ["unicode/utf8.first", "unicode/utf8.acceptRanges", "internal/bytealg.MaxLen"], apart := false, laid := [("unicode/utf8.acceptRanges", laid_unicode_utf8_acceptRanges), ("unicode/utf8.first", laid_unicode_utf8_first)], narrowed := true }
def FnExactAddressFaultUptoSaid : Prop := fnExactAddressFaultUptoRow.holds Tryd.pinned (OpenSpec.upto fnExactAddressFaultSpec)

/-- 'laws.FnExactWriteBox', WHERE WHAT IT READS IS OF BULK AT MOST 1048576: true; the input reads as it did. -/
def fnExactWriteBoxUptoRow : OpenClaim := { program := "ytgbibdjekaffkaadoor", sum := "804a74ff5d8662af0bba4a0b57ca6660fc19aff67ba8636433f559f883589844", func := "loop.example/g00013/laws.FnExactWriteBox", spec := "fnExactWriteBox", inPlace := ["internal/bytealg.CountString", "internal/bytealg.IndexByteString", "internal/bytealg.IndexString"], unfollowed := true, recurses := true, named := ["unicode/utf8.first", "unicode/utf8.acceptRanges", "internal/bytealg.MaxLen"], apart := false, laid := [("unicode/utf8.acceptRanges", laid_unicode_utf8_acceptRanges), ("unicode/utf8.first", laid_unicode_utf8_first)], narrowed := true }
def FnExactWriteBoxUptoSaid : Prop := fnExactWriteBoxUptoRow.holds Tryd.pinned (OpenSpec.upto fnExactWriteBoxSpec)

/-- 'laws.FnExactAddressKey', WHERE WHAT IT READS IS OF BULK AT MOST 1048576: true; the input reads as it did. -/
def fnExactAddressKeyUptoRow : OpenClaim := { program := "ytgbibdjekaffkaadoor", sum := "804a74ff5d8662af0bba4a0b57ca6660fc19aff67ba8636433f559f883589844", func := "loop.example/g00013/laws.FnExactAddressKey", spec := "fnExactAddressKey", inPlace := ["internal/bytealg.CountString", "internal/bytealg.IndexByteString", "internal/bytealg.IndexString"], unfollowed := true, recurses := true, named := ["unicode/utf8.first", "unicode/utf8.acceptRanges", "internal/bytealg.MaxLen"], apart := false, laid := [("unicode/utf8.acceptRanges", laid_unicode_utf8_acceptRanges), ("unicode/utf8.first", laid_unicode_utf8_first)], narrowed := true }
def FnExactAddressKeyUptoSaid : Prop := fnExactAddressKeyUptoRow.holds Tryd.pinned (OpenSpec.upto fnExactAddressKeySpec)

end Rows
end Go.Proofs.YtgbibdjekaffkaaDoor

/-
  NARROWER THAN 'FOR EVERY INPUT', by the rows' own cells (each row's printed sentence says how): FnExactRulesRight: laid · FnExactRulesRead: laid · FnExactSuffixOf: laid · FnExactSiteOf: laid · FnExactSameSite: laid.
  DERIVED. THE GIVEN ROWS OF THIS SEAT. 5 by the template 'for every input the law returns true; each argument reads behind the call as it read before'; 0 by the template 'total and deterministic' (their statements: YtmlacbjlafdenahDoorTotals.lean).
  GIVEN WITH THE SEED: the statements are not yours to turn. If you find one false, say at which input.
  Laid BY PROGRAM, IN A SANDBOX (cutbox-rows.mjs): the forced cells as the released guide's own fill.sh prints them over the translation 5e07d983e1ff69e6… (all of the seat's roots in one cut). By AI agents, Wed Nov 11 2026. No macro, syntax, notation, axiom, sorry.
-/
import Derived.Test.YtmlacbjlafdenahDoorChecked
import GoSem.PinnedTables
import GoSem.Claim
import GoSem.ClaimJoined
import GoSem.ClaimMapViews
import Derived.JoinedTies
import Derived.KernelRfl
namespace Go.Proofs.YtmlacbjlafdenahDoor
/- THE CELL 'sum', in the pinned program and in every row, IS THE sha256 OF THE DUMP (.gsa) THAT YtmlacbjlafdenahDoorProg.lean LOADS. Nothing in Lean hashes anything: it is a label: what it is worth is what the hold of that sum in a sandbox is worth. -/
noncomputable def Tryd.pinned : Pinned := { name := "ytmlacbjlafdenahdoor", sum := "5e07d983e1ff69e60ec6ecb89b9ef997ffcbae802234a45aedd9150c7ca1c920", checked := Tryd.checked }
namespace Rows
def none {H : Type} : Left H := { results := [], args := [] }

/- WHAT THE LISTED PACKAGE-LEVEL VARIABLES READ AS WHEN THE CALL BEGINS. Each datum BY PROGRAM (the guide's laid-datum.mjs) off the statement by which the dump's own 'gosem.cut.vars' lays the variable. In a bare row this is a premise. The card (YtmlacbjlafdenahDoorCards.lean) ties it to the program's text. -/
def laid_unicode_utf8_acceptRanges {H : Type} : DataW H := .agg [.agg [.lit (.int .u8 128), .lit (.int .u8 191)], .agg [.lit (.int .u8 160), .lit (.int .u8 191)], .agg [.lit (.int .u8 128), .lit (.int .u8 159)], .agg [.lit (.int .u8 144), .lit (.int .u8 191)], .agg [.lit (.int .u8 128), .lit (.int .u8 143)], .agg [.lit (.int .u8 0), .lit (.int .u8 0)], .agg [.lit (.int .u8 0), .lit (.int .u8 0)], .agg [.lit (.int .u8 0), .lit (.int .u8 0)], .agg [.lit (.int .u8 0), .lit (.int .u8 0)], .agg [.lit (.int .u8 0), .lit (.int .u8 0)], .agg [.lit (.int .u8 0), .lit (.int .u8 0)], .agg [.lit (.int .u8 0), .lit (.int .u8 0)], .agg [.lit (.int .u8 0), .lit (.int .u8 0)], .agg [.lit (.int .u8 0), .lit (.int .u8 0)], .agg [.lit (.int .u8 0), .lit (.int .u8 0)], .agg [.lit (.int .u8 0), .lit (.int .u8 0)]]
/-- One of Go's own tables, pinned by name: the form's constant. -/
def laid_unicode_utf8_first : DataW Unit := Go.Pinned.utf8First

/-- 'laws.FnExactRulesRight': WHATEVER THE INPUT: true; the input reads as it did. -/
def fnExactRulesRightSpec : ChangeSpec := { name := "fnExactRulesRight", fn := fun _ => fun
  | [d] => { results := [.lit (.bool true)], args := [d] }
  | _ => none }
def fnExactRulesRightRow : OpenClaim := { program := "ytmlacbjlafdenahdoor", sum := "5e07d983e1ff69e60ec6ecb89b9ef997ffcbae802234a45aedd9150c7ca1c920", func := "loop.example/g00551/laws.FnExactRulesRight", spec := "fnExactRulesRight", inPlace := ["internal/bytealg.CountString", "internal/bytealg.IndexByteString", "internal/bytealg.IndexString"], named := ["unicode/utf8.first", "unicode/utf8.acceptRanges", "internal/bytealg.MaxLen"], apart := false, laid := [("unicode/utf8.acceptRanges", laid_unicode_utf8_acceptRanges), ("unicode/utf8.first", laid_unicode_utf8_first)] }
def FnExactRulesRightSaid : Prop := fnExactRulesRightRow.holds Tryd.pinned (OpenSpec.ofChange fnExactRulesRightSpec)

/-- ITS FALSE NEIGHBOUR: 'it returns false'. Refute it at one input. -/
def fnExactRulesRightWrong : ChangeSpec := { name := "fnExactRulesRight", fn := fun _ => fun
  | [d] => { results := [.lit (.bool false)], args := [d] }
  | _ => none }
def FnExactRulesRightWrongFalsely : Prop := fnExactRulesRightRow.holds Tryd.pinned (OpenSpec.ofChange fnExactRulesRightWrong)

/-- 'laws.FnExactRulesRead': WHATEVER THE INPUT: true; the input reads as it did. -/
def fnExactRulesReadSpec : ChangeSpec := { name := "fnExactRulesRead", fn := fun _ => fun
  | [d] => { results := [.lit (.bool true)], args := [d] }
  | _ => none }
def fnExactRulesReadRow : OpenClaim := { program := "ytmlacbjlafdenahdoor", sum := "5e07d983e1ff69e60ec6ecb89b9ef997ffcbae802234a45aedd9150c7ca1c920", func := "loop.example/g00551/laws.FnExactRulesRead", spec := "fnExactRulesRead", inPlace := ["internal/bytealg.CountString", "internal/bytealg.IndexByteString", "internal/bytealg.IndexString"], recurses := true, named := ["unicode/utf8.first", "unicode/utf8.acceptRanges", "internal/bytealg.MaxLen"], apart := false, laid := [("unicode/utf8.acceptRanges", laid_unicode_utf8_acceptRanges), ("unicode/utf8.first", laid_unicode_utf8_first)] }
def FnExactRulesReadSaid : Prop := fnExactRulesReadRow.holds Tryd.pinned (OpenSpec.ofChange fnExactRulesReadSpec)

/-- ITS FALSE NEIGHBOUR: 'it returns false'. Refute it at one input. -/
def fnExactRulesReadWrong : ChangeSpec := { name := "fnExactRulesRead", fn := fun _ => fun
  | [d] => { results := [.lit (.bool false)], args := [d] }
  | _ => none }
def FnExactRulesReadWrongFalsely : Prop := fnExactRulesReadRow.holds Tryd.pinned (OpenSpec.ofChange fnExactRulesReadWrong)

/-- 'laws.FnExactSuffixOf': WHATEVER THE INPUT: true; the input reads as it did. -/
def fnExactSuffixOfSpec : ChangeSpec := { name := "fnExactSuffixOf", fn := fun _ => fun
  | [d1, d2] => { results := [.lit (.bool true)], args := [d1, d2] }
  | _ => none }
def fnExactSuffixOfRow : OpenClaim := { program := "ytmlacbjlafdenahdoor", sum := "5e07d983e1ff69e60ec6ecb89b9ef997ffcbae802234a45aedd9150c7ca1c920", func := "loop.example/g00551/laws.FnExactSuffixOf", spec := "fnExactSuffixOf", inPlace := ["internal/bytealg.CountString", "internal/bytealg.IndexByteString", "internal/bytealg.IndexString", "internal/abi.NoEscape", "internal/bytealg.MakeNoZero"], unfollowed := true, recurses := true, named := ["unicode/utf8.first", "unicode/utf8.acceptRanges", "internal/bytealg.MaxLen"], apart := false, laid := [("unicode/utf8.acceptRanges", laid_unicode_utf8_acceptRanges), ("unicode/utf8.first", laid_unicode_utf8_first)] }
def FnExactSuffixOfSaid : Prop := fnExactSuffixOfRow.holds Tryd.pinned (OpenSpec.ofChange fnExactSuffixOfSpec)

/-- ITS FALSE NEIGHBOUR: 'it returns false'. Refute it at one input. -/
def fnExactSuffixOfWrong : ChangeSpec := { name := "fnExactSuffixOf", fn := fun _ => fun
  | [d1, d2] => { results := [.lit (.bool false)], args := [d1, d2] }
  | _ => none }
def FnExactSuffixOfWrongFalsely : Prop := fnExactSuffixOfRow.holds Tryd.pinned (OpenSpec.ofChange fnExactSuffixOfWrong)

/-- 'laws.FnExactSiteOf': WHATEVER THE INPUT: true; the input reads as it did. -/
def fnExactSiteOfSpec : ChangeSpec := { name := "fnExactSiteOf", fn := fun _ => fun
  | [d1, d2] => { results := [.lit (.bool true)], args := [d1, d2] }
  | _ => none }
def fnExactSiteOfRow : OpenClaim := { program := "ytmlacbjlafdenahdoor", sum := "5e07d983e1ff69e60ec6ecb89b9ef997ffcbae802234a45aedd9150c7ca1c920", func := "loop.example/g00551/laws.FnExactSiteOf", spec := "fnExactSiteOf", inPlace := ["internal/bytealg.CountString", "internal/bytealg.IndexByteString", "internal/bytealg.IndexString", "internal/abi.NoEscape", "internal/bytealg.MakeNoZero"], unfollowed := true, recurses := true, named := ["unicode/utf8.first", "unicode/utf8.acceptRanges", "internal/bytealg.MaxLen"], apart := false, laid := [("unicode/utf8.acceptRanges", laid_unicode_utf8_acceptRanges), ("unicode/utf8.first", laid_unicode_utf8_first)] }
def FnExactSiteOfSaid : Prop := fnExactSiteOfRow.holds Tryd.pinned (OpenSpec.ofChange fnExactSiteOfSpec)

/-- ITS FALSE NEIGHBOUR: 'it returns false'. Refute it at one input. -/
def fnExactSiteOfWrong : ChangeSpec := { name := "fnExactSiteOf", fn := fun _ => fun
  | [d1, d2] => { results := [.lit (.bool false)], args := [d1, d2] }
  | _ => none }
def FnExactSiteOfWrongFalsely : Prop := fnExactSiteOfRow.holds Tryd.pinned (OpenSpec.ofChange fnExactSiteOfWrong)

/-- 'laws.FnExactSameSite': WHATEVER THE INPUT: true; the input reads as it did. -/
def fnExactSameSiteSpec : ChangeSpec := { name := "fnExactSameSite", fn := fun _ => fun
  | [d1, d2, d3] => { results := [.lit (.bool true)], args := [d1, d2, d3] }
  | _ => none }
def fnExactSameSiteRow : OpenClaim := { program := "ytmlacbjlafdenahdoor", sum := "5e07d983e1ff69e60ec6ecb89b9ef997ffcbae802234a45aedd9150c7ca1c920", func := "loop.example/g00551/laws.FnExactSameSite", spec := "fnExactSameSite", inPlace := ["internal/bytealg.CountString", "internal/bytealg.IndexByteString", "internal/bytealg.IndexString", "internal/abi.NoEscape", "internal/bytealg.MakeNoZero"], unfollowed := true, recurses := true, named := ["unicode/utf8.first", "unicode/utf8.acceptRanges", "internal/bytealg.MaxLen"], apart := false, laid := [("unicode/utf8.acceptRanges", laid_unicode_utf8_acceptRanges), ("unicode/utf8.first", laid_unicode_utf8_first)] }
def FnExactSameSiteSaid : Prop := fnExactSameSiteRow.holds Tryd.pinned (OpenSpec.ofChange fnExactSameSiteSpec)

/-- ITS FALSE NEIGHBOUR: 'it returns false'. Refute it at one input. -/
def fnExactSameSiteWrong : ChangeSpec := { name := "fnExactSameSite", fn := fun _ => fun
  | [d1, d2, d3] => { results := [.lit (.bool false)], args := [d1, d2, d3] }
  | _ => none }
def FnExactSameSiteWrongFalsely : Prop := fnExactSameSiteRow.holds Tryd.pinned (OpenSpec.ofChange fnExactSameSiteWrong)

/- THE SECOND FORM. 'bulk': how many values and letters a reading holds, each counted each time it is reached (what is shared counts as often as it is met; a slice's spare places count too). A statement '..UptoSaid' is the law's where the arguments, and the package variables that the reading takes, are together of bulk at most 1048576: NARROWER than '..Said'. Prove '..Said' where nothing that the law and all that it calls make is longer than what came in: it says more and counts as full. Else prove '..UptoSaid'. A law counts once. -/
mutual
def uptoBulk {H : Type} : DataW H → Nat
  | .lit (.string bytes) => bytes.length + 1
  | .lit _ => 1
  | .nil => 1
  | .ptr d => uptoBulk d + 1
  | .slice elems spare => uptoBulkAll elems + uptoBulkAll spare + 1
  | .agg parts => uptoBulkAll parts + 1
  | .iface _ d => uptoBulk d + 1
  | .map entries => uptoBulkEntries entries + 1
  | .held _ => 1
def uptoBulkAll {H : Type} : List (DataW H) → Nat
  | [] => 0
  | d :: r => uptoBulk d + uptoBulkAll r
def uptoBulkEntries {H : Type} : List (Lit × DataW H) → Nat
  | [] => 0
  | x :: r => uptoBulkEntry x + uptoBulkEntries r
def uptoBulkEntry {H : Type} : Lit × DataW H → Nat
  | (.string bytes, d) => bytes.length + uptoBulk d + 1
  | (_, d) => uptoBulk d + 1
 end
def uptoSmall : (H : Type) → List (DataW H) → Bool := fun _ ds => decide (uptoBulkAll ds ≤ 1048576)
def OpenSpec.upto (s : _root_.Go.ChangeSpec) : _root_.Go.OpenSpec := { _root_.Go.OpenSpec.ofChange s with cond := some uptoSmall }

/-- 'laws.FnExactRulesRight', WHERE WHAT IT READS IS OF BULK AT MOST 1048576: true; the input reads as it did. -/
def fnExactRulesRightUptoRow : OpenClaim := { program := "ytmlacbjlafdenahdoor", sum := "5e07d983e1ff69e60ec6ecb89b9ef997ffcbae802234a45aedd9150c7ca1c920", func := "loop.example/g00551/laws.FnExactRulesRight", spec := "fnExactRulesRight", inPlace := ["internal/bytealg.CountString", "internal/bytealg.IndexByteString", "internal/bytealg.IndexString"], named := ["unicode/utf8.first", "unicode/utf8.acceptRanges", "internal/bytealg.MaxLen"], apart := false, laid := [("unicode/utf8.acceptRanges", laid_unicode_utf8_acceptRanges), ("unicode/utf8.first", laid_unicode_utf8_first)], narrowed := true }
def FnExactRulesRightUptoSaid : Prop := fnExactRulesRightUptoRow.holds Tryd.pinned (OpenSpec.upto fnExactRulesRightSpec)

/-- 'laws.FnExactRulesRead', WHERE WHAT IT READS IS OF BULK AT MOST 1048576: true; the input reads as it did. -/
def fnExactRulesReadUptoRow : OpenClaim := { program := "ytmlacbjlafdenahdoor", sum := "5e07d983e1ff69e60ec6ecb89b9ef997ffcbae802234a45aedd9150c7ca1c920", func := "loop.example/g00551/laws.FnExactRulesRead", spec := "fnExactRulesRead", inPlace := ["internal/bytealg.CountString", "internal/bytealg.IndexByteString", "internal/bytealg.IndexString"], recurses := true, named := ["unicode/utf8.first", "unicode/utf8.acceptRanges", "internal/bytealg.MaxLen"], apart := false, laid := [("unicode/utf8.acceptRanges", laid_unicode_utf8_acceptRanges), ("unicode/utf8.first", laid_unicode_utf8_first)], narrowed := true }
def FnExactRulesReadUptoSaid : Prop := fnExactRulesReadUptoRow.holds Tryd.pinned (OpenSpec.upto fnExactRulesReadSpec)

/-- 'laws.FnExactSuffixOf', WHERE WHAT IT READS IS OF BULK AT MOST 1048576: true; the input reads as it did. -/
def fnExactSuffixOfUptoRow : OpenClaim := { program := "ytmlacbjlafdenahdoor", sum := "5e07d983e1ff69e60ec6ecb89b9ef997ffcbae802234a45aedd9150c7ca1c920", func := "loop.example/g00551/laws.FnExactSuffixOf", spec := "fnExactSuffixOf", inPlace := ["internal/bytealg.CountString", "internal/bytealg.IndexByteString", "internal/bytealg.IndexString", "internal/abi.NoEscape", "internal/bytealg.MakeNoZero"], unfollowed := true, recurses := true, named := ["unicode/utf8.first", "unicode/utf8.acceptRanges", "internal/bytealg.MaxLen"], apart := false, laid := [("unicode/utf8.acceptRanges", laid_unicode_utf8_acceptRanges), ("unicode/utf8.first", laid_unicode_utf8_first)], narrowed := true }
def FnExactSuffixOfUptoSaid : Prop := fnExactSuffixOfUptoRow.holds Tryd.pinned (OpenSpec.upto fnExactSuffixOfSpec)

/-- 'laws.FnExactSiteOf', WHERE WHAT IT READS IS OF BULK AT MOST 1048576: true; the input reads as it did. -/
def fnExactSiteOfUptoRow : OpenClaim := { program := "ytmlacbjlafdenahdoor", sum := "5e07d983e1ff69e60ec6ecb89b9ef997ffcbae802234a45aedd9150c7ca1c920", func := "loop.example/g00551/laws.FnExactSiteOf", spec := "fnExactSiteOf", inPlace := ["internal/bytealg.CountString", "internal/bytealg.IndexByteString", "internal/bytealg.IndexString", "internal/abi.NoEscape", "internal/bytealg.MakeNoZero"], unfollowed := true, recurses := true, named := ["unicode/utf8.first", "unicode/utf8.acceptRanges", "internal/bytealg.MaxLen"], apart := false, laid := [("unicode/utf8.acceptRanges", laid_unicode_utf8_acceptRanges), ("unicode/utf8.first", laid_unicode_utf8_first)], narrowed := true }
def FnExactSiteOfUptoSaid : Prop := fnExactSiteOfUptoRow.holds Tryd.pinned (OpenSpec.upto fnExactSiteOfSpec)

/-- 'laws.FnExactSameSite', WHERE WHAT IT READS IS OF BULK AT MOST 1048576: true; the input reads as it did. -/
def fnExactSameSiteUptoRow : OpenClaim := { program := "ytmlacbjlafdenahdoor", sum := "5e07d983e1ff69e60ec6ecb89b9ef997ffcbae802234a45aedd9150c7ca1c920", func := "loop.example/g00551/laws.FnExactSameSite", spec := "fnExactSameSite", inPlace := ["internal/bytealg.CountString", "internal/bytealg.IndexByteString", "internal/bytealg.IndexString", "internal/abi.NoEscape", "internal/bytealg.MakeNoZero"], unfollowed := true, recurses := true, named := ["unicode/utf8.first", "unicode/utf8.acceptRanges", "internal/bytealg.MaxLen"], apart := false, laid := [("unicode/utf8.acceptRanges", laid_unicode_utf8_acceptRanges), ("unicode/utf8.first", laid_unicode_utf8_first)], narrowed := true }
def FnExactSameSiteUptoSaid : Prop := fnExactSameSiteUptoRow.holds Tryd.pinned (OpenSpec.upto fnExactSameSiteSpec)

end Rows
end Go.Proofs.YtmlacbjlafdenahDoor

/-
  NARROWER THAN 'FOR EVERY INPUT', by the rows' own cells (each row's printed sentence says how): FnExactFramesRight: laid · FnExactFrameOpen: laid · FnExactFrameGo: laid · FnExactFrameShut: laid · FnExactFrameTop: laid · FnExactFrameOrigin: laid · FnExactFrameThird: laid.
  DERIVED. THE GIVEN ROWS OF THIS SEAT. 7 by the template 'for every input the law returns true; each argument reads behind the call as it read before'; 0 by the template 'total and deterministic' (their statements: YtnpaekjiafaahaaDoorTotals.lean).
  GIVEN WITH THE SEED: the statements are not yours to turn. If you find one false, say at which input.
  Laid BY PROGRAM, IN A SANDBOX (cutbox-rows.mjs): the forced cells as the released guide's own fill.sh prints them over the translation 1e2cc1bf644c261d… (all of the seat's roots in one cut). By AI agents, Wed Nov 11 2026. No macro, syntax, notation, axiom, sorry.
-/
import Derived.Test.YtnpaekjiafaahaaDoorChecked
import GoSem.PinnedTables
import GoSem.Claim
import GoSem.ClaimJoined
import GoSem.ClaimMapViews
import Derived.JoinedTies
import Derived.KernelRfl
namespace Go.Proofs.YtnpaekjiafaahaaDoor
/- THE CELL 'sum', in the pinned program and in every row, IS THE sha256 OF THE DUMP (.gsa) THAT YtnpaekjiafaahaaDoorProg.lean LOADS. Nothing in Lean hashes anything: it is a label: what it is worth is what the hold of that sum in a sandbox is worth. -/
noncomputable def Tryd.pinned : Pinned := { name := "ytnpaekjiafaahaadoor", sum := "1e2cc1bf644c261d92b78fe131588580e45226e109392cca40862391613c2e54", checked := Tryd.checked }
namespace Rows
def none {H : Type} : Left H := { results := [], args := [] }

/- WHAT THE LISTED PACKAGE-LEVEL VARIABLES READ AS WHEN THE CALL BEGINS. Each datum BY PROGRAM (the guide's laid-datum.mjs) off the statement by which the dump's own 'gosem.cut.vars' lays the variable. In a bare row this is a premise. The card (YtnpaekjiafaahaaDoorCards.lean) ties it to the program's text. -/
def laid_unicode_utf8_acceptRanges {H : Type} : DataW H := .agg [.agg [.lit (.int .u8 128), .lit (.int .u8 191)], .agg [.lit (.int .u8 160), .lit (.int .u8 191)], .agg [.lit (.int .u8 128), .lit (.int .u8 159)], .agg [.lit (.int .u8 144), .lit (.int .u8 191)], .agg [.lit (.int .u8 128), .lit (.int .u8 143)], .agg [.lit (.int .u8 0), .lit (.int .u8 0)], .agg [.lit (.int .u8 0), .lit (.int .u8 0)], .agg [.lit (.int .u8 0), .lit (.int .u8 0)], .agg [.lit (.int .u8 0), .lit (.int .u8 0)], .agg [.lit (.int .u8 0), .lit (.int .u8 0)], .agg [.lit (.int .u8 0), .lit (.int .u8 0)], .agg [.lit (.int .u8 0), .lit (.int .u8 0)], .agg [.lit (.int .u8 0), .lit (.int .u8 0)], .agg [.lit (.int .u8 0), .lit (.int .u8 0)], .agg [.lit (.int .u8 0), .lit (.int .u8 0)], .agg [.lit (.int .u8 0), .lit (.int .u8 0)]]
/-- One of Go's own tables, pinned by name: the form's constant. -/
def laid_unicode_utf8_first : DataW Unit := Go.Pinned.utf8First

/-- 'laws.FnExactFramesRight': WHATEVER THE INPUT: true; the input reads as it did. -/
def fnExactFramesRightSpec : ChangeSpec := { name := "fnExactFramesRight", fn := fun _ => fun
  | [d] => { results := [.lit (.bool true)], args := [d] }
  | _ => none }
def fnExactFramesRightRow : OpenClaim := { program := "ytnpaekjiafaahaadoor", sum := "1e2cc1bf644c261d92b78fe131588580e45226e109392cca40862391613c2e54", func := "loop.example/g00551/laws.FnExactFramesRight", spec := "fnExactFramesRight", inPlace := ["internal/bytealg.CountString", "internal/bytealg.IndexByteString", "internal/bytealg.IndexString"], unfollowed := true, recurses := true, named := ["unicode/utf8.first", "unicode/utf8.acceptRanges", "internal/bytealg.MaxLen"], apart := false, laid := [("unicode/utf8.acceptRanges", laid_unicode_utf8_acceptRanges), ("unicode/utf8.first", laid_unicode_utf8_first)] }
def FnExactFramesRightSaid : Prop := fnExactFramesRightRow.holds Tryd.pinned (OpenSpec.ofChange fnExactFramesRightSpec)

/-- ITS FALSE NEIGHBOUR: 'it returns false'. Refute it at one input. -/
def fnExactFramesRightWrong : ChangeSpec := { name := "fnExactFramesRight", fn := fun _ => fun
  | [d] => { results := [.lit (.bool false)], args := [d] }
  | _ => none }
def FnExactFramesRightWrongFalsely : Prop := fnExactFramesRightRow.holds Tryd.pinned (OpenSpec.ofChange fnExactFramesRightWrong)

/-- 'laws.FnExactFrameOpen': WHATEVER THE INPUT: true; the input reads as it did. -/
def fnExactFrameOpenSpec : ChangeSpec := { name := "fnExactFrameOpen", fn := fun _ => fun
  | [d1, d2, d3, d4] => { results := [.lit (.bool true)], args := [d1, d2, d3, d4] }
  | _ => none }
def fnExactFrameOpenRow : OpenClaim := { program := "ytnpaekjiafaahaadoor", sum := "1e2cc1bf644c261d92b78fe131588580e45226e109392cca40862391613c2e54", func := "loop.example/g00551/laws.FnExactFrameOpen", spec := "fnExactFrameOpen", inPlace := ["internal/bytealg.CountString", "internal/bytealg.IndexByteString", "internal/bytealg.IndexString"], unfollowed := true, recurses := true, named := ["unicode/utf8.first", "unicode/utf8.acceptRanges", "internal/bytealg.MaxLen"], apart := false, laid := [("unicode/utf8.acceptRanges", laid_unicode_utf8_acceptRanges), ("unicode/utf8.first", laid_unicode_utf8_first)] }
def FnExactFrameOpenSaid : Prop := fnExactFrameOpenRow.holds Tryd.pinned (OpenSpec.ofChange fnExactFrameOpenSpec)

/-- ITS FALSE NEIGHBOUR: 'it returns false'. Refute it at one input. -/
def fnExactFrameOpenWrong : ChangeSpec := { name := "fnExactFrameOpen", fn := fun _ => fun
  | [d1, d2, d3, d4] => { results := [.lit (.bool false)], args := [d1, d2, d3, d4] }
  | _ => none }
def FnExactFrameOpenWrongFalsely : Prop := fnExactFrameOpenRow.holds Tryd.pinned (OpenSpec.ofChange fnExactFrameOpenWrong)

/-- 'laws.FnExactFrameGo': WHATEVER THE INPUT: true; the input reads as it did. -/
def fnExactFrameGoSpec : ChangeSpec := { name := "fnExactFrameGo", fn := fun _ => fun
  | [d1, d2, d3, d4] => { results := [.lit (.bool true)], args := [d1, d2, d3, d4] }
  | _ => none }
def fnExactFrameGoRow : OpenClaim := { program := "ytnpaekjiafaahaadoor", sum := "1e2cc1bf644c261d92b78fe131588580e45226e109392cca40862391613c2e54", func := "loop.example/g00551/laws.FnExactFrameGo", spec := "fnExactFrameGo", inPlace := ["internal/bytealg.CountString", "internal/bytealg.IndexByteString", "internal/bytealg.IndexString"], unfollowed := true, recurses := true, named := ["unicode/utf8.first", "unicode/utf8.acceptRanges", "internal/bytealg.MaxLen"], apart := false, laid := [("unicode/utf8.acceptRanges", laid_unicode_utf8_acceptRanges), ("unicode/utf8.first", laid_unicode_utf8_first)] }
def FnExactFrameGoSaid : Prop := fnExactFrameGoRow.holds Tryd.pinned (OpenSpec.ofChange fnExactFrameGoSpec)

/-- ITS FALSE NEIGHBOUR: 'it returns false'. Refute it at one input. -/
def fnExactFrameGoWrong : ChangeSpec := { name := "fnExactFrameGo", fn := fun _ => fun
  | [d1, d2, d3, d4] => { results := [.lit (.bool false)], args := [d1, d2, d3, d4] }
  | _ => none }
def FnExactFrameGoWrongFalsely : Prop := fnExactFrameGoRow.holds Tryd.pinned (OpenSpec.ofChange fnExactFrameGoWrong)

/-- 'laws.FnExactFrameShut': WHATEVER THE INPUT: true; the input reads as it did. -/
def fnExactFrameShutSpec : ChangeSpec := { name := "fnExactFrameShut", fn := fun _ => fun
  | [d1, d2] => { results := [.lit (.bool true)], args := [d1, d2] }
  | _ => none }
def fnExactFrameShutRow : OpenClaim := { program := "ytnpaekjiafaahaadoor", sum := "1e2cc1bf644c261d92b78fe131588580e45226e109392cca40862391613c2e54", func := "loop.example/g00551/laws.FnExactFrameShut", spec := "fnExactFrameShut", inPlace := ["internal/bytealg.CountString", "internal/bytealg.IndexByteString", "internal/bytealg.IndexString"], unfollowed := true, recurses := true, named := ["unicode/utf8.first", "unicode/utf8.acceptRanges", "internal/bytealg.MaxLen"], apart := false, laid := [("unicode/utf8.acceptRanges", laid_unicode_utf8_acceptRanges), ("unicode/utf8.first", laid_unicode_utf8_first)] }
def FnExactFrameShutSaid : Prop := fnExactFrameShutRow.holds Tryd.pinned (OpenSpec.ofChange fnExactFrameShutSpec)

/-- ITS FALSE NEIGHBOUR: 'it returns false'. Refute it at one input. -/
def fnExactFrameShutWrong : ChangeSpec := { name := "fnExactFrameShut", fn := fun _ => fun
  | [d1, d2] => { results := [.lit (.bool false)], args := [d1, d2] }
  | _ => none }
def FnExactFrameShutWrongFalsely : Prop := fnExactFrameShutRow.holds Tryd.pinned (OpenSpec.ofChange fnExactFrameShutWrong)

/-- 'laws.FnExactFrameTop': WHATEVER THE INPUT: true; the input reads as it did. -/
def fnExactFrameTopSpec : ChangeSpec := { name := "fnExactFrameTop", fn := fun _ => fun
  | [d1, d2] => { results := [.lit (.bool true)], args := [d1, d2] }
  | _ => none }
def fnExactFrameTopRow : OpenClaim := { program := "ytnpaekjiafaahaadoor", sum := "1e2cc1bf644c261d92b78fe131588580e45226e109392cca40862391613c2e54", func := "loop.example/g00551/laws.FnExactFrameTop", spec := "fnExactFrameTop", inPlace := ["internal/bytealg.CountString", "internal/bytealg.IndexByteString", "internal/bytealg.IndexString"], unfollowed := true, recurses := true, named := ["unicode/utf8.first", "unicode/utf8.acceptRanges", "internal/bytealg.MaxLen"], apart := false, laid := [("unicode/utf8.acceptRanges", laid_unicode_utf8_acceptRanges), ("unicode/utf8.first", laid_unicode_utf8_first)] }
def FnExactFrameTopSaid : Prop := fnExactFrameTopRow.holds Tryd.pinned (OpenSpec.ofChange fnExactFrameTopSpec)

/-- ITS FALSE NEIGHBOUR: 'it returns false'. Refute it at one input. -/
def fnExactFrameTopWrong : ChangeSpec := { name := "fnExactFrameTop", fn := fun _ => fun
  | [d1, d2] => { results := [.lit (.bool false)], args := [d1, d2] }
  | _ => none }
def FnExactFrameTopWrongFalsely : Prop := fnExactFrameTopRow.holds Tryd.pinned (OpenSpec.ofChange fnExactFrameTopWrong)

/-- 'laws.FnExactFrameOrigin': WHATEVER THE INPUT: true; the input reads as it did. -/
def fnExactFrameOriginSpec : ChangeSpec := { name := "fnExactFrameOrigin", fn := fun _ => fun
  | [d1, d2] => { results := [.lit (.bool true)], args := [d1, d2] }
  | _ => none }
def fnExactFrameOriginRow : OpenClaim := { program := "ytnpaekjiafaahaadoor", sum := "1e2cc1bf644c261d92b78fe131588580e45226e109392cca40862391613c2e54", func := "loop.example/g00551/laws.FnExactFrameOrigin", spec := "fnExactFrameOrigin", inPlace := ["internal/bytealg.CountString", "internal/bytealg.IndexByteString", "internal/bytealg.IndexString"], unfollowed := true, recurses := true, named := ["unicode/utf8.first", "unicode/utf8.acceptRanges", "internal/bytealg.MaxLen"], apart := false, laid := [("unicode/utf8.acceptRanges", laid_unicode_utf8_acceptRanges), ("unicode/utf8.first", laid_unicode_utf8_first)] }
def FnExactFrameOriginSaid : Prop := fnExactFrameOriginRow.holds Tryd.pinned (OpenSpec.ofChange fnExactFrameOriginSpec)

/-- ITS FALSE NEIGHBOUR: 'it returns false'. Refute it at one input. -/
def fnExactFrameOriginWrong : ChangeSpec := { name := "fnExactFrameOrigin", fn := fun _ => fun
  | [d1, d2] => { results := [.lit (.bool false)], args := [d1, d2] }
  | _ => none }
def FnExactFrameOriginWrongFalsely : Prop := fnExactFrameOriginRow.holds Tryd.pinned (OpenSpec.ofChange fnExactFrameOriginWrong)

/-- 'laws.FnExactFrameThird': WHATEVER THE INPUT: true; the input reads as it did. -/
def fnExactFrameThirdSpec : ChangeSpec := { name := "fnExactFrameThird", fn := fun _ => fun
  | [d1, d2, d3] => { results := [.lit (.bool true)], args := [d1, d2, d3] }
  | _ => none }
def fnExactFrameThirdRow : OpenClaim := { program := "ytnpaekjiafaahaadoor", sum := "1e2cc1bf644c261d92b78fe131588580e45226e109392cca40862391613c2e54", func := "loop.example/g00551/laws.FnExactFrameThird", spec := "fnExactFrameThird", inPlace := ["internal/bytealg.CountString", "internal/bytealg.IndexByteString", "internal/bytealg.IndexString", "internal/abi.NoEscape", "internal/bytealg.MakeNoZero"], unfollowed := true, recurses := true, named := ["unicode/utf8.first", "unicode/utf8.acceptRanges", "internal/bytealg.MaxLen"], apart := false, laid := [("unicode/utf8.acceptRanges", laid_unicode_utf8_acceptRanges), ("unicode/utf8.first", laid_unicode_utf8_first)] }
def FnExactFrameThirdSaid : Prop := fnExactFrameThirdRow.holds Tryd.pinned (OpenSpec.ofChange fnExactFrameThirdSpec)

/-- ITS FALSE NEIGHBOUR: 'it returns false'. Refute it at one input. -/
def fnExactFrameThirdWrong : ChangeSpec := { name := "fnExactFrameThird", fn := fun _ => fun
  | [d1, d2, d3] => { results := [.lit (.bool false)], args := [d1, d2, d3] }
  | _ => none }
def FnExactFrameThirdWrongFalsely : Prop := fnExactFrameThirdRow.holds Tryd.pinned (OpenSpec.ofChange fnExactFrameThirdWrong)

/- THE SECOND FORM. 'bulk': how many values and letters a reading holds, each counted each time it is reached (what is shared counts as often as it is met; a slice's spare places count too). A statement '..UptoSaid' is the law's where the arguments, and the package variables that the reading takes, are together of bulk at most 1048576: NARROWER than '..Said'. Prove '..Said' where nothing that the law and all that it calls make is longer than what came in: it says more and counts as full. Else prove '..UptoSaid'. A law counts once. -/
mutual
def uptoBulk {H : Type} : DataW H → Nat
  | .lit (.string bytes) => bytes.length + 1
  | .lit _ => 1
  | .nil => 1
  | .ptr d => uptoBulk d + 1
  | .slice elems spare => uptoBulkAll elems + uptoBulkAll spare + 1
  | .agg parts => uptoBulkAll parts + 1
  | .iface _ d => uptoBulk d + 1
  | .map entries => uptoBulkEntries entries + 1
  | .held _ => 1
def uptoBulkAll {H : Type} : List (DataW H) → Nat
  | [] => 0
  | d :: r => uptoBulk d + uptoBulkAll r
def uptoBulkEntries {H : Type} : List (Lit × DataW H) → Nat
  | [] => 0
  | x :: r => uptoBulkEntry x + uptoBulkEntries r
def uptoBulkEntry {H : Type} : Lit × DataW H → Nat
  | (.string bytes, d) => bytes.length + uptoBulk d + 1
  | (_, d) => uptoBulk d + 1
 end
def uptoSmall : (H : Type) → List (DataW H) → Bool := fun _ ds => decide (uptoBulkAll ds ≤ 1048576)
def OpenSpec.upto (s : _root_.Go.ChangeSpec) : _root_.Go.OpenSpec := { _root_.Go.OpenSpec.ofChange s with cond := some uptoSmall }

/-- 'laws.FnExactFramesRight', WHERE WHAT IT READS IS OF BULK AT MOST 1048576: true; the input reads as it did. -/
def fnExactFramesRightUptoRow : OpenClaim := { program := "ytnpaekjiafaahaadoor", sum := "1e2cc1bf644c261d92b78fe131588580e45226e109392cca40862391613c2e54", func := "loop.example/g00551/laws.FnExactFramesRight", spec := "fnExactFramesRight", inPlace := ["internal/bytealg.CountString", "internal/bytealg.IndexByteString", "internal/bytealg.IndexString"], unfollowed := true, recurses := true, named := ["unicode/utf8.first", "unicode/utf8.acceptRanges", "internal/bytealg.MaxLen"], apart := false, laid := [("unicode/utf8.acceptRanges", laid_unicode_utf8_acceptRanges), ("unicode/utf8.first", laid_unicode_utf8_first)], narrowed := true }
def FnExactFramesRightUptoSaid : Prop := fnExactFramesRightUptoRow.holds Tryd.pinned (OpenSpec.upto fnExactFramesRightSpec)

/-- 'laws.FnExactFrameOpen', WHERE WHAT IT READS IS OF BULK AT MOST 1048576: true; the input reads as it did. -/
def fnExactFrameOpenUptoRow : OpenClaim := { program := "ytnpaekjiafaahaadoor", sum := "1e2cc1bf644c261d92b78fe131588580e45226e109392cca40862391613c2e54", func := "loop.example/g00551/laws.FnExactFrameOpen", spec := "fnExactFrameOpen", inPlace := ["internal/bytealg.CountString", "internal/bytealg.IndexByteString", "internal/bytealg.IndexString"], unfollowed := true, recurses := true, named := ["unicode/utf8.first", "unicode/utf8.acceptRanges", "internal/bytealg.MaxLen"], apart := false, laid := [("unicode/utf8.acceptRanges", laid_unicode_utf8_acceptRanges), ("unicode/utf8.first", laid_unicode_utf8_first)], narrowed := true }
def FnExactFrameOpenUptoSaid : Prop := fnExactFrameOpenUptoRow.holds Tryd.pinned (OpenSpec.upto fnExactFrameOpenSpec)

/-- 'laws.FnExactFrameGo', WHERE WHAT IT READS IS OF BULK AT MOST 1048576: true; the input reads as it did. -/
def fnExactFrameGoUptoRow : OpenClaim := { program := "ytnpaekjiafaahaadoor", sum := "1e2cc1bf644c261d92b78fe131588580e45226e109392cca40862391613c2e54", func := "loop.example/g00551/laws.FnExactFrameGo", spec := "fnExactFrameGo", inPlace := ["internal/bytealg.CountString", "internal/bytealg.IndexByteString", "internal/bytealg.IndexString"], unfollowed := true, recurses := true, named := ["unicode/utf8.first", "unicode/utf8.acceptRanges", "internal/bytealg.MaxLen"], apart := false, laid := [("unicode/utf8.acceptRanges", laid_unicode_utf8_acceptRanges), ("unicode/utf8.first", laid_unicode_utf8_first)], narrowed := true }
def FnExactFrameGoUptoSaid : Prop := fnExactFrameGoUptoRow.holds Tryd.pinned (OpenSpec.upto fnExactFrameGoSpec)

/-- 'laws.FnExactFrameShut', WHERE WHAT IT READS IS OF BULK AT MOST 1048576: true; the input reads as it did. -/
def fnExactFrameShutUptoRow : OpenClaim := { program := "ytnpaekjiafaahaadoor", sum := "1e2cc1bf644c261d92b78fe131588580e45226e109392cca40862391613c2e54", func := "loop.example/g00551/laws.FnExactFrameShut", spec := "fnExactFrameShut", inPlace := ["internal/bytealg.CountString", "internal/bytealg.IndexByteString", "internal/bytealg.IndexString"], unfollowed := true, recurses := true, named := ["unicode/utf8.first", "unicode/utf8.acceptRanges", "internal/bytealg.MaxLen"], apart := false, laid := [("unicode/utf8.acceptRanges", laid_unicode_utf8_acceptRanges), ("unicode/utf8.first", laid_unicode_utf8_first)], narrowed := true }
def FnExactFrameShutUptoSaid : Prop := fnExactFrameShutUptoRow.holds Tryd.pinned (OpenSpec.upto fnExactFrameShutSpec)

/-- 'laws.FnExactFrameTop', WHERE WHAT IT READS IS OF BULK AT MOST 1048576: true; the input reads as it did. -/
def fnExactFrameTopUptoRow : OpenClaim := { program := "ytnpaekjiafaahaadoor", sum := "1e2cc1bf644c261d92b78fe131588580e45226e109392cca40862391613c2e54", func := "loop.example/g00551/laws.FnExactFrameTop", spec := "fnExactFrameTop", inPlace := ["internal/bytealg.CountString", "internal/bytealg.IndexByteString", "internal/bytealg.IndexString"], unfollowed := true, recurses := true, named := ["unicode/utf8.first", "unicode/utf8.acceptRanges", "internal/bytealg.MaxLen"], apart := false, laid := [("unicode/utf8.acceptRanges", laid_unicode_utf8_acceptRanges), ("unicode/utf8.first", laid_unicode_utf8_first)], narrowed := true }
def FnExactFrameTopUptoSaid : Prop := fnExactFrameTopUptoRow.holds Tryd.pinned (OpenSpec.upto fnExactFrameTopSpec)

/-- 'laws.FnExactFrameOrigin', WHERE WHAT IT READS IS OF BULK AT MOST 1048576: true; the input reads as it did. -/
def fnExactFrameOriginUptoRow : OpenClaim := { program := "ytnpaekjiafaahaadoor", sum := "1e2cc1bf644c261d92b78fe131588580e45226e109392cca40862391613c2e54", func := "loop.example/g00551/laws.FnExactFrameOrigin", spec := "fnExactFrameOrigin", inPlace := ["internal/bytealg.CountString", "internal/bytealg.IndexByteString", "internal/bytealg.IndexString"], unfollowed := true, recurses := true, named := ["unicode/utf8.first", "unicode/utf8.acceptRanges", "internal/bytealg.MaxLen"], apart := false, laid := [("unicode/utf8.acceptRanges", laid_unicode_utf8_acceptRanges), ("unicode/utf8.first", laid_unicode_utf8_first)], narrowed := true }
def FnExactFrameOriginUptoSaid : Prop := fnExactFrameOriginUptoRow.holds Tryd.pinned (OpenSpec.upto fnExactFrameOriginSpec)

/-- 'laws.FnExactFrameThird', WHERE WHAT IT READS IS OF BULK AT MOST 1048576: true; the input reads as it did. -/
def fnExactFrameThirdUptoRow : OpenClaim := { program := "ytnpaekjiafaahaadoor", sum := "1e2cc1bf644c261d92b78fe131588580e45226e109392cca40862391613c2e54", func := "loop.example/g00551/laws.FnExactFrameThird", spec := "fnExactFrameThird", inPlace := ["internal/bytealg.CountString", "internal/bytealg.IndexByteString", "internal/bytealg.IndexString", "internal/abi.NoEscape", "internal/bytealg.MakeNoZero"], unfollowed := true, recurses := true, named := ["unicode/utf8.first", "unicode/utf8.acceptRanges", "internal/bytealg.MaxLen"], apart := false, laid := [("unicode/utf8.acceptRanges", laid_unicode_utf8_acceptRanges), ("unicode/utf8.first", laid_unicode_utf8_first)], narrowed := true }
def FnExactFrameThirdUptoSaid : Prop := fnExactFrameThirdUptoRow.holds Tryd.pinned (OpenSpec.upto fnExactFrameThirdSpec)

end Rows
end Go.Proofs.YtnpaekjiafaahaaDoor

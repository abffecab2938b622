/-
  NARROWER THAN 'FOR EVERY INPUT', by the rows' own cells (each row's printed sentence says how): FnSuffix: laid · FnExactJarFor: laid · FnExactAreaPut: laid · FnExactAreaGet: laid · FnExactAreaDrop: laid.
  DERIVED. THE GIVEN ROWS OF THIS SEAT. 5 by the template 'for every input the law returns true; each argument reads behind the call as it read before'; 0 by the template 'total and deterministic' (their statements: YtimmoclemcnhnaaDoorTotals.lean).
  GIVEN WITH THE SEED: the statements are not yours to turn. If you find one false, say at which input.
  Laid BY PROGRAM, IN A SANDBOX (cutbox-rows.mjs): the forced cells as the released guide's own fill.sh prints them over the translation 0d2b0b6bd6a3a243… (all of the seat's roots in one cut). By AI agents, Wed Nov 11 2026. No macro, syntax, notation, axiom, sorry.
-/
import Derived.Test.YtimmoclemcnhnaaDoorChecked
import GoSem.PinnedTables
import GoSem.Claim
import GoSem.ClaimJoined
import GoSem.ClaimMapViews
import Derived.JoinedTies
import Derived.KernelRfl
namespace Go.Proofs.YtimmoclemcnhnaaDoor
/- THE CELL 'sum', in the pinned program and in every row, IS THE sha256 OF THE DUMP (.gsa) THAT YtimmoclemcnhnaaDoorProg.lean LOADS. Nothing in Lean hashes anything: it is a label: what it is worth is what the hold of that sum in a sandbox is worth. -/
noncomputable def Tryd.pinned : Pinned := { name := "ytimmoclemcnhnaadoor", sum := "0d2b0b6bd6a3a243e0d0f90315c90bc88cb47681c40bf9a52296e8681c591a49", checked := Tryd.checked }
namespace Rows
def none {H : Type} : Left H := { results := [], args := [] }

/- WHAT THE LISTED PACKAGE-LEVEL VARIABLES READ AS WHEN THE CALL BEGINS. Each datum BY PROGRAM (the guide's laid-datum.mjs) off the statement by which the dump's own 'gosem.cut.vars' lays the variable. In a bare row this is a premise. The card (YtimmoclemcnhnaaDoorCards.lean) ties it to the program's text. -/
def laid_unicode_utf8_acceptRanges {H : Type} : DataW H := .agg [.agg [.lit (.int .u8 128), .lit (.int .u8 191)], .agg [.lit (.int .u8 160), .lit (.int .u8 191)], .agg [.lit (.int .u8 128), .lit (.int .u8 159)], .agg [.lit (.int .u8 144), .lit (.int .u8 191)], .agg [.lit (.int .u8 128), .lit (.int .u8 143)], .agg [.lit (.int .u8 0), .lit (.int .u8 0)], .agg [.lit (.int .u8 0), .lit (.int .u8 0)], .agg [.lit (.int .u8 0), .lit (.int .u8 0)], .agg [.lit (.int .u8 0), .lit (.int .u8 0)], .agg [.lit (.int .u8 0), .lit (.int .u8 0)], .agg [.lit (.int .u8 0), .lit (.int .u8 0)], .agg [.lit (.int .u8 0), .lit (.int .u8 0)], .agg [.lit (.int .u8 0), .lit (.int .u8 0)], .agg [.lit (.int .u8 0), .lit (.int .u8 0)], .agg [.lit (.int .u8 0), .lit (.int .u8 0)], .agg [.lit (.int .u8 0), .lit (.int .u8 0)]]
/-- One of Go's own tables, pinned by name: the form's constant. -/
def laid_unicode_utf8_first : DataW Unit := Go.Pinned.utf8First
def laid_errors_errorType {H : Type} : DataW H := .iface "internal/reflectlite.rtype" (.agg [.ptr (.lit (.string [101, 114, 114, 111, 114]))])

/-- 'laws.FnSuffix': WHATEVER THE INPUT: true; the input reads as it did. -/
def fnSuffixSpec : ChangeSpec := { name := "fnSuffix", fn := fun _ => fun
  | [d1, d2] => { results := [.lit (.bool true)], args := [d1, d2] }
  | _ => none }
def fnSuffixRow : OpenClaim := { program := "ytimmoclemcnhnaadoor", sum := "0d2b0b6bd6a3a243e0d0f90315c90bc88cb47681c40bf9a52296e8681c591a49", func := "loop.example/g00551/laws.FnSuffix", spec := "fnSuffix", inPlace := ["internal/bytealg.CountString", "internal/bytealg.IndexByteString", "internal/bytealg.IndexString", "internal/abi.NoEscape", "internal/bytealg.MakeNoZero"], unfollowed := true, recurses := true, named := ["unicode/utf8.first", "unicode/utf8.acceptRanges", "internal/bytealg.MaxLen"], plainKeys := false, apart := false, laid := [("unicode/utf8.acceptRanges", laid_unicode_utf8_acceptRanges), ("unicode/utf8.first", laid_unicode_utf8_first)] }
def FnSuffixSaid : Prop := fnSuffixRow.holds Tryd.pinned (OpenSpec.ofChange fnSuffixSpec)

/-- ITS FALSE NEIGHBOUR: 'it returns false'. Refute it at one input. -/
def fnSuffixWrong : ChangeSpec := { name := "fnSuffix", fn := fun _ => fun
  | [d1, d2] => { results := [.lit (.bool false)], args := [d1, d2] }
  | _ => none }
def FnSuffixWrongFalsely : Prop := fnSuffixRow.holds Tryd.pinned (OpenSpec.ofChange fnSuffixWrong)

/-- 'laws.FnExactJarFor': WHATEVER THE INPUT: true; the input reads as it did. -/
def fnExactJarForSpec : ChangeSpec := { name := "fnExactJarFor", fn := fun _ => fun
  | [d1, d2, d3, d4, d5, d6] => { results := [.lit (.bool true)], args := [d1, d2, d3, d4, d5, d6] }
  | _ => none }
def fnExactJarForRow : OpenClaim := { program := "ytimmoclemcnhnaadoor", sum := "0d2b0b6bd6a3a243e0d0f90315c90bc88cb47681c40bf9a52296e8681c591a49", func := "loop.example/g00551/laws.FnExactJarFor", spec := "fnExactJarFor", inPlace := ["internal/bytealg.CountString", "internal/bytealg.IndexByteString", "internal/bytealg.IndexString"], unfollowed := true, recurses := true, named := ["unicode/utf8.first", "unicode/utf8.acceptRanges", "internal/bytealg.MaxLen"], plainKeys := false, apart := false, laid := [("unicode/utf8.acceptRanges", laid_unicode_utf8_acceptRanges), ("unicode/utf8.first", laid_unicode_utf8_first)] }
def FnExactJarForSaid : Prop := fnExactJarForRow.holds Tryd.pinned (OpenSpec.ofChange fnExactJarForSpec)

/-- ITS FALSE NEIGHBOUR: 'it returns false'. Refute it at one input. -/
def fnExactJarForWrong : ChangeSpec := { name := "fnExactJarFor", fn := fun _ => fun
  | [d1, d2, d3, d4, d5, d6] => { results := [.lit (.bool false)], args := [d1, d2, d3, d4, d5, d6] }
  | _ => none }
def FnExactJarForWrongFalsely : Prop := fnExactJarForRow.holds Tryd.pinned (OpenSpec.ofChange fnExactJarForWrong)

/-- 'laws.FnExactAreaPut': WHATEVER THE INPUT: true; the input reads as it did. -/
def fnExactAreaPutSpec : ChangeSpec := { name := "fnExactAreaPut", fn := fun _ => fun
  | [d1, d2, d3, d4] => { results := [.lit (.bool true)], args := [d1, d2, d3, d4] }
  | _ => none }
def fnExactAreaPutRow : OpenClaim := { program := "ytimmoclemcnhnaadoor", sum := "0d2b0b6bd6a3a243e0d0f90315c90bc88cb47681c40bf9a52296e8681c591a49", func := "loop.example/g00551/laws.FnExactAreaPut", spec := "fnExactAreaPut", inPlace := ["internal/bytealg.abigen_runtime_cmpstring", "internal/reflectlite.ValueOf", "(internal/reflectlite.Value).Type", "(internal/reflectlite.Value).IsNil", "internal/reflectlite.TypeOf", "(internal/reflectlite.Value).Elem", "(internal/reflectlite.Value).Set"], unfollowed := true, recurses := true, named := ["errors.errorType"], plainKeys := false, apart := false, laid := [("errors.errorType", laid_errors_errorType)] }
def FnExactAreaPutSaid : Prop := fnExactAreaPutRow.holds Tryd.pinned (OpenSpec.ofChange fnExactAreaPutSpec)

/-- ITS FALSE NEIGHBOUR: 'it returns false'. Refute it at one input. -/
def fnExactAreaPutWrong : ChangeSpec := { name := "fnExactAreaPut", fn := fun _ => fun
  | [d1, d2, d3, d4] => { results := [.lit (.bool false)], args := [d1, d2, d3, d4] }
  | _ => none }
def FnExactAreaPutWrongFalsely : Prop := fnExactAreaPutRow.holds Tryd.pinned (OpenSpec.ofChange fnExactAreaPutWrong)

/-- 'laws.FnExactAreaGet': WHATEVER THE INPUT: true; the input reads as it did. -/
def fnExactAreaGetSpec : ChangeSpec := { name := "fnExactAreaGet", fn := fun _ => fun
  | [d1, d2, d3] => { results := [.lit (.bool true)], args := [d1, d2, d3] }
  | _ => none }
def fnExactAreaGetRow : OpenClaim := { program := "ytimmoclemcnhnaadoor", sum := "0d2b0b6bd6a3a243e0d0f90315c90bc88cb47681c40bf9a52296e8681c591a49", func := "loop.example/g00551/laws.FnExactAreaGet", spec := "fnExactAreaGet", inPlace := ["internal/bytealg.abigen_runtime_cmpstring", "internal/reflectlite.ValueOf", "(internal/reflectlite.Value).Type", "(internal/reflectlite.Value).IsNil", "internal/reflectlite.TypeOf", "(internal/reflectlite.Value).Elem", "(internal/reflectlite.Value).Set"], unfollowed := true, recurses := true, named := ["errors.errorType"], plainKeys := false, apart := false, laid := [("errors.errorType", laid_errors_errorType)] }
def FnExactAreaGetSaid : Prop := fnExactAreaGetRow.holds Tryd.pinned (OpenSpec.ofChange fnExactAreaGetSpec)

/-- ITS FALSE NEIGHBOUR: 'it returns false'. Refute it at one input. -/
def fnExactAreaGetWrong : ChangeSpec := { name := "fnExactAreaGet", fn := fun _ => fun
  | [d1, d2, d3] => { results := [.lit (.bool false)], args := [d1, d2, d3] }
  | _ => none }
def FnExactAreaGetWrongFalsely : Prop := fnExactAreaGetRow.holds Tryd.pinned (OpenSpec.ofChange fnExactAreaGetWrong)

/-- 'laws.FnExactAreaDrop': WHATEVER THE INPUT: true; the input reads as it did. -/
def fnExactAreaDropSpec : ChangeSpec := { name := "fnExactAreaDrop", fn := fun _ => fun
  | [d1, d2, d3] => { results := [.lit (.bool true)], args := [d1, d2, d3] }
  | _ => none }
def fnExactAreaDropRow : OpenClaim := { program := "ytimmoclemcnhnaadoor", sum := "0d2b0b6bd6a3a243e0d0f90315c90bc88cb47681c40bf9a52296e8681c591a49", func := "loop.example/g00551/laws.FnExactAreaDrop", spec := "fnExactAreaDrop", inPlace := ["internal/bytealg.abigen_runtime_cmpstring", "internal/reflectlite.ValueOf", "(internal/reflectlite.Value).Type", "(internal/reflectlite.Value).IsNil", "internal/reflectlite.TypeOf", "(internal/reflectlite.Value).Elem", "(internal/reflectlite.Value).Set"], unfollowed := true, recurses := true, named := ["errors.errorType"], plainKeys := false, apart := false, laid := [("errors.errorType", laid_errors_errorType)] }
def FnExactAreaDropSaid : Prop := fnExactAreaDropRow.holds Tryd.pinned (OpenSpec.ofChange fnExactAreaDropSpec)

/-- ITS FALSE NEIGHBOUR: 'it returns false'. Refute it at one input. -/
def fnExactAreaDropWrong : ChangeSpec := { name := "fnExactAreaDrop", fn := fun _ => fun
  | [d1, d2, d3] => { results := [.lit (.bool false)], args := [d1, d2, d3] }
  | _ => none }
def FnExactAreaDropWrongFalsely : Prop := fnExactAreaDropRow.holds Tryd.pinned (OpenSpec.ofChange fnExactAreaDropWrong)

/- THE SECOND FORM. 'bulk': how many values and letters a reading holds, each counted each time it is reached (what is shared counts as often as it is met; a slice's spare places count too). A statement '..UptoSaid' is the law's where the arguments, and the package variables that the reading takes, are together of bulk at most 1048576: NARROWER than '..Said'. Prove '..Said' where nothing that the law and all that it calls make is longer than what came in: it says more and counts as full. Else prove '..UptoSaid'. A law counts once. -/
mutual
def uptoBulk {H : Type} : DataW H → Nat
  | .lit (.string bytes) => bytes.length + 1
  | .lit _ => 1
  | .nil => 1
  | .ptr d => uptoBulk d + 1
  | .slice elems spare => uptoBulkAll elems + uptoBulkAll spare + 1
  | .agg parts => uptoBulkAll parts + 1
  | .iface _ d => uptoBulk d + 1
  | .map entries => uptoBulkEntries entries + 1
  | .held _ => 1
def uptoBulkAll {H : Type} : List (DataW H) → Nat
  | [] => 0
  | d :: r => uptoBulk d + uptoBulkAll r
def uptoBulkEntries {H : Type} : List (Lit × DataW H) → Nat
  | [] => 0
  | x :: r => uptoBulkEntry x + uptoBulkEntries r
def uptoBulkEntry {H : Type} : Lit × DataW H → Nat
  | (.string bytes, d) => bytes.length + uptoBulk d + 1
  | (_, d) => uptoBulk d + 1
 end
def uptoSmall : (H : Type) → List (DataW H) → Bool := fun _ ds => decide (uptoBulkAll ds ≤ 1048576)
def OpenSpec.upto (s : _root_.Go.ChangeSpec) : _root_.Go.OpenSpec := { _root_.Go.OpenSpec.ofChange s with cond := some uptoSmall }

/-- 'laws.FnSuffix', WHERE WHAT IT READS IS OF BULK AT MOST 1048576: true; the input reads as it did. -/
def fnSuffixUptoRow : OpenClaim := { program := "ytimmoclemcnhnaadoor", sum := "0d2b0b6bd6a3a243e0d0f90315c90bc88cb47681c40bf9a52296e8681c591a49", func := "loop.example/g00551/laws.FnSuffix", spec := "fnSuffix", inPlace := ["internal/bytealg.CountString", "internal/bytealg.IndexByteString", "internal/bytealg.IndexString", "internal/abi.NoEscape", "internal/bytealg.MakeNoZero"], unfollowed := true, recurses := true, named := ["unicode/utf8.first", "unicode/utf8.acceptRanges", "internal/bytealg.MaxLen"], plainKeys := false, apart := false, laid := [("unicode/utf8.acceptRanges", laid_unicode_utf8_acceptRanges), ("unicode/utf8.first", laid_unicode_utf8_first)], narrowed := true }
def FnSuffixUptoSaid : Prop := fnSuffixUptoRow.holds Tryd.pinned (OpenSpec.upto fnSuffixSpec)

/-- 'laws.FnExactJarFor', WHERE WHAT IT READS IS OF BULK AT MOST 1048576: true; the input reads as it did. -/
def fnExactJarForUptoRow : OpenClaim := { program := "ytimmoclemcnhnaadoor", sum := "0d2b0b6bd6a3a243e0d0f90315c90bc88cb47681c40bf9a52296e8681c591a49", func := "loop.example/g00551/laws.FnExactJarFor", spec := "fnExactJarFor", inPlace := ["internal/bytealg.CountString", "internal/bytealg.IndexByteString", "internal/bytealg.IndexString"], unfollowed := true, recurses := true, named := ["unicode/utf8.first", "unicode/utf8.acceptRanges", "internal/bytealg.MaxLen"], plainKeys := false, apart := false, laid := [("unicode/utf8.acceptRanges", laid_unicode_utf8_acceptRanges), ("unicode/utf8.first", laid_unicode_utf8_first)], narrowed := true }
def FnExactJarForUptoSaid : Prop := fnExactJarForUptoRow.holds Tryd.pinned (OpenSpec.upto fnExactJarForSpec)

/-- 'laws.FnExactAreaPut', WHERE WHAT IT READS IS OF BULK AT MOST 1048576: true; the input reads as it did. -/
def fnExactAreaPutUptoRow : OpenClaim := { program := "ytimmoclemcnhnaadoor", sum := "0d2b0b6bd6a3a243e0d0f90315c90bc88cb47681c40bf9a52296e8681c591a49", func := "loop.example/g00551/laws.FnExactAreaPut", spec := "fnExactAreaPut", inPlace := ["internal/bytealg.abigen_runtime_cmpstring", "internal/reflectlite.ValueOf", "(internal/reflectlite.Value).Type", "(internal/reflectlite.Value).IsNil", "internal/reflectlite.TypeOf", "(internal/reflectlite.Value).Elem", "(internal/reflectlite.Value).Set"], unfollowed := true, recurses := true, named := ["errors.errorType"], plainKeys := false, apart := false, laid := [("errors.errorType", laid_errors_errorType)], narrowed := true }
def FnExactAreaPutUptoSaid : Prop := fnExactAreaPutUptoRow.holds Tryd.pinned (OpenSpec.upto fnExactAreaPutSpec)

/-- 'laws.FnExactAreaGet', WHERE WHAT IT READS IS OF BULK AT MOST 1048576: true; the input reads as it did. -/
def fnExactAreaGetUptoRow : OpenClaim := { program := "ytimmoclemcnhnaadoor", sum := "0d2b0b6bd6a3a243e0d0f90315c90bc88cb47681c40bf9a52296e8681c591a49", func := "loop.example/g00551/laws.FnExactAreaGet", spec := "fnExactAreaGet", inPlace := ["internal/bytealg.abigen_runtime_cmpstring", "internal/reflectlite.ValueOf", "(internal/reflectlite.Value).Type", "(internal/reflectlite.Value).IsNil", "internal/reflectlite.TypeOf", "(internal/reflectlite.Value).Elem", "(internal/reflectlite.Value).Set"], unfollowed := true, recurses := true, named := ["errors.errorType"], plainKeys := false, apart := false, laid := [("errors.errorType", laid_errors_errorType)], narrowed := true }
def FnExactAreaGetUptoSaid : Prop := fnExactAreaGetUptoRow.holds Tryd.pinned (OpenSpec.upto fnExactAreaGetSpec)

/-- 'laws.FnExactAreaDrop', WHERE WHAT IT READS IS OF BULK AT MOST 1048576: true; the input reads as it did. -/
def fnExactAreaDropUptoRow : OpenClaim := { program := "ytimmoclemcnhnaadoor", sum := "0d2b0b6bd6a3a243e0d0f90315c90bc88cb47681c40bf9a52296e8681c591a49", func := "loop.example/g00551/laws.FnExactAreaDrop", spec := "fnExactAreaDrop", inPlace := ["internal/bytealg.abigen_runtime_cmpstring", "internal/reflectlite.ValueOf", "(internal/reflectlite.Value).Type", "(internal/reflectlite.Value).IsNil", "internal/reflectlite.TypeOf", "(internal/reflectlite.Value).Elem", "(internal/reflectlite.Value).Set"], unfollowed := true, recurses := true, named := ["errors.errorType"], plainKeys := false, apart := false, laid := [("errors.errorType", laid_errors_errorType)], narrowed := true }
def FnExactAreaDropUptoSaid : Prop := fnExactAreaDropUptoRow.holds Tryd.pinned (OpenSpec.upto fnExactAreaDropSpec)

end Rows
end Go.Proofs.YtimmoclemcnhnaaDoor

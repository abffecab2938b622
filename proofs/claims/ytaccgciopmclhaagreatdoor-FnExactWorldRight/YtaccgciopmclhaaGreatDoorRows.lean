/-
  NARROWER THAN 'FOR EVERY INPUT', by the rows' own cells (each row's printed sentence says how): FnExactWorldRight: ifaces, laid · FnExactPass: ifaces, laid · FnExactTouch: ifaces, laid.
  DERIVED. THE GIVEN ROWS OF THIS SEAT. 3 by the template 'for every input the law returns true; each argument reads behind the call as it read before'; 0 by the template 'total and deterministic' (their statements: YtaccgciopmclhaaGreatDoorTotals.lean).
  GIVEN WITH THE SEED: the statements are not yours to turn. If you find one false, say at which input.
  Laid BY PROGRAM, IN A SANDBOX (cutbox-rows.mjs): the forced cells as the released guide's own fill.sh prints them over the translation c1b19f5bedd623a3… (all of the seat's roots in one cut). By AI agents, Wed Nov 11 2026. No macro, syntax, notation, axiom, sorry.
-/
import Derived.Test.YtaccgciopmclhaaGreatDoorChecked
import GoSem.PinnedTables
import GoSem.Claim
import GoSem.ClaimJoined
import GoSem.ClaimMapViews
import Derived.JoinedTies
import Derived.KernelRfl
namespace Go.Proofs.YtaccgciopmclhaaGreatDoor
/- THE CELL 'sum', in the pinned program and in every row, IS THE sha256 OF THE DUMP (.gsa) THAT YtaccgciopmclhaaGreatDoorProg.lean LOADS. Nothing in Lean hashes anything: it is a label: what it is worth is what the hold of that sum in a sandbox is worth. -/
noncomputable def Tryz.pinned : Pinned := { name := "ytaccgciopmclhaagreatdoor", sum := "c1b19f5bedd623a3d7586c84fa474965c0205caa15216eda59ef4297dafd2e01", checked := Tryz.checked }
namespace Rows
def none {H : Type} : Left H := { results := [], args := [] }

/- WHAT THE LISTED PACKAGE-LEVEL VARIABLES READ AS WHEN THE CALL BEGINS. Each datum BY PROGRAM (the guide's laid-datum.mjs) off the statement by which the dump's own 'gosem.cut.vars' lays the variable. In a bare row this is a premise. The card (YtaccgciopmclhaaGreatDoorCards.lean) ties it to the program's text. -/
def laid_unicode_utf8_acceptRanges {H : Type} : DataW H := .agg [.agg [.lit (.int .u8 128), .lit (.int .u8 191)], .agg [.lit (.int .u8 160), .lit (.int .u8 191)], .agg [.lit (.int .u8 128), .lit (.int .u8 159)], .agg [.lit (.int .u8 144), .lit (.int .u8 191)], .agg [.lit (.int .u8 128), .lit (.int .u8 143)], .agg [.lit (.int .u8 0), .lit (.int .u8 0)], .agg [.lit (.int .u8 0), .lit (.int .u8 0)], .agg [.lit (.int .u8 0), .lit (.int .u8 0)], .agg [.lit (.int .u8 0), .lit (.int .u8 0)], .agg [.lit (.int .u8 0), .lit (.int .u8 0)], .agg [.lit (.int .u8 0), .lit (.int .u8 0)], .agg [.lit (.int .u8 0), .lit (.int .u8 0)], .agg [.lit (.int .u8 0), .lit (.int .u8 0)], .agg [.lit (.int .u8 0), .lit (.int .u8 0)], .agg [.lit (.int .u8 0), .lit (.int .u8 0)], .agg [.lit (.int .u8 0), .lit (.int .u8 0)]]
def laid_loop_example_g00551_impl_errRules {H : Type} : DataW H := .iface "*errors.errorString" (.ptr (.agg [.lit (.string [116, 104, 101, 32, 114, 117, 108, 101, 115, 32, 97, 114, 101, 32, 110, 111, 116, 32, 114, 105, 103, 104, 116])]))
def laid_loop_example_g00551_impl_errOrder {H : Type} : DataW H := .iface "*errors.errorString" (.ptr (.agg [.lit (.string [116, 104, 101, 32, 115, 101, 116, 115, 32, 100, 111, 32, 110, 111, 116, 32, 114, 105, 115, 101, 32, 98, 121, 32, 116, 104, 101, 105, 114, 32, 112, 114, 105, 109, 97, 114, 105, 101, 115])]))
def laid_loop_example_g00551_impl_errMany {H : Type} : DataW H := .iface "*errors.errorString" (.ptr (.agg [.lit (.string [111, 110, 101, 32, 115, 101, 116, 32, 116, 111, 111, 32, 109, 97, 110, 121])]))
def laid_loop_example_g00551_impl_errWrong {H : Type} : DataW H := .iface "*errors.errorString" (.ptr (.agg [.lit (.string [97, 32, 115, 101, 116, 32, 105, 115, 32, 110, 111, 116, 32, 114, 105, 103, 104, 116, 32, 98, 121, 32, 105, 116, 115, 101, 108, 102])]))
def laid_loop_example_g00551_impl_errTaken {H : Type} : DataW H := .iface "*errors.errorString" (.ptr (.agg [.lit (.string [97, 32, 100, 111, 109, 97, 105, 110, 32, 105, 115, 32, 105, 110, 32, 97, 32, 115, 101, 116, 32, 97, 108, 114, 101, 97, 100, 121])]))
/-- One of Go's own tables, pinned by name: the form's constant. -/
def laid_unicode_utf8_first : DataW Unit := Go.Pinned.utf8First

/-- 'laws.FnExactWorldRight': WHATEVER THE INPUT: true; the input reads as it did. -/
def fnExactWorldRightSpec : ChangeSpec := { name := "fnExactWorldRight", vars := ["loop.example/g00551/impl.errRules", "loop.example/g00551/impl.errOrder", "loop.example/g00551/impl.errMany", "loop.example/g00551/impl.errWrong", "loop.example/g00551/impl.errTaken"], fn := fun _ => fun
  | [d, g1, g2, g3, g4, g5] => { results := [.lit (.bool true)], args := [d], vars := [g1, g2, g3, g4, g5] }
  | _ => none }
def fnExactWorldRightRow : OpenClaim := { program := "ytaccgciopmclhaagreatdoor", sum := "c1b19f5bedd623a3d7586c84fa474965c0205caa15216eda59ef4297dafd2e01", func := "loop.example/g00551/laws.FnExactWorldRight", spec := "fnExactWorldRight", inPlace := ["internal/bytealg.CountString", "internal/bytealg.IndexByteString", "internal/bytealg.IndexString", "internal/abi.NoEscape", "internal/bytealg.MakeNoZero", "internal/bytealg.abigen_runtime_cmpstring"], unfollowed := true, recurses := true, named := ["loop.example/g00551/impl.errRules", "loop.example/g00551/impl.errOrder", "unicode/utf8.first", "unicode/utf8.acceptRanges", "internal/bytealg.MaxLen", "loop.example/g00551/impl.errMany", "loop.example/g00551/impl.errWrong", "loop.example/g00551/impl.errTaken"], ifaces := true, apart := false, laid := [("unicode/utf8.acceptRanges", laid_unicode_utf8_acceptRanges), ("loop.example/g00551/impl.errRules", laid_loop_example_g00551_impl_errRules), ("loop.example/g00551/impl.errOrder", laid_loop_example_g00551_impl_errOrder), ("loop.example/g00551/impl.errMany", laid_loop_example_g00551_impl_errMany), ("loop.example/g00551/impl.errWrong", laid_loop_example_g00551_impl_errWrong), ("loop.example/g00551/impl.errTaken", laid_loop_example_g00551_impl_errTaken), ("unicode/utf8.first", laid_unicode_utf8_first)] }
def FnExactWorldRightSaid : Prop := fnExactWorldRightRow.holds Tryz.pinned (OpenSpec.ofChange fnExactWorldRightSpec)

/-- ITS FALSE NEIGHBOUR: 'it returns false'. Refute it at one input. -/
def fnExactWorldRightWrong : ChangeSpec := { name := "fnExactWorldRight", vars := ["loop.example/g00551/impl.errRules", "loop.example/g00551/impl.errOrder", "loop.example/g00551/impl.errMany", "loop.example/g00551/impl.errWrong", "loop.example/g00551/impl.errTaken"], fn := fun _ => fun
  | [d, g1, g2, g3, g4, g5] => { results := [.lit (.bool false)], args := [d], vars := [g1, g2, g3, g4, g5] }
  | _ => none }
def FnExactWorldRightWrongFalsely : Prop := fnExactWorldRightRow.holds Tryz.pinned (OpenSpec.ofChange fnExactWorldRightWrong)

/-- 'laws.FnExactPass': WHATEVER THE INPUT: true; the input reads as it did. -/
def fnExactPassSpec : ChangeSpec := { name := "fnExactPass", vars := ["loop.example/g00551/impl.errRules", "loop.example/g00551/impl.errOrder", "loop.example/g00551/impl.errMany", "loop.example/g00551/impl.errWrong", "loop.example/g00551/impl.errTaken"], fn := fun _ => fun
  | [d1, d2, g1, g2, g3, g4, g5] => { results := [.lit (.bool true)], args := [d1, d2], vars := [g1, g2, g3, g4, g5] }
  | _ => none }
def fnExactPassRow : OpenClaim := { program := "ytaccgciopmclhaagreatdoor", sum := "c1b19f5bedd623a3d7586c84fa474965c0205caa15216eda59ef4297dafd2e01", func := "loop.example/g00551/laws.FnExactPass", spec := "fnExactPass", inPlace := ["internal/bytealg.CountString", "internal/bytealg.IndexByteString", "internal/bytealg.IndexString", "internal/abi.NoEscape", "internal/bytealg.MakeNoZero", "internal/bytealg.abigen_runtime_cmpstring"], unfollowed := true, recurses := true, named := ["loop.example/g00551/impl.errRules", "loop.example/g00551/impl.errOrder", "unicode/utf8.first", "unicode/utf8.acceptRanges", "internal/bytealg.MaxLen", "loop.example/g00551/impl.errMany", "loop.example/g00551/impl.errWrong", "loop.example/g00551/impl.errTaken"], ifaces := true, apart := false, laid := [("unicode/utf8.acceptRanges", laid_unicode_utf8_acceptRanges), ("loop.example/g00551/impl.errRules", laid_loop_example_g00551_impl_errRules), ("loop.example/g00551/impl.errOrder", laid_loop_example_g00551_impl_errOrder), ("loop.example/g00551/impl.errMany", laid_loop_example_g00551_impl_errMany), ("loop.example/g00551/impl.errWrong", laid_loop_example_g00551_impl_errWrong), ("loop.example/g00551/impl.errTaken", laid_loop_example_g00551_impl_errTaken), ("unicode/utf8.first", laid_unicode_utf8_first)] }
def FnExactPassSaid : Prop := fnExactPassRow.holds Tryz.pinned (OpenSpec.ofChange fnExactPassSpec)

/-- ITS FALSE NEIGHBOUR: 'it returns false'. Refute it at one input. -/
def fnExactPassWrong : ChangeSpec := { name := "fnExactPass", vars := ["loop.example/g00551/impl.errRules", "loop.example/g00551/impl.errOrder", "loop.example/g00551/impl.errMany", "loop.example/g00551/impl.errWrong", "loop.example/g00551/impl.errTaken"], fn := fun _ => fun
  | [d1, d2, g1, g2, g3, g4, g5] => { results := [.lit (.bool false)], args := [d1, d2], vars := [g1, g2, g3, g4, g5] }
  | _ => none }
def FnExactPassWrongFalsely : Prop := fnExactPassRow.holds Tryz.pinned (OpenSpec.ofChange fnExactPassWrong)

/-- 'laws.FnExactTouch': WHATEVER THE INPUT: true; the input reads as it did. -/
def fnExactTouchSpec : ChangeSpec := { name := "fnExactTouch", vars := ["loop.example/g00551/impl.errRules", "loop.example/g00551/impl.errOrder", "loop.example/g00551/impl.errMany", "loop.example/g00551/impl.errWrong", "loop.example/g00551/impl.errTaken"], fn := fun _ => fun
  | [d1, d2, g1, g2, g3, g4, g5] => { results := [.lit (.bool true)], args := [d1, d2], vars := [g1, g2, g3, g4, g5] }
  | _ => none }
def fnExactTouchRow : OpenClaim := { program := "ytaccgciopmclhaagreatdoor", sum := "c1b19f5bedd623a3d7586c84fa474965c0205caa15216eda59ef4297dafd2e01", func := "loop.example/g00551/laws.FnExactTouch", spec := "fnExactTouch", inPlace := ["internal/bytealg.CountString", "internal/bytealg.IndexByteString", "internal/bytealg.IndexString", "internal/abi.NoEscape", "internal/bytealg.MakeNoZero", "internal/bytealg.abigen_runtime_cmpstring"], unfollowed := true, recurses := true, named := ["loop.example/g00551/impl.errRules", "loop.example/g00551/impl.errOrder", "unicode/utf8.first", "unicode/utf8.acceptRanges", "internal/bytealg.MaxLen", "loop.example/g00551/impl.errMany", "loop.example/g00551/impl.errWrong", "loop.example/g00551/impl.errTaken"], ifaces := true, apart := false, laid := [("unicode/utf8.acceptRanges", laid_unicode_utf8_acceptRanges), ("loop.example/g00551/impl.errRules", laid_loop_example_g00551_impl_errRules), ("loop.example/g00551/impl.errOrder", laid_loop_example_g00551_impl_errOrder), ("loop.example/g00551/impl.errMany", laid_loop_example_g00551_impl_errMany), ("loop.example/g00551/impl.errWrong", laid_loop_example_g00551_impl_errWrong), ("loop.example/g00551/impl.errTaken", laid_loop_example_g00551_impl_errTaken), ("unicode/utf8.first", laid_unicode_utf8_first)] }
def FnExactTouchSaid : Prop := fnExactTouchRow.holds Tryz.pinned (OpenSpec.ofChange fnExactTouchSpec)

/-- ITS FALSE NEIGHBOUR: 'it returns false'. Refute it at one input. -/
def fnExactTouchWrong : ChangeSpec := { name := "fnExactTouch", vars := ["loop.example/g00551/impl.errRules", "loop.example/g00551/impl.errOrder", "loop.example/g00551/impl.errMany", "loop.example/g00551/impl.errWrong", "loop.example/g00551/impl.errTaken"], fn := fun _ => fun
  | [d1, d2, g1, g2, g3, g4, g5] => { results := [.lit (.bool false)], args := [d1, d2], vars := [g1, g2, g3, g4, g5] }
  | _ => none }
def FnExactTouchWrongFalsely : Prop := fnExactTouchRow.holds Tryz.pinned (OpenSpec.ofChange fnExactTouchWrong)

/- THE SECOND FORM. 'bulk': how many values and letters a reading holds, each counted each time it is reached (what is shared counts as often as it is met; a slice's spare places count too). A statement '..UptoSaid' is the law's where the arguments, and the package variables that the reading takes, are together of bulk at most 1048576: NARROWER than '..Said'. Prove '..Said' where nothing that the law and all that it calls make is longer than what came in: it says more and counts as full. Else prove '..UptoSaid'. A law counts once. -/
mutual
def uptoBulk {H : Type} : DataW H → Nat
  | .lit (.string bytes) => bytes.length + 1
  | .lit _ => 1
  | .nil => 1
  | .ptr d => uptoBulk d + 1
  | .slice elems spare => uptoBulkAll elems + uptoBulkAll spare + 1
  | .agg parts => uptoBulkAll parts + 1
  | .iface _ d => uptoBulk d + 1
  | .map entries => uptoBulkEntries entries + 1
  | .held _ => 1
def uptoBulkAll {H : Type} : List (DataW H) → Nat
  | [] => 0
  | d :: r => uptoBulk d + uptoBulkAll r
def uptoBulkEntries {H : Type} : List (Lit × DataW H) → Nat
  | [] => 0
  | x :: r => uptoBulkEntry x + uptoBulkEntries r
def uptoBulkEntry {H : Type} : Lit × DataW H → Nat
  | (.string bytes, d) => bytes.length + uptoBulk d + 1
  | (_, d) => uptoBulk d + 1
 end
def uptoSmall : (H : Type) → List (DataW H) → Bool := fun _ ds => decide (uptoBulkAll ds ≤ 1048576)
def OpenSpec.upto (s : _root_.Go.ChangeSpec) : _root_.Go.OpenSpec := { _root_.Go.OpenSpec.ofChange s with cond := some uptoSmall }

/-- 'laws.FnExactWorldRight', WHERE WHAT IT READS IS OF BULK AT MOST 1048576: true; the input reads as it did. -/
def fnExactWorldRightUptoRow : OpenClaim := { program := "ytaccgciopmclhaagreatdoor", sum := "c1b19f5bedd623a3d7586c84fa474965c0205caa15216eda59ef4297dafd2e01", func := "loop.example/g00551/laws.FnExactWorldRight", spec := "fnExactWorldRight", inPlace := ["internal/bytealg.CountString", "internal/bytealg.IndexByteString", "internal/bytealg.IndexString", "internal/abi.NoEscape", "internal/bytealg.MakeNoZero", "internal/bytealg.abigen_runtime_cmpstring"], unfollowed := true, recurses := true, named := ["loop.example/g00551/impl.errRules", "loop.example/g00551/impl.errOrder", "unicode/utf8.first", "unicode/utf8.acceptRanges", "internal/bytealg.MaxLen", "loop.example/g00551/impl.errMany", "loop.example/g00551/impl.errWrong", "loop.example/g00551/impl.errTaken"], ifaces := true, apart := false, laid := [("unicode/utf8.acceptRanges", laid_unicode_utf8_acceptRanges), ("loop.example/g00551/impl.errRules", laid_loop_example_g00551_impl_errRules), ("loop.example/g00551/impl.errOrder", laid_loop_example_g00551_impl_errOrder), ("loop.example/g00551/impl.errMany", laid_loop_example_g00551_impl_errMany), ("loop.example/g00551/impl.errWrong", laid_loop_example_g00551_impl_errWrong), ("loop.example/g00551/impl.errTaken", laid_loop_example_g00551_impl_errTaken), ("unicode/utf8.first", laid_unicode_utf8_first)], narrowed := true }
def FnExactWorldRightUptoSaid : Prop := fnExactWorldRightUptoRow.holds Tryz.pinned (OpenSpec.upto fnExactWorldRightSpec)

/-- 'laws.FnExactPass', WHERE WHAT IT READS IS OF BULK AT MOST 1048576: true; the input reads as it did. -/
def fnExactPassUptoRow : OpenClaim := { program := "ytaccgciopmclhaagreatdoor", sum := "c1b19f5bedd623a3d7586c84fa474965c0205caa15216eda59ef4297dafd2e01", func := "loop.example/g00551/laws.FnExactPass", spec := "fnExactPass", inPlace := ["internal/bytealg.CountString", "internal/bytealg.IndexByteString", "internal/bytealg.IndexString", "internal/abi.NoEscape", "internal/bytealg.MakeNoZero", "internal/bytealg.abigen_runtime_cmpstring"], unfollowed := true, recurses := true, named := ["loop.example/g00551/impl.errRules", "loop.example/g00551/impl.errOrder", "unicode/utf8.first", "unicode/utf8.acceptRanges", "internal/bytealg.MaxLen", "loop.example/g00551/impl.errMany", "loop.example/g00551/impl.errWrong", "loop.example/g00551/impl.errTaken"], ifaces := true, apart := false, laid := [("unicode/utf8.acceptRanges", laid_unicode_utf8_acceptRanges), ("loop.example/g00551/impl.errRules", laid_loop_example_g00551_impl_errRules), ("loop.example/g00551/impl.errOrder", laid_loop_example_g00551_impl_errOrder), ("loop.example/g00551/impl.errMany", laid_loop_example_g00551_impl_errMany), ("loop.example/g00551/impl.errWrong", laid_loop_example_g00551_impl_errWrong), ("loop.example/g00551/impl.errTaken", laid_loop_example_g00551_impl_errTaken), ("unicode/utf8.first", laid_unicode_utf8_first)], narrowed := true }
def FnExactPassUptoSaid : Prop := fnExactPassUptoRow.holds Tryz.pinned (OpenSpec.upto fnExactPassSpec)

/-- 'laws.FnExactTouch', WHERE WHAT IT READS IS OF BULK AT MOST 1048576: true; the input reads as it did. -/
def fnExactTouchUptoRow : OpenClaim := { program := "ytaccgciopmclhaagreatdoor", sum := "c1b19f5bedd623a3d7586c84fa474965c0205caa15216eda59ef4297dafd2e01", func := "loop.example/g00551/laws.FnExactTouch", spec := "fnExactTouch", inPlace := ["internal/bytealg.CountString", "internal/bytealg.IndexByteString", "internal/bytealg.IndexString", "internal/abi.NoEscape", "internal/bytealg.MakeNoZero", "internal/bytealg.abigen_runtime_cmpstring"], unfollowed := true, recurses := true, named := ["loop.example/g00551/impl.errRules", "loop.example/g00551/impl.errOrder", "unicode/utf8.first", "unicode/utf8.acceptRanges", "internal/bytealg.MaxLen", "loop.example/g00551/impl.errMany", "loop.example/g00551/impl.errWrong", "loop.example/g00551/impl.errTaken"], ifaces := true, apart := false, laid := [("unicode/utf8.acceptRanges", laid_unicode_utf8_acceptRanges), ("loop.example/g00551/impl.errRules", laid_loop_example_g00551_impl_errRules), ("loop.example/g00551/impl.errOrder", laid_loop_example_g00551_impl_errOrder), ("loop.example/g00551/impl.errMany", laid_loop_example_g00551_impl_errMany), ("loop.example/g00551/impl.errWrong", laid_loop_example_g00551_impl_errWrong), ("loop.example/g00551/impl.errTaken", laid_loop_example_g00551_impl_errTaken), ("unicode/utf8.first", laid_unicode_utf8_first)], narrowed := true }
def FnExactTouchUptoSaid : Prop := fnExactTouchUptoRow.holds Tryz.pinned (OpenSpec.upto fnExactTouchSpec)

end Rows
end Go.Proofs.YtaccgciopmclhaaGreatDoor

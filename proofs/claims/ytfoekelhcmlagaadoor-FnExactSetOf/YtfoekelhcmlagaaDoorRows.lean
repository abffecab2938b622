/-
  NARROWER THAN 'FOR EVERY INPUT', by the rows' own cells (each row's printed sentence says how): FnSuffix: laid · FnExactSetsRight: ifaces, laid · FnExactSetsText: ifaces, laid · FnExactSetOf: ifaces, laid · FnExactRelated: ifaces, laid · FnExactCookieRight: laid · FnExactJarRight: laid · FnExactHostFits: laid · FnExactJarFor: laid · FnExactJarOld: laid.
  DERIVED. THE GIVEN ROWS OF THIS SEAT. 10 by the template 'for every input the law returns true; each argument reads behind the call as it read before'; 0 by the template 'total and deterministic' (their statements: YtfoekelhcmlagaaDoorTotals.lean).
  GIVEN WITH THE SEED: the statements are not yours to turn. If you find one false, say at which input.
  Laid BY PROGRAM, IN A SANDBOX (cutbox-rows.mjs): the forced cells as the released guide's own fill.sh prints them over the translation 451980898b5417a3… (all of the seat's roots in one cut). By AI agents, Wed Nov 11 2026. No macro, syntax, notation, axiom, sorry.
-/
import Derived.Test.YtfoekelhcmlagaaDoorChecked
import GoSem.PinnedTables
import GoSem.Claim
import GoSem.ClaimJoined
import GoSem.ClaimMapViews
import Derived.JoinedTies
import Derived.KernelRfl
namespace Go.Proofs.YtfoekelhcmlagaaDoor
/- THE CELL 'sum', in the pinned program and in every row, IS THE sha256 OF THE DUMP (.gsa) THAT YtfoekelhcmlagaaDoorProg.lean LOADS. Nothing in Lean hashes anything: it is a label: what it is worth is what the hold of that sum in a sandbox is worth. -/
noncomputable def Tryd.pinned : Pinned := { name := "ytfoekelhcmlagaadoor", sum := "451980898b5417a3f79305162454cfb7a64dde62979f08d2c966bef8cb0af0df", checked := Tryd.checked }
namespace Rows
def none {H : Type} : Left H := { results := [], args := [] }

/- WHAT THE LISTED PACKAGE-LEVEL VARIABLES READ AS WHEN THE CALL BEGINS. Each datum BY PROGRAM (the guide's laid-datum.mjs) off the statement by which the dump's own 'gosem.cut.vars' lays the variable. In a bare row this is a premise. The card (YtfoekelhcmlagaaDoorCards.lean) ties it to the program's text. -/
def laid_unicode_utf8_acceptRanges {H : Type} : DataW H := .agg [.agg [.lit (.int .u8 128), .lit (.int .u8 191)], .agg [.lit (.int .u8 160), .lit (.int .u8 191)], .agg [.lit (.int .u8 128), .lit (.int .u8 159)], .agg [.lit (.int .u8 144), .lit (.int .u8 191)], .agg [.lit (.int .u8 128), .lit (.int .u8 143)], .agg [.lit (.int .u8 0), .lit (.int .u8 0)], .agg [.lit (.int .u8 0), .lit (.int .u8 0)], .agg [.lit (.int .u8 0), .lit (.int .u8 0)], .agg [.lit (.int .u8 0), .lit (.int .u8 0)], .agg [.lit (.int .u8 0), .lit (.int .u8 0)], .agg [.lit (.int .u8 0), .lit (.int .u8 0)], .agg [.lit (.int .u8 0), .lit (.int .u8 0)], .agg [.lit (.int .u8 0), .lit (.int .u8 0)], .agg [.lit (.int .u8 0), .lit (.int .u8 0)], .agg [.lit (.int .u8 0), .lit (.int .u8 0)], .agg [.lit (.int .u8 0), .lit (.int .u8 0)]]
/-- One of Go's own tables, pinned by name: the form's constant. -/
def laid_unicode_utf8_first : DataW Unit := Go.Pinned.utf8First
def laid_loop_example_g00551_impl_errRules {H : Type} : DataW H := .iface "*errors.errorString" (.ptr (.agg [.lit (.string [116, 104, 101, 32, 114, 117, 108, 101, 115, 32, 97, 114, 101, 32, 110, 111, 116, 32, 114, 105, 103, 104, 116])]))
def laid_loop_example_g00551_impl_errOrder {H : Type} : DataW H := .iface "*errors.errorString" (.ptr (.agg [.lit (.string [116, 104, 101, 32, 115, 101, 116, 115, 32, 100, 111, 32, 110, 111, 116, 32, 114, 105, 115, 101, 32, 98, 121, 32, 116, 104, 101, 105, 114, 32, 112, 114, 105, 109, 97, 114, 105, 101, 115])]))
def laid_loop_example_g00551_impl_errMany {H : Type} : DataW H := .iface "*errors.errorString" (.ptr (.agg [.lit (.string [111, 110, 101, 32, 115, 101, 116, 32, 116, 111, 111, 32, 109, 97, 110, 121])]))
def laid_loop_example_g00551_impl_errWrong {H : Type} : DataW H := .iface "*errors.errorString" (.ptr (.agg [.lit (.string [97, 32, 115, 101, 116, 32, 105, 115, 32, 110, 111, 116, 32, 114, 105, 103, 104, 116, 32, 98, 121, 32, 105, 116, 115, 101, 108, 102])]))
def laid_loop_example_g00551_impl_errTaken {H : Type} : DataW H := .iface "*errors.errorString" (.ptr (.agg [.lit (.string [97, 32, 100, 111, 109, 97, 105, 110, 32, 105, 115, 32, 105, 110, 32, 97, 32, 115, 101, 116, 32, 97, 108, 114, 101, 97, 100, 121])]))

/-- 'laws.FnSuffix': WHATEVER THE INPUT: true; the input reads as it did. -/
def fnSuffixSpec : ChangeSpec := { name := "fnSuffix", fn := fun _ => fun
  | [d1, d2] => { results := [.lit (.bool true)], args := [d1, d2] }
  | _ => none }
def fnSuffixRow : OpenClaim := { program := "ytfoekelhcmlagaadoor", sum := "451980898b5417a3f79305162454cfb7a64dde62979f08d2c966bef8cb0af0df", func := "loop.example/g00551/laws.FnSuffix", spec := "fnSuffix", inPlace := ["internal/bytealg.CountString", "internal/bytealg.IndexByteString", "internal/bytealg.IndexString", "internal/abi.NoEscape", "internal/bytealg.MakeNoZero"], unfollowed := true, recurses := true, named := ["unicode/utf8.first", "unicode/utf8.acceptRanges", "internal/bytealg.MaxLen"], apart := false, laid := [("unicode/utf8.acceptRanges", laid_unicode_utf8_acceptRanges), ("unicode/utf8.first", laid_unicode_utf8_first)] }
def FnSuffixSaid : Prop := fnSuffixRow.holds Tryd.pinned (OpenSpec.ofChange fnSuffixSpec)

/-- ITS FALSE NEIGHBOUR: 'it returns false'. Refute it at one input. -/
def fnSuffixWrong : ChangeSpec := { name := "fnSuffix", fn := fun _ => fun
  | [d1, d2] => { results := [.lit (.bool false)], args := [d1, d2] }
  | _ => none }
def FnSuffixWrongFalsely : Prop := fnSuffixRow.holds Tryd.pinned (OpenSpec.ofChange fnSuffixWrong)

/-- 'laws.FnExactSetsRight': WHATEVER THE INPUT: true; the input reads as it did. -/
def fnExactSetsRightSpec : ChangeSpec := { name := "fnExactSetsRight", vars := ["loop.example/g00551/impl.errRules", "loop.example/g00551/impl.errOrder", "loop.example/g00551/impl.errMany", "loop.example/g00551/impl.errWrong", "loop.example/g00551/impl.errTaken"], fn := fun _ => fun
  | [d1, d2, g1, g2, g3, g4, g5] => { results := [.lit (.bool true)], args := [d1, d2], vars := [g1, g2, g3, g4, g5] }
  | _ => none }
def fnExactSetsRightRow : OpenClaim := { program := "ytfoekelhcmlagaadoor", sum := "451980898b5417a3f79305162454cfb7a64dde62979f08d2c966bef8cb0af0df", func := "loop.example/g00551/laws.FnExactSetsRight", spec := "fnExactSetsRight", inPlace := ["internal/bytealg.CountString", "internal/bytealg.IndexByteString", "internal/bytealg.IndexString", "internal/abi.NoEscape", "internal/bytealg.MakeNoZero"], unfollowed := true, recurses := true, named := ["loop.example/g00551/impl.errRules", "loop.example/g00551/impl.errOrder", "unicode/utf8.first", "unicode/utf8.acceptRanges", "internal/bytealg.MaxLen", "loop.example/g00551/impl.errMany", "loop.example/g00551/impl.errWrong", "loop.example/g00551/impl.errTaken"], ifaces := true, apart := false, laid := [("unicode/utf8.acceptRanges", laid_unicode_utf8_acceptRanges), ("loop.example/g00551/impl.errRules", laid_loop_example_g00551_impl_errRules), ("loop.example/g00551/impl.errOrder", laid_loop_example_g00551_impl_errOrder), ("loop.example/g00551/impl.errMany", laid_loop_example_g00551_impl_errMany), ("loop.example/g00551/impl.errWrong", laid_loop_example_g00551_impl_errWrong), ("loop.example/g00551/impl.errTaken", laid_loop_example_g00551_impl_errTaken), ("unicode/utf8.first", laid_unicode_utf8_first)] }
def FnExactSetsRightSaid : Prop := fnExactSetsRightRow.holds Tryd.pinned (OpenSpec.ofChange fnExactSetsRightSpec)

/-- ITS FALSE NEIGHBOUR: 'it returns false'. Refute it at one input. -/
def fnExactSetsRightWrong : ChangeSpec := { name := "fnExactSetsRight", vars := ["loop.example/g00551/impl.errRules", "loop.example/g00551/impl.errOrder", "loop.example/g00551/impl.errMany", "loop.example/g00551/impl.errWrong", "loop.example/g00551/impl.errTaken"], fn := fun _ => fun
  | [d1, d2, g1, g2, g3, g4, g5] => { results := [.lit (.bool false)], args := [d1, d2], vars := [g1, g2, g3, g4, g5] }
  | _ => none }
def FnExactSetsRightWrongFalsely : Prop := fnExactSetsRightRow.holds Tryd.pinned (OpenSpec.ofChange fnExactSetsRightWrong)

/-- 'laws.FnExactSetsText': WHATEVER THE INPUT: true; the input reads as it did. -/
def fnExactSetsTextSpec : ChangeSpec := { name := "fnExactSetsText", vars := ["loop.example/g00551/impl.errRules", "loop.example/g00551/impl.errOrder", "loop.example/g00551/impl.errMany", "loop.example/g00551/impl.errWrong", "loop.example/g00551/impl.errTaken"], fn := fun _ => fun
  | [d1, d2, g1, g2, g3, g4, g5] => { results := [.lit (.bool true)], args := [d1, d2], vars := [g1, g2, g3, g4, g5] }
  | _ => none }
def fnExactSetsTextRow : OpenClaim := { program := "ytfoekelhcmlagaadoor", sum := "451980898b5417a3f79305162454cfb7a64dde62979f08d2c966bef8cb0af0df", func := "loop.example/g00551/laws.FnExactSetsText", spec := "fnExactSetsText", inPlace := ["internal/bytealg.CountString", "internal/bytealg.IndexByteString", "internal/bytealg.IndexString", "internal/abi.NoEscape", "internal/bytealg.MakeNoZero"], unfollowed := true, recurses := true, named := ["loop.example/g00551/impl.errRules", "loop.example/g00551/impl.errOrder", "unicode/utf8.first", "unicode/utf8.acceptRanges", "internal/bytealg.MaxLen", "loop.example/g00551/impl.errMany", "loop.example/g00551/impl.errWrong", "loop.example/g00551/impl.errTaken"], ifaces := true, apart := false, laid := [("unicode/utf8.acceptRanges", laid_unicode_utf8_acceptRanges), ("loop.example/g00551/impl.errRules", laid_loop_example_g00551_impl_errRules), ("loop.example/g00551/impl.errOrder", laid_loop_example_g00551_impl_errOrder), ("loop.example/g00551/impl.errMany", laid_loop_example_g00551_impl_errMany), ("loop.example/g00551/impl.errWrong", laid_loop_example_g00551_impl_errWrong), ("loop.example/g00551/impl.errTaken", laid_loop_example_g00551_impl_errTaken), ("unicode/utf8.first", laid_unicode_utf8_first)] }
def FnExactSetsTextSaid : Prop := fnExactSetsTextRow.holds Tryd.pinned (OpenSpec.ofChange fnExactSetsTextSpec)

/-- ITS FALSE NEIGHBOUR: 'it returns false'. Refute it at one input. -/
def fnExactSetsTextWrong : ChangeSpec := { name := "fnExactSetsText", vars := ["loop.example/g00551/impl.errRules", "loop.example/g00551/impl.errOrder", "loop.example/g00551/impl.errMany", "loop.example/g00551/impl.errWrong", "loop.example/g00551/impl.errTaken"], fn := fun _ => fun
  | [d1, d2, g1, g2, g3, g4, g5] => { results := [.lit (.bool false)], args := [d1, d2], vars := [g1, g2, g3, g4, g5] }
  | _ => none }
def FnExactSetsTextWrongFalsely : Prop := fnExactSetsTextRow.holds Tryd.pinned (OpenSpec.ofChange fnExactSetsTextWrong)

/-- 'laws.FnExactSetOf': WHATEVER THE INPUT: true; the input reads as it did. -/
def fnExactSetOfSpec : ChangeSpec := { name := "fnExactSetOf", vars := ["loop.example/g00551/impl.errRules", "loop.example/g00551/impl.errOrder", "loop.example/g00551/impl.errMany", "loop.example/g00551/impl.errWrong", "loop.example/g00551/impl.errTaken"], fn := fun _ => fun
  | [d1, d2, d3, g1, g2, g3, g4, g5] => { results := [.lit (.bool true)], args := [d1, d2, d3], vars := [g1, g2, g3, g4, g5] }
  | _ => none }
def fnExactSetOfRow : OpenClaim := { program := "ytfoekelhcmlagaadoor", sum := "451980898b5417a3f79305162454cfb7a64dde62979f08d2c966bef8cb0af0df", func := "loop.example/g00551/laws.FnExactSetOf", spec := "fnExactSetOf", inPlace := ["internal/bytealg.CountString", "internal/bytealg.IndexByteString", "internal/bytealg.IndexString", "internal/abi.NoEscape", "internal/bytealg.MakeNoZero"], unfollowed := true, recurses := true, named := ["loop.example/g00551/impl.errRules", "loop.example/g00551/impl.errOrder", "unicode/utf8.first", "unicode/utf8.acceptRanges", "internal/bytealg.MaxLen", "loop.example/g00551/impl.errMany", "loop.example/g00551/impl.errWrong", "loop.example/g00551/impl.errTaken"], ifaces := true, apart := false, laid := [("unicode/utf8.acceptRanges", laid_unicode_utf8_acceptRanges), ("loop.example/g00551/impl.errRules", laid_loop_example_g00551_impl_errRules), ("loop.example/g00551/impl.errOrder", laid_loop_example_g00551_impl_errOrder), ("loop.example/g00551/impl.errMany", laid_loop_example_g00551_impl_errMany), ("loop.example/g00551/impl.errWrong", laid_loop_example_g00551_impl_errWrong), ("loop.example/g00551/impl.errTaken", laid_loop_example_g00551_impl_errTaken), ("unicode/utf8.first", laid_unicode_utf8_first)] }
def FnExactSetOfSaid : Prop := fnExactSetOfRow.holds Tryd.pinned (OpenSpec.ofChange fnExactSetOfSpec)

/-- ITS FALSE NEIGHBOUR: 'it returns false'. Refute it at one input. -/
def fnExactSetOfWrong : ChangeSpec := { name := "fnExactSetOf", vars := ["loop.example/g00551/impl.errRules", "loop.example/g00551/impl.errOrder", "loop.example/g00551/impl.errMany", "loop.example/g00551/impl.errWrong", "loop.example/g00551/impl.errTaken"], fn := fun _ => fun
  | [d1, d2, d3, g1, g2, g3, g4, g5] => { results := [.lit (.bool false)], args := [d1, d2, d3], vars := [g1, g2, g3, g4, g5] }
  | _ => none }
def FnExactSetOfWrongFalsely : Prop := fnExactSetOfRow.holds Tryd.pinned (OpenSpec.ofChange fnExactSetOfWrong)

/-- 'laws.FnExactRelated': WHATEVER THE INPUT: true; the input reads as it did. -/
def fnExactRelatedSpec : ChangeSpec := { name := "fnExactRelated", vars := ["loop.example/g00551/impl.errRules", "loop.example/g00551/impl.errOrder", "loop.example/g00551/impl.errMany", "loop.example/g00551/impl.errWrong", "loop.example/g00551/impl.errTaken"], fn := fun _ => fun
  | [d1, d2, d3, d4, g1, g2, g3, g4, g5] => { results := [.lit (.bool true)], args := [d1, d2, d3, d4], vars := [g1, g2, g3, g4, g5] }
  | _ => none }
def fnExactRelatedRow : OpenClaim := { program := "ytfoekelhcmlagaadoor", sum := "451980898b5417a3f79305162454cfb7a64dde62979f08d2c966bef8cb0af0df", func := "loop.example/g00551/laws.FnExactRelated", spec := "fnExactRelated", inPlace := ["internal/bytealg.CountString", "internal/bytealg.IndexByteString", "internal/bytealg.IndexString", "internal/abi.NoEscape", "internal/bytealg.MakeNoZero"], unfollowed := true, recurses := true, named := ["loop.example/g00551/impl.errRules", "loop.example/g00551/impl.errOrder", "unicode/utf8.first", "unicode/utf8.acceptRanges", "internal/bytealg.MaxLen", "loop.example/g00551/impl.errMany", "loop.example/g00551/impl.errWrong", "loop.example/g00551/impl.errTaken"], ifaces := true, apart := false, laid := [("unicode/utf8.acceptRanges", laid_unicode_utf8_acceptRanges), ("loop.example/g00551/impl.errRules", laid_loop_example_g00551_impl_errRules), ("loop.example/g00551/impl.errOrder", laid_loop_example_g00551_impl_errOrder), ("loop.example/g00551/impl.errMany", laid_loop_example_g00551_impl_errMany), ("loop.example/g00551/impl.errWrong", laid_loop_example_g00551_impl_errWrong), ("loop.example/g00551/impl.errTaken", laid_loop_example_g00551_impl_errTaken), ("unicode/utf8.first", laid_unicode_utf8_first)] }
def FnExactRelatedSaid : Prop := fnExactRelatedRow.holds Tryd.pinned (OpenSpec.ofChange fnExactRelatedSpec)

/-- ITS FALSE NEIGHBOUR: 'it returns false'. Refute it at one input. -/
def fnExactRelatedWrong : ChangeSpec := { name := "fnExactRelated", vars := ["loop.example/g00551/impl.errRules", "loop.example/g00551/impl.errOrder", "loop.example/g00551/impl.errMany", "loop.example/g00551/impl.errWrong", "loop.example/g00551/impl.errTaken"], fn := fun _ => fun
  | [d1, d2, d3, d4, g1, g2, g3, g4, g5] => { results := [.lit (.bool false)], args := [d1, d2, d3, d4], vars := [g1, g2, g3, g4, g5] }
  | _ => none }
def FnExactRelatedWrongFalsely : Prop := fnExactRelatedRow.holds Tryd.pinned (OpenSpec.ofChange fnExactRelatedWrong)

/-- 'laws.FnExactCookieRight': WHATEVER THE INPUT: true; the input reads as it did. -/
def fnExactCookieRightSpec : ChangeSpec := { name := "fnExactCookieRight", fn := fun _ => fun
  | [d] => { results := [.lit (.bool true)], args := [d] }
  | _ => none }
def fnExactCookieRightRow : OpenClaim := { program := "ytfoekelhcmlagaadoor", sum := "451980898b5417a3f79305162454cfb7a64dde62979f08d2c966bef8cb0af0df", func := "loop.example/g00551/laws.FnExactCookieRight", spec := "fnExactCookieRight", inPlace := ["internal/bytealg.CountString", "internal/bytealg.IndexByteString", "internal/bytealg.IndexString"], named := ["unicode/utf8.first", "unicode/utf8.acceptRanges", "internal/bytealg.MaxLen"], apart := false, laid := [("unicode/utf8.acceptRanges", laid_unicode_utf8_acceptRanges), ("unicode/utf8.first", laid_unicode_utf8_first)] }
def FnExactCookieRightSaid : Prop := fnExactCookieRightRow.holds Tryd.pinned (OpenSpec.ofChange fnExactCookieRightSpec)

/-- ITS FALSE NEIGHBOUR: 'it returns false'. Refute it at one input. -/
def fnExactCookieRightWrong : ChangeSpec := { name := "fnExactCookieRight", fn := fun _ => fun
  | [d] => { results := [.lit (.bool false)], args := [d] }
  | _ => none }
def FnExactCookieRightWrongFalsely : Prop := fnExactCookieRightRow.holds Tryd.pinned (OpenSpec.ofChange fnExactCookieRightWrong)

/-- 'laws.FnExactJarRight': WHATEVER THE INPUT: true; the input reads as it did. -/
def fnExactJarRightSpec : ChangeSpec := { name := "fnExactJarRight", fn := fun _ => fun
  | [d] => { results := [.lit (.bool true)], args := [d] }
  | _ => none }
def fnExactJarRightRow : OpenClaim := { program := "ytfoekelhcmlagaadoor", sum := "451980898b5417a3f79305162454cfb7a64dde62979f08d2c966bef8cb0af0df", func := "loop.example/g00551/laws.FnExactJarRight", spec := "fnExactJarRight", inPlace := ["internal/bytealg.CountString", "internal/bytealg.IndexByteString", "internal/bytealg.IndexString"], unfollowed := true, recurses := true, named := ["unicode/utf8.first", "unicode/utf8.acceptRanges", "internal/bytealg.MaxLen"], apart := false, laid := [("unicode/utf8.acceptRanges", laid_unicode_utf8_acceptRanges), ("unicode/utf8.first", laid_unicode_utf8_first)] }
def FnExactJarRightSaid : Prop := fnExactJarRightRow.holds Tryd.pinned (OpenSpec.ofChange fnExactJarRightSpec)

/-- ITS FALSE NEIGHBOUR: 'it returns false'. Refute it at one input. -/
def fnExactJarRightWrong : ChangeSpec := { name := "fnExactJarRight", fn := fun _ => fun
  | [d] => { results := [.lit (.bool false)], args := [d] }
  | _ => none }
def FnExactJarRightWrongFalsely : Prop := fnExactJarRightRow.holds Tryd.pinned (OpenSpec.ofChange fnExactJarRightWrong)

/-- 'laws.FnExactHostFits': WHATEVER THE INPUT: true; the input reads as it did. -/
def fnExactHostFitsSpec : ChangeSpec := { name := "fnExactHostFits", fn := fun _ => fun
  | [d1, d2] => { results := [.lit (.bool true)], args := [d1, d2] }
  | _ => none }
def fnExactHostFitsRow : OpenClaim := { program := "ytfoekelhcmlagaadoor", sum := "451980898b5417a3f79305162454cfb7a64dde62979f08d2c966bef8cb0af0df", func := "loop.example/g00551/laws.FnExactHostFits", spec := "fnExactHostFits", inPlace := ["internal/bytealg.CountString", "internal/bytealg.IndexByteString", "internal/bytealg.IndexString"], named := ["unicode/utf8.first", "unicode/utf8.acceptRanges", "internal/bytealg.MaxLen"], apart := false, laid := [("unicode/utf8.acceptRanges", laid_unicode_utf8_acceptRanges), ("unicode/utf8.first", laid_unicode_utf8_first)] }
def FnExactHostFitsSaid : Prop := fnExactHostFitsRow.holds Tryd.pinned (OpenSpec.ofChange fnExactHostFitsSpec)

/-- ITS FALSE NEIGHBOUR: 'it returns false'. Refute it at one input. -/
def fnExactHostFitsWrong : ChangeSpec := { name := "fnExactHostFits", fn := fun _ => fun
  | [d1, d2] => { results := [.lit (.bool false)], args := [d1, d2] }
  | _ => none }
def FnExactHostFitsWrongFalsely : Prop := fnExactHostFitsRow.holds Tryd.pinned (OpenSpec.ofChange fnExactHostFitsWrong)

/-- 'laws.FnExactJarFor': WHATEVER THE INPUT: true; the input reads as it did. -/
def fnExactJarForSpec : ChangeSpec := { name := "fnExactJarFor", fn := fun _ => fun
  | [d1, d2, d3, d4, d5, d6] => { results := [.lit (.bool true)], args := [d1, d2, d3, d4, d5, d6] }
  | _ => none }
def fnExactJarForRow : OpenClaim := { program := "ytfoekelhcmlagaadoor", sum := "451980898b5417a3f79305162454cfb7a64dde62979f08d2c966bef8cb0af0df", func := "loop.example/g00551/laws.FnExactJarFor", spec := "fnExactJarFor", inPlace := ["internal/bytealg.CountString", "internal/bytealg.IndexByteString", "internal/bytealg.IndexString"], unfollowed := true, recurses := true, named := ["unicode/utf8.first", "unicode/utf8.acceptRanges", "internal/bytealg.MaxLen"], apart := false, laid := [("unicode/utf8.acceptRanges", laid_unicode_utf8_acceptRanges), ("unicode/utf8.first", laid_unicode_utf8_first)] }
def FnExactJarForSaid : Prop := fnExactJarForRow.holds Tryd.pinned (OpenSpec.ofChange fnExactJarForSpec)

/-- ITS FALSE NEIGHBOUR: 'it returns false'. Refute it at one input. -/
def fnExactJarForWrong : ChangeSpec := { name := "fnExactJarFor", fn := fun _ => fun
  | [d1, d2, d3, d4, d5, d6] => { results := [.lit (.bool false)], args := [d1, d2, d3, d4, d5, d6] }
  | _ => none }
def FnExactJarForWrongFalsely : Prop := fnExactJarForRow.holds Tryd.pinned (OpenSpec.ofChange fnExactJarForWrong)

/-- 'laws.FnExactJarOld': WHATEVER THE INPUT: true; the input reads as it did. -/
def fnExactJarOldSpec : ChangeSpec := { name := "fnExactJarOld", fn := fun _ => fun
  | [d1, d2] => { results := [.lit (.bool true)], args := [d1, d2] }
  | _ => none }
def fnExactJarOldRow : OpenClaim := { program := "ytfoekelhcmlagaadoor", sum := "451980898b5417a3f79305162454cfb7a64dde62979f08d2c966bef8cb0af0df", func := "loop.example/g00551/laws.FnExactJarOld", spec := "fnExactJarOld", inPlace := ["internal/bytealg.CountString", "internal/bytealg.IndexByteString", "internal/bytealg.IndexString"], unfollowed := true, recurses := true, named := ["unicode/utf8.first", "unicode/utf8.acceptRanges", "internal/bytealg.MaxLen"], apart := false, laid := [("unicode/utf8.acceptRanges", laid_unicode_utf8_acceptRanges), ("unicode/utf8.first", laid_unicode_utf8_first)] }
def FnExactJarOldSaid : Prop := fnExactJarOldRow.holds Tryd.pinned (OpenSpec.ofChange fnExactJarOldSpec)

/-- ITS FALSE NEIGHBOUR: 'it returns false'. Refute it at one input. -/
def fnExactJarOldWrong : ChangeSpec := { name := "fnExactJarOld", fn := fun _ => fun
  | [d1, d2] => { results := [.lit (.bool false)], args := [d1, d2] }
  | _ => none }
def FnExactJarOldWrongFalsely : Prop := fnExactJarOldRow.holds Tryd.pinned (OpenSpec.ofChange fnExactJarOldWrong)

/- THE SECOND FORM. 'bulk': how many values and letters a reading holds, each counted each time it is reached (what is shared counts as often as it is met; a slice's spare places count too). A statement '..UptoSaid' is the law's where the arguments, and the package variables that the reading takes, are together of bulk at most 1048576: NARROWER than '..Said'. Prove '..Said' where nothing that the law and all that it calls make is longer than what came in: it says more and counts as full. Else prove '..UptoSaid'. A law counts once. -/
mutual
def uptoBulk {H : Type} : DataW H → Nat
  | .lit (.string bytes) => bytes.length + 1
  | .lit _ => 1
  | .nil => 1
  | .ptr d => uptoBulk d + 1
  | .slice elems spare => uptoBulkAll elems + uptoBulkAll spare + 1
  | .agg parts => uptoBulkAll parts + 1
  | .iface _ d => uptoBulk d + 1
  | .map entries => uptoBulkEntries entries + 1
  | .held _ => 1
def uptoBulkAll {H : Type} : List (DataW H) → Nat
  | [] => 0
  | d :: r => uptoBulk d + uptoBulkAll r
def uptoBulkEntries {H : Type} : List (Lit × DataW H) → Nat
  | [] => 0
  | x :: r => uptoBulkEntry x + uptoBulkEntries r
def uptoBulkEntry {H : Type} : Lit × DataW H → Nat
  | (.string bytes, d) => bytes.length + uptoBulk d + 1
  | (_, d) => uptoBulk d + 1
 end
def uptoSmall : (H : Type) → List (DataW H) → Bool := fun _ ds => decide (uptoBulkAll ds ≤ 1048576)
def OpenSpec.upto (s : _root_.Go.ChangeSpec) : _root_.Go.OpenSpec := { _root_.Go.OpenSpec.ofChange s with cond := some uptoSmall }

/-- 'laws.FnSuffix', WHERE WHAT IT READS IS OF BULK AT MOST 1048576: true; the input reads as it did. -/
def fnSuffixUptoRow : OpenClaim := { program := "ytfoekelhcmlagaadoor", sum := "451980898b5417a3f79305162454cfb7a64dde62979f08d2c966bef8cb0af0df", func := "loop.example/g00551/laws.FnSuffix", spec := "fnSuffix", inPlace := ["internal/bytealg.CountString", "internal/bytealg.IndexByteString", "internal/bytealg.IndexString", "internal/abi.NoEscape", "internal/bytealg.MakeNoZero"], unfollowed := true, recurses := true, named := ["unicode/utf8.first", "unicode/utf8.acceptRanges", "internal/bytealg.MaxLen"], apart := false, laid := [("unicode/utf8.acceptRanges", laid_unicode_utf8_acceptRanges), ("unicode/utf8.first", laid_unicode_utf8_first)], narrowed := true }
def FnSuffixUptoSaid : Prop := fnSuffixUptoRow.holds Tryd.pinned (OpenSpec.upto fnSuffixSpec)

/-- 'laws.FnExactSetsRight', WHERE WHAT IT READS IS OF BULK AT MOST 1048576: true; the input reads as it did. -/
def fnExactSetsRightUptoRow : OpenClaim := { program := "ytfoekelhcmlagaadoor", sum := "451980898b5417a3f79305162454cfb7a64dde62979f08d2c966bef8cb0af0df", func := "loop.example/g00551/laws.FnExactSetsRight", spec := "fnExactSetsRight", inPlace := ["internal/bytealg.CountString", "internal/bytealg.IndexByteString", "internal/bytealg.IndexString", "internal/abi.NoEscape", "internal/bytealg.MakeNoZero"], unfollowed := true, recurses := true, named := ["loop.example/g00551/impl.errRules", "loop.example/g00551/impl.errOrder", "unicode/utf8.first", "unicode/utf8.acceptRanges", "internal/bytealg.MaxLen", "loop.example/g00551/impl.errMany", "loop.example/g00551/impl.errWrong", "loop.example/g00551/impl.errTaken"], ifaces := true, apart := false, laid := [("unicode/utf8.acceptRanges", laid_unicode_utf8_acceptRanges), ("loop.example/g00551/impl.errRules", laid_loop_example_g00551_impl_errRules), ("loop.example/g00551/impl.errOrder", laid_loop_example_g00551_impl_errOrder), ("loop.example/g00551/impl.errMany", laid_loop_example_g00551_impl_errMany), ("loop.example/g00551/impl.errWrong", laid_loop_example_g00551_impl_errWrong), ("loop.example/g00551/impl.errTaken", laid_loop_example_g00551_impl_errTaken), ("unicode/utf8.first", laid_unicode_utf8_first)], narrowed := true }
def FnExactSetsRightUptoSaid : Prop := fnExactSetsRightUptoRow.holds Tryd.pinned (OpenSpec.upto fnExactSetsRightSpec)

/-- 'laws.FnExactSetsText', WHERE WHAT IT READS IS OF BULK AT MOST 1048576: true; the input reads as it did. -/
def fnExactSetsTextUptoRow : OpenClaim := { program := "ytfoekelhcmlagaadoor", sum := "451980898b5417a3f79305162454cfb7a64dde62979f08d2c966bef8cb0af0df", func := "loop.example/g00551/laws.FnExactSetsText", spec := "fnExactSetsText", inPlace := ["internal/bytealg.CountString", "internal/bytealg.IndexByteString", "internal/bytealg.IndexString", "internal/abi.NoEscape", "internal/bytealg.MakeNoZero"], unfollowed := true, recurses := true, named := ["loop.example/g00551/impl.errRules", "loop.example/g00551/impl.errOrder", "unicode/utf8.first", "unicode/utf8.acceptRanges", "internal/bytealg.MaxLen", "loop.example/g00551/impl.errMany", "loop.example/g00551/impl.errWrong", "loop.example/g00551/impl.errTaken"], ifaces := true, apart := false, laid := [("unicode/utf8.acceptRanges", laid_unicode_utf8_acceptRanges), ("loop.example/g00551/impl.errRules", laid_loop_example_g00551_impl_errRules), ("loop.example/g00551/impl.errOrder", laid_loop_example_g00551_impl_errOrder), ("loop.example/g00551/impl.errMany", laid_loop_example_g00551_impl_errMany), ("loop.example/g00551/impl.errWrong", laid_loop_example_g00551_impl_errWrong), ("loop.example/g00551/impl.errTaken", laid_loop_example_g00551_impl_errTaken), ("unicode/utf8.first", laid_unicode_utf8_first)], narrowed := true }
def FnExactSetsTextUptoSaid : Prop := fnExactSetsTextUptoRow.holds Tryd.pinned (OpenSpec.upto fnExactSetsTextSpec)

/-- 'laws.FnExactSetOf', WHERE WHAT IT READS IS OF BULK AT MOST 1048576: true; the input reads as it did. -/
def fnExactSetOfUptoRow : OpenClaim := { program := "ytfoekelhcmlagaadoor", sum := "451980898b5417a3f79305162454cfb7a64dde62979f08d2c966bef8cb0af0df", func := "loop.example/g00551/laws.FnExactSetOf", spec := "fnExactSetOf", inPlace := ["internal/bytealg.CountString", "internal/bytealg.IndexByteString", "internal/bytealg.IndexString", "internal/abi.NoEscape", "internal/bytealg.MakeNoZero"], unfollowed := true, recurses := true, named := ["loop.example/g00551/impl.errRules", "loop.example/g00551/impl.errOrder", "unicode/utf8.first", "unicode/utf8.acceptRanges", "internal/bytealg.MaxLen", "loop.example/g00551/impl.errMany", "loop.example/g00551/impl.errWrong", "loop.example/g00551/impl.errTaken"], ifaces := true, apart := false, laid := [("unicode/utf8.acceptRanges", laid_unicode_utf8_acceptRanges), ("loop.example/g00551/impl.errRules", laid_loop_example_g00551_impl_errRules), ("loop.example/g00551/impl.errOrder", laid_loop_example_g00551_impl_errOrder), ("loop.example/g00551/impl.errMany", laid_loop_example_g00551_impl_errMany), ("loop.example/g00551/impl.errWrong", laid_loop_example_g00551_impl_errWrong), ("loop.example/g00551/impl.errTaken", laid_loop_example_g00551_impl_errTaken), ("unicode/utf8.first", laid_unicode_utf8_first)], narrowed := true }
def FnExactSetOfUptoSaid : Prop := fnExactSetOfUptoRow.holds Tryd.pinned (OpenSpec.upto fnExactSetOfSpec)

/-- 'laws.FnExactRelated', WHERE WHAT IT READS IS OF BULK AT MOST 1048576: true; the input reads as it did. -/
def fnExactRelatedUptoRow : OpenClaim := { program := "ytfoekelhcmlagaadoor", sum := "451980898b5417a3f79305162454cfb7a64dde62979f08d2c966bef8cb0af0df", func := "loop.example/g00551/laws.FnExactRelated", spec := "fnExactRelated", inPlace := ["internal/bytealg.CountString", "internal/bytealg.IndexByteString", "internal/bytealg.IndexString", "internal/abi.NoEscape", "internal/bytealg.MakeNoZero"], unfollowed := true, recurses := true, named := ["loop.example/g00551/impl.errRules", "loop.example/g00551/impl.errOrder", "unicode/utf8.first", "unicode/utf8.acceptRanges", "internal/bytealg.MaxLen", "loop.example/g00551/impl.errMany", "loop.example/g00551/impl.errWrong", "loop.example/g00551/impl.errTaken"], ifaces := true, apart := false, laid := [("unicode/utf8.acceptRanges", laid_unicode_utf8_acceptRanges), ("loop.example/g00551/impl.errRules", laid_loop_example_g00551_impl_errRules), ("loop.example/g00551/impl.errOrder", laid_loop_example_g00551_impl_errOrder), ("loop.example/g00551/impl.errMany", laid_loop_example_g00551_impl_errMany), ("loop.example/g00551/impl.errWrong", laid_loop_example_g00551_impl_errWrong), ("loop.example/g00551/impl.errTaken", laid_loop_example_g00551_impl_errTaken), ("unicode/utf8.first", laid_unicode_utf8_first)], narrowed := true }
def FnExactRelatedUptoSaid : Prop := fnExactRelatedUptoRow.holds Tryd.pinned (OpenSpec.upto fnExactRelatedSpec)

/-- 'laws.FnExactCookieRight', WHERE WHAT IT READS IS OF BULK AT MOST 1048576: true; the input reads as it did. -/
def fnExactCookieRightUptoRow : OpenClaim := { program := "ytfoekelhcmlagaadoor", sum := "451980898b5417a3f79305162454cfb7a64dde62979f08d2c966bef8cb0af0df", func := "loop.example/g00551/laws.FnExactCookieRight", spec := "fnExactCookieRight", inPlace := ["internal/bytealg.CountString", "internal/bytealg.IndexByteString", "internal/bytealg.IndexString"], named := ["unicode/utf8.first", "unicode/utf8.acceptRanges", "internal/bytealg.MaxLen"], apart := false, laid := [("unicode/utf8.acceptRanges", laid_unicode_utf8_acceptRanges), ("unicode/utf8.first", laid_unicode_utf8_first)], narrowed := true }
def FnExactCookieRightUptoSaid : Prop := fnExactCookieRightUptoRow.holds Tryd.pinned (OpenSpec.upto fnExactCookieRightSpec)

/-- 'laws.FnExactJarRight', WHERE WHAT IT READS IS OF BULK AT MOST 1048576: true; the input reads as it did. -/
def fnExactJarRightUptoRow : OpenClaim := { program := "ytfoekelhcmlagaadoor", sum := "451980898b5417a3f79305162454cfb7a64dde62979f08d2c966bef8cb0af0df", func := "loop.example/g00551/laws.FnExactJarRight", spec := "fnExactJarRight", inPlace := ["internal/bytealg.CountString", "internal/bytealg.IndexByteString", "internal/bytealg.IndexString"], unfollowed := true, recurses := true, named := ["unicode/utf8.first", "unicode/utf8.acceptRanges", "internal/bytealg.MaxLen"], apart := false, laid := [("unicode/utf8.acceptRanges", laid_unicode_utf8_acceptRanges), ("unicode/utf8.first", laid_unicode_utf8_first)], narrowed := true }
def FnExactJarRightUptoSaid : Prop := fnExactJarRightUptoRow.holds Tryd.pinned (OpenSpec.upto fnExactJarRightSpec)

/-- 'laws.FnExactHostFits', WHERE WHAT IT READS IS OF BULK AT MOST 1048576: true; the input reads as it did. -/
def fnExactHostFitsUptoRow : OpenClaim := { program := "ytfoekelhcmlagaadoor", sum := "451980898b5417a3f79305162454cfb7a64dde62979f08d2c966bef8cb0af0df", func := "loop.example/g00551/laws.FnExactHostFits", spec := "fnExactHostFits", inPlace := ["internal/bytealg.CountString", "internal/bytealg.IndexByteString", "internal/bytealg.IndexString"], named := ["unicode/utf8.first", "unicode/utf8.acceptRanges", "internal/bytealg.MaxLen"], apart := false, laid := [("unicode/utf8.acceptRanges", laid_unicode_utf8_acceptRanges), ("unicode/utf8.first", laid_unicode_utf8_first)], narrowed := true }
def FnExactHostFitsUptoSaid : Prop := fnExactHostFitsUptoRow.holds Tryd.pinned (OpenSpec.upto fnExactHostFitsSpec)

/-- 'laws.FnExactJarFor', WHERE WHAT IT READS IS OF BULK AT MOST 1048576: true; the input reads as it did. -/
def fnExactJarForUptoRow : OpenClaim := { program := "ytfoekelhcmlagaadoor", sum := "451980898b5417a3f79305162454cfb7a64dde62979f08d2c966bef8cb0af0df", func := "loop.example/g00551/laws.FnExactJarFor", spec := "fnExactJarFor", inPlace := ["internal/bytealg.CountString", "internal/bytealg.IndexByteString", "internal/bytealg.IndexString"], unfollowed := true, recurses := true, named := ["unicode/utf8.first", "unicode/utf8.acceptRanges", "internal/bytealg.MaxLen"], apart := false, laid := [("unicode/utf8.acceptRanges", laid_unicode_utf8_acceptRanges), ("unicode/utf8.first", laid_unicode_utf8_first)], narrowed := true }
def FnExactJarForUptoSaid : Prop := fnExactJarForUptoRow.holds Tryd.pinned (OpenSpec.upto fnExactJarForSpec)

/-- 'laws.FnExactJarOld', WHERE WHAT IT READS IS OF BULK AT MOST 1048576: true; the input reads as it did. -/
def fnExactJarOldUptoRow : OpenClaim := { program := "ytfoekelhcmlagaadoor", sum := "451980898b5417a3f79305162454cfb7a64dde62979f08d2c966bef8cb0af0df", func := "loop.example/g00551/laws.FnExactJarOld", spec := "fnExactJarOld", inPlace := ["internal/bytealg.CountString", "internal/bytealg.IndexByteString", "internal/bytealg.IndexString"], unfollowed := true, recurses := true, named := ["unicode/utf8.first", "unicode/utf8.acceptRanges", "internal/bytealg.MaxLen"], apart := false, laid := [("unicode/utf8.acceptRanges", laid_unicode_utf8_acceptRanges), ("unicode/utf8.first", laid_unicode_utf8_first)], narrowed := true }
def FnExactJarOldUptoSaid : Prop := fnExactJarOldUptoRow.holds Tryd.pinned (OpenSpec.upto fnExactJarOldSpec)

end Rows
end Go.Proofs.YtfoekelhcmlagaaDoor

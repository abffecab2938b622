/-
  No cell of these rows narrows 'for every input' (looked for: loops, veiled, ifaces, maps, wideKeys, modest, calm, conditions, laid).
  DERIVED. THE GIVEN ROWS OF THIS SEAT. 4 by the template 'for every input the law returns true; each argument reads behind the call as it read before'; 0 by the template 'total and deterministic' (their statements: YtimmoclemcnhnaaTotals.lean).
  GIVEN WITH THE SEED: the statements are not yours to turn. If you find one false, say at which input.
  Laid BY PROGRAM, IN A SANDBOX (cutbox-rows.mjs): the forced cells as the released guide's own fill.sh prints them over the translation 6602a4078f37c206… (all of the seat's roots in one cut). By AI agents, Wed Nov 11 2026. No macro, syntax, notation, axiom, sorry.
-/
import Derived.Test.YtimmoclemcnhnaaChecked
import GoSem.Claim
import GoSem.ClaimJoined
import GoSem.ClaimMapViews
import Derived.JoinedTies
import Derived.KernelRfl
namespace Go.Proofs.Ytimmoclemcnhnaa
/- THE CELL 'sum', in the pinned program and in every row, IS THE sha256 OF THE DUMP (.gsa) THAT YtimmoclemcnhnaaProg.lean LOADS. Nothing in Lean hashes anything: it is a label: what it is worth is what the hold of that sum in a sandbox is worth. -/
noncomputable def Try.pinned : Pinned := { name := "ytimmoclemcnhnaa", sum := "6602a4078f37c2067b4ac1e9a186aca9d347abac380c1988bd0885a4687d4baf", checked := Try.checked }
namespace Rows
def none {H : Type} : Left H := { results := [], args := [] }

/-- 'laws.FnExactAreaRight': WHATEVER THE INPUT: true; the input reads as it did. -/
def fnExactAreaRightSpec : ChangeSpec := { name := "fnExactAreaRight", fn := fun _ => fun
  | [d] => { results := [.lit (.bool true)], args := [d] }
  | _ => none }
def fnExactAreaRightRow : OpenClaim := { program := "ytimmoclemcnhnaa", sum := "6602a4078f37c2067b4ac1e9a186aca9d347abac380c1988bd0885a4687d4baf", func := "loop.example/g00551/laws.FnExactAreaRight", spec := "fnExactAreaRight", inPlace := ["internal/bytealg.abigen_runtime_cmpstring"], plainKeys := false, apart := false }
def FnExactAreaRightSaid : Prop := fnExactAreaRightRow.holds Try.pinned (OpenSpec.ofChange fnExactAreaRightSpec)

/-- ITS FALSE NEIGHBOUR: 'it returns false'. Refute it at one input. -/
def fnExactAreaRightWrong : ChangeSpec := { name := "fnExactAreaRight", fn := fun _ => fun
  | [d] => { results := [.lit (.bool false)], args := [d] }
  | _ => none }
def FnExactAreaRightWrongFalsely : Prop := fnExactAreaRightRow.holds Try.pinned (OpenSpec.ofChange fnExactAreaRightWrong)

/-- 'laws.FnExactAreaClear': WHATEVER THE INPUT: true; the input reads as it did. -/
def fnExactAreaClearSpec : ChangeSpec := { name := "fnExactAreaClear", fn := fun _ => fun
  | [d1, d2] => { results := [.lit (.bool true)], args := [d1, d2] }
  | _ => none }
def fnExactAreaClearRow : OpenClaim := { program := "ytimmoclemcnhnaa", sum := "6602a4078f37c2067b4ac1e9a186aca9d347abac380c1988bd0885a4687d4baf", func := "loop.example/g00551/laws.FnExactAreaClear", spec := "fnExactAreaClear", inPlace := ["internal/bytealg.abigen_runtime_cmpstring"], unfollowed := true, recurses := true, plainKeys := false, apart := false }
def FnExactAreaClearSaid : Prop := fnExactAreaClearRow.holds Try.pinned (OpenSpec.ofChange fnExactAreaClearSpec)

/-- ITS FALSE NEIGHBOUR: 'it returns false'. Refute it at one input. -/
def fnExactAreaClearWrong : ChangeSpec := { name := "fnExactAreaClear", fn := fun _ => fun
  | [d1, d2] => { results := [.lit (.bool false)], args := [d1, d2] }
  | _ => none }
def FnExactAreaClearWrongFalsely : Prop := fnExactAreaClearRow.holds Try.pinned (OpenSpec.ofChange fnExactAreaClearWrong)

/-- 'laws.FnExactAreaUsed': WHATEVER THE INPUT: true; the input reads as it did. -/
def fnExactAreaUsedSpec : ChangeSpec := { name := "fnExactAreaUsed", fn := fun _ => fun
  | [d1, d2] => { results := [.lit (.bool true)], args := [d1, d2] }
  | _ => none }
def fnExactAreaUsedRow : OpenClaim := { program := "ytimmoclemcnhnaa", sum := "6602a4078f37c2067b4ac1e9a186aca9d347abac380c1988bd0885a4687d4baf", func := "loop.example/g00551/laws.FnExactAreaUsed", spec := "fnExactAreaUsed", inPlace := ["internal/bytealg.abigen_runtime_cmpstring"], unfollowed := true, recurses := true, plainKeys := false, apart := false }
def FnExactAreaUsedSaid : Prop := fnExactAreaUsedRow.holds Try.pinned (OpenSpec.ofChange fnExactAreaUsedSpec)

/-- ITS FALSE NEIGHBOUR: 'it returns false'. Refute it at one input. -/
def fnExactAreaUsedWrong : ChangeSpec := { name := "fnExactAreaUsed", fn := fun _ => fun
  | [d1, d2] => { results := [.lit (.bool false)], args := [d1, d2] }
  | _ => none }
def FnExactAreaUsedWrongFalsely : Prop := fnExactAreaUsedRow.holds Try.pinned (OpenSpec.ofChange fnExactAreaUsedWrong)

/-- 'laws.FnExactAreaNames': WHATEVER THE INPUT: true; the input reads as it did. -/
def fnExactAreaNamesSpec : ChangeSpec := { name := "fnExactAreaNames", fn := fun _ => fun
  | [d1, d2] => { results := [.lit (.bool true)], args := [d1, d2] }
  | _ => none }
def fnExactAreaNamesRow : OpenClaim := { program := "ytimmoclemcnhnaa", sum := "6602a4078f37c2067b4ac1e9a186aca9d347abac380c1988bd0885a4687d4baf", func := "loop.example/g00551/laws.FnExactAreaNames", spec := "fnExactAreaNames", inPlace := ["internal/bytealg.abigen_runtime_cmpstring"], unfollowed := true, recurses := true, plainKeys := false, apart := false }
def FnExactAreaNamesSaid : Prop := fnExactAreaNamesRow.holds Try.pinned (OpenSpec.ofChange fnExactAreaNamesSpec)

/-- ITS FALSE NEIGHBOUR: 'it returns false'. Refute it at one input. -/
def fnExactAreaNamesWrong : ChangeSpec := { name := "fnExactAreaNames", fn := fun _ => fun
  | [d1, d2] => { results := [.lit (.bool false)], args := [d1, d2] }
  | _ => none }
def FnExactAreaNamesWrongFalsely : Prop := fnExactAreaNamesRow.holds Try.pinned (OpenSpec.ofChange fnExactAreaNamesWrong)

/- THE SECOND FORM. 'bulk': how many values and letters a reading holds, each counted each time it is reached (what is shared counts as often as it is met; a slice's spare places count too). A statement '..UptoSaid' is the law's where the arguments, and the package variables that the reading takes, are together of bulk at most 1048576: NARROWER than '..Said'. Prove '..Said' where nothing that the law and all that it calls make is longer than what came in: it says more and counts as full. Else prove '..UptoSaid'. A law counts once. -/
mutual
def uptoBulk {H : Type} : DataW H → Nat
  | .lit (.string bytes) => bytes.length + 1
  | .lit _ => 1
  | .nil => 1
  | .ptr d => uptoBulk d + 1
  | .slice elems spare => uptoBulkAll elems + uptoBulkAll spare + 1
  | .agg parts => uptoBulkAll parts + 1
  | .iface _ d => uptoBulk d + 1
  | .map entries => uptoBulkEntries entries + 1
  | .held _ => 1
def uptoBulkAll {H : Type} : List (DataW H) → Nat
  | [] => 0
  | d :: r => uptoBulk d + uptoBulkAll r
def uptoBulkEntries {H : Type} : List (Lit × DataW H) → Nat
  | [] => 0
  | x :: r => uptoBulkEntry x + uptoBulkEntries r
def uptoBulkEntry {H : Type} : Lit × DataW H → Nat
  | (.string bytes, d) => bytes.length + uptoBulk d + 1
  | (_, d) => uptoBulk d + 1
 end
def uptoSmall : (H : Type) → List (DataW H) → Bool := fun _ ds => decide (uptoBulkAll ds ≤ 1048576)
def OpenSpec.upto (s : _root_.Go.ChangeSpec) : _root_.Go.OpenSpec := { _root_.Go.OpenSpec.ofChange s with cond := some uptoSmall }

/-- 'laws.FnExactAreaRight', WHERE WHAT IT READS IS OF BULK AT MOST 1048576: true; the input reads as it did. -/
def fnExactAreaRightUptoRow : OpenClaim := { program := "ytimmoclemcnhnaa", sum := "6602a4078f37c2067b4ac1e9a186aca9d347abac380c1988bd0885a4687d4baf", func := "loop.example/g00551/laws.FnExactAreaRight", spec := "fnExactAreaRight", inPlace := ["internal/bytealg.abigen_runtime_cmpstring"], plainKeys := false, apart := false, narrowed := true }
def FnExactAreaRightUptoSaid : Prop := fnExactAreaRightUptoRow.holds Try.pinned (OpenSpec.upto fnExactAreaRightSpec)

/-- 'laws.FnExactAreaClear', WHERE WHAT IT READS IS OF BULK AT MOST 1048576: true; the input reads as it did. -/
def fnExactAreaClearUptoRow : OpenClaim := { program := "ytimmoclemcnhnaa", sum := "6602a4078f37c2067b4ac1e9a186aca9d347abac380c1988bd0885a4687d4baf", func := "loop.example/g00551/laws.FnExactAreaClear", spec := "fnExactAreaClear", inPlace := ["internal/bytealg.abigen_runtime_cmpstring"], unfollowed := true, recurses := true, plainKeys := false, apart := false, narrowed := true }
def FnExactAreaClearUptoSaid : Prop := fnExactAreaClearUptoRow.holds Try.pinned (OpenSpec.upto fnExactAreaClearSpec)

/-- 'laws.FnExactAreaUsed', WHERE WHAT IT READS IS OF BULK AT MOST 1048576: true; the input reads as it did. -/
def fnExactAreaUsedUptoRow : OpenClaim := { program := "ytimmoclemcnhnaa", sum := "6602a4078f37c2067b4ac1e9a186aca9d347abac380c1988bd0885a4687d4baf", func := "loop.example/g00551/laws.FnExactAreaUsed", spec := "fnExactAreaUsed", inPlace := ["internal/bytealg.abigen_runtime_cmpstring"], unfollowed := true, recurses := true, plainKeys := false, apart := false, narrowed := true }
def FnExactAreaUsedUptoSaid : Prop := fnExactAreaUsedUptoRow.holds Try.pinned (OpenSpec.upto fnExactAreaUsedSpec)

/-- 'laws.FnExactAreaNames', WHERE WHAT IT READS IS OF BULK AT MOST 1048576: true; the input reads as it did. -/
def fnExactAreaNamesUptoRow : OpenClaim := { program := "ytimmoclemcnhnaa", sum := "6602a4078f37c2067b4ac1e9a186aca9d347abac380c1988bd0885a4687d4baf", func := "loop.example/g00551/laws.FnExactAreaNames", spec := "fnExactAreaNames", inPlace := ["internal/bytealg.abigen_runtime_cmpstring"], unfollowed := true, recurses := true, plainKeys := false, apart := false, narrowed := true }
def FnExactAreaNamesUptoSaid : Prop := fnExactAreaNamesUptoRow.holds Try.pinned (OpenSpec.upto fnExactAreaNamesSpec)

end Rows
end Go.Proofs.Ytimmoclemcnhnaa

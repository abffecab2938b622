/-
  No cell of these rows narrows 'for every input' (looked for: loops, veiled, ifaces, maps, wideKeys, modest, calm, conditions, laid).
  DERIVED. THE GIVEN ROWS OF THIS SEAT. 5 by the template 'for every input the law returns true; each argument reads behind the call as it read before'; 0 by the template 'total and deterministic' (their statements: YtehnklgpdjfcgaaTotals.lean).
  GIVEN WITH THE SEED: the statements are not yours to turn. If you find one false, say at which input.
  Laid BY PROGRAM, IN A SANDBOX (cutbox-rows.mjs): the forced cells as the released guide's own fill.sh prints them over the translation da153102c478ad2e… (all of the seat's roots in one cut). By AI agents, Wed Nov 11 2026. No macro, syntax, notation, axiom, sorry.
-/
import Derived.Test.YtehnklgpdjfcgaaChecked
import GoSem.Claim
import GoSem.ClaimJoined
import GoSem.ClaimMapViews
import Derived.JoinedTies
import Derived.KernelRfl
namespace Go.Proofs.Ytehnklgpdjfcgaa
/- THE CELL 'sum', in the pinned program and in every row, IS THE sha256 OF THE DUMP (.gsa) THAT YtehnklgpdjfcgaaProg.lean LOADS. Nothing in Lean hashes anything: it is a label: what it is worth is what the hold of that sum in a sandbox is worth. -/
noncomputable def Try.pinned : Pinned := { name := "ytehnklgpdjfcgaa", sum := "da153102c478ad2e324726f4453a7da8bd02cba6f93bba09dd16cd2871f22c92", checked := Try.checked }
namespace Rows
def none {H : Type} : Left H := { results := [], args := [] }

/-- 'laws.FnExactGrantOld': WHATEVER THE INPUT: true; the input reads as it did. -/
def fnExactGrantOldSpec : ChangeSpec := { name := "fnExactGrantOld", fn := fun _ => fun
  | [d1, d2] => { results := [.lit (.bool true)], args := [d1, d2] }
  | _ => none }
def fnExactGrantOldRow : OpenClaim := { program := "ytehnklgpdjfcgaa", sum := "da153102c478ad2e324726f4453a7da8bd02cba6f93bba09dd16cd2871f22c92", func := "loop.example/g00551/laws.FnExactGrantOld", spec := "fnExactGrantOld", inPlace := ["internal/bytealg.abigen_runtime_cmpstring"], unfollowed := true, recurses := true, apart := false }
def FnExactGrantOldSaid : Prop := fnExactGrantOldRow.holds Try.pinned (OpenSpec.ofChange fnExactGrantOldSpec)

/-- ITS FALSE NEIGHBOUR: 'it returns false'. Refute it at one input. -/
def fnExactGrantOldWrong : ChangeSpec := { name := "fnExactGrantOld", fn := fun _ => fun
  | [d1, d2] => { results := [.lit (.bool false)], args := [d1, d2] }
  | _ => none }
def FnExactGrantOldWrongFalsely : Prop := fnExactGrantOldRow.holds Try.pinned (OpenSpec.ofChange fnExactGrantOldWrong)

/-- 'laws.FnExactGrantDrop': WHATEVER THE INPUT: true; the input reads as it did. -/
def fnExactGrantDropSpec : ChangeSpec := { name := "fnExactGrantDrop", fn := fun _ => fun
  | [d1, d2, d3] => { results := [.lit (.bool true)], args := [d1, d2, d3] }
  | _ => none }
def fnExactGrantDropRow : OpenClaim := { program := "ytehnklgpdjfcgaa", sum := "da153102c478ad2e324726f4453a7da8bd02cba6f93bba09dd16cd2871f22c92", func := "loop.example/g00551/laws.FnExactGrantDrop", spec := "fnExactGrantDrop", inPlace := ["internal/bytealg.abigen_runtime_cmpstring"], unfollowed := true, recurses := true, apart := false }
def FnExactGrantDropSaid : Prop := fnExactGrantDropRow.holds Try.pinned (OpenSpec.ofChange fnExactGrantDropSpec)

/-- ITS FALSE NEIGHBOUR: 'it returns false'. Refute it at one input. -/
def fnExactGrantDropWrong : ChangeSpec := { name := "fnExactGrantDrop", fn := fun _ => fun
  | [d1, d2, d3] => { results := [.lit (.bool false)], args := [d1, d2, d3] }
  | _ => none }
def FnExactGrantDropWrongFalsely : Prop := fnExactGrantDropRow.holds Try.pinned (OpenSpec.ofChange fnExactGrantDropWrong)

/-- 'laws.FnExactGrantPut': WHATEVER THE INPUT: true; the input reads as it did. -/
def fnExactGrantPutSpec : ChangeSpec := { name := "fnExactGrantPut", fn := fun _ => fun
  | [d1, d2, d3, d4] => { results := [.lit (.bool true)], args := [d1, d2, d3, d4] }
  | _ => none }
def fnExactGrantPutRow : OpenClaim := { program := "ytehnklgpdjfcgaa", sum := "da153102c478ad2e324726f4453a7da8bd02cba6f93bba09dd16cd2871f22c92", func := "loop.example/g00551/laws.FnExactGrantPut", spec := "fnExactGrantPut", inPlace := ["internal/bytealg.abigen_runtime_cmpstring"], unfollowed := true, recurses := true, apart := false }
def FnExactGrantPutSaid : Prop := fnExactGrantPutRow.holds Try.pinned (OpenSpec.ofChange fnExactGrantPutSpec)

/-- ITS FALSE NEIGHBOUR: 'it returns false'. Refute it at one input. -/
def fnExactGrantPutWrong : ChangeSpec := { name := "fnExactGrantPut", fn := fun _ => fun
  | [d1, d2, d3, d4] => { results := [.lit (.bool false)], args := [d1, d2, d3, d4] }
  | _ => none }
def FnExactGrantPutWrongFalsely : Prop := fnExactGrantPutRow.holds Try.pinned (OpenSpec.ofChange fnExactGrantPutWrong)

/-- 'laws.FnExactGrantAsk': WHATEVER THE INPUT: true; the input reads as it did. -/
def fnExactGrantAskSpec : ChangeSpec := { name := "fnExactGrantAsk", fn := fun _ => fun
  | [d1, d2, d3] => { results := [.lit (.bool true)], args := [d1, d2, d3] }
  | _ => none }
def fnExactGrantAskRow : OpenClaim := { program := "ytehnklgpdjfcgaa", sum := "da153102c478ad2e324726f4453a7da8bd02cba6f93bba09dd16cd2871f22c92", func := "loop.example/g00551/laws.FnExactGrantAsk", spec := "fnExactGrantAsk", inPlace := ["internal/bytealg.abigen_runtime_cmpstring"], unfollowed := true, recurses := true, apart := false }
def FnExactGrantAskSaid : Prop := fnExactGrantAskRow.holds Try.pinned (OpenSpec.ofChange fnExactGrantAskSpec)

/-- ITS FALSE NEIGHBOUR: 'it returns false'. Refute it at one input. -/
def fnExactGrantAskWrong : ChangeSpec := { name := "fnExactGrantAsk", fn := fun _ => fun
  | [d1, d2, d3] => { results := [.lit (.bool false)], args := [d1, d2, d3] }
  | _ => none }
def FnExactGrantAskWrongFalsely : Prop := fnExactGrantAskRow.holds Try.pinned (OpenSpec.ofChange fnExactGrantAskWrong)

/-- 'laws.FnGrant': WHATEVER THE INPUT: true; the input reads as it did. -/
def fnGrantSpec : ChangeSpec := { name := "fnGrant", fn := fun _ => fun
  | [d1, d2] => { results := [.lit (.bool true)], args := [d1, d2] }
  | _ => none }
def fnGrantRow : OpenClaim := { program := "ytehnklgpdjfcgaa", sum := "da153102c478ad2e324726f4453a7da8bd02cba6f93bba09dd16cd2871f22c92", func := "loop.example/g00551/laws.FnGrant", spec := "fnGrant", inPlace := ["internal/bytealg.abigen_runtime_cmpstring"], unfollowed := true, recurses := true, apart := false }
def FnGrantSaid : Prop := fnGrantRow.holds Try.pinned (OpenSpec.ofChange fnGrantSpec)

/-- ITS FALSE NEIGHBOUR: 'it returns false'. Refute it at one input. -/
def fnGrantWrong : ChangeSpec := { name := "fnGrant", fn := fun _ => fun
  | [d1, d2] => { results := [.lit (.bool false)], args := [d1, d2] }
  | _ => none }
def FnGrantWrongFalsely : Prop := fnGrantRow.holds Try.pinned (OpenSpec.ofChange fnGrantWrong)

/- THE SECOND FORM. 'bulk': how many values and letters a reading holds, each counted each time it is reached (what is shared counts as often as it is met; a slice's spare places count too). A statement '..UptoSaid' is the law's where the arguments, and the package variables that the reading takes, are together of bulk at most 1048576: NARROWER than '..Said'. Prove '..Said' where nothing that the law and all that it calls make is longer than what came in: it says more and counts as full. Else prove '..UptoSaid'. A law counts once. -/
mutual
def uptoBulk {H : Type} : DataW H → Nat
  | .lit (.string bytes) => bytes.length + 1
  | .lit _ => 1
  | .nil => 1
  | .ptr d => uptoBulk d + 1
  | .slice elems spare => uptoBulkAll elems + uptoBulkAll spare + 1
  | .agg parts => uptoBulkAll parts + 1
  | .iface _ d => uptoBulk d + 1
  | .map entries => uptoBulkEntries entries + 1
  | .held _ => 1
def uptoBulkAll {H : Type} : List (DataW H) → Nat
  | [] => 0
  | d :: r => uptoBulk d + uptoBulkAll r
def uptoBulkEntries {H : Type} : List (Lit × DataW H) → Nat
  | [] => 0
  | x :: r => uptoBulkEntry x + uptoBulkEntries r
def uptoBulkEntry {H : Type} : Lit × DataW H → Nat
  | (.string bytes, d) => bytes.length + uptoBulk d + 1
  | (_, d) => uptoBulk d + 1
 end
def uptoSmall : (H : Type) → List (DataW H) → Bool := fun _ ds => decide (uptoBulkAll ds ≤ 1048576)
def OpenSpec.upto (s : _root_.Go.ChangeSpec) : _root_.Go.OpenSpec := { _root_.Go.OpenSpec.ofChange s with cond := some uptoSmall }

/-- 'laws.FnExactGrantOld', WHERE WHAT IT READS IS OF BULK AT MOST 1048576: true; the input reads as it did. -/
def fnExactGrantOldUptoRow : OpenClaim := { program := "ytehnklgpdjfcgaa", sum := "da153102c478ad2e324726f4453a7da8bd02cba6f93bba09dd16cd2871f22c92", func := "loop.example/g00551/laws.FnExactGrantOld", spec := "fnExactGrantOld", inPlace := ["internal/bytealg.abigen_runtime_cmpstring"], unfollowed := true, recurses := true, apart := false, narrowed := true }
def FnExactGrantOldUptoSaid : Prop := fnExactGrantOldUptoRow.holds Try.pinned (OpenSpec.upto fnExactGrantOldSpec)

/-- 'laws.FnExactGrantDrop', WHERE WHAT IT READS IS OF BULK AT MOST 1048576: true; the input reads as it did. -/
def fnExactGrantDropUptoRow : OpenClaim := { program := "ytehnklgpdjfcgaa", sum := "da153102c478ad2e324726f4453a7da8bd02cba6f93bba09dd16cd2871f22c92", func := "loop.example/g00551/laws.FnExactGrantDrop", spec := "fnExactGrantDrop", inPlace := ["internal/bytealg.abigen_runtime_cmpstring"], unfollowed := true, recurses := true, apart := false, narrowed := true }
def FnExactGrantDropUptoSaid : Prop := fnExactGrantDropUptoRow.holds Try.pinned (OpenSpec.upto fnExactGrantDropSpec)

/-- 'laws.FnExactGrantPut', WHERE WHAT IT READS IS OF BULK AT MOST 1048576: true; the input reads as it did. -/
def fnExactGrantPutUptoRow : OpenClaim := { program := "ytehnklgpdjfcgaa", sum := "da153102c478ad2e324726f4453a7da8bd02cba6f93bba09dd16cd2871f22c92", func := "loop.example/g00551/laws.FnExactGrantPut", spec := "fnExactGrantPut", inPlace := ["internal/bytealg.abigen_runtime_cmpstring"], unfollowed := true, recurses := true, apart := false, narrowed := true }
def FnExactGrantPutUptoSaid : Prop := fnExactGrantPutUptoRow.holds Try.pinned (OpenSpec.upto fnExactGrantPutSpec)

/-- 'laws.FnExactGrantAsk', WHERE WHAT IT READS IS OF BULK AT MOST 1048576: true; the input reads as it did. -/
def fnExactGrantAskUptoRow : OpenClaim := { program := "ytehnklgpdjfcgaa", sum := "da153102c478ad2e324726f4453a7da8bd02cba6f93bba09dd16cd2871f22c92", func := "loop.example/g00551/laws.FnExactGrantAsk", spec := "fnExactGrantAsk", inPlace := ["internal/bytealg.abigen_runtime_cmpstring"], unfollowed := true, recurses := true, apart := false, narrowed := true }
def FnExactGrantAskUptoSaid : Prop := fnExactGrantAskUptoRow.holds Try.pinned (OpenSpec.upto fnExactGrantAskSpec)

/-- 'laws.FnGrant', WHERE WHAT IT READS IS OF BULK AT MOST 1048576: true; the input reads as it did. -/
def fnGrantUptoRow : OpenClaim := { program := "ytehnklgpdjfcgaa", sum := "da153102c478ad2e324726f4453a7da8bd02cba6f93bba09dd16cd2871f22c92", func := "loop.example/g00551/laws.FnGrant", spec := "fnGrant", inPlace := ["internal/bytealg.abigen_runtime_cmpstring"], unfollowed := true, recurses := true, apart := false, narrowed := true }
def FnGrantUptoSaid : Prop := fnGrantUptoRow.holds Try.pinned (OpenSpec.upto fnGrantSpec)

end Rows
end Go.Proofs.Ytehnklgpdjfcgaa

/-
  DERIVED. GIVEN WITH THE SEED: THE CARDS: each row of YtimmoclemcnhnaaDoorRows.lean that lists a variable, with what it lists TIED to the program's text (the seventh form; the later family's looks); each row that meets fmt, with fmt's text TOLD by the authors' own Lean function (tested against real Go, not proved from fmt's source: count such statements apart). THE CARD IS WHAT COUNTS. Prove the row's statement (the work); the ties are given (YtimmoclemcnhnaaDoorTie.lean); close each card by the builder's one call (the guide's Derived/Test/ToyasCard.lean, 'card_holds'). Laid BY PROGRAM, IN A SANDBOX (cutbox-door.mjs). By AI agents, Wed Nov 11 2026. No macro, syntax, notation, axiom, sorry.
-/
import Derived.Test.YtimmoclemcnhnaaDoorRows
import GoSem.ClaimSeven
namespace Go.Proofs.YtimmoclemcnhnaaDoor
namespace Rows

/-- THE TIED CARD OF 'laws.FnSuffix'. -/
def fnSuffixCard : Claim7 := { stood := { row := fnSuffixRow, standIns := [], harness := (true, "34e65231f020419d25bfb682db51d92acae6da1781070a393ccdb7123139ae48"), looks := true }, kinds := [], alts := [], laidByText := true, laidKinds := [.data, .pinned], laidTests := true, laidLooks := .later }
def FnSuffixCardSaid : Prop := Claim7.holds Tryd.pinned (.plain (OpenSpec.ofChange fnSuffixSpec)) fnSuffixCard

/-- THE TIED CARD OF 'laws.FnExactJarFor'. -/
def fnExactJarForCard : Claim7 := { stood := { row := fnExactJarForRow, standIns := [], harness := (true, "34e65231f020419d25bfb682db51d92acae6da1781070a393ccdb7123139ae48"), looks := true }, kinds := [], alts := [], laidByText := true, laidKinds := [.data, .pinned], laidTests := true, laidLooks := .later }
def FnExactJarForCardSaid : Prop := Claim7.holds Tryd.pinned (.plain (OpenSpec.ofChange fnExactJarForSpec)) fnExactJarForCard

/-- THE TIED CARD OF 'laws.FnExactAreaPut'. -/
def fnExactAreaPutCard : Claim7 := { stood := { row := fnExactAreaPutRow, standIns := [], harness := (true, "34e65231f020419d25bfb682db51d92acae6da1781070a393ccdb7123139ae48"), looks := true }, kinds := [], alts := [], laidByText := true, laidKinds := [.handle], laidTests := true, laidLooks := .later }
def FnExactAreaPutCardSaid : Prop := Claim7.holds Tryd.pinned (.plain (OpenSpec.ofChange fnExactAreaPutSpec)) fnExactAreaPutCard

/-- THE TIED CARD OF 'laws.FnExactAreaGet'. -/
def fnExactAreaGetCard : Claim7 := { stood := { row := fnExactAreaGetRow, standIns := [], harness := (true, "34e65231f020419d25bfb682db51d92acae6da1781070a393ccdb7123139ae48"), looks := true }, kinds := [], alts := [], laidByText := true, laidKinds := [.handle], laidTests := true, laidLooks := .later }
def FnExactAreaGetCardSaid : Prop := Claim7.holds Tryd.pinned (.plain (OpenSpec.ofChange fnExactAreaGetSpec)) fnExactAreaGetCard

/-- THE TIED CARD OF 'laws.FnExactAreaDrop'. -/
def fnExactAreaDropCard : Claim7 := { stood := { row := fnExactAreaDropRow, standIns := [], harness := (true, "34e65231f020419d25bfb682db51d92acae6da1781070a393ccdb7123139ae48"), looks := true }, kinds := [], alts := [], laidByText := true, laidKinds := [.handle], laidTests := true, laidLooks := .later }
def FnExactAreaDropCardSaid : Prop := Claim7.holds Tryd.pinned (.plain (OpenSpec.ofChange fnExactAreaDropSpec)) fnExactAreaDropCard

/-- THE SECOND FORM's CARD OF 'laws.FnSuffix'. -/
def fnSuffixUptoCard : Claim7 := { stood := { row := fnSuffixUptoRow, standIns := [], harness := (true, "34e65231f020419d25bfb682db51d92acae6da1781070a393ccdb7123139ae48"), looks := true }, kinds := [], alts := [], laidByText := true, laidKinds := [.data, .pinned], laidTests := true, laidLooks := .later }
def FnSuffixUptoCardSaid : Prop := Claim7.holds Tryd.pinned (.plain (OpenSpec.upto fnSuffixSpec)) fnSuffixUptoCard

/-- THE SECOND FORM's CARD OF 'laws.FnExactJarFor'. -/
def fnExactJarForUptoCard : Claim7 := { stood := { row := fnExactJarForUptoRow, standIns := [], harness := (true, "34e65231f020419d25bfb682db51d92acae6da1781070a393ccdb7123139ae48"), looks := true }, kinds := [], alts := [], laidByText := true, laidKinds := [.data, .pinned], laidTests := true, laidLooks := .later }
def FnExactJarForUptoCardSaid : Prop := Claim7.holds Tryd.pinned (.plain (OpenSpec.upto fnExactJarForSpec)) fnExactJarForUptoCard

/-- THE SECOND FORM's CARD OF 'laws.FnExactAreaPut'. -/
def fnExactAreaPutUptoCard : Claim7 := { stood := { row := fnExactAreaPutUptoRow, standIns := [], harness := (true, "34e65231f020419d25bfb682db51d92acae6da1781070a393ccdb7123139ae48"), looks := true }, kinds := [], alts := [], laidByText := true, laidKinds := [.handle], laidTests := true, laidLooks := .later }
def FnExactAreaPutUptoCardSaid : Prop := Claim7.holds Tryd.pinned (.plain (OpenSpec.upto fnExactAreaPutSpec)) fnExactAreaPutUptoCard

/-- THE SECOND FORM's CARD OF 'laws.FnExactAreaGet'. -/
def fnExactAreaGetUptoCard : Claim7 := { stood := { row := fnExactAreaGetUptoRow, standIns := [], harness := (true, "34e65231f020419d25bfb682db51d92acae6da1781070a393ccdb7123139ae48"), looks := true }, kinds := [], alts := [], laidByText := true, laidKinds := [.handle], laidTests := true, laidLooks := .later }
def FnExactAreaGetUptoCardSaid : Prop := Claim7.holds Tryd.pinned (.plain (OpenSpec.upto fnExactAreaGetSpec)) fnExactAreaGetUptoCard

/-- THE SECOND FORM's CARD OF 'laws.FnExactAreaDrop'. -/
def fnExactAreaDropUptoCard : Claim7 := { stood := { row := fnExactAreaDropUptoRow, standIns := [], harness := (true, "34e65231f020419d25bfb682db51d92acae6da1781070a393ccdb7123139ae48"), looks := true }, kinds := [], alts := [], laidByText := true, laidKinds := [.handle], laidTests := true, laidLooks := .later }
def FnExactAreaDropUptoCardSaid : Prop := Claim7.holds Tryd.pinned (.plain (OpenSpec.upto fnExactAreaDropSpec)) fnExactAreaDropUptoCard
end Rows
end Go.Proofs.YtimmoclemcnhnaaDoor

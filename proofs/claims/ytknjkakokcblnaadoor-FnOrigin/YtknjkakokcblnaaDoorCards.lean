/-
  DERIVED. GIVEN WITH THE SEED: THE CARDS: each row of YtknjkakokcblnaaDoorRows.lean that lists a variable, with what it lists TIED to the program's text (the seventh form; the later family's looks); each row that meets fmt, with fmt's text TOLD by the authors' own Lean function (tested against real Go, not proved from fmt's source: count such statements apart). THE CARD IS WHAT COUNTS. Prove the row's statement (the work); the ties are given (YtknjkakokcblnaaDoorTie.lean); close each card by the builder's one call (the guide's Derived/Test/ToyasCard.lean, 'card_holds'). Laid BY PROGRAM, IN A SANDBOX (cutbox-door.mjs). By AI agents, Wed Nov 11 2026. No macro, syntax, notation, axiom, sorry.
-/
import Derived.Test.YtknjkakokcblnaaDoorRows
import GoSem.ClaimSeven
namespace Go.Proofs.YtknjkakokcblnaaDoor
namespace Rows

/-- THE TIED CARD OF 'laws.FnNums'. -/
def fnNumsCard : Claim7 := { stood := { row := fnNumsRow, standIns := [], harness := (true, "818c43324aa53584db40911f13e09b39a3e0221c5904f17a963e9d34e7e1fcf6"), looks := true }, kinds := [], alts := [], laidByText := true, laidKinds := [.handle], laidTests := true, laidLooks := .later }
def FnNumsCardSaid : Prop := Claim7.holds Tryd.pinned (.plain (OpenSpec.ofChange fnNumsSpec)) fnNumsCard

/-- THE TIED CARD OF 'laws.FnUrl'. -/
def fnUrlCard : Claim7 := { stood := { row := fnUrlRow, standIns := [], harness := (true, "818c43324aa53584db40911f13e09b39a3e0221c5904f17a963e9d34e7e1fcf6"), looks := true }, kinds := [], alts := [], laidByText := true, laidKinds := [.data, .data, .data, .data, .pinned], laidTests := true, laidLooks := .later }
def FnUrlCardSaid : Prop := Claim7.holds Tryd.pinned (.plain (OpenSpec.ofChange fnUrlSpec)) fnUrlCard

/-- THE TIED CARD OF 'laws.FnOrigin'. -/
def fnOriginCard : Claim7 := { stood := { row := fnOriginRow, standIns := [], harness := (true, "818c43324aa53584db40911f13e09b39a3e0221c5904f17a963e9d34e7e1fcf6"), looks := true }, kinds := [], alts := [], laidByText := true, laidKinds := [.data, .data, .data, .data, .pinned], laidTests := true, laidLooks := .later }
def FnOriginCardSaid : Prop := Claim7.holds Tryd.pinned (.plain (OpenSpec.ofChange fnOriginSpec)) fnOriginCard

/-- THE SECOND FORM's CARD OF 'laws.FnNums'. -/
def fnNumsUptoCard : Claim7 := { stood := { row := fnNumsUptoRow, standIns := [], harness := (true, "818c43324aa53584db40911f13e09b39a3e0221c5904f17a963e9d34e7e1fcf6"), looks := true }, kinds := [], alts := [], laidByText := true, laidKinds := [.handle], laidTests := true, laidLooks := .later }
def FnNumsUptoCardSaid : Prop := Claim7.holds Tryd.pinned (.plain (OpenSpec.upto fnNumsSpec)) fnNumsUptoCard

/-- THE SECOND FORM's CARD OF 'laws.FnUrl'. -/
def fnUrlUptoCard : Claim7 := { stood := { row := fnUrlUptoRow, standIns := [], harness := (true, "818c43324aa53584db40911f13e09b39a3e0221c5904f17a963e9d34e7e1fcf6"), looks := true }, kinds := [], alts := [], laidByText := true, laidKinds := [.data, .data, .data, .data, .pinned], laidTests := true, laidLooks := .later }
def FnUrlUptoCardSaid : Prop := Claim7.holds Tryd.pinned (.plain (OpenSpec.upto fnUrlSpec)) fnUrlUptoCard

/-- THE SECOND FORM's CARD OF 'laws.FnOrigin'. -/
def fnOriginUptoCard : Claim7 := { stood := { row := fnOriginUptoRow, standIns := [], harness := (true, "818c43324aa53584db40911f13e09b39a3e0221c5904f17a963e9d34e7e1fcf6"), looks := true }, kinds := [], alts := [], laidByText := true, laidKinds := [.data, .data, .data, .data, .pinned], laidTests := true, laidLooks := .later }
def FnOriginUptoCardSaid : Prop := Claim7.holds Tryd.pinned (.plain (OpenSpec.upto fnOriginSpec)) fnOriginUptoCard
end Rows
end Go.Proofs.YtknjkakokcblnaaDoor

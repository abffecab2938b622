/-
  DERIVED. GIVEN WITH THE SEED: THE CARDS: each row of YtaccgciopmclhaaGreatDoorRows.lean that lists a variable, with what it lists TIED to the program's text (the seventh form; the later family's looks); each row that meets fmt, with fmt's text TOLD by the authors' own Lean function (tested against real Go, not proved from fmt's source: count such statements apart). THE CARD IS WHAT COUNTS. Prove the row's statement (the work); the ties are given (YtaccgciopmclhaaGreatDoorTie.lean); close each card by the builder's one call (the guide's Derived/Test/ToyasCard.lean, 'card_holds'). Laid BY PROGRAM, IN A SANDBOX (cutbox-door.mjs). By AI agents, Wed Nov 11 2026. No macro, syntax, notation, axiom, sorry.
-/
import Derived.Test.YtaccgciopmclhaaGreatDoorRows
import GoSem.ClaimSeven
namespace Go.Proofs.YtaccgciopmclhaaGreatDoor
namespace Rows

/-- THE TIED CARD OF 'laws.FnExactWorldRight'. -/
def fnExactWorldRightCard : Claim7 := { stood := { row := fnExactWorldRightRow, standIns := [], harness := (true, "003f2dd1defd11555bccc1af8c9bf7119b4515e4ece444d69b8155260b0a3dea"), looks := true }, kinds := [], alts := [], laidByText := true, laidKinds := [.data, .sentinel, .sentinel, .sentinel, .sentinel, .sentinel, .pinned], laidTests := true, laidLooks := .later }
def FnExactWorldRightCardSaid : Prop := Claim7.holds Tryz.pinned (.plain (OpenSpec.ofChange fnExactWorldRightSpec)) fnExactWorldRightCard

/-- THE TIED CARD OF 'laws.FnExactPass'. -/
def fnExactPassCard : Claim7 := { stood := { row := fnExactPassRow, standIns := [], harness := (true, "003f2dd1defd11555bccc1af8c9bf7119b4515e4ece444d69b8155260b0a3dea"), looks := true }, kinds := [], alts := [], laidByText := true, laidKinds := [.data, .sentinel, .sentinel, .sentinel, .sentinel, .sentinel, .pinned], laidTests := true, laidLooks := .later }
def FnExactPassCardSaid : Prop := Claim7.holds Tryz.pinned (.plain (OpenSpec.ofChange fnExactPassSpec)) fnExactPassCard

/-- THE TIED CARD OF 'laws.FnExactTouch'. -/
def fnExactTouchCard : Claim7 := { stood := { row := fnExactTouchRow, standIns := [], harness := (true, "003f2dd1defd11555bccc1af8c9bf7119b4515e4ece444d69b8155260b0a3dea"), looks := true }, kinds := [], alts := [], laidByText := true, laidKinds := [.data, .sentinel, .sentinel, .sentinel, .sentinel, .sentinel, .pinned], laidTests := true, laidLooks := .later }
def FnExactTouchCardSaid : Prop := Claim7.holds Tryz.pinned (.plain (OpenSpec.ofChange fnExactTouchSpec)) fnExactTouchCard

/-- THE SECOND FORM's CARD OF 'laws.FnExactWorldRight'. -/
def fnExactWorldRightUptoCard : Claim7 := { stood := { row := fnExactWorldRightUptoRow, standIns := [], harness := (true, "003f2dd1defd11555bccc1af8c9bf7119b4515e4ece444d69b8155260b0a3dea"), looks := true }, kinds := [], alts := [], laidByText := true, laidKinds := [.data, .sentinel, .sentinel, .sentinel, .sentinel, .sentinel, .pinned], laidTests := true, laidLooks := .later }
def FnExactWorldRightUptoCardSaid : Prop := Claim7.holds Tryz.pinned (.plain (OpenSpec.upto fnExactWorldRightSpec)) fnExactWorldRightUptoCard

/-- THE SECOND FORM's CARD OF 'laws.FnExactPass'. -/
def fnExactPassUptoCard : Claim7 := { stood := { row := fnExactPassUptoRow, standIns := [], harness := (true, "003f2dd1defd11555bccc1af8c9bf7119b4515e4ece444d69b8155260b0a3dea"), looks := true }, kinds := [], alts := [], laidByText := true, laidKinds := [.data, .sentinel, .sentinel, .sentinel, .sentinel, .sentinel, .pinned], laidTests := true, laidLooks := .later }
def FnExactPassUptoCardSaid : Prop := Claim7.holds Tryz.pinned (.plain (OpenSpec.upto fnExactPassSpec)) fnExactPassUptoCard

/-- THE SECOND FORM's CARD OF 'laws.FnExactTouch'. -/
def fnExactTouchUptoCard : Claim7 := { stood := { row := fnExactTouchUptoRow, standIns := [], harness := (true, "003f2dd1defd11555bccc1af8c9bf7119b4515e4ece444d69b8155260b0a3dea"), looks := true }, kinds := [], alts := [], laidByText := true, laidKinds := [.data, .sentinel, .sentinel, .sentinel, .sentinel, .sentinel, .pinned], laidTests := true, laidLooks := .later }
def FnExactTouchUptoCardSaid : Prop := Claim7.holds Tryz.pinned (.plain (OpenSpec.upto fnExactTouchSpec)) fnExactTouchUptoCard
end Rows
end Go.Proofs.YtaccgciopmclhaaGreatDoor

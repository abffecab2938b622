/-
  DERIVED. GIVEN WITH THE SEED: THE CARDS: each row of YtknjkakokcblnafDoorRows.lean that lists a variable, with what it lists TIED to the program's text (the seventh form; the later family's looks); each row that meets fmt, with fmt's text TOLD by the authors' own Lean function (tested against real Go, not proved from fmt's source: count such statements apart). THE CARD IS WHAT COUNTS. Prove the row's statement (the work); the ties are given (YtknjkakokcblnafDoorTie.lean); close each card by the builder's one call (the guide's Derived/Test/ToyasCard.lean, 'card_holds'). Laid BY PROGRAM, IN A SANDBOX (cutbox-door.mjs). By AI agents, Wed Nov 11 2026. No macro, syntax, notation, axiom, sorry.
-/
import Derived.Test.YtknjkakokcblnafDoorRows
import GoSem.ClaimSeven
namespace Go.Proofs.YtknjkakokcblnafDoor
namespace Rows

/-- THE TIED CARD OF 'laws.FnExactHostRight'. -/
def fnExactHostRightCard : Claim7 := { stood := { row := fnExactHostRightRow, standIns := [], harness := (true, "a1e64a5c67e58911c69f68798eaa6c9b471469474821a9c7a1d4aa15c92e9b61"), looks := false }, kinds := [], alts := [], laidByText := true, laidKinds := [.data, .pinned], laidTests := true, laidLooks := .later }
def FnExactHostRightCardSaid : Prop := Claim7.holds Tryd.pinned (.plain (OpenSpec.ofChange fnExactHostRightSpec)) fnExactHostRightCard

/-- THE TIED CARD OF 'laws.FnExactLabelsOf'. -/
def fnExactLabelsOfCard : Claim7 := { stood := { row := fnExactLabelsOfRow, standIns := [], harness := (true, "a1e64a5c67e58911c69f68798eaa6c9b471469474821a9c7a1d4aa15c92e9b61"), looks := false }, kinds := [], alts := [], laidByText := true, laidKinds := [.data, .pinned], laidTests := true, laidLooks := .later }
def FnExactLabelsOfCardSaid : Prop := Claim7.holds Tryd.pinned (.plain (OpenSpec.ofChange fnExactLabelsOfSpec)) fnExactLabelsOfCard

/-- THE TIED CARD OF 'laws.FnExactUrlRight'. -/
def fnExactUrlRightCard : Claim7 := { stood := { row := fnExactUrlRightRow, standIns := [], harness := (true, "a1e64a5c67e58911c69f68798eaa6c9b471469474821a9c7a1d4aa15c92e9b61"), looks := false }, kinds := [], alts := [], laidByText := true, laidKinds := [.data, .pinned], laidTests := true, laidLooks := .later }
def FnExactUrlRightCardSaid : Prop := Claim7.holds Tryd.pinned (.plain (OpenSpec.ofChange fnExactUrlRightSpec)) fnExactUrlRightCard

/-- THE TIED CARD OF 'laws.FnExactUrlText'. -/
def fnExactUrlTextCard : Claim7 := { stood := { row := fnExactUrlTextRow, standIns := [], harness := (true, "a1e64a5c67e58911c69f68798eaa6c9b471469474821a9c7a1d4aa15c92e9b61"), looks := false }, kinds := [], alts := [], laidByText := true, laidKinds := [.data, .data, .data, .data, .pinned], laidTests := true, laidLooks := .later }
def FnExactUrlTextCardSaid : Prop := Claim7.holds Tryd.pinned (.plain (OpenSpec.ofChange fnExactUrlTextSpec)) fnExactUrlTextCard

/-- THE SECOND FORM's CARD OF 'laws.FnExactHostRight'. -/
def fnExactHostRightUptoCard : Claim7 := { stood := { row := fnExactHostRightUptoRow, standIns := [], harness := (true, "a1e64a5c67e58911c69f68798eaa6c9b471469474821a9c7a1d4aa15c92e9b61"), looks := false }, kinds := [], alts := [], laidByText := true, laidKinds := [.data, .pinned], laidTests := true, laidLooks := .later }
def FnExactHostRightUptoCardSaid : Prop := Claim7.holds Tryd.pinned (.plain (OpenSpec.upto fnExactHostRightSpec)) fnExactHostRightUptoCard

/-- THE SECOND FORM's CARD OF 'laws.FnExactLabelsOf'. -/
def fnExactLabelsOfUptoCard : Claim7 := { stood := { row := fnExactLabelsOfUptoRow, standIns := [], harness := (true, "a1e64a5c67e58911c69f68798eaa6c9b471469474821a9c7a1d4aa15c92e9b61"), looks := false }, kinds := [], alts := [], laidByText := true, laidKinds := [.data, .pinned], laidTests := true, laidLooks := .later }
def FnExactLabelsOfUptoCardSaid : Prop := Claim7.holds Tryd.pinned (.plain (OpenSpec.upto fnExactLabelsOfSpec)) fnExactLabelsOfUptoCard

/-- THE SECOND FORM's CARD OF 'laws.FnExactUrlRight'. -/
def fnExactUrlRightUptoCard : Claim7 := { stood := { row := fnExactUrlRightUptoRow, standIns := [], harness := (true, "a1e64a5c67e58911c69f68798eaa6c9b471469474821a9c7a1d4aa15c92e9b61"), looks := false }, kinds := [], alts := [], laidByText := true, laidKinds := [.data, .pinned], laidTests := true, laidLooks := .later }
def FnExactUrlRightUptoCardSaid : Prop := Claim7.holds Tryd.pinned (.plain (OpenSpec.upto fnExactUrlRightSpec)) fnExactUrlRightUptoCard

/-- THE SECOND FORM's CARD OF 'laws.FnExactUrlText'. -/
def fnExactUrlTextUptoCard : Claim7 := { stood := { row := fnExactUrlTextUptoRow, standIns := [], harness := (true, "a1e64a5c67e58911c69f68798eaa6c9b471469474821a9c7a1d4aa15c92e9b61"), looks := false }, kinds := [], alts := [], laidByText := true, laidKinds := [.data, .data, .data, .data, .pinned], laidTests := true, laidLooks := .later }
def FnExactUrlTextUptoCardSaid : Prop := Claim7.holds Tryd.pinned (.plain (OpenSpec.upto fnExactUrlTextSpec)) fnExactUrlTextUptoCard
end Rows
end Go.Proofs.YtknjkakokcblnafDoor

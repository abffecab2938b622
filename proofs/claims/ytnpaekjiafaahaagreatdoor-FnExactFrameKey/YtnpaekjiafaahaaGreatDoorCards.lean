/-
  DERIVED. GIVEN WITH THE SEED: THE CARDS: each row of YtnpaekjiafaahaaGreatDoorRows.lean that lists a variable, with what it lists TIED to the program's text (the seventh form; the later family's looks); each row that meets fmt, with fmt's text TOLD by the authors' own Lean function (tested against real Go, not proved from fmt's source: count such statements apart). THE CARD IS WHAT COUNTS. Prove the row's statement (the work); the ties are given (YtnpaekjiafaahaaGreatDoorTie.lean); close each card by the builder's one call (the guide's Derived/Test/ToyasCard.lean, 'card_holds'). Laid BY PROGRAM, IN A SANDBOX (cutbox-door.mjs). By AI agents, Wed Nov 11 2026. No macro, syntax, notation, axiom, sorry.
-/
import Derived.Test.YtnpaekjiafaahaaGreatDoorRows
import GoSem.ClaimSeven
namespace Go.Proofs.YtnpaekjiafaahaaGreatDoor
namespace Rows

/-- THE TIED CARD OF 'laws.FnFrames'. -/
def fnFramesCard : Claim7 := { stood := { row := fnFramesRow, standIns := [], harness := (true, "4a36b26df1c5d228756f629e1cb16232e5fc0446246267751979ca2263a4779e"), looks := false }, kinds := [], alts := [], laidByText := true, laidKinds := [.data, .pinned], laidTests := true, laidLooks := .later }
def FnFramesCardSaid : Prop := Claim7.holds Tryz.pinned (.plain (OpenSpec.ofChange fnFramesSpec)) fnFramesCard

/-- THE TIED CARD OF 'laws.FnKey'. -/
def fnKeyCard : Claim7 := { stood := { row := fnKeyRow, standIns := [], harness := (true, "4a36b26df1c5d228756f629e1cb16232e5fc0446246267751979ca2263a4779e"), looks := false }, kinds := [], alts := [], laidByText := true, laidKinds := [.data, .data, .data, .data, .pinned], laidTests := true, laidLooks := .later }
def FnKeyCardSaid : Prop := Claim7.holds Tryz.pinned (.plain (OpenSpec.ofChange fnKeySpec)) fnKeyCard

/-- THE TIED CARD OF 'laws.FnExactFrameKey'. -/
def fnExactFrameKeyCard : Claim7 := { stood := { row := fnExactFrameKeyRow, standIns := [], harness := (true, "4a36b26df1c5d228756f629e1cb16232e5fc0446246267751979ca2263a4779e"), looks := false }, kinds := [], alts := [], laidByText := true, laidKinds := [.data, .data, .data, .data, .pinned], laidTests := true, laidLooks := .later }
def FnExactFrameKeyCardSaid : Prop := Claim7.holds Tryz.pinned (.plain (OpenSpec.ofChange fnExactFrameKeySpec)) fnExactFrameKeyCard

/-- THE SECOND FORM's CARD OF 'laws.FnFrames'. -/
def fnFramesUptoCard : Claim7 := { stood := { row := fnFramesUptoRow, standIns := [], harness := (true, "4a36b26df1c5d228756f629e1cb16232e5fc0446246267751979ca2263a4779e"), looks := false }, kinds := [], alts := [], laidByText := true, laidKinds := [.data, .pinned], laidTests := true, laidLooks := .later }
def FnFramesUptoCardSaid : Prop := Claim7.holds Tryz.pinned (.plain (OpenSpec.upto fnFramesSpec)) fnFramesUptoCard

/-- THE SECOND FORM's CARD OF 'laws.FnKey'. -/
def fnKeyUptoCard : Claim7 := { stood := { row := fnKeyUptoRow, standIns := [], harness := (true, "4a36b26df1c5d228756f629e1cb16232e5fc0446246267751979ca2263a4779e"), looks := false }, kinds := [], alts := [], laidByText := true, laidKinds := [.data, .data, .data, .data, .pinned], laidTests := true, laidLooks := .later }
def FnKeyUptoCardSaid : Prop := Claim7.holds Tryz.pinned (.plain (OpenSpec.upto fnKeySpec)) fnKeyUptoCard

/-- THE SECOND FORM's CARD OF 'laws.FnExactFrameKey'. -/
def fnExactFrameKeyUptoCard : Claim7 := { stood := { row := fnExactFrameKeyUptoRow, standIns := [], harness := (true, "4a36b26df1c5d228756f629e1cb16232e5fc0446246267751979ca2263a4779e"), looks := false }, kinds := [], alts := [], laidByText := true, laidKinds := [.data, .data, .data, .data, .pinned], laidTests := true, laidLooks := .later }
def FnExactFrameKeyUptoCardSaid : Prop := Claim7.holds Tryz.pinned (.plain (OpenSpec.upto fnExactFrameKeySpec)) fnExactFrameKeyUptoCard
end Rows
end Go.Proofs.YtnpaekjiafaahaaGreatDoor

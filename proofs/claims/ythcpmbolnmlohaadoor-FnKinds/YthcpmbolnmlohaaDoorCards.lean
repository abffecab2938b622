/-
  DERIVED. GIVEN WITH THE SEED: THE CARDS: each row of YthcpmbolnmlohaaDoorRows.lean that lists a variable, with what it lists TIED to the program's text (the seventh form; the later family's looks); each row that meets fmt, with fmt's text TOLD by the authors' own Lean function (tested against real Go, not proved from fmt's source: count such statements apart). THE CARD IS WHAT COUNTS. Prove the row's statement (the work); the ties are given (YthcpmbolnmlohaaDoorTie.lean); close each card by the builder's one call (the guide's Derived/Test/ToyasCard.lean, 'card_holds'). Laid BY PROGRAM, IN A SANDBOX (cutbox-door.mjs). By AI agents, Wed Nov 11 2026. No macro, syntax, notation, axiom, sorry.
-/
import Derived.Test.YthcpmbolnmlohaaDoorRows
import GoSem.ClaimSeven
namespace Go.Proofs.YthcpmbolnmlohaaDoor
namespace Rows

/-- THE TIED CARD OF 'laws.FnKinds'. -/
def fnKindsCard : Claim7 := { stood := { row := fnKindsRow, standIns := [], harness := (true, "4dd194acd7ece573018c2049336163173a1f892bd6b3d5849ea5ad6c61b626b4"), looks := true }, kinds := [], alts := [], laidByText := true, laidKinds := [.data, .data, .pinned], laidTests := true, laidLooks := .later }
def FnKindsCardSaid : Prop := Claim7.holds Tryd.pinned (.plain (OpenSpec.ofChange fnKindsSpec)) fnKindsCard

/-- THE TIED CARD OF 'laws.FnExactSetRight'. -/
def fnExactSetRightCard : Claim7 := { stood := { row := fnExactSetRightRow, standIns := [], harness := (true, "4dd194acd7ece573018c2049336163173a1f892bd6b3d5849ea5ad6c61b626b4"), looks := true }, kinds := [], alts := [], laidByText := true, laidKinds := [.data, .pinned], laidTests := true, laidLooks := .later }
def FnExactSetRightCardSaid : Prop := Claim7.holds Tryd.pinned (.plain (OpenSpec.ofChange fnExactSetRightSpec)) fnExactSetRightCard

/-- THE TIED CARD OF 'laws.FnExactSetText'. -/
def fnExactSetTextCard : Claim7 := { stood := { row := fnExactSetTextRow, standIns := [], harness := (true, "4dd194acd7ece573018c2049336163173a1f892bd6b3d5849ea5ad6c61b626b4"), looks := true }, kinds := [], alts := [], laidByText := true, laidKinds := [.data, .data, .data, .data, .pinned], laidTests := true, laidLooks := .later }
def FnExactSetTextCardSaid : Prop := Claim7.holds Tryd.pinned (.plain (OpenSpec.ofChange fnExactSetTextSpec)) fnExactSetTextCard

/-- THE TIED CARD OF 'laws.FnExactSetRead'. -/
def fnExactSetReadCard : Claim7 := { stood := { row := fnExactSetReadRow, standIns := [], harness := (true, "4dd194acd7ece573018c2049336163173a1f892bd6b3d5849ea5ad6c61b626b4"), looks := true }, kinds := [], alts := [], laidByText := true, laidKinds := [.data, .data, .data, .data, .sentinel, .sentinel, .pinned], laidTests := true, laidLooks := .later }
def FnExactSetReadCardSaid : Prop := Claim7.holds Tryd.pinned (.plain (OpenSpec.ofChange fnExactSetReadSpec)) fnExactSetReadCard

/-- THE TIED CARD OF 'laws.FnExactPairsRead'. -/
def fnExactPairsReadCard : Claim7 := { stood := { row := fnExactPairsReadRow, standIns := [], harness := (true, "4dd194acd7ece573018c2049336163173a1f892bd6b3d5849ea5ad6c61b626b4"), looks := true }, kinds := [], alts := [], laidByText := true, laidKinds := [.data, .pinned], laidTests := true, laidLooks := .later }
def FnExactPairsReadCardSaid : Prop := Claim7.holds Tryd.pinned (.plain (OpenSpec.ofChange fnExactPairsReadSpec)) fnExactPairsReadCard

/-- THE TIED CARD OF 'laws.FnExactClearText'. -/
def fnExactClearTextCard : Claim7 := { stood := { row := fnExactClearTextRow, standIns := [], harness := (true, "4dd194acd7ece573018c2049336163173a1f892bd6b3d5849ea5ad6c61b626b4"), looks := true }, kinds := [], alts := [], laidByText := true, laidKinds := [.data], laidTests := true, laidLooks := .later }
def FnExactClearTextCardSaid : Prop := Claim7.holds Tryd.pinned (.plain (OpenSpec.ofChange fnExactClearTextSpec)) fnExactClearTextCard

/-- THE TIED CARD OF 'laws.FnExactClearRead'. -/
def fnExactClearReadCard : Claim7 := { stood := { row := fnExactClearReadRow, standIns := [], harness := (true, "4dd194acd7ece573018c2049336163173a1f892bd6b3d5849ea5ad6c61b626b4"), looks := true }, kinds := [], alts := [], laidByText := true, laidKinds := [.data, .data, .pinned], laidTests := true, laidLooks := .later }
def FnExactClearReadCardSaid : Prop := Claim7.holds Tryd.pinned (.plain (OpenSpec.ofChange fnExactClearReadSpec)) fnExactClearReadCard

/-- THE SECOND FORM's CARD OF 'laws.FnKinds'. -/
def fnKindsUptoCard : Claim7 := { stood := { row := fnKindsUptoRow, standIns := [], harness := (true, "4dd194acd7ece573018c2049336163173a1f892bd6b3d5849ea5ad6c61b626b4"), looks := true }, kinds := [], alts := [], laidByText := true, laidKinds := [.data, .data, .pinned], laidTests := true, laidLooks := .later }
def FnKindsUptoCardSaid : Prop := Claim7.holds Tryd.pinned (.plain (OpenSpec.upto fnKindsSpec)) fnKindsUptoCard

/-- THE SECOND FORM's CARD OF 'laws.FnExactSetRight'. -/
def fnExactSetRightUptoCard : Claim7 := { stood := { row := fnExactSetRightUptoRow, standIns := [], harness := (true, "4dd194acd7ece573018c2049336163173a1f892bd6b3d5849ea5ad6c61b626b4"), looks := true }, kinds := [], alts := [], laidByText := true, laidKinds := [.data, .pinned], laidTests := true, laidLooks := .later }
def FnExactSetRightUptoCardSaid : Prop := Claim7.holds Tryd.pinned (.plain (OpenSpec.upto fnExactSetRightSpec)) fnExactSetRightUptoCard

/-- THE SECOND FORM's CARD OF 'laws.FnExactSetText'. -/
def fnExactSetTextUptoCard : Claim7 := { stood := { row := fnExactSetTextUptoRow, standIns := [], harness := (true, "4dd194acd7ece573018c2049336163173a1f892bd6b3d5849ea5ad6c61b626b4"), looks := true }, kinds := [], alts := [], laidByText := true, laidKinds := [.data, .data, .data, .data, .pinned], laidTests := true, laidLooks := .later }
def FnExactSetTextUptoCardSaid : Prop := Claim7.holds Tryd.pinned (.plain (OpenSpec.upto fnExactSetTextSpec)) fnExactSetTextUptoCard

/-- THE SECOND FORM's CARD OF 'laws.FnExactSetRead'. -/
def fnExactSetReadUptoCard : Claim7 := { stood := { row := fnExactSetReadUptoRow, standIns := [], harness := (true, "4dd194acd7ece573018c2049336163173a1f892bd6b3d5849ea5ad6c61b626b4"), looks := true }, kinds := [], alts := [], laidByText := true, laidKinds := [.data, .data, .data, .data, .sentinel, .sentinel, .pinned], laidTests := true, laidLooks := .later }
def FnExactSetReadUptoCardSaid : Prop := Claim7.holds Tryd.pinned (.plain (OpenSpec.upto fnExactSetReadSpec)) fnExactSetReadUptoCard

/-- THE SECOND FORM's CARD OF 'laws.FnExactPairsRead'. -/
def fnExactPairsReadUptoCard : Claim7 := { stood := { row := fnExactPairsReadUptoRow, standIns := [], harness := (true, "4dd194acd7ece573018c2049336163173a1f892bd6b3d5849ea5ad6c61b626b4"), looks := true }, kinds := [], alts := [], laidByText := true, laidKinds := [.data, .pinned], laidTests := true, laidLooks := .later }
def FnExactPairsReadUptoCardSaid : Prop := Claim7.holds Tryd.pinned (.plain (OpenSpec.upto fnExactPairsReadSpec)) fnExactPairsReadUptoCard

/-- THE SECOND FORM's CARD OF 'laws.FnExactClearText'. -/
def fnExactClearTextUptoCard : Claim7 := { stood := { row := fnExactClearTextUptoRow, standIns := [], harness := (true, "4dd194acd7ece573018c2049336163173a1f892bd6b3d5849ea5ad6c61b626b4"), looks := true }, kinds := [], alts := [], laidByText := true, laidKinds := [.data], laidTests := true, laidLooks := .later }
def FnExactClearTextUptoCardSaid : Prop := Claim7.holds Tryd.pinned (.plain (OpenSpec.upto fnExactClearTextSpec)) fnExactClearTextUptoCard

/-- THE SECOND FORM's CARD OF 'laws.FnExactClearRead'. -/
def fnExactClearReadUptoCard : Claim7 := { stood := { row := fnExactClearReadUptoRow, standIns := [], harness := (true, "4dd194acd7ece573018c2049336163173a1f892bd6b3d5849ea5ad6c61b626b4"), looks := true }, kinds := [], alts := [], laidByText := true, laidKinds := [.data, .data, .pinned], laidTests := true, laidLooks := .later }
def FnExactClearReadUptoCardSaid : Prop := Claim7.holds Tryd.pinned (.plain (OpenSpec.upto fnExactClearReadSpec)) fnExactClearReadUptoCard
end Rows
end Go.Proofs.YthcpmbolnmlohaaDoor

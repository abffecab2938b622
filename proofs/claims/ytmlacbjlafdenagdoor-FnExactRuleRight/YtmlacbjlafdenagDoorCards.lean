/-
  DERIVED. GIVEN WITH THE SEED: THE CARDS: each row of YtmlacbjlafdenagDoorRows.lean that lists a variable, with what it lists TIED to the program's text (the seventh form; the later family's looks); each row that meets fmt, with fmt's text TOLD by the authors' own Lean function (tested against real Go, not proved from fmt's source: count such statements apart). THE CARD IS WHAT COUNTS. Prove the row's statement (the work); the ties are given (YtmlacbjlafdenagDoorTie.lean); close each card by the builder's one call (the guide's Derived/Test/ToyasCard.lean, 'card_holds'). Laid BY PROGRAM, IN A SANDBOX (cutbox-door.mjs). By AI agents, Wed Nov 11 2026. No macro, syntax, notation, axiom, sorry.
-/
import Derived.Test.YtmlacbjlafdenagDoorRows
import GoSem.ClaimSeven
namespace Go.Proofs.YtmlacbjlafdenagDoor
namespace Rows

/-- THE TIED CARD OF 'laws.FnExactUrlRead'. -/
def fnExactUrlReadCard : Claim7 := { stood := { row := fnExactUrlReadRow, standIns := [], harness := (true, "1c95664bbc24abd5b1a63d23ddaaf51751509d2950a38090468a643f4d9e5561"), looks := false }, kinds := [], alts := [], laidByText := true, laidKinds := [.data, .data, .data, .data, .pinned], laidTests := true, laidLooks := .later }
def FnExactUrlReadCardSaid : Prop := Claim7.holds Tryd.pinned (.plain (OpenSpec.ofChange fnExactUrlReadSpec)) fnExactUrlReadCard

/-- THE TIED CARD OF 'laws.FnExactOriginRight'. -/
def fnExactOriginRightCard : Claim7 := { stood := { row := fnExactOriginRightRow, standIns := [], harness := (true, "1c95664bbc24abd5b1a63d23ddaaf51751509d2950a38090468a643f4d9e5561"), looks := false }, kinds := [], alts := [], laidByText := true, laidKinds := [.data, .pinned], laidTests := true, laidLooks := .later }
def FnExactOriginRightCardSaid : Prop := Claim7.holds Tryd.pinned (.plain (OpenSpec.ofChange fnExactOriginRightSpec)) fnExactOriginRightCard

/-- THE TIED CARD OF 'laws.FnExactOriginOf'. -/
def fnExactOriginOfCard : Claim7 := { stood := { row := fnExactOriginOfRow, standIns := [], harness := (true, "1c95664bbc24abd5b1a63d23ddaaf51751509d2950a38090468a643f4d9e5561"), looks := false }, kinds := [], alts := [], laidByText := true, laidKinds := [.data, .pinned], laidTests := true, laidLooks := .later }
def FnExactOriginOfCardSaid : Prop := Claim7.holds Tryd.pinned (.plain (OpenSpec.ofChange fnExactOriginOfSpec)) fnExactOriginOfCard

/-- THE TIED CARD OF 'laws.FnExactOriginText'. -/
def fnExactOriginTextCard : Claim7 := { stood := { row := fnExactOriginTextRow, standIns := [], harness := (true, "1c95664bbc24abd5b1a63d23ddaaf51751509d2950a38090468a643f4d9e5561"), looks := false }, kinds := [], alts := [], laidByText := true, laidKinds := [.data, .data, .data, .data, .pinned], laidTests := true, laidLooks := .later }
def FnExactOriginTextCardSaid : Prop := Claim7.holds Tryd.pinned (.plain (OpenSpec.ofChange fnExactOriginTextSpec)) fnExactOriginTextCard

/-- THE TIED CARD OF 'laws.FnExactOriginSame'. -/
def fnExactOriginSameCard : Claim7 := { stood := { row := fnExactOriginSameRow, standIns := [], harness := (true, "1c95664bbc24abd5b1a63d23ddaaf51751509d2950a38090468a643f4d9e5561"), looks := false }, kinds := [], alts := [], laidByText := true, laidKinds := [.data, .pinned], laidTests := true, laidLooks := .later }
def FnExactOriginSameCardSaid : Prop := Claim7.holds Tryd.pinned (.plain (OpenSpec.ofChange fnExactOriginSameSpec)) fnExactOriginSameCard

/-- THE TIED CARD OF 'laws.FnExactRuleRight'. -/
def fnExactRuleRightCard : Claim7 := { stood := { row := fnExactRuleRightRow, standIns := [], harness := (true, "1c95664bbc24abd5b1a63d23ddaaf51751509d2950a38090468a643f4d9e5561"), looks := false }, kinds := [], alts := [], laidByText := true, laidKinds := [.data, .pinned], laidTests := true, laidLooks := .later }
def FnExactRuleRightCardSaid : Prop := Claim7.holds Tryd.pinned (.plain (OpenSpec.ofChange fnExactRuleRightSpec)) fnExactRuleRightCard

/-- THE SECOND FORM's CARD OF 'laws.FnExactUrlRead'. -/
def fnExactUrlReadUptoCard : Claim7 := { stood := { row := fnExactUrlReadUptoRow, standIns := [], harness := (true, "1c95664bbc24abd5b1a63d23ddaaf51751509d2950a38090468a643f4d9e5561"), looks := false }, kinds := [], alts := [], laidByText := true, laidKinds := [.data, .data, .data, .data, .pinned], laidTests := true, laidLooks := .later }
def FnExactUrlReadUptoCardSaid : Prop := Claim7.holds Tryd.pinned (.plain (OpenSpec.upto fnExactUrlReadSpec)) fnExactUrlReadUptoCard

/-- THE SECOND FORM's CARD OF 'laws.FnExactOriginRight'. -/
def fnExactOriginRightUptoCard : Claim7 := { stood := { row := fnExactOriginRightUptoRow, standIns := [], harness := (true, "1c95664bbc24abd5b1a63d23ddaaf51751509d2950a38090468a643f4d9e5561"), looks := false }, kinds := [], alts := [], laidByText := true, laidKinds := [.data, .pinned], laidTests := true, laidLooks := .later }
def FnExactOriginRightUptoCardSaid : Prop := Claim7.holds Tryd.pinned (.plain (OpenSpec.upto fnExactOriginRightSpec)) fnExactOriginRightUptoCard

/-- THE SECOND FORM's CARD OF 'laws.FnExactOriginOf'. -/
def fnExactOriginOfUptoCard : Claim7 := { stood := { row := fnExactOriginOfUptoRow, standIns := [], harness := (true, "1c95664bbc24abd5b1a63d23ddaaf51751509d2950a38090468a643f4d9e5561"), looks := false }, kinds := [], alts := [], laidByText := true, laidKinds := [.data, .pinned], laidTests := true, laidLooks := .later }
def FnExactOriginOfUptoCardSaid : Prop := Claim7.holds Tryd.pinned (.plain (OpenSpec.upto fnExactOriginOfSpec)) fnExactOriginOfUptoCard

/-- THE SECOND FORM's CARD OF 'laws.FnExactOriginText'. -/
def fnExactOriginTextUptoCard : Claim7 := { stood := { row := fnExactOriginTextUptoRow, standIns := [], harness := (true, "1c95664bbc24abd5b1a63d23ddaaf51751509d2950a38090468a643f4d9e5561"), looks := false }, kinds := [], alts := [], laidByText := true, laidKinds := [.data, .data, .data, .data, .pinned], laidTests := true, laidLooks := .later }
def FnExactOriginTextUptoCardSaid : Prop := Claim7.holds Tryd.pinned (.plain (OpenSpec.upto fnExactOriginTextSpec)) fnExactOriginTextUptoCard

/-- THE SECOND FORM's CARD OF 'laws.FnExactOriginSame'. -/
def fnExactOriginSameUptoCard : Claim7 := { stood := { row := fnExactOriginSameUptoRow, standIns := [], harness := (true, "1c95664bbc24abd5b1a63d23ddaaf51751509d2950a38090468a643f4d9e5561"), looks := false }, kinds := [], alts := [], laidByText := true, laidKinds := [.data, .pinned], laidTests := true, laidLooks := .later }
def FnExactOriginSameUptoCardSaid : Prop := Claim7.holds Tryd.pinned (.plain (OpenSpec.upto fnExactOriginSameSpec)) fnExactOriginSameUptoCard

/-- THE SECOND FORM's CARD OF 'laws.FnExactRuleRight'. -/
def fnExactRuleRightUptoCard : Claim7 := { stood := { row := fnExactRuleRightUptoRow, standIns := [], harness := (true, "1c95664bbc24abd5b1a63d23ddaaf51751509d2950a38090468a643f4d9e5561"), looks := false }, kinds := [], alts := [], laidByText := true, laidKinds := [.data, .pinned], laidTests := true, laidLooks := .later }
def FnExactRuleRightUptoCardSaid : Prop := Claim7.holds Tryd.pinned (.plain (OpenSpec.upto fnExactRuleRightSpec)) fnExactRuleRightUptoCard
end Rows
end Go.Proofs.YtmlacbjlafdenagDoor

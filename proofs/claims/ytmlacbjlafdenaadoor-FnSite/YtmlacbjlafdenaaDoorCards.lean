/-
  DERIVED. GIVEN WITH THE SEED: THE CARDS: each row of YtmlacbjlafdenaaDoorRows.lean that lists a variable, with what it lists TIED to the program's text (the seventh form; the later family's looks); each row that meets fmt, with fmt's text TOLD by the authors' own Lean function (tested against real Go, not proved from fmt's source: count such statements apart). THE CARD IS WHAT COUNTS. Prove the row's statement (the work); the ties are given (YtmlacbjlafdenaaDoorTie.lean); close each card by the builder's one call (the guide's Derived/Test/ToyasCard.lean, 'card_holds'). Laid BY PROGRAM, IN A SANDBOX (cutbox-door.mjs). By AI agents, Wed Nov 11 2026. No macro, syntax, notation, axiom, sorry.
-/
import Derived.Test.YtmlacbjlafdenaaDoorRows
import GoSem.ClaimSeven
namespace Go.Proofs.YtmlacbjlafdenaaDoor
namespace Rows

/-- THE TIED CARD OF 'laws.FnNums'. -/
def fnNumsCard : Claim7 := { stood := { row := fnNumsRow, standIns := [], harness := (true, "6f065b44034eadd64cb2bdcc1eb3299b582e00b9313f8cefdbb4d5b46e402f3c"), looks := true }, kinds := [], alts := [], laidByText := true, laidKinds := [.handle], laidTests := true, laidLooks := .later }
def FnNumsCardSaid : Prop := Claim7.holds Tryd.pinned (.plain (OpenSpec.ofChange fnNumsSpec)) fnNumsCard

/-- THE TIED CARD OF 'laws.FnUrl'. -/
def fnUrlCard : Claim7 := { stood := { row := fnUrlRow, standIns := [], harness := (true, "6f065b44034eadd64cb2bdcc1eb3299b582e00b9313f8cefdbb4d5b46e402f3c"), looks := true }, kinds := [], alts := [], laidByText := true, laidKinds := [.data, .data, .data, .data, .pinned], laidTests := true, laidLooks := .later }
def FnUrlCardSaid : Prop := Claim7.holds Tryd.pinned (.plain (OpenSpec.ofChange fnUrlSpec)) fnUrlCard

/-- THE TIED CARD OF 'laws.FnOrigin'. -/
def fnOriginCard : Claim7 := { stood := { row := fnOriginRow, standIns := [], harness := (true, "6f065b44034eadd64cb2bdcc1eb3299b582e00b9313f8cefdbb4d5b46e402f3c"), looks := true }, kinds := [], alts := [], laidByText := true, laidKinds := [.data, .data, .data, .data, .pinned], laidTests := true, laidLooks := .later }
def FnOriginCardSaid : Prop := Claim7.holds Tryd.pinned (.plain (OpenSpec.ofChange fnOriginSpec)) fnOriginCard

/-- THE TIED CARD OF 'laws.FnSite'. -/
def fnSiteCard : Claim7 := { stood := { row := fnSiteRow, standIns := [], harness := (true, "6f065b44034eadd64cb2bdcc1eb3299b582e00b9313f8cefdbb4d5b46e402f3c"), looks := true }, kinds := [], alts := [], laidByText := true, laidKinds := [.data, .pinned], laidTests := true, laidLooks := .later }
def FnSiteCardSaid : Prop := Claim7.holds Tryd.pinned (.plain (OpenSpec.ofChange fnSiteSpec)) fnSiteCard

/-- THE SECOND FORM's CARD OF 'laws.FnNums'. -/
def fnNumsUptoCard : Claim7 := { stood := { row := fnNumsUptoRow, standIns := [], harness := (true, "6f065b44034eadd64cb2bdcc1eb3299b582e00b9313f8cefdbb4d5b46e402f3c"), looks := true }, kinds := [], alts := [], laidByText := true, laidKinds := [.handle], laidTests := true, laidLooks := .later }
def FnNumsUptoCardSaid : Prop := Claim7.holds Tryd.pinned (.plain (OpenSpec.upto fnNumsSpec)) fnNumsUptoCard

/-- THE SECOND FORM's CARD OF 'laws.FnUrl'. -/
def fnUrlUptoCard : Claim7 := { stood := { row := fnUrlUptoRow, standIns := [], harness := (true, "6f065b44034eadd64cb2bdcc1eb3299b582e00b9313f8cefdbb4d5b46e402f3c"), looks := true }, kinds := [], alts := [], laidByText := true, laidKinds := [.data, .data, .data, .data, .pinned], laidTests := true, laidLooks := .later }
def FnUrlUptoCardSaid : Prop := Claim7.holds Tryd.pinned (.plain (OpenSpec.upto fnUrlSpec)) fnUrlUptoCard

/-- THE SECOND FORM's CARD OF 'laws.FnOrigin'. -/
def fnOriginUptoCard : Claim7 := { stood := { row := fnOriginUptoRow, standIns := [], harness := (true, "6f065b44034eadd64cb2bdcc1eb3299b582e00b9313f8cefdbb4d5b46e402f3c"), looks := true }, kinds := [], alts := [], laidByText := true, laidKinds := [.data, .data, .data, .data, .pinned], laidTests := true, laidLooks := .later }
def FnOriginUptoCardSaid : Prop := Claim7.holds Tryd.pinned (.plain (OpenSpec.upto fnOriginSpec)) fnOriginUptoCard

/-- THE SECOND FORM's CARD OF 'laws.FnSite'. -/
def fnSiteUptoCard : Claim7 := { stood := { row := fnSiteUptoRow, standIns := [], harness := (true, "6f065b44034eadd64cb2bdcc1eb3299b582e00b9313f8cefdbb4d5b46e402f3c"), looks := true }, kinds := [], alts := [], laidByText := true, laidKinds := [.data, .pinned], laidTests := true, laidLooks := .later }
def FnSiteUptoCardSaid : Prop := Claim7.holds Tryd.pinned (.plain (OpenSpec.upto fnSiteSpec)) fnSiteUptoCard
end Rows
end Go.Proofs.YtmlacbjlafdenaaDoor

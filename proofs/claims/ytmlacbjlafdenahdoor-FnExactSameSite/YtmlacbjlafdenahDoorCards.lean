/-
  DERIVED. GIVEN WITH THE SEED: THE CARDS: each row of YtmlacbjlafdenahDoorRows.lean that lists a variable, with what it lists TIED to the program's text (the seventh form; the later family's looks); each row that meets fmt, with fmt's text TOLD by the authors' own Lean function (tested against real Go, not proved from fmt's source: count such statements apart). THE CARD IS WHAT COUNTS. Prove the row's statement (the work); the ties are given (YtmlacbjlafdenahDoorTie.lean); close each card by the builder's one call (the guide's Derived/Test/ToyasCard.lean, 'card_holds'). Laid BY PROGRAM, IN A SANDBOX (cutbox-door.mjs). By AI agents, Wed Nov 11 2026. No macro, syntax, notation, axiom, sorry.
-/
import Derived.Test.YtmlacbjlafdenahDoorRows
import GoSem.ClaimSeven
namespace Go.Proofs.YtmlacbjlafdenahDoor
namespace Rows

/-- THE TIED CARD OF 'laws.FnExactRulesRight'. -/
def fnExactRulesRightCard : Claim7 := { stood := { row := fnExactRulesRightRow, standIns := [], harness := (true, "eb1eaa8ad1319cf004e1212bbf6d1a5b2f3f95a785c9895e6b3690961c8c94e5"), looks := false }, kinds := [], alts := [], laidByText := true, laidKinds := [.data, .pinned], laidTests := true, laidLooks := .later }
def FnExactRulesRightCardSaid : Prop := Claim7.holds Tryd.pinned (.plain (OpenSpec.ofChange fnExactRulesRightSpec)) fnExactRulesRightCard

/-- THE TIED CARD OF 'laws.FnExactRulesRead'. -/
def fnExactRulesReadCard : Claim7 := { stood := { row := fnExactRulesReadRow, standIns := [], harness := (true, "eb1eaa8ad1319cf004e1212bbf6d1a5b2f3f95a785c9895e6b3690961c8c94e5"), looks := false }, kinds := [], alts := [], laidByText := true, laidKinds := [.data, .pinned], laidTests := true, laidLooks := .later }
def FnExactRulesReadCardSaid : Prop := Claim7.holds Tryd.pinned (.plain (OpenSpec.ofChange fnExactRulesReadSpec)) fnExactRulesReadCard

/-- THE TIED CARD OF 'laws.FnExactSuffixOf'. -/
def fnExactSuffixOfCard : Claim7 := { stood := { row := fnExactSuffixOfRow, standIns := [], harness := (true, "eb1eaa8ad1319cf004e1212bbf6d1a5b2f3f95a785c9895e6b3690961c8c94e5"), looks := false }, kinds := [], alts := [], laidByText := true, laidKinds := [.data, .pinned], laidTests := true, laidLooks := .later }
def FnExactSuffixOfCardSaid : Prop := Claim7.holds Tryd.pinned (.plain (OpenSpec.ofChange fnExactSuffixOfSpec)) fnExactSuffixOfCard

/-- THE TIED CARD OF 'laws.FnExactSiteOf'. -/
def fnExactSiteOfCard : Claim7 := { stood := { row := fnExactSiteOfRow, standIns := [], harness := (true, "eb1eaa8ad1319cf004e1212bbf6d1a5b2f3f95a785c9895e6b3690961c8c94e5"), looks := false }, kinds := [], alts := [], laidByText := true, laidKinds := [.data, .pinned], laidTests := true, laidLooks := .later }
def FnExactSiteOfCardSaid : Prop := Claim7.holds Tryd.pinned (.plain (OpenSpec.ofChange fnExactSiteOfSpec)) fnExactSiteOfCard

/-- THE TIED CARD OF 'laws.FnExactSameSite'. -/
def fnExactSameSiteCard : Claim7 := { stood := { row := fnExactSameSiteRow, standIns := [], harness := (true, "eb1eaa8ad1319cf004e1212bbf6d1a5b2f3f95a785c9895e6b3690961c8c94e5"), looks := false }, kinds := [], alts := [], laidByText := true, laidKinds := [.data, .pinned], laidTests := true, laidLooks := .later }
def FnExactSameSiteCardSaid : Prop := Claim7.holds Tryd.pinned (.plain (OpenSpec.ofChange fnExactSameSiteSpec)) fnExactSameSiteCard

/-- THE SECOND FORM's CARD OF 'laws.FnExactRulesRight'. -/
def fnExactRulesRightUptoCard : Claim7 := { stood := { row := fnExactRulesRightUptoRow, standIns := [], harness := (true, "eb1eaa8ad1319cf004e1212bbf6d1a5b2f3f95a785c9895e6b3690961c8c94e5"), looks := false }, kinds := [], alts := [], laidByText := true, laidKinds := [.data, .pinned], laidTests := true, laidLooks := .later }
def FnExactRulesRightUptoCardSaid : Prop := Claim7.holds Tryd.pinned (.plain (OpenSpec.upto fnExactRulesRightSpec)) fnExactRulesRightUptoCard

/-- THE SECOND FORM's CARD OF 'laws.FnExactRulesRead'. -/
def fnExactRulesReadUptoCard : Claim7 := { stood := { row := fnExactRulesReadUptoRow, standIns := [], harness := (true, "eb1eaa8ad1319cf004e1212bbf6d1a5b2f3f95a785c9895e6b3690961c8c94e5"), looks := false }, kinds := [], alts := [], laidByText := true, laidKinds := [.data, .pinned], laidTests := true, laidLooks := .later }
def FnExactRulesReadUptoCardSaid : Prop := Claim7.holds Tryd.pinned (.plain (OpenSpec.upto fnExactRulesReadSpec)) fnExactRulesReadUptoCard

/-- THE SECOND FORM's CARD OF 'laws.FnExactSuffixOf'. -/
def fnExactSuffixOfUptoCard : Claim7 := { stood := { row := fnExactSuffixOfUptoRow, standIns := [], harness := (true, "eb1eaa8ad1319cf004e1212bbf6d1a5b2f3f95a785c9895e6b3690961c8c94e5"), looks := false }, kinds := [], alts := [], laidByText := true, laidKinds := [.data, .pinned], laidTests := true, laidLooks := .later }
def FnExactSuffixOfUptoCardSaid : Prop := Claim7.holds Tryd.pinned (.plain (OpenSpec.upto fnExactSuffixOfSpec)) fnExactSuffixOfUptoCard

/-- THE SECOND FORM's CARD OF 'laws.FnExactSiteOf'. -/
def fnExactSiteOfUptoCard : Claim7 := { stood := { row := fnExactSiteOfUptoRow, standIns := [], harness := (true, "eb1eaa8ad1319cf004e1212bbf6d1a5b2f3f95a785c9895e6b3690961c8c94e5"), looks := false }, kinds := [], alts := [], laidByText := true, laidKinds := [.data, .pinned], laidTests := true, laidLooks := .later }
def FnExactSiteOfUptoCardSaid : Prop := Claim7.holds Tryd.pinned (.plain (OpenSpec.upto fnExactSiteOfSpec)) fnExactSiteOfUptoCard

/-- THE SECOND FORM's CARD OF 'laws.FnExactSameSite'. -/
def fnExactSameSiteUptoCard : Claim7 := { stood := { row := fnExactSameSiteUptoRow, standIns := [], harness := (true, "eb1eaa8ad1319cf004e1212bbf6d1a5b2f3f95a785c9895e6b3690961c8c94e5"), looks := false }, kinds := [], alts := [], laidByText := true, laidKinds := [.data, .pinned], laidTests := true, laidLooks := .later }
def FnExactSameSiteUptoCardSaid : Prop := Claim7.holds Tryd.pinned (.plain (OpenSpec.upto fnExactSameSiteSpec)) fnExactSameSiteUptoCard
end Rows
end Go.Proofs.YtmlacbjlafdenahDoor

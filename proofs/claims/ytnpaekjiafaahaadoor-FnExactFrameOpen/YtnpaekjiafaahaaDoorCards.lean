/-
  DERIVED. GIVEN WITH THE SEED: THE CARDS: each row of YtnpaekjiafaahaaDoorRows.lean that lists a variable, with what it lists TIED to the program's text (the seventh form; the later family's looks); each row that meets fmt, with fmt's text TOLD by the authors' own Lean function (tested against real Go, not proved from fmt's source: count such statements apart). THE CARD IS WHAT COUNTS. Prove the row's statement (the work); the ties are given (YtnpaekjiafaahaaDoorTie.lean); close each card by the builder's one call (the guide's Derived/Test/ToyasCard.lean, 'card_holds'). Laid BY PROGRAM, IN A SANDBOX (cutbox-door.mjs). By AI agents, Wed Nov 11 2026. No macro, syntax, notation, axiom, sorry.
-/
import Derived.Test.YtnpaekjiafaahaaDoorRows
import GoSem.ClaimSeven
namespace Go.Proofs.YtnpaekjiafaahaaDoor
namespace Rows

/-- THE TIED CARD OF 'laws.FnExactFramesRight'. -/
def fnExactFramesRightCard : Claim7 := { stood := { row := fnExactFramesRightRow, standIns := [], harness := (true, "5faa358ef6c867628d6e18c0824dd66611e0f5f8bba593f36f606d2037733650"), looks := false }, kinds := [], alts := [], laidByText := true, laidKinds := [.data, .pinned], laidTests := true, laidLooks := .later }
def FnExactFramesRightCardSaid : Prop := Claim7.holds Tryd.pinned (.plain (OpenSpec.ofChange fnExactFramesRightSpec)) fnExactFramesRightCard

/-- THE TIED CARD OF 'laws.FnExactFrameOpen'. -/
def fnExactFrameOpenCard : Claim7 := { stood := { row := fnExactFrameOpenRow, standIns := [], harness := (true, "5faa358ef6c867628d6e18c0824dd66611e0f5f8bba593f36f606d2037733650"), looks := false }, kinds := [], alts := [], laidByText := true, laidKinds := [.data, .pinned], laidTests := true, laidLooks := .later }
def FnExactFrameOpenCardSaid : Prop := Claim7.holds Tryd.pinned (.plain (OpenSpec.ofChange fnExactFrameOpenSpec)) fnExactFrameOpenCard

/-- THE TIED CARD OF 'laws.FnExactFrameGo'. -/
def fnExactFrameGoCard : Claim7 := { stood := { row := fnExactFrameGoRow, standIns := [], harness := (true, "5faa358ef6c867628d6e18c0824dd66611e0f5f8bba593f36f606d2037733650"), looks := false }, kinds := [], alts := [], laidByText := true, laidKinds := [.data, .pinned], laidTests := true, laidLooks := .later }
def FnExactFrameGoCardSaid : Prop := Claim7.holds Tryd.pinned (.plain (OpenSpec.ofChange fnExactFrameGoSpec)) fnExactFrameGoCard

/-- THE TIED CARD OF 'laws.FnExactFrameShut'. -/
def fnExactFrameShutCard : Claim7 := { stood := { row := fnExactFrameShutRow, standIns := [], harness := (true, "5faa358ef6c867628d6e18c0824dd66611e0f5f8bba593f36f606d2037733650"), looks := false }, kinds := [], alts := [], laidByText := true, laidKinds := [.data, .pinned], laidTests := true, laidLooks := .later }
def FnExactFrameShutCardSaid : Prop := Claim7.holds Tryd.pinned (.plain (OpenSpec.ofChange fnExactFrameShutSpec)) fnExactFrameShutCard

/-- THE TIED CARD OF 'laws.FnExactFrameTop'. -/
def fnExactFrameTopCard : Claim7 := { stood := { row := fnExactFrameTopRow, standIns := [], harness := (true, "5faa358ef6c867628d6e18c0824dd66611e0f5f8bba593f36f606d2037733650"), looks := false }, kinds := [], alts := [], laidByText := true, laidKinds := [.data, .pinned], laidTests := true, laidLooks := .later }
def FnExactFrameTopCardSaid : Prop := Claim7.holds Tryd.pinned (.plain (OpenSpec.ofChange fnExactFrameTopSpec)) fnExactFrameTopCard

/-- THE TIED CARD OF 'laws.FnExactFrameOrigin'. -/
def fnExactFrameOriginCard : Claim7 := { stood := { row := fnExactFrameOriginRow, standIns := [], harness := (true, "5faa358ef6c867628d6e18c0824dd66611e0f5f8bba593f36f606d2037733650"), looks := false }, kinds := [], alts := [], laidByText := true, laidKinds := [.data, .pinned], laidTests := true, laidLooks := .later }
def FnExactFrameOriginCardSaid : Prop := Claim7.holds Tryd.pinned (.plain (OpenSpec.ofChange fnExactFrameOriginSpec)) fnExactFrameOriginCard

/-- THE TIED CARD OF 'laws.FnExactFrameThird'. -/
def fnExactFrameThirdCard : Claim7 := { stood := { row := fnExactFrameThirdRow, standIns := [], harness := (true, "5faa358ef6c867628d6e18c0824dd66611e0f5f8bba593f36f606d2037733650"), looks := false }, kinds := [], alts := [], laidByText := true, laidKinds := [.data, .pinned], laidTests := true, laidLooks := .later }
def FnExactFrameThirdCardSaid : Prop := Claim7.holds Tryd.pinned (.plain (OpenSpec.ofChange fnExactFrameThirdSpec)) fnExactFrameThirdCard

/-- THE SECOND FORM's CARD OF 'laws.FnExactFramesRight'. -/
def fnExactFramesRightUptoCard : Claim7 := { stood := { row := fnExactFramesRightUptoRow, standIns := [], harness := (true, "5faa358ef6c867628d6e18c0824dd66611e0f5f8bba593f36f606d2037733650"), looks := false }, kinds := [], alts := [], laidByText := true, laidKinds := [.data, .pinned], laidTests := true, laidLooks := .later }
def FnExactFramesRightUptoCardSaid : Prop := Claim7.holds Tryd.pinned (.plain (OpenSpec.upto fnExactFramesRightSpec)) fnExactFramesRightUptoCard

/-- THE SECOND FORM's CARD OF 'laws.FnExactFrameOpen'. -/
def fnExactFrameOpenUptoCard : Claim7 := { stood := { row := fnExactFrameOpenUptoRow, standIns := [], harness := (true, "5faa358ef6c867628d6e18c0824dd66611e0f5f8bba593f36f606d2037733650"), looks := false }, kinds := [], alts := [], laidByText := true, laidKinds := [.data, .pinned], laidTests := true, laidLooks := .later }
def FnExactFrameOpenUptoCardSaid : Prop := Claim7.holds Tryd.pinned (.plain (OpenSpec.upto fnExactFrameOpenSpec)) fnExactFrameOpenUptoCard

/-- THE SECOND FORM's CARD OF 'laws.FnExactFrameGo'. -/
def fnExactFrameGoUptoCard : Claim7 := { stood := { row := fnExactFrameGoUptoRow, standIns := [], harness := (true, "5faa358ef6c867628d6e18c0824dd66611e0f5f8bba593f36f606d2037733650"), looks := false }, kinds := [], alts := [], laidByText := true, laidKinds := [.data, .pinned], laidTests := true, laidLooks := .later }
def FnExactFrameGoUptoCardSaid : Prop := Claim7.holds Tryd.pinned (.plain (OpenSpec.upto fnExactFrameGoSpec)) fnExactFrameGoUptoCard

/-- THE SECOND FORM's CARD OF 'laws.FnExactFrameShut'. -/
def fnExactFrameShutUptoCard : Claim7 := { stood := { row := fnExactFrameShutUptoRow, standIns := [], harness := (true, "5faa358ef6c867628d6e18c0824dd66611e0f5f8bba593f36f606d2037733650"), looks := false }, kinds := [], alts := [], laidByText := true, laidKinds := [.data, .pinned], laidTests := true, laidLooks := .later }
def FnExactFrameShutUptoCardSaid : Prop := Claim7.holds Tryd.pinned (.plain (OpenSpec.upto fnExactFrameShutSpec)) fnExactFrameShutUptoCard

/-- THE SECOND FORM's CARD OF 'laws.FnExactFrameTop'. -/
def fnExactFrameTopUptoCard : Claim7 := { stood := { row := fnExactFrameTopUptoRow, standIns := [], harness := (true, "5faa358ef6c867628d6e18c0824dd66611e0f5f8bba593f36f606d2037733650"), looks := false }, kinds := [], alts := [], laidByText := true, laidKinds := [.data, .pinned], laidTests := true, laidLooks := .later }
def FnExactFrameTopUptoCardSaid : Prop := Claim7.holds Tryd.pinned (.plain (OpenSpec.upto fnExactFrameTopSpec)) fnExactFrameTopUptoCard

/-- THE SECOND FORM's CARD OF 'laws.FnExactFrameOrigin'. -/
def fnExactFrameOriginUptoCard : Claim7 := { stood := { row := fnExactFrameOriginUptoRow, standIns := [], harness := (true, "5faa358ef6c867628d6e18c0824dd66611e0f5f8bba593f36f606d2037733650"), looks := false }, kinds := [], alts := [], laidByText := true, laidKinds := [.data, .pinned], laidTests := true, laidLooks := .later }
def FnExactFrameOriginUptoCardSaid : Prop := Claim7.holds Tryd.pinned (.plain (OpenSpec.upto fnExactFrameOriginSpec)) fnExactFrameOriginUptoCard

/-- THE SECOND FORM's CARD OF 'laws.FnExactFrameThird'. -/
def fnExactFrameThirdUptoCard : Claim7 := { stood := { row := fnExactFrameThirdUptoRow, standIns := [], harness := (true, "5faa358ef6c867628d6e18c0824dd66611e0f5f8bba593f36f606d2037733650"), looks := false }, kinds := [], alts := [], laidByText := true, laidKinds := [.data, .pinned], laidTests := true, laidLooks := .later }
def FnExactFrameThirdUptoCardSaid : Prop := Claim7.holds Tryd.pinned (.plain (OpenSpec.upto fnExactFrameThirdSpec)) fnExactFrameThirdUptoCard
end Rows
end Go.Proofs.YtnpaekjiafaahaaDoor

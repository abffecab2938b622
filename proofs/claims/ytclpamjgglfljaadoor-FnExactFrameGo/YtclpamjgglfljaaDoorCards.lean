/-
  DERIVED. GIVEN WITH THE SEED: THE CARDS: each row of YtclpamjgglfljaaDoorRows.lean that lists a variable, with what it lists TIED to the program's text (the seventh form; the later family's looks); each row that meets fmt, with fmt's text TOLD by the authors' own Lean function (tested against real Go, not proved from fmt's source: count such statements apart). THE CARD IS WHAT COUNTS. Prove the row's statement (the work); the ties are given (YtclpamjgglfljaaDoorTie.lean); close each card by the builder's one call (the guide's Derived/Test/ToyasCard.lean, 'card_holds'). Laid BY PROGRAM, IN A SANDBOX (cutbox-door.mjs). By AI agents, Wed Nov 11 2026. No macro, syntax, notation, axiom, sorry.
-/
import Derived.Test.YtclpamjgglfljaaDoorRows
import GoSem.ClaimSeven
namespace Go.Proofs.YtclpamjgglfljaaDoor
namespace Rows

/-- THE TIED CARD OF 'laws.FnExactFrameGo'. -/
def fnExactFrameGoCard : Claim7 := { stood := { row := fnExactFrameGoRow, standIns := [], harness := (true, "278b2a0a447e631abe68ed1cfe844a54103410e7fe4db806e7e42c1dabcd286e"), looks := false }, kinds := [], alts := [], laidByText := true, laidKinds := [.data, .pinned], laidTests := true, laidLooks := .later }
def FnExactFrameGoCardSaid : Prop := Claim7.holds Tryd.pinned (.plain (OpenSpec.ofChange fnExactFrameGoSpec)) fnExactFrameGoCard

/-- THE TIED CARD OF 'laws.FnExactFrameShut'. -/
def fnExactFrameShutCard : Claim7 := { stood := { row := fnExactFrameShutRow, standIns := [], harness := (true, "278b2a0a447e631abe68ed1cfe844a54103410e7fe4db806e7e42c1dabcd286e"), looks := false }, kinds := [], alts := [], laidByText := true, laidKinds := [.data, .pinned], laidTests := true, laidLooks := .later }
def FnExactFrameShutCardSaid : Prop := Claim7.holds Tryd.pinned (.plain (OpenSpec.ofChange fnExactFrameShutSpec)) fnExactFrameShutCard

/-- THE SECOND FORM's CARD OF 'laws.FnExactFrameGo'. -/
def fnExactFrameGoUptoCard : Claim7 := { stood := { row := fnExactFrameGoUptoRow, standIns := [], harness := (true, "278b2a0a447e631abe68ed1cfe844a54103410e7fe4db806e7e42c1dabcd286e"), looks := false }, kinds := [], alts := [], laidByText := true, laidKinds := [.data, .pinned], laidTests := true, laidLooks := .later }
def FnExactFrameGoUptoCardSaid : Prop := Claim7.holds Tryd.pinned (.plain (OpenSpec.upto fnExactFrameGoSpec)) fnExactFrameGoUptoCard

/-- THE SECOND FORM's CARD OF 'laws.FnExactFrameShut'. -/
def fnExactFrameShutUptoCard : Claim7 := { stood := { row := fnExactFrameShutUptoRow, standIns := [], harness := (true, "278b2a0a447e631abe68ed1cfe844a54103410e7fe4db806e7e42c1dabcd286e"), looks := false }, kinds := [], alts := [], laidByText := true, laidKinds := [.data, .pinned], laidTests := true, laidLooks := .later }
def FnExactFrameShutUptoCardSaid : Prop := Claim7.holds Tryd.pinned (.plain (OpenSpec.upto fnExactFrameShutSpec)) fnExactFrameShutUptoCard
end Rows
end Go.Proofs.YtclpamjgglfljaaDoor

/-
  DERIVED. GIVEN WITH THE SEED: THE CARDS: each row of YtdhihilghdnpfaaDoorRows.lean that lists a variable, with what it lists TIED to the program's text (the seventh form; the later family's looks); each row that meets fmt, with fmt's text TOLD by the authors' own Lean function (tested against real Go, not proved from fmt's source: count such statements apart). THE CARD IS WHAT COUNTS. Prove the row's statement (the work); the ties are given (YtdhihilghdnpfaaDoorTie.lean); close each card by the builder's one call (the guide's Derived/Test/ToyasCard.lean, 'card_holds'). Laid BY PROGRAM, IN A SANDBOX (cutbox-door.mjs). By AI agents, Wed Nov 11 2026. No macro, syntax, notation, axiom, sorry.
-/
import Derived.Test.YtdhihilghdnpfaaDoorRows
import GoSem.ClaimSeven
namespace Go.Proofs.YtdhihilghdnpfaaDoor
namespace Rows

/-- THE TIED CARD OF 'laws.FnExactDomainRight'. -/
def fnExactDomainRightCard : Claim7 := { stood := { row := fnExactDomainRightRow, standIns := [], harness := (true, "3d994dec1fe71013849247de019c652f1e813cf698c2ba95b3a33d53bd25170e"), looks := false }, kinds := [], alts := [], laidByText := true, laidKinds := [.data, .pinned], laidTests := true, laidLooks := .later }
def FnExactDomainRightCardSaid : Prop := Claim7.holds Tryd.pinned (.plain (OpenSpec.ofChange fnExactDomainRightSpec)) fnExactDomainRightCard

/-- THE TIED CARD OF 'laws.FnExactSetsRight'. -/
def fnExactSetsRightCard : Claim7 := { stood := { row := fnExactSetsRightRow, standIns := [], harness := (true, "3d994dec1fe71013849247de019c652f1e813cf698c2ba95b3a33d53bd25170e"), looks := false }, kinds := [], alts := [], laidByText := true, laidKinds := [.data, .sentinel, .sentinel, .sentinel, .sentinel, .sentinel, .pinned], laidTests := true, laidLooks := .later }
def FnExactSetsRightCardSaid : Prop := Claim7.holds Tryd.pinned (.plain (OpenSpec.ofChange fnExactSetsRightSpec)) fnExactSetsRightCard

/-- THE TIED CARD OF 'laws.FnExactSetsText'. -/
def fnExactSetsTextCard : Claim7 := { stood := { row := fnExactSetsTextRow, standIns := [], harness := (true, "3d994dec1fe71013849247de019c652f1e813cf698c2ba95b3a33d53bd25170e"), looks := false }, kinds := [], alts := [], laidByText := true, laidKinds := [.data, .sentinel, .sentinel, .sentinel, .sentinel, .sentinel, .pinned], laidTests := true, laidLooks := .later }
def FnExactSetsTextCardSaid : Prop := Claim7.holds Tryd.pinned (.plain (OpenSpec.ofChange fnExactSetsTextSpec)) fnExactSetsTextCard

/-- THE TIED CARD OF 'laws.FnExactSetOf'. -/
def fnExactSetOfCard : Claim7 := { stood := { row := fnExactSetOfRow, standIns := [], harness := (true, "3d994dec1fe71013849247de019c652f1e813cf698c2ba95b3a33d53bd25170e"), looks := false }, kinds := [], alts := [], laidByText := true, laidKinds := [.data, .sentinel, .sentinel, .sentinel, .sentinel, .sentinel, .pinned], laidTests := true, laidLooks := .later }
def FnExactSetOfCardSaid : Prop := Claim7.holds Tryd.pinned (.plain (OpenSpec.ofChange fnExactSetOfSpec)) fnExactSetOfCard

/-- THE TIED CARD OF 'laws.FnExactRelated'. -/
def fnExactRelatedCard : Claim7 := { stood := { row := fnExactRelatedRow, standIns := [], harness := (true, "3d994dec1fe71013849247de019c652f1e813cf698c2ba95b3a33d53bd25170e"), looks := false }, kinds := [], alts := [], laidByText := true, laidKinds := [.data, .sentinel, .sentinel, .sentinel, .sentinel, .sentinel, .pinned], laidTests := true, laidLooks := .later }
def FnExactRelatedCardSaid : Prop := Claim7.holds Tryd.pinned (.plain (OpenSpec.ofChange fnExactRelatedSpec)) fnExactRelatedCard

/-- THE SECOND FORM's CARD OF 'laws.FnExactDomainRight'. -/
def fnExactDomainRightUptoCard : Claim7 := { stood := { row := fnExactDomainRightUptoRow, standIns := [], harness := (true, "3d994dec1fe71013849247de019c652f1e813cf698c2ba95b3a33d53bd25170e"), looks := false }, kinds := [], alts := [], laidByText := true, laidKinds := [.data, .pinned], laidTests := true, laidLooks := .later }
def FnExactDomainRightUptoCardSaid : Prop := Claim7.holds Tryd.pinned (.plain (OpenSpec.upto fnExactDomainRightSpec)) fnExactDomainRightUptoCard

/-- THE SECOND FORM's CARD OF 'laws.FnExactSetsRight'. -/
def fnExactSetsRightUptoCard : Claim7 := { stood := { row := fnExactSetsRightUptoRow, standIns := [], harness := (true, "3d994dec1fe71013849247de019c652f1e813cf698c2ba95b3a33d53bd25170e"), looks := false }, kinds := [], alts := [], laidByText := true, laidKinds := [.data, .sentinel, .sentinel, .sentinel, .sentinel, .sentinel, .pinned], laidTests := true, laidLooks := .later }
def FnExactSetsRightUptoCardSaid : Prop := Claim7.holds Tryd.pinned (.plain (OpenSpec.upto fnExactSetsRightSpec)) fnExactSetsRightUptoCard

/-- THE SECOND FORM's CARD OF 'laws.FnExactSetsText'. -/
def fnExactSetsTextUptoCard : Claim7 := { stood := { row := fnExactSetsTextUptoRow, standIns := [], harness := (true, "3d994dec1fe71013849247de019c652f1e813cf698c2ba95b3a33d53bd25170e"), looks := false }, kinds := [], alts := [], laidByText := true, laidKinds := [.data, .sentinel, .sentinel, .sentinel, .sentinel, .sentinel, .pinned], laidTests := true, laidLooks := .later }
def FnExactSetsTextUptoCardSaid : Prop := Claim7.holds Tryd.pinned (.plain (OpenSpec.upto fnExactSetsTextSpec)) fnExactSetsTextUptoCard

/-- THE SECOND FORM's CARD OF 'laws.FnExactSetOf'. -/
def fnExactSetOfUptoCard : Claim7 := { stood := { row := fnExactSetOfUptoRow, standIns := [], harness := (true, "3d994dec1fe71013849247de019c652f1e813cf698c2ba95b3a33d53bd25170e"), looks := false }, kinds := [], alts := [], laidByText := true, laidKinds := [.data, .sentinel, .sentinel, .sentinel, .sentinel, .sentinel, .pinned], laidTests := true, laidLooks := .later }
def FnExactSetOfUptoCardSaid : Prop := Claim7.holds Tryd.pinned (.plain (OpenSpec.upto fnExactSetOfSpec)) fnExactSetOfUptoCard

/-- THE SECOND FORM's CARD OF 'laws.FnExactRelated'. -/
def fnExactRelatedUptoCard : Claim7 := { stood := { row := fnExactRelatedUptoRow, standIns := [], harness := (true, "3d994dec1fe71013849247de019c652f1e813cf698c2ba95b3a33d53bd25170e"), looks := false }, kinds := [], alts := [], laidByText := true, laidKinds := [.data, .sentinel, .sentinel, .sentinel, .sentinel, .sentinel, .pinned], laidTests := true, laidLooks := .later }
def FnExactRelatedUptoCardSaid : Prop := Claim7.holds Tryd.pinned (.plain (OpenSpec.upto fnExactRelatedSpec)) fnExactRelatedUptoCard
end Rows
end Go.Proofs.YtdhihilghdnpfaaDoor

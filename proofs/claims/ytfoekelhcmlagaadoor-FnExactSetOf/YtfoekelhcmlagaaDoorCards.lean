/-
  DERIVED. GIVEN WITH THE SEED: THE CARDS: each row of YtfoekelhcmlagaaDoorRows.lean that lists a variable, with what it lists TIED to the program's text (the seventh form; the later family's looks); each row that meets fmt, with fmt's text TOLD by the authors' own Lean function (tested against real Go, not proved from fmt's source: count such statements apart). THE CARD IS WHAT COUNTS. Prove the row's statement (the work); the ties are given (YtfoekelhcmlagaaDoorTie.lean); close each card by the builder's one call (the guide's Derived/Test/ToyasCard.lean, 'card_holds'). Laid BY PROGRAM, IN A SANDBOX (cutbox-door.mjs). By AI agents, Wed Nov 11 2026. No macro, syntax, notation, axiom, sorry.
-/
import Derived.Test.YtfoekelhcmlagaaDoorRows
import GoSem.ClaimSeven
namespace Go.Proofs.YtfoekelhcmlagaaDoor
namespace Rows

/-- THE TIED CARD OF 'laws.FnSuffix'. -/
def fnSuffixCard : Claim7 := { stood := { row := fnSuffixRow, standIns := [], harness := (true, "2ea9913af38efc1f479cdc5a92d0fd27cfddf7fa8568e5728317d5a2f67c2edb"), looks := false }, kinds := [], alts := [], laidByText := true, laidKinds := [.data, .pinned], laidTests := true, laidLooks := .later }
def FnSuffixCardSaid : Prop := Claim7.holds Tryd.pinned (.plain (OpenSpec.ofChange fnSuffixSpec)) fnSuffixCard

/-- THE TIED CARD OF 'laws.FnExactSetsRight'. -/
def fnExactSetsRightCard : Claim7 := { stood := { row := fnExactSetsRightRow, standIns := [], harness := (true, "2ea9913af38efc1f479cdc5a92d0fd27cfddf7fa8568e5728317d5a2f67c2edb"), looks := false }, kinds := [], alts := [], laidByText := true, laidKinds := [.data, .sentinel, .sentinel, .sentinel, .sentinel, .sentinel, .pinned], laidTests := true, laidLooks := .later }
def FnExactSetsRightCardSaid : Prop := Claim7.holds Tryd.pinned (.plain (OpenSpec.ofChange fnExactSetsRightSpec)) fnExactSetsRightCard

/-- THE TIED CARD OF 'laws.FnExactSetsText'. -/
def fnExactSetsTextCard : Claim7 := { stood := { row := fnExactSetsTextRow, standIns := [], harness := (true, "2ea9913af38efc1f479cdc5a92d0fd27cfddf7fa8568e5728317d5a2f67c2edb"), looks := false }, kinds := [], alts := [], laidByText := true, laidKinds := [.data, .sentinel, .sentinel, .sentinel, .sentinel, .sentinel, .pinned], laidTests := true, laidLooks := .later }
def FnExactSetsTextCardSaid : Prop := Claim7.holds Tryd.pinned (.plain (OpenSpec.ofChange fnExactSetsTextSpec)) fnExactSetsTextCard

/-- THE TIED CARD OF 'laws.FnExactSetOf'. -/
def fnExactSetOfCard : Claim7 := { stood := { row := fnExactSetOfRow, standIns := [], harness := (true, "2ea9913af38efc1f479cdc5a92d0fd27cfddf7fa8568e5728317d5a2f67c2edb"), looks := false }, kinds := [], alts := [], laidByText := true, laidKinds := [.data, .sentinel, .sentinel, .sentinel, .sentinel, .sentinel, .pinned], laidTests := true, laidLooks := .later }
def FnExactSetOfCardSaid : Prop := Claim7.holds Tryd.pinned (.plain (OpenSpec.ofChange fnExactSetOfSpec)) fnExactSetOfCard

/-- THE TIED CARD OF 'laws.FnExactRelated'. -/
def fnExactRelatedCard : Claim7 := { stood := { row := fnExactRelatedRow, standIns := [], harness := (true, "2ea9913af38efc1f479cdc5a92d0fd27cfddf7fa8568e5728317d5a2f67c2edb"), looks := false }, kinds := [], alts := [], laidByText := true, laidKinds := [.data, .sentinel, .sentinel, .sentinel, .sentinel, .sentinel, .pinned], laidTests := true, laidLooks := .later }
def FnExactRelatedCardSaid : Prop := Claim7.holds Tryd.pinned (.plain (OpenSpec.ofChange fnExactRelatedSpec)) fnExactRelatedCard

/-- THE TIED CARD OF 'laws.FnExactCookieRight'. -/
def fnExactCookieRightCard : Claim7 := { stood := { row := fnExactCookieRightRow, standIns := [], harness := (true, "2ea9913af38efc1f479cdc5a92d0fd27cfddf7fa8568e5728317d5a2f67c2edb"), looks := false }, kinds := [], alts := [], laidByText := true, laidKinds := [.data, .pinned], laidTests := true, laidLooks := .later }
def FnExactCookieRightCardSaid : Prop := Claim7.holds Tryd.pinned (.plain (OpenSpec.ofChange fnExactCookieRightSpec)) fnExactCookieRightCard

/-- THE TIED CARD OF 'laws.FnExactJarRight'. -/
def fnExactJarRightCard : Claim7 := { stood := { row := fnExactJarRightRow, standIns := [], harness := (true, "2ea9913af38efc1f479cdc5a92d0fd27cfddf7fa8568e5728317d5a2f67c2edb"), looks := false }, kinds := [], alts := [], laidByText := true, laidKinds := [.data, .pinned], laidTests := true, laidLooks := .later }
def FnExactJarRightCardSaid : Prop := Claim7.holds Tryd.pinned (.plain (OpenSpec.ofChange fnExactJarRightSpec)) fnExactJarRightCard

/-- THE TIED CARD OF 'laws.FnExactHostFits'. -/
def fnExactHostFitsCard : Claim7 := { stood := { row := fnExactHostFitsRow, standIns := [], harness := (true, "2ea9913af38efc1f479cdc5a92d0fd27cfddf7fa8568e5728317d5a2f67c2edb"), looks := false }, kinds := [], alts := [], laidByText := true, laidKinds := [.data, .pinned], laidTests := true, laidLooks := .later }
def FnExactHostFitsCardSaid : Prop := Claim7.holds Tryd.pinned (.plain (OpenSpec.ofChange fnExactHostFitsSpec)) fnExactHostFitsCard

/-- THE TIED CARD OF 'laws.FnExactJarFor'. -/
def fnExactJarForCard : Claim7 := { stood := { row := fnExactJarForRow, standIns := [], harness := (true, "2ea9913af38efc1f479cdc5a92d0fd27cfddf7fa8568e5728317d5a2f67c2edb"), looks := false }, kinds := [], alts := [], laidByText := true, laidKinds := [.data, .pinned], laidTests := true, laidLooks := .later }
def FnExactJarForCardSaid : Prop := Claim7.holds Tryd.pinned (.plain (OpenSpec.ofChange fnExactJarForSpec)) fnExactJarForCard

/-- THE TIED CARD OF 'laws.FnExactJarOld'. -/
def fnExactJarOldCard : Claim7 := { stood := { row := fnExactJarOldRow, standIns := [], harness := (true, "2ea9913af38efc1f479cdc5a92d0fd27cfddf7fa8568e5728317d5a2f67c2edb"), looks := false }, kinds := [], alts := [], laidByText := true, laidKinds := [.data, .pinned], laidTests := true, laidLooks := .later }
def FnExactJarOldCardSaid : Prop := Claim7.holds Tryd.pinned (.plain (OpenSpec.ofChange fnExactJarOldSpec)) fnExactJarOldCard

/-- THE SECOND FORM's CARD OF 'laws.FnSuffix'. -/
def fnSuffixUptoCard : Claim7 := { stood := { row := fnSuffixUptoRow, standIns := [], harness := (true, "2ea9913af38efc1f479cdc5a92d0fd27cfddf7fa8568e5728317d5a2f67c2edb"), looks := false }, kinds := [], alts := [], laidByText := true, laidKinds := [.data, .pinned], laidTests := true, laidLooks := .later }
def FnSuffixUptoCardSaid : Prop := Claim7.holds Tryd.pinned (.plain (OpenSpec.upto fnSuffixSpec)) fnSuffixUptoCard

/-- THE SECOND FORM's CARD OF 'laws.FnExactSetsRight'. -/
def fnExactSetsRightUptoCard : Claim7 := { stood := { row := fnExactSetsRightUptoRow, standIns := [], harness := (true, "2ea9913af38efc1f479cdc5a92d0fd27cfddf7fa8568e5728317d5a2f67c2edb"), looks := false }, kinds := [], alts := [], laidByText := true, laidKinds := [.data, .sentinel, .sentinel, .sentinel, .sentinel, .sentinel, .pinned], laidTests := true, laidLooks := .later }
def FnExactSetsRightUptoCardSaid : Prop := Claim7.holds Tryd.pinned (.plain (OpenSpec.upto fnExactSetsRightSpec)) fnExactSetsRightUptoCard

/-- THE SECOND FORM's CARD OF 'laws.FnExactSetsText'. -/
def fnExactSetsTextUptoCard : Claim7 := { stood := { row := fnExactSetsTextUptoRow, standIns := [], harness := (true, "2ea9913af38efc1f479cdc5a92d0fd27cfddf7fa8568e5728317d5a2f67c2edb"), looks := false }, kinds := [], alts := [], laidByText := true, laidKinds := [.data, .sentinel, .sentinel, .sentinel, .sentinel, .sentinel, .pinned], laidTests := true, laidLooks := .later }
def FnExactSetsTextUptoCardSaid : Prop := Claim7.holds Tryd.pinned (.plain (OpenSpec.upto fnExactSetsTextSpec)) fnExactSetsTextUptoCard

/-- THE SECOND FORM's CARD OF 'laws.FnExactSetOf'. -/
def fnExactSetOfUptoCard : Claim7 := { stood := { row := fnExactSetOfUptoRow, standIns := [], harness := (true, "2ea9913af38efc1f479cdc5a92d0fd27cfddf7fa8568e5728317d5a2f67c2edb"), looks := false }, kinds := [], alts := [], laidByText := true, laidKinds := [.data, .sentinel, .sentinel, .sentinel, .sentinel, .sentinel, .pinned], laidTests := true, laidLooks := .later }
def FnExactSetOfUptoCardSaid : Prop := Claim7.holds Tryd.pinned (.plain (OpenSpec.upto fnExactSetOfSpec)) fnExactSetOfUptoCard

/-- THE SECOND FORM's CARD OF 'laws.FnExactRelated'. -/
def fnExactRelatedUptoCard : Claim7 := { stood := { row := fnExactRelatedUptoRow, standIns := [], harness := (true, "2ea9913af38efc1f479cdc5a92d0fd27cfddf7fa8568e5728317d5a2f67c2edb"), looks := false }, kinds := [], alts := [], laidByText := true, laidKinds := [.data, .sentinel, .sentinel, .sentinel, .sentinel, .sentinel, .pinned], laidTests := true, laidLooks := .later }
def FnExactRelatedUptoCardSaid : Prop := Claim7.holds Tryd.pinned (.plain (OpenSpec.upto fnExactRelatedSpec)) fnExactRelatedUptoCard

/-- THE SECOND FORM's CARD OF 'laws.FnExactCookieRight'. -/
def fnExactCookieRightUptoCard : Claim7 := { stood := { row := fnExactCookieRightUptoRow, standIns := [], harness := (true, "2ea9913af38efc1f479cdc5a92d0fd27cfddf7fa8568e5728317d5a2f67c2edb"), looks := false }, kinds := [], alts := [], laidByText := true, laidKinds := [.data, .pinned], laidTests := true, laidLooks := .later }
def FnExactCookieRightUptoCardSaid : Prop := Claim7.holds Tryd.pinned (.plain (OpenSpec.upto fnExactCookieRightSpec)) fnExactCookieRightUptoCard

/-- THE SECOND FORM's CARD OF 'laws.FnExactJarRight'. -/
def fnExactJarRightUptoCard : Claim7 := { stood := { row := fnExactJarRightUptoRow, standIns := [], harness := (true, "2ea9913af38efc1f479cdc5a92d0fd27cfddf7fa8568e5728317d5a2f67c2edb"), looks := false }, kinds := [], alts := [], laidByText := true, laidKinds := [.data, .pinned], laidTests := true, laidLooks := .later }
def FnExactJarRightUptoCardSaid : Prop := Claim7.holds Tryd.pinned (.plain (OpenSpec.upto fnExactJarRightSpec)) fnExactJarRightUptoCard

/-- THE SECOND FORM's CARD OF 'laws.FnExactHostFits'. -/
def fnExactHostFitsUptoCard : Claim7 := { stood := { row := fnExactHostFitsUptoRow, standIns := [], harness := (true, "2ea9913af38efc1f479cdc5a92d0fd27cfddf7fa8568e5728317d5a2f67c2edb"), looks := false }, kinds := [], alts := [], laidByText := true, laidKinds := [.data, .pinned], laidTests := true, laidLooks := .later }
def FnExactHostFitsUptoCardSaid : Prop := Claim7.holds Tryd.pinned (.plain (OpenSpec.upto fnExactHostFitsSpec)) fnExactHostFitsUptoCard

/-- THE SECOND FORM's CARD OF 'laws.FnExactJarFor'. -/
def fnExactJarForUptoCard : Claim7 := { stood := { row := fnExactJarForUptoRow, standIns := [], harness := (true, "2ea9913af38efc1f479cdc5a92d0fd27cfddf7fa8568e5728317d5a2f67c2edb"), looks := false }, kinds := [], alts := [], laidByText := true, laidKinds := [.data, .pinned], laidTests := true, laidLooks := .later }
def FnExactJarForUptoCardSaid : Prop := Claim7.holds Tryd.pinned (.plain (OpenSpec.upto fnExactJarForSpec)) fnExactJarForUptoCard

/-- THE SECOND FORM's CARD OF 'laws.FnExactJarOld'. -/
def fnExactJarOldUptoCard : Claim7 := { stood := { row := fnExactJarOldUptoRow, standIns := [], harness := (true, "2ea9913af38efc1f479cdc5a92d0fd27cfddf7fa8568e5728317d5a2f67c2edb"), looks := false }, kinds := [], alts := [], laidByText := true, laidKinds := [.data, .pinned], laidTests := true, laidLooks := .later }
def FnExactJarOldUptoCardSaid : Prop := Claim7.holds Tryd.pinned (.plain (OpenSpec.upto fnExactJarOldSpec)) fnExactJarOldUptoCard
end Rows
end Go.Proofs.YtfoekelhcmlagaaDoor

/- Slices of grants while others are marked. -/
import Derived.Test.YtehnklgpdjfcgaaGrantsMark
import Derived.Test.YtehnklgpdjfcgaaSliceKeep
namespace Go.Proofs.Ytehnklgpdjfcgaa
open Go.RowKit

theorem SliceG.keepG {w w' : World} {B G : Nat} {v : Value} {L : List Gr} (h : SliceG w B v L) (hg : w.grownBy w' (some G)) (hne : 0 < L.length → ∃ g, v.ownBlock = some g ∧ g ≠ G) : SliceG w' B v L := ⟨h.1.keepG hg hne, h.2⟩
theorem markG_call (a : Value) (L : List Gr) (B : Nat) (w : World) (ha : SliceG w B a L) (hB : B ≤ w.heap.size) (hn : L.length ≤ 1048576) :
    Calls Try.prog 13 #[a, .int .i64 1] w fun e w' => e = .returned (.int .i64 ((1 + L.length * 3 : Nat) : Int)) ∧ SliceR w' B 3 a L.length (markGrC 1) ∧ ∃ G, B ≤ G ∧ (0 < L.length → a.ownBlock = some G) ∧ (¬ 0 < L.length → w.heap.size ≤ G) ∧ w.grownBy w' (some G) := by
  refine (markGrantS_any a L.length B 1 _ w ha.1 hn (by decide) (by decide)).mono ?_
  rintro e w' ⟨rfl, h2, h3⟩
  refine ⟨rfl, h2, ?_⟩
  by_cases h0 : 0 < L.length
  · obtain ⟨g, e, hBg, -⟩ := ha.1.place h0
    exact ⟨g, hBg, fun _ => e, fun h => absurd h0 h, h3 g (fun _ => e)⟩
  · exact ⟨w.heap.size, hB, fun h => absurd h h0, fun _ => Nat.le_refl _, h3 _ (fun h => absurd h h0)⟩
end Go.Proofs.Ytehnklgpdjfcgaa

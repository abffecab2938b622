/- Where an owned row lies. -/
import Derived.Test.YtehnklgpdjfcgaaBase
import Derived.Laws.AppendOwn
namespace Go.Proofs.Ytehnklgpdjfcgaa
open Go.RowKit
theorem own_base {w : World} {B n sz : Nat} {e : TypeId} {v : Value} {xs : List Value} (h : w.ownsRow B e sz v n xs) : ∀ j, v.ownBlock = some j → B ≤ j := by
  intro j hj
  obtain ⟨_, ⟨rfl, _⟩ | ⟨g, cap, cur, rfl, hB, _⟩⟩ := h
  · cases hj
  · have : g = j := Option.some.inj hj
    omega
end Go.Proofs.Ytehnklgpdjfcgaa

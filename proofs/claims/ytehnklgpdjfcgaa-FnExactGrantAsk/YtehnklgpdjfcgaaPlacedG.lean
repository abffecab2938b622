/- A slice that is nil, or that lies in a row with room. -/
import Derived.Test.YtehnklgpdjfcgaaBase
namespace Go.Proofs.Ytehnklgpdjfcgaa

/-- nil, or a row with room -/
def PlacedG (v : Value) : Prop := v = .slice none 0 0 ∨ ∃ g m cap, v = .slice (some ⟨g, 0, none⟩) m cap ∧ 0 < cap
end Go.Proofs.Ytehnklgpdjfcgaa

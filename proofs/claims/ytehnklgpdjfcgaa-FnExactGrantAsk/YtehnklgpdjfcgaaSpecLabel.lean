/- The walks of the specification's l02Label and l02Path. -/
import Derived.Test.YtehnklgpdjfcgaaLabel
import Derived.WalkKit
import Derived.WalkSpells
import Derived.WalkLawsBesides
namespace Go.Proofs.Ytehnklgpdjfcgaa
open Go.RowKit

end Go.Proofs.Ytehnklgpdjfcgaa

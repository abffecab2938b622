/- The laws' eqStringS, markStringS, heldStringS. -/
import Derived.Test.YtehnklgpdjfcgaaMarks
import Derived.Deep.RegionHeld3
namespace Go.Proofs.Ytehnklgpdjfcgaa
open Go.RowKit

end Go.Proofs.Ytehnklgpdjfcgaa

/- What the laws do with a Pair besides their calls: its size is looked at, it is handed on field by field, two are held against each other. -/
import Derived.Test.YtehnklgpdjfcgaaBase
import Derived.Laws.ResultCell
import Derived.WalkKit
import Derived.WalkSpells
import Derived.WalkLawsBesides
namespace Go.Proofs.Ytehnklgpdjfcgaa
open Go.RowKit

end Go.Proofs.Ytehnklgpdjfcgaa

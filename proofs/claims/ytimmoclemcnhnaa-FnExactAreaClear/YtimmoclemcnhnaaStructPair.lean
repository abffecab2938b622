/- What the laws do with a Pair besides their calls: its size is looked at, it is handed on field by field, two are held against each other. -/
import Derived.Test.YtimmoclemcnhnaaBase
import Derived.Laws.ResultCell
import Derived.WalkKit
import Derived.WalkSpells
import Derived.WalkLawsBesides
namespace Go.Proofs.Ytimmoclemcnhnaa
open Go.RowKit

end Go.Proofs.Ytimmoclemcnhnaa

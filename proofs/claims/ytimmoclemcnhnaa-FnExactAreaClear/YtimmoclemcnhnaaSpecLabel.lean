/- The walks of the specification's l02Label and l02Path. -/
import Derived.Test.YtimmoclemcnhnaaLabel
import Derived.WalkKit
import Derived.WalkSpells
import Derived.WalkLawsBesides
namespace Go.Proofs.Ytimmoclemcnhnaa
open Go.RowKit

end Go.Proofs.Ytimmoclemcnhnaa

/- The laws' eqStringS, markStringS, heldStringS. -/
import Derived.Test.YtknjkakokcblnaaDoorMarks
import Derived.Deep.RegionHeld3
namespace Go.Proofs.YtknjkakokcblnaaDoor
open Go.RowKit

end Go.Proofs.YtknjkakokcblnaaDoor

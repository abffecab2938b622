/- The walk of the specification's l01Dec: a number's digits. -/
import Derived.Test.YtddlnbmkknbegaaDoorDec
namespace Go.Proofs.YtddlnbmkknbegaaDoor
open Go.RowKit
end Go.Proofs.YtddlnbmkknbegaaDoor

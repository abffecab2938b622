/- The walk of the specification's LabelsOf. -/
import Derived.Test.YtddlnbmkknbegaaDoorSpecHost
namespace Go.Proofs.YtddlnbmkknbegaaDoor
open Go.RowKit

end Go.Proofs.YtddlnbmkknbegaaDoor

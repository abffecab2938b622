/- The law FnExactRulesRead, walked. -/
import Derived.Test.YtddlnbmkknbegaaDoorImplReadR
import Derived.Test.YtddlnbmkknbegaaDoorLawReadR
namespace Go.Proofs.YtddlnbmkknbegaaDoor
open Go.RowKit
theorem lawRulesRead_any (s : ByteArray) (w : World) (hG : MaxI w) :
    Calls Tryd.prog 6 #[.string s] w fun e w' => e = .returned (.bool true) ∧ Below w.heap.size w w' :=
  lawReadR_of w (fun s W hb => readR_any s W (hG.on hb)) s
end Go.Proofs.YtddlnbmkknbegaaDoor

/- The law FnExactRuleRight, walked. -/
import Derived.Test.YtddlnbmkknbegaaDoorImplRule
import Derived.Test.YtddlnbmkknbegaaDoorLawRules
namespace Go.Proofs.YtddlnbmkknbegaaDoor
open Go.RowKit
theorem lawRuleRight_any (s : ByteArray) (w : World) (hG : MaxI w) :
    Calls Tryd.prog 4 #[.string s] w fun e w' => e = .returned (.bool true) ∧ Below w.heap.size w w' :=
  lawRule_of w (fun s W hb hs => ruleRight_any s W (hG.on hb) hs) s
end Go.Proofs.YtddlnbmkknbegaaDoor

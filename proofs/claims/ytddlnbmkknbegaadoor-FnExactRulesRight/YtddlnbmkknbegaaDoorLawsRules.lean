/- The law FnExactRulesRight, walked. -/
import Derived.Test.YtddlnbmkknbegaaDoorImplRules
import Derived.Test.YtddlnbmkknbegaaDoorLawRules
import Derived.Test.YtddlnbmkknbegaaDoorStrsOpen
namespace Go.Proofs.YtddlnbmkknbegaaDoor
open Go.RowKit
theorem lawRulesRight_any (a : Option Addr) (n cap : Nat) (f : Nat → ByteArray) (w : World) (hG : MaxI w) (hr : StrRow w a n f) (hn : n ≤ maxLen) :
    Calls Tryd.prog 5 #[.slice a n cap] w fun e w' => e = .returned (.bool true) ∧ Below w.heap.size w w' :=
  lawRules_of w (fun v n B f W hb hs hn hf => rulesRight_any v n B f W (hG.on hb) hs hn hf) a n cap f hr hn
end Go.Proofs.YtddlnbmkknbegaaDoor

/- The law FnExactSuffixOf, walked. -/
import Derived.Test.YtddlnbmkknbegaaDoorImplSuffix
import Derived.Test.YtddlnbmkknbegaaDoorLawSuffixOf
import Derived.Test.YtddlnbmkknbegaaDoorStrsOpen
namespace Go.Proofs.YtddlnbmkknbegaaDoor
open Go.RowKit
theorem lawSuffixOf_any (a : Option Addr) (n cap : Nat) (f : Nat → ByteArray) (s : ByteArray) (w : World) (hG : MaxI w) (hr : StrRow w a n f) (hn : n ≤ maxLen) :
    Calls Tryd.prog 7 #[.slice a n cap, .string s] w fun e w' => e = .returned (.bool true) ∧ Below w.heap.size w w' :=
  lawSuffixOf_of w (fun v n B f s W hb hs hn hf hz => suffixOf_any v n B f s W (hG.on hb) hs hn hf hz) a n cap f s hr hn
end Go.Proofs.YtddlnbmkknbegaaDoor

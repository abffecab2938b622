/- The law FnExactSameSite, walked. -/
import Derived.Test.YtddlnbmkknbegaaDoorImplSite
import Derived.Test.YtddlnbmkknbegaaDoorLawSameSite
import Derived.Test.YtddlnbmkknbegaaDoorStrsOpen
namespace Go.Proofs.YtddlnbmkknbegaaDoor
open Go.RowKit
theorem lawSameSite_any (a : Option Addr) (n cap : Nat) (f : Nat → ByteArray) (sc ho pa : ByteArray) (po : Int) (sc2 ho2 pa2 : ByteArray) (po2 : Int) (w : World) (hG : MaxI w) (hr : StrRow w a n f) (hn : n ≤ maxLen) (m1 : sc.size ≤ maxLen) (m2 : ho.size ≤ maxLen) (m3 : pa.size ≤ maxLen) (k1 : sc2.size ≤ maxLen) (k2 : ho2.size ≤ maxLen) (k3 : pa2.size ≤ maxLen) :
    Calls Tryd.prog 9 #[.slice a n cap, urlV sc ho pa po, urlV sc2 ho2 pa2 po2] w fun e w' => e = .returned (.bool true) ∧ Below w.heap.size w w' :=
  lawSameSite_of w (fun v n B f sc ho pa po sc2 ho2 pa2 po2 W hb hs hn hf hh hh2 => sameSite_any v n B f sc ho pa po sc2 ho2 pa2 po2 W (hG.on hb) hs hn hf hh hh2) a n cap f sc ho pa po sc2 ho2 pa2 po2 hr hn m1 m2 m3 k1 k2 k3
end Go.Proofs.YtddlnbmkknbegaaDoor

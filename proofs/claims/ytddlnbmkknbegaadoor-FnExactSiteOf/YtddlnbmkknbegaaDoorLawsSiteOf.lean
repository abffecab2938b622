/- The law FnExactSiteOf, walked. -/
import Derived.Test.YtddlnbmkknbegaaDoorImplSite
import Derived.Test.YtddlnbmkknbegaaDoorLawSiteOf
import Derived.Test.YtddlnbmkknbegaaDoorStrsOpen
namespace Go.Proofs.YtddlnbmkknbegaaDoor
open Go.RowKit
theorem lawSiteOf_any (a : Option Addr) (n cap : Nat) (f : Nat → ByteArray) (sc ho pa : ByteArray) (po : Int) (w : World) (hG : MaxI w) (hr : StrRow w a n f) (hn : n ≤ maxLen) (m1 : sc.size ≤ maxLen) (m2 : ho.size ≤ maxLen) (m3 : pa.size ≤ maxLen) :
    Calls Tryd.prog 8 #[.slice a n cap, urlV sc ho pa po] w fun e w' => e = .returned (.bool true) ∧ Below w.heap.size w w' :=
  lawSiteOf_of w (fun v n B f sc ho pa po W hb hs hn hf hh => siteOf_any v n B f sc ho pa po W (hG.on hb) hs hn hf hh) a n cap f sc ho pa po hr hn m1 m2 m3
end Go.Proofs.YtddlnbmkknbegaaDoor

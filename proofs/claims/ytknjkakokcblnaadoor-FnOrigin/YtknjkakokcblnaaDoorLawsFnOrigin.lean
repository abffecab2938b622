/- The law FnOrigin, walked. -/
import Derived.Test.YtknjkakokcblnaaDoorLawFnOrigin
import Derived.Test.YtknjkakokcblnaaDoorImplOrigin
import Derived.Test.YtknjkakokcblnaaDoorRowIn
namespace Go.Proofs.YtknjkakokcblnaaDoor
open Go.RowKit
theorem lawFnOrigin_any (a : Option Addr) (len cap : Nat) (a' : Option Addr) (len' cap' : Nat) (w : World) (hG : MaxI w) (hT : PowI w) (hr : CodeRow w a len) (hr' : CodeRow w a' len') :
    Calls Tryd.prog 5 #[.slice a len cap, .slice a' len' cap'] w fun e w' => e = .returned (.bool true) ∧ Below w.heap.size w w' :=
  lawFnOrigin_of w (fun sc ho po no sc2 ho2 po2 no2 W hb hs _ => originSame_any sc ho po no sc2 ho2 po2 no2 W (hG.on hb) (by omega)) (fun sc ho pa po W hb hs => originOf_any sc ho pa po W (hG.on hb) (by omega))
    (fun sc ho po no W hb hs => originText_any sc ho po no W (hG.on hb) (hT.on hb) (by omega)) (fun sc ho po no W hb hs => originRight_any sc ho po no W (hG.on hb) (by omega)) a len cap a' len' cap' (fun _ => hr) (fun _ => hr')
end Go.Proofs.YtknjkakokcblnaaDoor

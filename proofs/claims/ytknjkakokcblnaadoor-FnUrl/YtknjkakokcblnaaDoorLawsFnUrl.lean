/- The law FnUrl, walked. -/
import Derived.Test.YtknjkakokcblnaaDoorLawFnUrl
import Derived.Test.YtknjkakokcblnaaDoorImplRead
import Derived.Test.YtknjkakokcblnaaDoorImplLabels
import Derived.Test.YtknjkakokcblnaaDoorRowIn
namespace Go.Proofs.YtknjkakokcblnaaDoor
open Go.RowKit
theorem lawFnUrl_any (a : Option Addr) (len cap : Nat) (a' : Option Addr) (len' cap' : Nat) (w : World) (hG : MaxI w) (hT : PowI w) (hr : CodeRow w a len) (hr' : CodeRow w a' len') :
    Calls Tryd.prog 4 #[.slice a len cap, .slice a' len' cap'] w fun e w' => e = .returned (.bool true) ∧ Below w.heap.size w w' :=
  lawFnUrl_of w (fun sc ho pa po W hb hs => urlText_any sc ho pa po W (hG.on hb) (hT.on hb) (by omega)) (fun sc ho pa po W hb hs => urlRight_any sc ho pa po W (hG.on hb) (by omega))
    (fun t W hb _ => urlRead_any t W (hG.on hb) (hT.on hb)) (fun s W hb hs => labelsOf_any s W (hG.on hb) hs) (fun s W hb hs => hostRight_any s W (hG.on hb) hs) a len cap a' len' cap' (fun _ => hr) (fun _ => hr')
end Go.Proofs.YtknjkakokcblnaaDoor

/- The law FnExactUrlText, walked. -/
import Derived.Test.YtknjkakokcblnafDoorImplText
import Derived.Test.YtknjkakokcblnafDoorLawUrlText
namespace Go.Proofs.YtknjkakokcblnafDoor
open Go.RowKit
theorem lawUrlText_any (sc ho pa : ByteArray) (po : Int) (w : World) (hG : MaxI w) (hT : PowI w) (h1 : sc.size ≤ maxLen) (h2 : ho.size ≤ maxLen) (h3 : pa.size ≤ maxLen) :
    Calls Tryd.prog 6 #[urlV sc ho pa po] w fun e w' => e = .returned (.bool true) ∧ Below w.heap.size w w' :=
  lawUrlText_of w (fun sc ho pa po W hb hs => urlText_any sc ho pa po W (hG.on hb) (hT.on hb) (by omega)) sc ho pa po h1 h2 h3
end Go.Proofs.YtknjkakokcblnafDoor

/- The law FnExactOriginOf, walked. -/
import Derived.Test.YtknjkakokcblnagDoorImplOrigin
import Derived.Test.YtknjkakokcblnagDoorLawOriginOf
namespace Go.Proofs.YtknjkakokcblnagDoor
open Go.RowKit
theorem lawOriginOf_any (sc ho pa : ByteArray) (po : Int) (w : World) (hG : MaxI w) (h1 : sc.size ≤ maxLen) (h2 : ho.size ≤ maxLen) (h3 : pa.size ≤ maxLen) :
    Calls Tryd.prog 5 #[urlV sc ho pa po] w fun e w' => e = .returned (.bool true) ∧ Below w.heap.size w w' :=
  lawOriginOf_of w (fun sc ho pa po W hb hs => originOf_any sc ho pa po W (hG.on hb) (by omega)) sc ho pa po h1 h2 h3
end Go.Proofs.YtknjkakokcblnagDoor

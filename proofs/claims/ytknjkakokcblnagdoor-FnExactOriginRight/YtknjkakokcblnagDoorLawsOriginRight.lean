/- The law FnExactOriginRight, walked. -/
import Derived.Test.YtknjkakokcblnagDoorImplOrigin
import Derived.Test.YtknjkakokcblnagDoorLawOriginRight
namespace Go.Proofs.YtknjkakokcblnagDoor
open Go.RowKit
theorem lawOriginRight_any (sc ho : ByteArray) (po no : Int) (w : World) (hG : MaxI w) (h1 : sc.size ≤ maxLen) (h2 : ho.size ≤ maxLen) :
    Calls Tryd.prog 4 #[originV sc ho po no] w fun e w' => e = .returned (.bool true) ∧ Below w.heap.size w w' :=
  lawOriginRight_of w (fun sc ho po no W hb hs => originRight_any sc ho po no W (hG.on hb) (by omega)) sc ho po no h1 h2
end Go.Proofs.YtknjkakokcblnagDoor

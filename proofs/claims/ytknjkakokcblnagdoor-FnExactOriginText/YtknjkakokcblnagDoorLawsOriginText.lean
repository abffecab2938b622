/- The law FnExactOriginText, walked. -/
import Derived.Test.YtknjkakokcblnagDoorImplOrigin
import Derived.Test.YtknjkakokcblnagDoorLawOriginText
namespace Go.Proofs.YtknjkakokcblnagDoor
open Go.RowKit
theorem lawOriginText_any (sc ho : ByteArray) (po no : Int) (w : World) (hG : MaxI w) (hT : PowI w) (h1 : sc.size ≤ maxLen) (h2 : ho.size ≤ maxLen) :
    Calls Tryd.prog 6 #[originV sc ho po no] w fun e w' => e = .returned (.bool true) ∧ Below w.heap.size w w' :=
  lawOriginText_of w (fun sc ho po no W hb hs => originText_any sc ho po no W (hG.on hb) (hT.on hb) (by omega)) sc ho po no h1 h2
end Go.Proofs.YtknjkakokcblnagDoor

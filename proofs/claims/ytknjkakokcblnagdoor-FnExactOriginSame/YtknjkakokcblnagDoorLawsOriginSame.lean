/- The law FnExactOriginSame, walked. -/
import Derived.Test.YtknjkakokcblnagDoorImplOrigin
import Derived.Test.YtknjkakokcblnagDoorLawOriginSame
namespace Go.Proofs.YtknjkakokcblnagDoor
open Go.RowKit
theorem lawOriginSame_any (sc ho : ByteArray) (po no : Int) (sc2 ho2 : ByteArray) (po2 no2 : Int) (w : World) (hG : MaxI w) (h1 : sc.size ≤ maxLen) (h2 : ho.size ≤ maxLen) (h3 : sc2.size ≤ maxLen) (h4 : ho2.size ≤ maxLen) :
    Calls Tryd.prog 7 #[originV sc ho po no, originV sc2 ho2 po2 no2] w fun e w' => e = .returned (.bool true) ∧ Below w.heap.size w w' :=
  lawOriginSame_of w (fun sc ho po no sc2 ho2 po2 no2 W hb hs _ => originSame_any sc ho po no sc2 ho2 po2 no2 W (hG.on hb) (by omega)) sc ho po no sc2 ho2 po2 no2 h1 h2 h3 h4
end Go.Proofs.YtknjkakokcblnagDoor

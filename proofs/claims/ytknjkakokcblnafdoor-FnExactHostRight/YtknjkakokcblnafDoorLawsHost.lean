/- The law FnExactHostRight, walked. -/
import Derived.Test.YtknjkakokcblnafDoorLawHost
import Derived.Test.YtknjkakokcblnafDoorImplHost
namespace Go.Proofs.YtknjkakokcblnafDoor
open Go.RowKit
theorem lawHost_any (s : ByteArray) (w : World) (hG : MaxI w) :
    Calls Tryd.prog 3 #[.string s] w fun e w' => e = .returned (.bool true) ∧ Below w.heap.size w w' :=
  lawHost_of w (fun s W hb hs => hostRight_any s W (hG.on hb) hs) s
end Go.Proofs.YtknjkakokcblnafDoor

/- The law FnExactLabelsOf, walked. -/
import Derived.Test.YtknjkakokcblnafDoorImplLabels
namespace Go.Proofs.YtknjkakokcblnafDoor
open Go.RowKit
theorem lawLabels_any (s : ByteArray) (w : World) (hG : MaxI w) :
    Calls Tryd.prog 4 #[.string s] w fun e w' => e = .returned (.bool true) ∧ Below w.heap.size w w' :=
  lawLabelsOf_of w (fun s W hb hs => labelsOf_any s W (hG.on hb) hs) s
end Go.Proofs.YtknjkakokcblnafDoor

/- The law FnExactUrlRead, walked. -/
import Derived.Test.YtknjkakokcblnagDoorImplRead
namespace Go.Proofs.YtknjkakokcblnagDoor
open Go.RowKit
theorem lawUrlRead_any (t : ByteArray) (w : World) (hG : MaxI w) (hT : PowI w) :
    Calls Tryd.prog 3 #[.string t] w fun e w' => e = .returned (.bool true) ∧ Below w.heap.size w w' :=
  lawUrlRead_of w (fun t W hb _ => urlRead_any t W (hG.on hb) (hT.on hb)) t
end Go.Proofs.YtknjkakokcblnagDoor

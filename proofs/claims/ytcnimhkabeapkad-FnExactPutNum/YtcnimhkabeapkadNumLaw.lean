/- The law FnExactPutNum, walked: both callees answer the same bytes. -/
import Derived.Test.YtcnimhkabeapkadNumWalk
namespace Go.Proofs.Ytcnimhkabeapkad
open Go.RowKit

set_option maxHeartbeats 400000 in
theorem lawPutNum_any (n : Int) (w : World) (h1 : -9223372036854775808 ≤ n) (h2 : n ≤ 9223372036854775807) :
    Calls Try.prog 3 #[.int .i64 n] w fun e w' => e = .returned (.bool true) ∧ Below w.heap.size w w' := by
  have H1 := fun W => specPutNum_any n W h1 h2
  have H2 := fun W => implPutNum_any n W h1 h2
  generalize (⟨(numB (foldN n)).toArray⟩ : ByteArray) = b at *
  have G1 : Hid (∀ W, Calls Try.prog 4 #[.int .i64 n] W fun e w' => e = .returned (.string b) ∧ Below W.heap.size W w') := H1
  have G2 : Hid (∀ W, Calls Try.prog 5 #[.int .i64 n] W fun e w' => e = .returned (.string b) ∧ Below W.heap.size W w') := H2
  clear H1 H2
  go_enter Try.func3, Try.ntmps3
  go_wp2_with fail
  refine (G1.out _).mono ?_
  rintro e w1 ⟨rfl, hb1⟩
  go_wp2_with fail
  refine (G2.out _).mono ?_
  rintro e w2 ⟨rfl, hb2⟩
  go_wp2
  go_ret
  exact ⟨rfl, hb1.trans (hb2.mono hb1.size)⟩
end Go.Proofs.Ytcnimhkabeapkad

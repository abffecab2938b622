/- The law FnExactPutText, walked: both callees answer the same text. -/
import Derived.Test.YtcnimhkabeapkaePutText
namespace Go.Proofs.Ytcnimhkabeapkae
open Go.RowKit

set_option maxHeartbeats 400000 in
theorem lawPutText_any (t : ByteArray) (w : World) :
    Calls Try.prog 3 #[.string t] w fun e w' => e = .returned (.bool true) ∧ Below w.heap.size w w' := by
  by_cases h1 : 1048576 < t.size
  · go_enter Try.func3, Try.ntmps3
    go_wp2
    go_ret
    exact ⟨rfl, Below.refl _ _⟩
  obtain ⟨b, h2, h3⟩ := putText_same t
  have G1 : Hid (∀ W, Calls Try.prog 7 #[.string t] W fun e w' => e = .returned (.string b) ∧ Below W.heap.size W w') := h2
  have G2 : Hid (∀ W, Calls Try.prog 8 #[.string t] W fun e w' => e = .returned (.string b) ∧ Below W.heap.size W w') := h3
  clear h2 h3
  go_enter Try.func3, Try.ntmps3
  go_wp2_with fail
  refine (G1.out _).mono ?_
  rintro e w1 ⟨rfl, hb1⟩
  go_wp2_with fail
  refine (G2.out _).mono ?_
  rintro e w2 ⟨rfl, hb2⟩
  go_wp2
  go_ret
  exact ⟨rfl, hb1.trans (hb2.mono hb1.size)⟩
end Go.Proofs.Ytcnimhkabeapkae

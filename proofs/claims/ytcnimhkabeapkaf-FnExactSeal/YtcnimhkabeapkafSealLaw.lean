/- The law FnExactSeal, walked: both callees answer the same text. -/
import Derived.Test.YtcnimhkabeapkafSealWalk
namespace Go.Proofs.Ytcnimhkabeapkaf
open Go.RowKit

set_option maxHeartbeats 400000 in
theorem lawSeal_any (s : ByteArray) (w : World) :
    Calls Try.prog 3 #[.string s] w fun e w' => e = .returned (.bool true) ∧ Below w.heap.size w w' := by
  by_cases h1 : 1048576 < s.size
  · go_enter Try.func3, Try.ntmps3
    go_wp2
    go_ret
    exact ⟨rfl, Below.refl _ _⟩
  by_cases h : 7996 < s.size
  · go_enter Try.func3, Try.ntmps3
    go_wp2_with fail
    refine (specSeal_no _ _ h).mono ?_
    rintro e w1 ⟨rfl, rfl⟩
    go_wp2_with fail
    refine (implSeal_no _ _ h).mono ?_
    rintro e w2 ⟨rfl, rfl⟩
    go_wp2
    go_ret
    exact ⟨rfl, Below.refl _ _⟩
  · have hz : s.size ≤ 7996 := by omega
    go_enter Try.func3, Try.ntmps3
    go_wp2_with fail
    refine (specSeal_yes _ _ hz).mono ?_
    rintro e w1 ⟨rfl, hb1⟩
    go_wp2_with fail
    refine (implSeal_yes _ _ hz).mono ?_
    rintro e w2 ⟨rfl, hb2⟩
    go_wp2
    go_ret
    exact ⟨rfl, hb1.trans (hb2.mono hb1.size)⟩
end Go.Proofs.Ytcnimhkabeapkaf

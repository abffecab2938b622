/- The size of a Url against what is left; texts' sizes. -/
import Derived.Test.YtddlnbmkknbegaaDoorLawUrl
namespace Go.Proofs.YtddlnbmkknbegaaDoor
open Go.RowKit

set_option maxRecDepth 10000 in
set_option maxHeartbeats 400000 in
theorem szUrl_at (sc ho pa : ByteArray) (po l : Int) (w : World) (h1 : sc.size ≤ maxLen) (h2 : ho.size ≤ maxLen) (h3 : pa.size ≤ maxLen) (l0 : 0 ≤ l) (l1 : l ≤ 1048576) :
    Calls Tryd.prog 31 #[.agg #[.string sc, .string ho, .int .i64 po, .string pa], .int .i64 l] w fun e w' => (∃ r : Int, e = .returned (.int .i64 r) ∧ (r < 0 ∨ (0 ≤ r ∧ r ≤ 1048576 ∧ sc.size + ho.size + pa.size ≤ 1048576))) ∧ Below w.heap.size w w' := by
  unfold maxLen at h1 h2 h3
  by_cases c1 : l < sc.size
  · have q1 : l - (sc.size : Int) < 0 := by omega
    go_enter Tryd.func31, Tryd.ntmps31
    go_wp2
    go_ret
    exact ⟨⟨-1, rfl, .inl (by omega)⟩, (Below.refl _ _).alloc (Nat.le_refl _) _⟩
  have q1 : decide (l - (sc.size : Int) < 0) = false := by rw [decide_eq_false_iff_not]; omega
  by_cases c2 : l < sc.size + ho.size
  · have q2 : l - (sc.size : Int) - (ho.size : Int) < 0 := by omega
    go_enter Tryd.func31, Tryd.ntmps31
    go_wp2
    go_ret
    exact ⟨⟨-1, rfl, .inl (by omega)⟩, (Below.refl _ _).alloc (Nat.le_refl _) _⟩
  have q2 : decide (l - (sc.size : Int) - (ho.size : Int) < 0) = false := by rw [decide_eq_false_iff_not]; omega
  by_cases c3 : l < sc.size + ho.size + pa.size
  · have q3 : l - (sc.size : Int) - (ho.size : Int) - (pa.size : Int) < 0 := by omega
    go_enter Tryd.func31, Tryd.ntmps31
    go_wp2
    go_ret
    exact ⟨⟨-1, rfl, .inl (by omega)⟩, (Below.refl _ _).alloc (Nat.le_refl _) _⟩
  have q3 : decide (l - (sc.size : Int) - (ho.size : Int) - (pa.size : Int) < 0) = false := by rw [decide_eq_false_iff_not]; omega
  go_enter Tryd.func31, Tryd.ntmps31
  go_wp2
  go_ret
  exact ⟨⟨l - (sc.size : Int) - (ho.size : Int) - (pa.size : Int), rfl, .inr ⟨by omega, by omega, by omega⟩⟩, (Below.refl _ _).alloc (Nat.le_refl _) _⟩
end Go.Proofs.YtddlnbmkknbegaaDoor

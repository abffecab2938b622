/- What the laws over an Origin do besides their two calls: its size is looked at, and it is handed on field by field. -/
import Derived.Test.YtknjkakokcblnagDoorSpecOrigin2
namespace Go.Proofs.YtknjkakokcblnagDoor
open Go.RowKit

set_option maxHeartbeats 400000 in
theorem szOrigin_any (sc ho : ByteArray) (po no l : Int) (w : World) (h1 : sc.size ≤ maxLen) (h2 : ho.size ≤ maxLen) (hl0 : 0 ≤ l) (hl1 : l ≤ 1048576) :
    Calls Tryd.prog 11 #[originV sc ho po no, .int .i64 l] w fun e w' => (∃ r : Int, e = .returned (.int .i64 r) ∧ (r < 0 ∨ (0 ≤ r ∧ r ≤ 1048576 ∧ sc.size + ho.size ≤ 1048576))) ∧ Below w.heap.size w w' := by
  unfold maxLen at h1 h2
  unfold originV
  by_cases c1 : l < sc.size
  · have q1 : l - (sc.size : Int) < 0 := by omega
    go_enter Tryd.func11, Tryd.ntmps11
    go_wp2
    go_ret
    exact ⟨⟨-1, rfl, .inl (by omega)⟩, (Below.refl _ _).alloc (Nat.le_refl _) _⟩
  have q1 : decide (l - (sc.size : Int) < 0) = false := by rw [decide_eq_false_iff_not]; omega
  by_cases c2 : l < sc.size + ho.size
  · have q2 : l - (sc.size : Int) - (ho.size : Int) < 0 := by omega
    go_enter Tryd.func11, Tryd.ntmps11
    go_wp2
    go_ret
    exact ⟨⟨-1, rfl, .inl (by omega)⟩, (Below.refl _ _).alloc (Nat.le_refl _) _⟩
  have q2 : decide (l - (sc.size : Int) - (ho.size : Int) < 0) = false := by rw [decide_eq_false_iff_not]; omega
  go_enter Tryd.func11, Tryd.ntmps11
  go_wp2
  go_ret
  exact ⟨⟨l - (sc.size : Int) - (ho.size : Int), rfl, .inr ⟨by omega, by omega, by omega⟩⟩, (Below.refl _ _).alloc (Nat.le_refl _) _⟩

set_option maxHeartbeats 400000 in
theorem toOrigin_any (sc ho : ByteArray) (po no : Int) (w : World) :
    Calls Tryd.prog 13 #[originV sc ho po no] w fun e w' => e = .returned (originV sc ho po no) ∧ Below w.heap.size w w' := by
  have HV : Hid (originV sc ho po no = .agg #[.string sc, .string ho, .int .i64 po, .int .i64 no]) := rfl
  rw [HV.out]
  go_enter Tryd.func13, Tryd.ntmps13
  go_wp2
  exact bodyPost_ret (v := .agg #[.string sc, .string ho, .int .i64 po, .int .i64 no]) (by simp [results, Tryd.results13, go_sem]) rfl ⟨rfl, (((Below.refl _ _).alloc (Nat.le_refl _) _).alloc (by simp) _).alloc (by simp; omega) _⟩
end Go.Proofs.YtknjkakokcblnagDoor

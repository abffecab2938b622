/- What the laws do with a Entry besides their calls: its size is looked at, it is handed on field by field, two are held against each other. -/
import Derived.Test.YtimmoclemcnhnaaBase
import Derived.Laws.ResultCell
import Derived.WalkKit
import Derived.WalkSpells
import Derived.WalkLawsBesides
namespace Go.Proofs.Ytimmoclemcnhnaa
open Go.RowKit

set_option maxRecDepth 10000 in
set_option maxHeartbeats 1000000 in
theorem szEntry_at (x0 : ByteArray) (x1 : ByteArray) (x2 : ByteArray) (l : Int) (w : World) (h0 : x0.size ≤ maxLen) (h1 : x1.size ≤ maxLen) (h2 : x2.size ≤ maxLen) (l0 : 0 ≤ l) (l1 : l ≤ 1048576) :
    Calls Try.prog 23 #[.agg #[.string x0, .string x1, .string x2], .int .i64 l] w fun e w' => (∃ r : Int, e = .returned (.int .i64 r) ∧ (r < 0 ∨ (0 ≤ r ∧ r ≤ 1048576 ∧ x0.size + x1.size + x2.size ≤ 1048576))) ∧ Below w.heap.size w w' := by
  unfold maxLen at h0 h1 h2
  by_cases c0 : l < x0.size
  · have q0 : l - (x0.size : Int) < 0 := by omega
    go_enter Try.func23, Try.ntmps23
    go_wp2
    go_ret
    exact ⟨⟨-1, rfl, .inl (by omega)⟩, (Below.refl _ _).alloc (Nat.le_refl _) _⟩
  have q0 : decide (l - (x0.size : Int) < 0) = false := by rw [decide_eq_false_iff_not]; omega
  by_cases c1 : l < x0.size + x1.size
  · have q1 : l - (x0.size : Int) - (x1.size : Int) < 0 := by omega
    go_enter Try.func23, Try.ntmps23
    go_wp2
    go_ret
    exact ⟨⟨-1, rfl, .inl (by omega)⟩, (Below.refl _ _).alloc (Nat.le_refl _) _⟩
  have q1 : decide (l - (x0.size : Int) - (x1.size : Int) < 0) = false := by rw [decide_eq_false_iff_not]; omega
  by_cases c2 : l < x0.size + x1.size + x2.size
  · have q2 : l - (x0.size : Int) - (x1.size : Int) - (x2.size : Int) < 0 := by omega
    go_enter Try.func23, Try.ntmps23
    go_wp2
    go_ret
    exact ⟨⟨-1, rfl, .inl (by omega)⟩, (Below.refl _ _).alloc (Nat.le_refl _) _⟩
  have q2 : decide (l - (x0.size : Int) - (x1.size : Int) - (x2.size : Int) < 0) = false := by rw [decide_eq_false_iff_not]; omega
  go_enter Try.func23, Try.ntmps23
  go_wp2
  go_ret
  exact ⟨⟨l - (x0.size : Int) - (x1.size : Int) - (x2.size : Int), rfl, .inr ⟨by omega, by omega, by omega⟩⟩, (Below.refl _ _).alloc (Nat.le_refl _) _⟩
set_option maxRecDepth 10000 in
set_option maxHeartbeats 1000000 in
theorem toEntry_any (x0 : ByteArray) (x1 : ByteArray) (x2 : ByteArray) (w : World) :
    Calls Try.prog 28 #[.agg #[.string x0, .string x1, .string x2]] w fun e w' => e = .returned (.agg #[.string x0, .string x1, .string x2]) ∧ Below w.heap.size w w' := by
  go_enter Try.func28, Try.ntmps28
  go_wp2
  exact bodyPost_ret (v := .agg #[.string x0, .string x1, .string x2]) (by simp [results, Try.results28, go_sem]) rfl ⟨rfl, (((Below.refl _ _).alloc (Nat.le_refl _) _).alloc (by simp) _).alloc (by simp; omega) _⟩
set_option maxRecDepth 10000 in
set_option maxHeartbeats 1000000 in
theorem eqEntry_any (x0 : ByteArray) (x1 : ByteArray) (x2 : ByteArray) (w : World) :
    Calls Try.prog 32 #[.agg #[.string x0, .string x1, .string x2], .agg #[.string x0, .string x1, .string x2]] w fun e w' => e = .returned (.bool true) ∧ Below w.heap.size w w' := by
  go_enter Try.func32, Try.ntmps32
  go_wp2
  go_ret
  exact ⟨rfl, ((Below.refl _ _).alloc (Nat.le_refl _) _).alloc (by simp) _⟩
end Go.Proofs.Ytimmoclemcnhnaa

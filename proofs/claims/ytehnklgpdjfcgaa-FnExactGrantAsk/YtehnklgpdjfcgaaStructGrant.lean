/- What the laws do with a Grant besides their calls: its size is looked at, it is handed on field by field, two are held against each other. -/
import Derived.Test.YtehnklgpdjfcgaaBase
import Derived.Laws.ResultCell
import Derived.WalkKit
import Derived.WalkSpells
import Derived.WalkLawsBesides
namespace Go.Proofs.Ytehnklgpdjfcgaa
open Go.RowKit

set_option maxRecDepth 10000 in
set_option maxHeartbeats 1000000 in
theorem szGrant_at (x0 : ByteArray) (x1 : ByteArray) (x2 : Int) (l : Int) (w : World) (h0 : x0.size ≤ maxLen) (h1 : x1.size ≤ maxLen) (l0 : 0 ≤ l) (l1 : l ≤ 1048576) :
    Calls Try.prog 37 #[.agg #[.string x0, .string x1, .int .i64 x2], .int .i64 l] w fun e w' => (∃ r : Int, e = .returned (.int .i64 r) ∧ (r < 0 ∨ (0 ≤ r ∧ r ≤ 1048576 ∧ x0.size + x1.size ≤ 1048576))) ∧ Below w.heap.size w w' := by
  unfold maxLen at h0 h1
  by_cases c0 : l < x0.size
  · have q0 : l - (x0.size : Int) < 0 := by omega
    go_enter Try.func37, Try.ntmps37
    go_wp2
    go_ret
    exact ⟨⟨-1, rfl, .inl (by omega)⟩, (Below.refl _ _).alloc (Nat.le_refl _) _⟩
  have q0 : decide (l - (x0.size : Int) < 0) = false := by rw [decide_eq_false_iff_not]; omega
  by_cases c1 : l < x0.size + x1.size
  · have q1 : l - (x0.size : Int) - (x1.size : Int) < 0 := by omega
    go_enter Try.func37, Try.ntmps37
    go_wp2
    go_ret
    exact ⟨⟨-1, rfl, .inl (by omega)⟩, (Below.refl _ _).alloc (Nat.le_refl _) _⟩
  have q1 : decide (l - (x0.size : Int) - (x1.size : Int) < 0) = false := by rw [decide_eq_false_iff_not]; omega
  go_enter Try.func37, Try.ntmps37
  go_wp2
  go_ret
  exact ⟨⟨l - (x0.size : Int) - (x1.size : Int), rfl, .inr ⟨by omega, by omega, by omega⟩⟩, (Below.refl _ _).alloc (Nat.le_refl _) _⟩
set_option maxRecDepth 10000 in
set_option maxHeartbeats 1000000 in
theorem toGrant_any (x0 : ByteArray) (x1 : ByteArray) (x2 : Int) (w : World) :
    Calls Try.prog 40 #[.agg #[.string x0, .string x1, .int .i64 x2]] w fun e w' => e = .returned (.agg #[.string x0, .string x1, .int .i64 x2]) ∧ Below w.heap.size w w' := by
  go_enter Try.func40, Try.ntmps40
  go_wp2
  exact bodyPost_ret (v := .agg #[.string x0, .string x1, .int .i64 x2]) (by simp [results, Try.results40, go_sem]) rfl ⟨rfl, (((Below.refl _ _).alloc (Nat.le_refl _) _).alloc (by simp) _).alloc (by simp; omega) _⟩
set_option maxRecDepth 10000 in
set_option maxHeartbeats 1000000 in
theorem eqGrant_any (x0 : ByteArray) (x1 : ByteArray) (x2 : Int) (w : World) :
    Calls Try.prog 46 #[.agg #[.string x0, .string x1, .int .i64 x2], .agg #[.string x0, .string x1, .int .i64 x2]] w fun e w' => e = .returned (.bool true) ∧ Below w.heap.size w w' := by
  go_enter Try.func46, Try.ntmps46
  go_wp2
  go_ret
  exact ⟨rfl, ((Below.refl _ _).alloc (Nat.le_refl _) _).alloc (by simp) _⟩
end Go.Proofs.Ytehnklgpdjfcgaa

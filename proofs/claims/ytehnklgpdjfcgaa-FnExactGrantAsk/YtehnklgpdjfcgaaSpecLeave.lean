/- The walks of the specification's small functions of grants. Written by specleave.py. -/
import Derived.Test.YtehnklgpdjfcgaaLeaveT
import Derived.Deep.RegionHeld3
import Derived.Deep.DeepCutAuto
namespace Go.Proofs.Ytehnklgpdjfcgaa
open Go.RowKit

set_option maxRecDepth 10000 in
set_option maxHeartbeats 1000000 in
theorem specSite8_any (t : ByteArray) (w : World) : Calls Try.prog 57 #[.string t] w fun e w' => e = .returned (.bool (siteG t)) ∧ w' = w := by
  have HK : Hid (siteG t = (decide (1 ≤ t.size) && decide (t.size ≤ 120))) := rfl
  generalize siteG t = R at *
  by_cases h1 : 1 ≤ t.size
  · have q1 : decide ((1 : Int) ≤ (t.size : Int)) = true := by rw [decide_eq_true_iff]; omega
    by_cases h2 : t.size ≤ 120
    · have q2 : decide ((t.size : Int) ≤ (120 : Int)) = true := by rw [decide_eq_true_iff]; omega
      have HR : Hid (R = true) := by show _ = _; rw [HK.out, decide_eq_true h1, decide_eq_true h2]; rfl
      go_enter Try.func57, Try.ntmps57
      go_wp2
      go_ret
      exact ⟨ret_bool HR.out.symm, rfl⟩
    · have q2 : decide ((t.size : Int) ≤ (120 : Int)) = false := by rw [decide_eq_false_iff_not]; omega
      have HR : Hid (R = false) := by show _ = _; rw [HK.out, decide_eq_false h2, Bool.and_false]
      go_enter Try.func57, Try.ntmps57
      go_wp2
      go_ret
      exact ⟨ret_bool HR.out.symm, rfl⟩
  · have q1 : decide ((1 : Int) ≤ (t.size : Int)) = false := by rw [decide_eq_false_iff_not]; omega
    have HR : Hid (R = false) := by show _ = _; rw [HK.out, decide_eq_false h1]; rfl
    go_enter Try.func57, Try.ntmps57
    go_wp2
    go_ret
    exact ⟨ret_bool HR.out.symm, rfl⟩
set_option maxRecDepth 10000 in
set_option maxHeartbeats 400000 in
theorem specIs8_any (n lo hi : Int) (w : World) :
    Calls Try.prog 71 #[.int .i64 n, .int .i64 lo, .int .i64 hi] w fun e w' => e = .returned (.bool (decide (lo ≤ n) && decide (n ≤ hi))) ∧ w' = w := by
  by_cases h : lo ≤ n
  · go_enter Try.func71, Try.ntmps71
    go_wp2
    go_ret
    exact ⟨ret_bool (by simp [h]), rfl⟩
  · have q : decide (lo ≤ n) = false := by rw [decide_eq_false_iff_not]; exact h
    go_enter Try.func71, Try.ntmps71
    go_wp2
    go_ret
    exact ⟨ret_bool (by simp), rfl⟩
set_option maxRecDepth 10000 in
theorem specTime8_any (n : Int) (w : World) :
    Calls Try.prog 38 #[.int .i64 n] w fun e w' => e = .returned (.bool (timeG n)) ∧ w' = w := by
  have H : Hid (∀ W, Calls Try.prog 71 #[.int .i64 n, .int .i64 0, .int .i64 1000000] W fun e w' => e = .returned (.bool (timeG n)) ∧ w' = W) := fun W => specIs8_any n 0 1000000 W
  generalize timeG n = b at *
  go_enter Try.func38, Try.ntmps38
  go_wp2_with (go_at_call 71; refine (H.out _).mono ?_; rintro e w1 ⟨rfl, rfl⟩)
  go_ret
  exact ⟨rfl, rfl⟩
theorem lss_text8 (t : TypeId) (a b : ByteArray) : binOp .lss t (.string a) (.string b) = pure (.bool (Op.bytesLess a.toList b.toList)) := by simp [binOp, Op.stringOp]
set_option maxRecDepth 10000 in
set_option maxHeartbeats 1000000 in
theorem specLess8_any (a b : Gr) (w : World) : Calls Try.prog 70 #[grV a, grV b] w fun e w' => e = .returned (.bool (grLess a b)) ∧ Below w.heap.size w w' := by
  obtain ⟨k1, n1, v1⟩ := a
  obtain ⟨k2, n2, v2⟩ := b
  unfold grV
  dsimp only
  have HK : Hid (grLess ⟨k1, n1, v1⟩ ⟨k2, n2, v2⟩ = (Op.bytesLess k1.toList k2.toList || ((k1.toList == k2.toList) && Op.bytesLess n1.toList n2.toList))) := rfl
  generalize grLess ⟨k1, n1, v1⟩ ⟨k2, n2, v2⟩ = R at *
  cases h1 : Op.bytesLess k1.toList k2.toList with
  | true =>
    have HR : Hid (R = true) := by show _ = _; rw [HK.out, h1]; rfl
    go_enter Try.func70, Try.ntmps70
    go_wp2
    go_ret
    exact ⟨ret_bool HR.out.symm, ((Below.refl _ _).alloc (Nat.le_refl _) _).alloc (by simp) _⟩
  | false =>
    cases h2 : (k1.toList == k2.toList) with
    | false =>
      have HR : Hid (R = false) := by show _ = _; rw [HK.out, h1, h2]; rfl
      go_enter Try.func70, Try.ntmps70
      go_wp2
      go_ret
      exact ⟨ret_bool HR.out.symm, ((Below.refl _ _).alloc (Nat.le_refl _) _).alloc (by simp) _⟩
    | true =>
      have HR : Hid (R = Op.bytesLess n1.toList n2.toList) := by show _ = _; rw [HK.out, h1, h2]; rfl
      go_enter Try.func70, Try.ntmps70
      go_wp2
      go_ret
      exact ⟨ret_bool HR.out.symm, ((Below.refl _ _).alloc (Nat.le_refl _) _).alloc (by simp) _⟩
end Go.Proofs.Ytehnklgpdjfcgaa

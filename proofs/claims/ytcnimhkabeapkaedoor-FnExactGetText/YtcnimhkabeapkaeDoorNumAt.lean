/- The walks of numAt and GetNum (the program's). -/
import Derived.Test.YtcnimhkabeapkaeDoorBitsWalk
import Derived.Test.YtcnimhkabeapkaeDoorAsCode
import Derived.Lib.Strings
namespace Go.Proofs.YtcnimhkabeapkaeDoor
open Go.RowKit

def numV (r : Int × Int × Nat) : Value := .tuple #[.int .i64 r.1, .int .i64 r.2.1, errV r.2.2]

set_option maxHeartbeats 400000 in
theorem numAt_size (s : ByteArray) (p : Int) (w : World) (h : 8000 < s.size) :
    Calls Tryd.prog 11 #[.string s, .int .i64 p] w fun e w' => e = .returned (numV (numR s p)) ∧ w' = w := by
  rw [numR_size h]
  go_enter Tryd.func11, Tryd.ntmps11
  go_wp2
  go_ret3
  exact ⟨rfl, rfl⟩

set_option maxHeartbeats 400000 in
theorem numAt_neg (s : ByteArray) (p : Int) (w : World) (h : ¬ 8000 < s.size) (h2 : p < 0) :
    Calls Tryd.prog 11 #[.string s, .int .i64 p] w fun e w' => e = .returned (numV (numR s p)) ∧ w' = w := by
  rw [numR_neg h h2]
  go_enter Tryd.func11, Tryd.ntmps11
  go_wp2
  go_ret3
  exact ⟨rfl, rfl⟩

set_option maxHeartbeats 400000 in
theorem numAt_far (s : ByteArray) (p : Int) (w : World) (h : ¬ 8000 < s.size) (h2 : ¬ p < 0) (h3 : (s.size : Int) < p) :
    Calls Tryd.prog 11 #[.string s, .int .i64 p] w fun e w' => e = .returned (numV (numR s p)) ∧ w' = w := by
  rw [numR_far h h2 h3]
  go_enter Tryd.func11, Tryd.ntmps11
  go_wp2
  go_ret3
  exact ⟨rfl, rfl⟩

set_option maxHeartbeats 400000 in
theorem numAt_more (s : ByteArray) (p u n c : Nat) (w : World) (h : ¬ 8000 < s.size) (h3 : p ≤ s.size) (hr : rd (s.data.toList.drop p) 0 0 = (u, n, c)) :
    Calls Tryd.prog 11 #[.string s, .int .i64 p] w fun e w' => e = .returned (numV (numR s p)) ∧ w' = w := by
  have hf := rd_facts (s.data.toList.drop p) 0 0 (by omega) (by decide)
  rw [hr] at hf
  have hb : ∀ W, Calls Tryd.prog 14 #[.string (s.extract p s.size)] W fun e w' => e = .returned (bitsV (u, n, c)) ∧ w' = W := by
    intro W
    have h1 := bitsOf_any (s.extract p s.size) W (by simp; omega)
    rw [show (s.extract p s.size).data.toList = s.data.toList.drop p by rw [Lib.extract_data, List.take_of_length_le (by simp only [List.length_drop, Array.length_toList]; exact Nat.le_refl _)], hr] at h1
    exact h1
  have HB : Hid (∀ W, Calls Tryd.prog 14 #[.string (s.extract p s.size)] W fun e w' => e = .returned (bitsV (u, n, c)) ∧ w' = W) := hb
  clear hb
  by_cases hc : c = 0
  · subst hc
    have HN : Hid (numR s p = (unf u, (p : Int) + n, 0)) := numR_yes h (by omega) (by simpa using hr)
    clear hr
    go_enter Tryd.func11, Tryd.ntmps11
    go_wp2_with fail
    refine (HB.out _).mono ?_
    rintro e w1 ⟨rfl, rfl⟩
    simp only [bitsV, errV, if_true]
    go_wp2
    go_ret3
    rw [HN.out, numV, ← unf_val hf.1]
    exact ⟨rfl, rfl⟩
  · have HN : Hid (numR s p = (0, 0, c)) := numR_no h (by omega) (by simpa using hr) hc
    clear hr
    go_enter Tryd.func11, Tryd.ntmps11
    go_wp2_with fail
    refine (HB.out _).mono ?_
    rintro e w1 ⟨rfl, rfl⟩
    simp only [bitsV, errV, if_neg hc]
    go_wp2
    go_ret3
    rw [HN.out]
    exact ⟨by simp [numV, errV, hc], rfl⟩
theorem numAt_any (s : ByteArray) (p : Int) (w : World) :
    Calls Tryd.prog 11 #[.string s, .int .i64 p] w fun e w' => e = .returned (numV (numR s p)) ∧ w' = w := by
  by_cases h : 8000 < s.size
  · exact numAt_size s p w h
  by_cases h2 : p < 0
  · exact numAt_neg s p w h h2
  by_cases h3 : (s.size : Int) < p
  · exact numAt_far s p w h h2 h3
  obtain ⟨n, rfl⟩ := Int.eq_ofNat_of_zero_le (show 0 ≤ p by omega)
  exact numAt_more s n _ _ _ w h (by omega) rfl
end Go.Proofs.YtcnimhkabeapkaeDoor

/- The laws FnExactCrc and FnExactCrcMore, walked: both callees answer the same plain function. -/
import Derived.Test.YtcnimhkabeapkaeCrcWalk
namespace Go.Proofs.Ytcnimhkabeapkae
open Go.RowKit

set_option maxHeartbeats 400000 in
theorem specCrcMore_yes (c : Nat) (s : ByteArray) (w : World) (hc : c < 4294967296) (hs : s.size ≤ 8000) :
    Calls Try.prog 13 #[.int .i64 c, .string s] w fun e w' => e = .returned (.int .i64 (crcOf c s : Nat)) ∧ w' = w := by
  have t1 : decide ((8000 : Int) < (s.size : Int)) = false := by rw [decide_eq_false_iff_not]; omega
  have t2 : decide ((c : Int) < 0) = false := by rw [decide_eq_false_iff_not]; omega
  have t3 : decide ((4294967295 : Int) < (c : Int)) = false := by rw [decide_eq_false_iff_not]; omega
  go_enter Try.func13, Try.ntmps13
  go_wp2_with (go_at_call 20; refine (specCrc_any _ _ _ hc (by unfold maxLen; omega)).mono ?_; rintro e w1 ⟨rfl, rfl⟩)
  go_ret
  exact ⟨rfl, rfl⟩

set_option maxHeartbeats 400000 in
theorem specCrcMore_no (c : Int) (s : ByteArray) (w : World) (h : 8000 < s.size ∨ c < 0 ∨ 4294967295 < c) :
    Calls Try.prog 13 #[.int .i64 c, .string s] w fun e w' => e = .returned (.int .i64 0) ∧ w' = w := by
  by_cases h1 : 8000 < s.size
  · go_enter Try.func13, Try.ntmps13
    go_wp2
    go_ret
    exact ⟨rfl, rfl⟩
  have t1 : decide ((8000 : Int) < (s.size : Int)) = false := by rw [decide_eq_false_iff_not]; omega
  by_cases h2 : c < 0
  · go_enter Try.func13, Try.ntmps13
    go_wp2
    go_ret
    exact ⟨rfl, rfl⟩
  have t2 : decide (c < 0) = false := by rw [decide_eq_false_iff_not]; omega
  have h3 : 4294967295 < c := by omega
  go_enter Try.func13, Try.ntmps13
  go_wp2
  go_ret
  exact ⟨rfl, rfl⟩

set_option maxHeartbeats 400000 in
theorem lawCrcMore_any (c : Int) (s : ByteArray) (w : World) :
    Calls Try.prog 6 #[.int .i64 c, .string s] w fun e w' => e = .returned (.bool true) ∧ w' = w := by
  by_cases h1 : 1048576 < s.size
  · go_enter Try.func6, Try.ntmps6
    go_wp2
    go_ret
    exact ⟨rfl, rfl⟩
  by_cases h : 8000 < s.size ∨ c < 0 ∨ 4294967295 < c
  · have H : Hid (8000 < s.size ∨ c < 0 ∨ 4294967295 < c) := h
    clear h
    go_enter Try.func6, Try.ntmps6
    go_wp2_with fail
    refine (specCrcMore_no _ _ _ H.out).mono ?_
    rintro e w1 ⟨rfl, rfl⟩
    go_wp2_with fail
    refine (implCrcMore_no _ _ _ H.out).mono ?_
    rintro e w2 ⟨rfl, rfl⟩
    go_wp2
    go_ret
    exact ⟨rfl, rfl⟩
  · obtain ⟨n, rfl⟩ := Int.eq_ofNat_of_zero_le (show 0 ≤ c by omega)
    have hn : n < 4294967296 := by omega
    have hz : s.size ≤ 8000 := by omega
    clear h
    go_enter Try.func6, Try.ntmps6
    go_wp2_with fail
    refine (specCrcMore_yes _ _ _ hn hz).mono ?_
    rintro e w1 ⟨rfl, rfl⟩
    go_wp2_with fail
    refine (implCrcMore_yes _ _ _ hn hz).mono ?_
    rintro e w2 ⟨rfl, rfl⟩
    go_wp2
    go_ret
    exact ⟨rfl, rfl⟩

set_option maxHeartbeats 400000 in
theorem implCrc_no (s : ByteArray) (w : World) (hs : 8000 < s.size) :
    Calls Try.prog 12 #[.string s] w fun e w' => e = .returned (.int .i64 0) ∧ w' = w := by
  go_enter Try.func12, Try.ntmps12
  go_wp2_with (go_at_call 14; refine (implCrcMore_no 0 _ _ (.inl hs)).mono ?_; rintro e w1 ⟨rfl, rfl⟩)
  go_ret
  exact ⟨rfl, rfl⟩

set_option maxHeartbeats 400000 in
theorem specCrcOne_yes (s : ByteArray) (w : World) (hs : s.size ≤ 8000) :
    Calls Try.prog 11 #[.string s] w fun e w' => e = .returned (.int .i64 (crcOf 0 s : Nat)) ∧ w' = w := by
  go_enter Try.func11, Try.ntmps11
  go_wp2_with (go_at_call 20; refine (specCrc_any 0 _ _ (by omega) (by unfold maxLen; omega)).mono ?_; rintro e w1 ⟨rfl, rfl⟩)
  go_ret
  exact ⟨rfl, rfl⟩

set_option maxHeartbeats 400000 in
theorem lawCrc_any (s : ByteArray) (w : World) :
    Calls Try.prog 5 #[.string s] w fun e w' => e = .returned (.bool true) ∧ w' = w := by
  by_cases h1 : 1048576 < s.size
  · go_enter Try.func5, Try.ntmps5
    go_wp2
    go_ret
    exact ⟨rfl, rfl⟩
  by_cases h : 8000 < s.size
  · go_enter Try.func5, Try.ntmps5
    go_wp2_with (first | go_at_call 11; go_in | (go_at_call 12; refine (implCrc_no _ _ h).mono ?_; rintro e w2 ⟨rfl, rfl⟩))
    go_ret
    exact ⟨rfl, rfl⟩
  · have hz : s.size ≤ 8000 := by omega
    go_enter Try.func5, Try.ntmps5
    go_wp2_with fail
    refine (specCrcOne_yes _ _ hz).mono ?_
    rintro e w1 ⟨rfl, rfl⟩
    go_wp2_with fail
    refine (implCrc_yes _ _ hz).mono ?_
    rintro e w2 ⟨rfl, rfl⟩
    go_wp2
    go_ret
    exact ⟨rfl, rfl⟩

end Go.Proofs.Ytcnimhkabeapkae

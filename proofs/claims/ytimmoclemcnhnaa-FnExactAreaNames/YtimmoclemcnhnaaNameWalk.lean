/- The walks of NameRight: the program's and the specification's both answer nameB of the text, at every text. -/
import Derived.Test.YtimmoclemcnhnaaName
import Derived.WalkKit
import Derived.WalkSpells
import Derived.WalkLawsBesides
namespace Go.Proofs.Ytimmoclemcnhnaa
open Go.RowKit

set_option maxRecDepth 10000 in
set_option maxHeartbeats 400000 in
theorem specName_any (s : ByteArray) (w : World) (hs : s.size ≤ maxLen) :
    Calls Try.prog 25 #[.string s] w fun e w' => e = .returned (.bool (nameB s)) ∧ w' = w := by
  unfold maxLen at hs
  by_cases h1 : s.size < 1
  · go_enter Try.func25, Try.ntmps25
    go_wp2
    go_ret
    exact ⟨ret_bool (nameB_false_of_size (.inl h1)).symm, rfl⟩
  by_cases h2 : 20 < s.size
  · go_enter Try.func25, Try.ntmps25
    go_wp2
    go_ret
    exact ⟨ret_bool (nameB_false_of_size (.inr h2)).symm, rfl⟩
  go_enter Try.func25, Try.ntmps25
  go_wp2
  go_loop [3] (fun i => ∃ k : Nat, k ≤ s.size ∧ i = .int .i64 k ∧ ∀ i (h : i < s.size), i < k → okB i (s[i].toNat : Int) = true) (fun i => s.size - (intOf i).toNat)
  case atStart => exact ⟨0, Nat.zero_le _, rfl, fun i _ hi => absurd hi (by omega)⟩
  case round =>
    obtain ⟨k, hk, rfl, hr⟩ := hrel
    have Hr : Hid (∀ i (h : i < s.size), i < k → okB i (s[i].toNat : Int) = true) := hr
    clear hr
    by_cases hlt : k < s.size
    · by_cases hk0 : k < 1
      · obtain rfl : k = 0 := by omega
        rcases byte_cases (s[0].toNat : Int) with ⟨c1, c2, c3, c4⟩ | ⟨c1, c2, c3, c4⟩ | ⟨c1, c2, c3, c4, c5, c6, c7⟩ | ⟨c1, c2, c3, c4, c5, c6⟩ | ⟨c1, c2⟩ | ⟨c1, c2, c3, c4, c5, c6⟩
        all_goals go_wp2
        all_goals first
          | (go_ret; exact ⟨ret_bool (nameB_false_at 0 hlt (okB_not (by omega))).symm, rfl⟩)
          | (go_round
             case rel => exact ⟨1, by omega, rfl, ok_succ Hr.out hlt (okB_of (by omega))⟩
             case measure => simp [intOf]; omega)
      · rcases byte_cases (s[k].toNat : Int) with ⟨c1, c2, c3, c4⟩ | ⟨c1, c2, c3, c4⟩ | ⟨c1, c2, c3, c4, c5, c6, c7⟩ | ⟨c1, c2, c3, c4, c5, c6⟩ | ⟨c1, c2⟩ | ⟨c1, c2, c3, c4, c5, c6⟩
        all_goals go_wp2
        all_goals first
          | (go_ret; exact ⟨ret_bool (nameB_false_at k hlt (okB_not (by omega))).symm, rfl⟩)
          | (go_round
             case rel => exact ⟨k + 1, by omega, by go_num, ok_succ Hr.out hlt (okB_of (by omega))⟩
             case measure => simp [intOf]; omega)
    · go_wp2
      go_ret
      exact ⟨ret_bool (nameB_true (by omega) (by omega) (fun i h => Hr.out i h (by omega))).symm, rfl⟩

set_option maxRecDepth 10000 in
set_option maxHeartbeats 400000 in
theorem implName_any (s : ByteArray) (w : World) (hs : s.size ≤ maxLen) :
    Calls Try.prog 41 #[.string s] w fun e w' => e = .returned (.bool (nameB s)) ∧ w' = w := by
  unfold maxLen at hs
  by_cases h1 : s.size < 1
  · have h1b : ((s.size : Int) == 0) = true := by rw [beq_iff_eq]; omega
    go_enter Try.func41, Try.ntmps41
    go_wp2
    go_ret
    exact ⟨ret_bool (nameB_false_of_size (.inl h1)).symm, rfl⟩
  have h1b : ((s.size : Int) == 0) = false := by rw [beq_eq_false_iff_ne]; omega
  by_cases h2 : 20 < s.size
  · go_enter Try.func41, Try.ntmps41
    go_wp2
    go_ret
    exact ⟨ret_bool (nameB_false_of_size (.inr h2)).symm, rfl⟩
  have h2b : decide ((20 : Int) < (s.size : Int)) = false := by rw [decide_eq_false_iff_not]; omega
  have hp : 0 < s.size := by omega
  rcases byte_cases (s[0].toNat : Int) with ⟨c1, c2, c3, c4⟩ | ⟨c1, c2, c3, c4⟩ | ⟨c1, c2, c3, c4, c5, c6, c7⟩ | ⟨c1, c2, c3, c4, c5, c6⟩ | ⟨c1, c2⟩ | ⟨c1, c2, c3, c4, c5, c6⟩
  all_goals
    go_enter Try.func41, Try.ntmps41
    go_wp2
    try (go_ret; exact ⟨ret_bool (nameB_false_at 0 hp (okB_not (by omega))).symm, rfl⟩)
  have H0 : Hid (okB 0 (s[0].toNat : Int) = true) := okB_of (by omega)
  clear c1 c2
  go_loop [3] (fun i => ∃ k : Nat, k ≤ s.size ∧ 1 ≤ k ∧ i = .int .i64 k ∧ ∀ i (h : i < s.size), i < k → okB i (s[i].toNat : Int) = true) (fun i => s.size - (intOf i).toNat)
  case atStart => exact ⟨1, by omega, by omega, rfl, name_one hp H0.out⟩
  case round =>
    obtain ⟨k, hk, hk1, rfl, hr⟩ := hrel
    have Hr : Hid (∀ i (h : i < s.size), i < k → okB i (s[i].toNat : Int) = true) := hr
    clear hr
    by_cases hlt : k < s.size
    · rcases byte_cases (s[k].toNat : Int) with ⟨c1, c2, c3, c4⟩ | ⟨c1, c2, c3, c4⟩ | ⟨c1, c2, c3, c4, c5, c6, c7⟩ | ⟨c1, c2, c3, c4, c5, c6⟩ | ⟨c1, c2⟩ | ⟨c1, c2, c3, c4, c5, c6⟩
      all_goals go_wp2
      all_goals first
        | (go_ret; exact ⟨ret_bool (nameB_false_at k hlt (okB_not (by omega))).symm, rfl⟩)
        | (go_round
           case rel => exact ⟨k + 1, by omega, by omega, by go_num, ok_succ Hr.out hlt (okB_of (by omega))⟩
           case measure => simp [intOf]; omega)
    · go_wp2
      go_ret
      exact ⟨ret_bool (nameB_true (by omega) (by omega) (fun i h => Hr.out i h (by omega))).symm, rfl⟩

end Go.Proofs.Ytimmoclemcnhnaa

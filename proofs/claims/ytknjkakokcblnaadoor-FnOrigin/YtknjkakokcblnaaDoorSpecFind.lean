/- The walks of the specification's l02Find (from place 0 on) and l02Num. -/
import Derived.Test.YtknjkakokcblnaaDoorFind
import Derived.Test.YtknjkakokcblnaaDoorLabel
import Derived.WalkKit
import Derived.WalkSpells
import Derived.WalkLawsBesides
namespace Go.Proofs.YtknjkakokcblnaaDoor
open Go.RowKit

set_option maxRecDepth 10000 in
set_option maxHeartbeats 400000 in
theorem specFind_any (t x : ByteArray) (w : World) (ht : t.size ≤ 1048576) (hx : x.size ≤ 1048576) :
    Calls Tryd.prog 77 #[.string t, .int .i64 0, .string x] w fun e w' => e = .returned (.int .i64 (findI t x)) ∧ w' = w := by
  go_enter Tryd.func77, Tryd.ntmps77
  go_wp2
  go_loop [7] (fun i => ∃ k : Nat, k ≤ t.size + 1 ∧ i = .int .i64 k ∧ Hid (findTo t x k = none)) (fun i => t.size + 1 - (intOf i).toNat)
  case atStart => exact ⟨0, by omega, rfl, rfl⟩
  case round =>
    obtain ⟨k, hk, rfl, HN⟩ := hrel
    by_cases hle : k + x.size ≤ t.size
    · cases hat : isAt t x k with
      | true =>
        have HF : Hid (findI t x = k) := findI_hit HN.out hle hat
        have q : ((t.extract k (k + x.size)).toList == x.toList) = true := hat
        clear hat
        go_wp2
        go_ret
        exact ⟨ret_int HF.out.symm, rfl⟩
      | false =>
        have HF : Hid (findTo t x (k + 1) = none) := findTo_miss HN.out (by rw [hat]; simp)
        have q : ((t.extract k (k + x.size)).toList == x.toList) = false := hat
        clear hat
        go_wp2
        go_round
        case rel => exact ⟨k + 1, by omega, by go_num, HF⟩
        case measure => simp [intOf]; omega
    · have HF : Hid (findI t x = -1) := findI_none HN.out (by omega) hk
      go_wp2
      go_ret
      exact ⟨ret_int HF.out.symm, rfl⟩

set_option maxRecDepth 10000 in
set_option maxHeartbeats 400000 in
theorem specNum_any (t : ByteArray) (w : World) :
    Calls Tryd.prog 78 #[.string t] w fun e w' => e = .returned (.int .i64 (numI t)) ∧ w' = w := by
  by_cases h1 : t.size < 1
  · go_enter Tryd.func78, Tryd.ntmps78
    go_wp2
    go_ret
    exact ⟨ret_int (numI_size (.inl h1)).symm, rfl⟩
  have q1 : decide ((t.size : Int) < 1) = false := by rw [decide_eq_false_iff_not]; omega
  by_cases h2 : 9 < t.size
  · go_enter Tryd.func78, Tryd.ntmps78
    go_wp2
    go_ret
    exact ⟨ret_int (numI_size (.inr h2)).symm, rfl⟩
  have q2 : decide ((9 : Int) < (t.size : Int)) = false := by rw [decide_eq_false_iff_not]; omega
  have hp : 0 < t.size := by omega
  by_cases h3 : 1 < t.size ∧ t[0].toNat = 48
  · obtain ⟨h4, h5⟩ := h3
    have q3 : ((t[0].toNat : Int) == 48) = true := by rw [beq_iff_eq]; omega
    have H5 : Hid (t[0].toNat = 48) := h5
    clear h5
    go_enter Tryd.func78, Tryd.ntmps78
    go_wp2
    go_ret
    exact ⟨ret_int (numI_first h4 H5.out).symm, rfl⟩
  have H3 : Hid (1 < t.size → ∀ h : 0 < t.size, ¬ t[0].toNat = 48) := fun h _ hc => h3 ⟨h, hc⟩
  have HB : Hid (∀ k ≤ 9, 10 ^ k ≤ 1000000000) := fun k hk => Nat.le_trans (Nat.pow_le_pow_right (by omega) hk) (by decide)
  by_cases h4 : 1 < t.size
  all_goals
    first
      | (have q3 : ((t[0].toNat : Int) == 48) = false := by rw [beq_eq_false_iff_ne]; intro hc; exact h3 ⟨h4, by omega⟩)
      | (have q3 : decide ((1 : Int) < (t.size : Int)) = false := by rw [decide_eq_false_iff_not]; omega)
    clear h3
    go_enter Tryd.func78, Tryd.ntmps78
    go_wp2
    go_loop [3, 4] (fun n i => ∃ k : Nat, k ≤ t.size ∧ i = .int .i64 k ∧ n = .int .i64 (numTo t k : Nat) ∧ Hid (∀ i (h : i < t.size), i < k → digC t[i].toNat = true) ∧ Hid (numTo t k < 10 ^ k)) (fun _ i => t.size - (intOf i).toNat)
    case atStart => exact ⟨0, Nat.zero_le _, rfl, rfl, fun i _ hi => absurd hi (by omega), (by decide : 0 < 10 ^ 0)⟩
    case round =>
      obtain ⟨k, hk, rfl, rfl, HR, HL⟩ := hrel
      by_cases hlt : k < t.size
      · by_cases d1 : t[k].toNat < 48
        · go_wp2
          go_ret
          exact ⟨ret_int (numI_at k hlt (digC_no (by omega))).symm, rfl⟩
        have b1 : decide ((t[k].toNat : Int) < 48) = false := by rw [decide_eq_false_iff_not]; omega
        by_cases d2 : 57 < t[k].toNat
        · go_wp2
          go_ret
          exact ⟨ret_int (numI_at k hlt (digC_no (by omega))).symm, rfl⟩
        have b2 : decide ((57 : Int) < (t[k].toNat : Int)) = false := by rw [decide_eq_false_iff_not]; omega
        have hn : numTo t k ≤ 1000000000 := Nat.le_trans (Nat.le_of_lt HL.out) (HB.out k (by omega))
        have HS : Hid (numTo t (k + 1) = 10 * numTo t k + (t[k].toNat - 48)) := numTo_succ hlt
        have HL2 : Hid (numTo t (k + 1) < 10 ^ (k + 1)) := by
          show _ < _
          have := HL.out
          rw [HS.out, Nat.pow_succ]; omega
        generalize numTo t k = v at *
        go_wp2
        go_round
        case rel => exact ⟨k + 1, by omega, by go_num, val_int (by rw [HS.out]; omega), all_succ HR.out hlt (digC_yes (by omega)), HL2⟩
        case measure => simp [intOf]; omega
      · obtain rfl : k = t.size := by omega
        have HF : Hid (numI t = numTo t t.size) := numI_yes (by omega) (by omega) H3.out (fun i h => HR.out i h h)
        go_wp2
        go_ret
        exact ⟨ret_int HF.out.symm, rfl⟩
end Go.Proofs.YtknjkakokcblnaaDoor

/- The walk of the specification's GetNum: it answers numR. -/
import Derived.Test.YtcnimhkabeapkaeDoorGetNum
namespace Go.Proofs.YtcnimhkabeapkaeDoor
open Go.RowKit

set_option maxHeartbeats 400000 in
theorem specGetNum_size (s : ByteArray) (p : Int) (w : World) (h : 8000 < s.size) :
    Calls Tryd.prog 5 #[.string s, .int .i64 p] w fun e w' => e = .returned (numOut (numR s p)) ∧ Below w.heap.size w w' := by
  rw [numR_size h]
  go_enter Tryd.func5, Tryd.ntmps5
  go_wp2
  exact bodyPost_ret (v := numOut (0, 0, 2)) (by simp [numOut, results, Tryd.results5, go_sem]) rfl ⟨rfl, (Below.refl _ _).alloc (Nat.le_refl _) _⟩

set_option maxHeartbeats 400000 in
theorem specGetNum_neg (s : ByteArray) (p : Int) (w : World) (h : ¬ 8000 < s.size) (h2 : p < 0) :
    Calls Tryd.prog 5 #[.string s, .int .i64 p] w fun e w' => e = .returned (numOut (numR s p)) ∧ Below w.heap.size w w' := by
  rw [numR_neg h h2]
  go_enter Tryd.func5, Tryd.ntmps5
  go_wp2
  exact bodyPost_ret (v := numOut (0, 0, 1)) (by simp [numOut, results, Tryd.results5, go_sem]) rfl ⟨rfl, (Below.refl _ _).alloc (Nat.le_refl _) _⟩

set_option maxHeartbeats 1000000 in
set_option maxRecDepth 100000 in
theorem specGetNum_more (s : ByteArray) (p : Nat) (w : World) (h : ¬ 8000 < s.size) (hp : (p : Int) ≤ 9223372036854775807) :
    Calls Tryd.prog 5 #[.string s, .int .i64 p] w fun e w' => e = .returned (numOut (numR s p)) ∧ Below w.heap.size w w' := by
  go_enter Tryd.func5, Tryd.ntmps5
  go_wp2
  go_loop [5, 6, 7, 8] (fun x i _ _ => ∃ (k u : Nat), x = .int .u64 u ∧ i = .int .i64 k ∧ k ≤ 9 ∧ Hid (u < 128 ^ k) ∧ Hid (rd (s.data.toList.drop p) 0 0 = rd (s.data.toList.drop (p + k)) k u)) (fun _ i _ _ => 10 - (intOf i).toNat)
  case atStart => exact ⟨0, 0, rfl, rfl, by omega, (by decide : 0 < 128 ^ 0), rfl⟩
  case round =>
    obtain ⟨k, u, rfl, rfl, hk, HU, HR⟩ := hrel
    by_cases hend : s.size ≤ p + k
    · have HN : Hid (numR s p = (0, 0, 4)) := numR_no h (by omega) (by rw [Int.toNat_natCast, HR.out, List.drop_eq_nil_of_le (by simp only [Array.length_toList]; exact hend), rd]) (by omega)
      go_wp2
      rw [HN.out]
      exact bodyPost_ret (v := numOut (0, 0, 4)) (by simp [numOut, results, Tryd.results5, go_sem]) rfl ⟨rfl, (Below.refl _ _).alloc (Nat.le_refl _) _⟩
    have hlt : p + k < s.size := by omega
    have hb := s[p + k].toNat_lt
    rcases (show (9 ≤ k ∧ 1 < s[p + k].toNat) ∨ (9 ≤ k ∧ s[p + k].toNat < 1) ∨ (9 ≤ k ∧ 1 ≤ s[p + k].toNat ∧ s[p + k].toNat ≤ 1) ∨ (k < 9 ∧ 128 ≤ s[p + k].toNat) ∨ (k < 9 ∧ 0 < k ∧ s[p + k].toNat < 1) ∨ (k < 9 ∧ 1 ≤ s[p + k].toNat ∧ s[p + k].toNat < 128) ∨ (k < 1 ∧ s[p + k].toNat < 1) by omega)
      with ⟨h1, h2⟩ | ⟨h1, h2⟩ | ⟨h1, h2, h3⟩ | ⟨h1, h2⟩ | ⟨h1, h2, h3⟩ | ⟨h1, h2, h3⟩ | ⟨h1, h2⟩
    · have q1 : ((k : Int) == 9) = true := by rw [beq_iff_eq]; omega
      have HN : Hid (numR s p = (0, 0, 3)) := numR_no h (by omega) (by rw [Int.toNat_natCast, HR.out, rd_last hlt (by omega), rdLast_no (by omega)]) (by omega)
      go_wp2
      rw [HN.out]
      exact bodyPost_ret (v := numOut (0, 0, 3)) (by simp [numOut, results, Tryd.results5, go_sem]) rfl ⟨rfl, (Below.refl _ _).alloc (Nat.le_refl _) _⟩
    · have q1 : ((k : Int) == 9) = true := by rw [beq_iff_eq]; omega
      have q2 : decide ((1 : Int) < (s[p + k].toNat : Int)) = false := by rw [decide_eq_false_iff_not]; omega
      have q3 : ((s[p + k].toNat : Int) == 0) = true := by rw [beq_iff_eq]; omega
      have HN : Hid (numR s p = (0, 0, 3)) := numR_no h (by omega) (by rw [Int.toNat_natCast, HR.out, rd_last hlt (by omega), rdLast_no (by omega)]) (by omega)
      go_wp2
      rw [HN.out]
      exact bodyPost_ret (v := numOut (0, 0, 3)) (by simp [numOut, results, Tryd.results5, go_sem]) rfl ⟨rfl, (Below.refl _ _).alloc (Nat.le_refl _) _⟩
    · have q1 : ((k : Int) == 9) = true := by rw [beq_iff_eq]; omega
      have q2 : decide ((1 : Int) < (s[p + k].toNat : Int)) = false := by rw [decide_eq_false_iff_not]; omega
      have q3 : ((s[p + k].toNat : Int) == 0) = false := by rw [beq_eq_false_iff_ne]; omega
      obtain ⟨v, hv⟩ : ∃ v, v = u + s[p + k].toNat * 128 ^ k := ⟨_, rfl⟩
      have hv64 : v < 18446744073709551616 := by
        have h1 := one_part hk h3
        have h2 := HU.out
        have h3 := (show s[p + k].toNat * 128 ^ k ≤ 1 * 128 ^ k from Nat.mul_le_mul_right _ h3)
        have h4 := pow_le hk
        omega
      have hvi : (v : Int) ≤ 18446744073709551615 := by omega
      have e5 : IntKind.u64.wrap ((u : Int) + IntKind.u64.wrap ((s[p + k].toNat : Int) % 128 * 2 ^ (7 * k))) = (v : Int) := by
        rw [show ((s[p + k].toNat : Int) % 128) = (s[p + k].toNat : Int) by omega, add_val (one_part hk h3) (by rw [← hv]; exact hv64), hv]
      have HN : Hid (numR s p = (unf v, (p : Int) + (k + 1 : Nat), 0)) := numR_yes h (by omega) (by rw [Int.toNat_natCast, HR.out, rd_last hlt (by omega), rdLast_yes (by omega), hv])
      clear hv hv64
      by_cases hodd : v % 2 = 1
      · have q7 : ((v : Int) % 2 == 1) = true := by rw [beq_iff_eq]; omega
        have HO : Hid (unf v = -((v : Int) / 2) - 1) := unf_odd hodd
        clear hodd
        go_wp2
        rw [HN.out, HO.out]
        exact bodyPost_ret (v := numOut (-((v : Int) / 2) - 1, (p : Int) + (k + 1 : Nat), 0)) (by simp [numOut, results, Tryd.results5, go_sem]; try omega) rfl ⟨rfl, (Below.refl _ _).alloc (Nat.le_refl _) _⟩
      · have q7 : ((v : Int) % 2 == 1) = false := by rw [beq_eq_false_iff_ne]; omega
        have HO : Hid (unf v = (v : Int) / 2) := unf_even hodd
        clear hodd
        go_wp2
        rw [HN.out, HO.out]
        exact bodyPost_ret (v := numOut ((v : Int) / 2, (p : Int) + (k + 1 : Nat), 0)) (by simp [numOut, results, Tryd.results5, go_sem]; try omega) rfl ⟨rfl, (Below.refl _ _).alloc (Nat.le_refl _) _⟩
    · have q1 : ((k : Int) == 9) = false := by rw [beq_eq_false_iff_ne]; omega
      have q2 : decide ((s[p + k].toNat : Int) < 128) = false := by rw [decide_eq_false_iff_not]; omega
      obtain ⟨v, hv⟩ : ∃ v, v = u + (s[p + k].toNat - 128) * 128 ^ k := ⟨_, rfl⟩
      have HP : Hid (v < 128 ^ (k + 1)) := by
        show _ < _
        rw [hv]; exact part_lt HU.out (by omega)
      have hv64 : u + (s[p + k].toNat - 128) * 128 ^ k < 18446744073709551616 := by
        have h3 := HP.out
        have h4 := pow_le (show k + 1 ≤ 9 by omega)
        rw [hv] at h3
        omega
      have e5 : IntKind.u64.wrap ((u : Int) + IntKind.u64.wrap ((s[p + k].toNat : Int) % 128 * 2 ^ (7 * k))) = (v : Int) := by
        rw [show ((s[p + k].toNat : Int) % 128) = ((s[p + k].toNat - 128 : Nat) : Int) by omega, add_val (small_part (by omega) (by omega)) hv64, hv]
      have HN : Hid (rd (s.data.toList.drop p) 0 0 = rd (s.data.toList.drop (p + (k + 1))) (k + 1) v) := by
        show _ = _
        rw [HR.out, rd_more hlt h2 (by omega), hv]; rfl
      clear hv hv64
      go_wp2
      go_round
      case rel => exact ⟨k + 1, v, by go_num, by go_num, by omega, HP, HN⟩
      case measure => simp [intOf]; omega
    · have q1 : ((k : Int) == 9) = false := by rw [beq_eq_false_iff_ne]; omega
      have q3 : ((s[p + k].toNat : Int) == 0) = true := by rw [beq_iff_eq]; omega
      have HN : Hid (numR s p = (0, 0, 3)) := numR_no h (by omega) (by rw [Int.toNat_natCast, HR.out, rd_last hlt (by omega), rdLast_no (by omega)]) (by omega)
      go_wp2
      rw [HN.out]
      exact bodyPost_ret (v := numOut (0, 0, 3)) (by simp [numOut, results, Tryd.results5, go_sem]) rfl ⟨rfl, (Below.refl _ _).alloc (Nat.le_refl _) _⟩
    · have q1 : ((k : Int) == 9) = false := by rw [beq_eq_false_iff_ne]; omega
      have q3 : ((s[p + k].toNat : Int) == 0) = false := by rw [beq_eq_false_iff_ne]; omega
      obtain ⟨v, hv⟩ : ∃ v, v = u + s[p + k].toNat * 128 ^ k := ⟨_, rfl⟩
      have hv64 : v < 18446744073709551616 := by
        have h1 := small_part (show k ≤ 8 by omega) h3
        have h2 := HU.out
        have h3 := part_lt HU.out h3
        have h4 := pow_le (show k + 1 ≤ 9 by omega)
        omega
      have hvi : (v : Int) ≤ 18446744073709551615 := by omega
      have e5 : IntKind.u64.wrap ((u : Int) + IntKind.u64.wrap ((s[p + k].toNat : Int) % 128 * 2 ^ (7 * k))) = (v : Int) := by
        rw [show ((s[p + k].toNat : Int) % 128) = (s[p + k].toNat : Int) by omega, add_val (small_part (show k ≤ 8 by omega) h3) (by rw [← hv]; exact hv64), hv]
      have HN : Hid (numR s p = (unf v, (p : Int) + (k + 1 : Nat), 0)) := numR_yes h (by omega) (by rw [Int.toNat_natCast, HR.out, rd_last hlt (by omega), rdLast_yes (by omega), hv])
      clear hv hv64
      by_cases hodd : v % 2 = 1
      · have q7 : ((v : Int) % 2 == 1) = true := by rw [beq_iff_eq]; omega
        have HO : Hid (unf v = -((v : Int) / 2) - 1) := unf_odd hodd
        clear hodd
        go_wp2
        rw [HN.out, HO.out]
        exact bodyPost_ret (v := numOut (-((v : Int) / 2) - 1, (p : Int) + (k + 1 : Nat), 0)) (by simp [numOut, results, Tryd.results5, go_sem]; try omega) rfl ⟨rfl, (Below.refl _ _).alloc (Nat.le_refl _) _⟩
      · have q7 : ((v : Int) % 2 == 1) = false := by rw [beq_eq_false_iff_ne]; omega
        have HO : Hid (unf v = (v : Int) / 2) := unf_even hodd
        clear hodd
        go_wp2
        rw [HN.out, HO.out]
        exact bodyPost_ret (v := numOut ((v : Int) / 2, (p : Int) + (k + 1 : Nat), 0)) (by simp [numOut, results, Tryd.results5, go_sem]; try omega) rfl ⟨rfl, (Below.refl _ _).alloc (Nat.le_refl _) _⟩
    · have q1 : ((k : Int) == 9) = false := by rw [beq_eq_false_iff_ne]; omega
      have q3 : ((s[p + k].toNat : Int) == 0) = true := by rw [beq_iff_eq]; omega
      have q4 : decide ((0 : Int) < (k : Int)) = false := by rw [decide_eq_false_iff_not]; omega
      obtain ⟨v, hv⟩ : ∃ v, v = u + s[p + k].toNat * 128 ^ k := ⟨_, rfl⟩
      have hv64 : v < 18446744073709551616 := by
        have h1 := small_part (show k ≤ 8 by omega) (show s[p + k].toNat < 128 by omega)
        have h2 := HU.out
        have h3 := part_lt HU.out (show s[p + k].toNat < 128 by omega)
        have h4 := pow_le (show k + 1 ≤ 9 by omega)
        omega
      have hvi : (v : Int) ≤ 18446744073709551615 := by omega
      have e5 : IntKind.u64.wrap ((u : Int) + IntKind.u64.wrap ((s[p + k].toNat : Int) % 128 * 2 ^ (7 * k))) = (v : Int) := by
        rw [show ((s[p + k].toNat : Int) % 128) = (s[p + k].toNat : Int) by omega, add_val (small_part (show k ≤ 8 by omega) (show s[p + k].toNat < 128 by omega)) (by rw [← hv]; exact hv64), hv]
      have HN : Hid (numR s p = (unf v, (p : Int) + (k + 1 : Nat), 0)) := numR_yes h (by omega) (by rw [Int.toNat_natCast, HR.out, rd_last hlt (by omega), rdLast_yes (by omega), hv])
      clear hv hv64
      by_cases hodd : v % 2 = 1
      · have q7 : ((v : Int) % 2 == 1) = true := by rw [beq_iff_eq]; omega
        have HO : Hid (unf v = -((v : Int) / 2) - 1) := unf_odd hodd
        clear hodd
        go_wp2
        rw [HN.out, HO.out]
        exact bodyPost_ret (v := numOut (-((v : Int) / 2) - 1, (p : Int) + (k + 1 : Nat), 0)) (by simp [numOut, results, Tryd.results5, go_sem]; try omega) rfl ⟨rfl, (Below.refl _ _).alloc (Nat.le_refl _) _⟩
      · have q7 : ((v : Int) % 2 == 1) = false := by rw [beq_eq_false_iff_ne]; omega
        have HO : Hid (unf v = (v : Int) / 2) := unf_even hodd
        clear hodd
        go_wp2
        rw [HN.out, HO.out]
        exact bodyPost_ret (v := numOut ((v : Int) / 2, (p : Int) + (k + 1 : Nat), 0)) (by simp [numOut, results, Tryd.results5, go_sem]; try omega) rfl ⟨rfl, (Below.refl _ _).alloc (Nat.le_refl _) _⟩

theorem specGetNum_any (s : ByteArray) (p : Int) (w : World) (hp : p ≤ 9223372036854775807) :
    Calls Tryd.prog 5 #[.string s, .int .i64 p] w fun e w' => e = .returned (numOut (numR s p)) ∧ Below w.heap.size w w' := by
  by_cases h : 8000 < s.size
  · exact specGetNum_size s p w h
  by_cases h2 : p < 0
  · exact specGetNum_neg s p w h h2
  obtain ⟨n, rfl⟩ := Int.eq_ofNat_of_zero_le (show 0 ≤ p by omega)
  exact specGetNum_more s n w h hp
end Go.Proofs.YtcnimhkabeapkaeDoor

/- The walks of the CRC: the program's and the specification's both answer the plain function. -/
import Derived.Test.YtcnimhkabeapkaeCrc
import Derived.WalkKit
import Derived.WalkSpells
import Derived.WalkLawsBesides
import Derived.Laws.BitsAllLaws
namespace Go.Proofs.Ytcnimhkabeapkae
open Go.RowKit

set_option maxHeartbeats 400000 in
theorem crcByte_any (r b : Nat) (w : World) (hr : r < 4294967296) (hb : b < 256) :
    Calls Try.prog 21 #[.int .u32 r, .int .u8 b] w fun e w' => e = .returned (.int .u32 (runsI b 8 r : Nat)) ∧ w' = w := by
  go_enter Try.func21, Try.ntmps21
  go_wp2
  go_loop [0, 5] (fun x i => ∃ k : Nat, k ≤ 8 ∧ i = .int .i64 k ∧ x = .int .u32 (runsI b k r : Nat)) (fun _ i => 8 - (intOf i).toNat)
  case atStart => exact ⟨0, by omega, rfl, rfl⟩
  case round =>
    obtain ⟨k, hk, rfl, rfl⟩ := hrel
    have hx := runsI_lt (b := b) hr k
    have HS : Hid (runsI b (k + 1) r = stepI (runsI b k r) (b / 2 ^ k)) := rfl
    generalize hxe : runsI b k r = x at *
    have HX : Hid (runsI b k r = x) := hxe
    clear hxe
    by_cases hlt : k < 8
    · go_wp2
      all_goals
        go_round
        case rel => exact ⟨k + 1, by omega, by go_num, val_int (by rw [HS.out]; first | exact stepI_yes hx hb (by assumption) | exact stepI_no hx hb (by assumption))⟩
        case measure => simp [intOf]; omega
    · go_wp2
      go_ret
      exact ⟨ret_int (by rw [← HX.out]; rw [show k = 8 by omega]), rfl⟩

set_option maxHeartbeats 400000 in
theorem specCrc_any (c : Nat) (s : ByteArray) (w : World) (hc : c < 4294967296) (hs : s.size ≤ maxLen) :
    Calls Try.prog 20 #[.int .i64 c, .string s] w fun e w' => e = .returned (.int .i64 (crcOf c s : Nat)) ∧ w' = w := by
  unfold maxLen at hs
  go_enter Try.func20, Try.ntmps20
  go_wp2
  have e0 := not_val c hc
  go_loop [5, 6, 7] (fun x i _ => ∃ k : Nat, k ≤ s.size ∧ i = .int .i64 k ∧ x = .int .u32 (reg (c ^^^ 4294967295) (s.data.toList.take k) : Nat)) (fun _ i _ => s.size - (intOf i).toNat)
  case atStart => exact ⟨0, by omega, rfl, val_int e0⟩
  case round =>
    obtain ⟨k, hk, rfl, rfl⟩ := hrel
    have hx := reg_lt (xor_lt hc (by omega : 4294967295 < 4294967296)) (s.data.toList.take k)
    by_cases hlt : k < s.size
    · have HS : Hid (reg (c ^^^ 4294967295) (s.data.toList.take (k + 1)) = runsI (s[k].toNat) 8 (reg (c ^^^ 4294967295) (s.data.toList.take k))) := reg_succ _ s k hlt
      generalize reg (c ^^^ 4294967295) (s.data.toList.take k) = x at *
      clear e0
      go_wp2
      go_loop [5, 7] (fun y j => ∃ m : Nat, m ≤ 8 ∧ j = .int .i64 m ∧ y = .int .u32 (runs m (x ^^^ s[k].toNat) : Nat)) (fun _ j => 8 - (intOf j).toNat)
      case atStart => exact ⟨0, by omega, rfl, val_int (on_val x s[k] hx)⟩
      case round =>
        obtain ⟨m, hm, rfl, rfl⟩ := hrel
        have hy := runs_lt (xor_lt hx (Nat.lt_trans (byte_lt s[k]) (by omega))) m
        have HR : Hid (runs (m + 1) (x ^^^ s[k].toNat) = step (runs m (x ^^^ s[k].toNat))) := rfl
        have H8 : Hid (runs 8 (x ^^^ s[k].toNat) = runsI s[k].toNat 8 x) := runs_byte _ _ (byte_lt _)
        by_cases hm8 : m < 8
        · generalize runs m (x ^^^ s[k].toNat) = y at *
          go_wp2
          all_goals
            go_round
            case rel => exact ⟨m + 1, by omega, by go_num, val_int (by rw [HR.out]; first | exact step_yes hy (by assumption) | exact step_no hy (by assumption))⟩
            case measure => simp [intOf]; omega
        · obtain rfl : m = 8 := by omega
          generalize runs 8 (x ^^^ s[k].toNat) = y at *
          go_wp2
          go_round
          case rel => exact ⟨k + 1, by omega, by go_num, val_int (by rw [HS.out, H8.out])⟩
          case measure => simp [intOf]; omega
    · rw [take_all s k (by omega)]
      rw [take_all s k (by omega)] at hx
      generalize hxe : reg (c ^^^ 4294967295) s.data.toList = x at *
      have HX : Hid (reg (c ^^^ 4294967295) s.data.toList = x) := hxe
      clear hxe
      have HE := not_val x hx
      have HL := xor_lt hx (by omega : 4294967295 < 4294967296)
      generalize hye : x ^^^ 4294967295 = y at *
      have HY : Hid (x ^^^ 4294967295 = y) := hye
      clear hye
      go_wp2
      go_ret
      exact ⟨ret_int (by unfold crcOf; rw [HX.out, HY.out]), rfl⟩

set_option maxHeartbeats 400000 in
theorem implCrcMore_yes (c : Nat) (s : ByteArray) (w : World) (hc : c < 4294967296) (hs : s.size ≤ 8000) :
    Calls Try.prog 14 #[.int .i64 c, .string s] w fun e w' => e = .returned (.int .i64 (crcOf c s : Nat)) ∧ w' = w := by
  have t1 : decide ((8000 : Int) < (s.size : Int)) = false := by rw [decide_eq_false_iff_not]; omega
  have t2 : decide ((c : Int) < 0) = false := by rw [decide_eq_false_iff_not]; omega
  have t3 : decide ((4294967295 : Int) < (c : Int)) = false := by rw [decide_eq_false_iff_not]; omega
  go_enter Try.func14, Try.ntmps14
  go_wp2
  have e0 := flip_val c hc
  go_loop [5, 6] (fun x i => ∃ k : Nat, k ≤ s.size ∧ i = .int .i64 k ∧ x = .int .u32 (reg (c ^^^ 4294967295) (s.data.toList.take k) : Nat)) (fun _ i => s.size - (intOf i).toNat)
  case atStart => exact ⟨0, by omega, rfl, val_int e0⟩
  case round =>
    obtain ⟨k, hk, rfl, rfl⟩ := hrel
    clear e0
    have hx := reg_lt (xor_lt hc (by omega : 4294967295 < 4294967296)) (s.data.toList.take k)
    by_cases hlt : k < s.size
    · have HS : Hid (reg (c ^^^ 4294967295) (s.data.toList.take (k + 1)) = runsI (s[k].toNat) 8 (reg (c ^^^ 4294967295) (s.data.toList.take k))) := reg_succ _ s k hlt
      generalize reg (c ^^^ 4294967295) (s.data.toList.take k) = x at *
      go_wp2_with (go_at_call 21; refine (crcByte_any _ _ _ hx (byte_lt _)).mono ?_; rintro e w1 ⟨rfl, rfl⟩)
      go_round
      case rel => exact ⟨k + 1, by omega, by go_num, val_int (by rw [HS.out])⟩
      case measure => simp [intOf]; omega
    · rw [take_all s k (by omega)]
      rw [take_all s k (by omega)] at hx
      generalize hxe : reg (c ^^^ 4294967295) s.data.toList = x at *
      have HX : Hid (reg (c ^^^ 4294967295) s.data.toList = x) := hxe
      clear hxe
      have HE := flip_val x hx
      have HL := xor_lt hx (by omega : 4294967295 < 4294967296)
      generalize hye : x ^^^ 4294967295 = y at *
      have HY : Hid (x ^^^ 4294967295 = y) := hye
      clear hye
      go_wp2
      go_ret
      exact ⟨ret_int (by unfold crcOf; rw [HX.out, HY.out]), rfl⟩

set_option maxHeartbeats 400000 in
theorem implCrcMore_no (c : Int) (s : ByteArray) (w : World) (h : 8000 < s.size ∨ c < 0 ∨ 4294967295 < c) :
    Calls Try.prog 14 #[.int .i64 c, .string s] w fun e w' => e = .returned (.int .i64 0) ∧ w' = w := by
  by_cases h1 : 8000 < s.size
  · go_enter Try.func14, Try.ntmps14
    go_wp2
    go_ret
    exact ⟨rfl, rfl⟩
  have t1 : decide ((8000 : Int) < (s.size : Int)) = false := by rw [decide_eq_false_iff_not]; omega
  by_cases h2 : c < 0
  · go_enter Try.func14, Try.ntmps14
    go_wp2
    go_ret
    exact ⟨rfl, rfl⟩
  have t2 : decide (c < 0) = false := by rw [decide_eq_false_iff_not]; omega
  have h3 : 4294967295 < c := by omega
  go_enter Try.func14, Try.ntmps14
  go_wp2
  go_ret
  exact ⟨rfl, rfl⟩

set_option maxHeartbeats 400000 in
theorem implCrc_yes (s : ByteArray) (w : World) (hs : s.size ≤ 8000) :
    Calls Try.prog 12 #[.string s] w fun e w' => e = .returned (.int .i64 (crcOf 0 s : Nat)) ∧ w' = w := by
  go_enter Try.func12, Try.ntmps12
  go_wp2_with (go_at_call 14; refine (implCrcMore_yes 0 _ _ (by omega) hs).mono ?_; rintro e w1 ⟨rfl, rfl⟩)
  go_ret
  exact ⟨rfl, rfl⟩

end Go.Proofs.Ytcnimhkabeapkae

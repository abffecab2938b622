/- The walk of the specification's l01Dec: a number's digits. -/
import Derived.Test.YtehnklgpdjfcgaaDec
namespace Go.Proofs.Ytehnklgpdjfcgaa
open Go.RowKit

set_option maxRecDepth 10000 in
set_option maxHeartbeats 400000 in
theorem specDec_zero (w : World) :
    Calls Try.prog 83 #[.int .i64 0] w fun e w' => e = .returned (.string (decB 0)) ∧ Below w.heap.size w w' := by
  go_enter Try.func83, Try.ntmps83
  go_wp2
  go_ret
  exact ⟨rfl, Below.refl _ _⟩

set_option maxRecDepth 10000 in
set_option maxHeartbeats 400000 in
theorem specDec_pos (n : Nat) (w : World) (hn : 0 < n) (hm : n ≤ 9223372036854775807) :
    Calls Try.prog 83 #[.int .i64 ((n : Int))] w fun e w' => e = .returned (.string (decB ((n : Int)))) ∧ Below w.heap.size w w' := by
  have q1 : (((n : Int)) == 0) = false := by rw [beq_eq_false_iff_ne]; omega
  have q2 : decide ((n : Int) < 0) = false := by rw [decide_eq_false_iff_not]; omega
  have HD : Hid (decB n = ⟨(decA n).toArray⟩) := by
    show _ = _
    rw [decB, if_neg (by omega), if_neg (by omega)]; rfl
  have hl := decA_twenty (m := n) (by omega)
  go_enter Try.func83, Try.ntmps83
  go_wp2
  go_loopw [0, 4, 5] (fun x o _ wr => ∃ (m : Nat) (z : Int) (l : List UInt8), m ≤ n ∧ x = .int .i64 z ∧ z = (m : Int) ∧ o = .string ⟨l.toArray⟩ ∧ Hid (decA m ++ l = decA n) ∧ Below w.heap.size w wr) (fun x _ _ _ => (intOf x).natAbs)
  case atStart => exact ⟨n, _, [], Nat.le_refl _, rfl, rfl, rfl, List.append_nil _, Below.refl _ _⟩
  case round =>
    obtain ⟨m, z, l, hmn, rfl, rfl, rfl, HL, hb⟩ := hrel
    have hll : l.length ≤ 20 := by
      have := congrArg List.length HL.out
      rw [List.length_append] at this; omega
    have hbs := hb.size
    by_cases h0 : 0 < m
    · have q3 : (((m : Int)) != 0) = true := by rw [bne_iff_ne]; omega
      have hsz : (⟨l.toArray⟩ : ByteArray).size ≤ 20 := hll
      have hr : RowAt (wr.alloc (.cells #[.int .u8 (48 + (m : Int) % 10)] 5)) wr.heap.size 5 (Lib.byteCells [UInt8.ofNat (48 + m % 10)] ++ []) := by
        rw [show (48 + (m : Int) % 10) = ((48 + m % 10 : Nat) : Int) by omega]; exact one_row _ wr _ (by omega)
      have HS : Hid (decA (m / 10) ++ (UInt8.ofNat (48 + m % 10) :: l) = decA n) := dec_step HL.out h0
      have HT : Hid ((⟨[UInt8.ofNat (48 + m % 10)].toArray⟩ : ByteArray) ++ ⟨l.toArray⟩ = ⟨(UInt8.ofNat (48 + m % 10) :: l).toArray⟩) := cons_text _ _
      have hone : (⟨[UInt8.ofNat (48 + m % 10)].toArray⟩ : ByteArray).size ≤ 1 := Nat.le_refl _
      have q4 : decide ((m : Int) % 10 < 0) = false := by rw [decide_eq_false_iff_not]; omega
      go_wp2_with fail
      rw [text_of_row (P := Try.prog) _ 45 9 5 Try.underlying45 Try.underlying5 Try.underlying9 wr.heap.size 1 1 5 _ _ hr rfl]
      clear hr
      generalize (⟨[UInt8.ofNat (48 + m % 10)].toArray⟩ : ByteArray) = b1 at *
      generalize (⟨l.toArray⟩ : ByteArray) = o1 at *
      have hb2 : Below w.heap.size w (wr.alloc (.cells #[.int .u8 (48 + (m : Int) % 10)] 5)) := hb.alloc hbs _
      go_wp2
      go_roundw
      case rel => exact ⟨m / 10, _, UInt8.ofNat (48 + m % 10) :: l, by omega, rfl, by omega, by rw [HT.out], HS, hb2⟩
      case measure => simp [intOf]; omega
    · obtain rfl : m = 0 := by omega
      have HE : Hid (l = decA n) := by
        show _ = _
        rw [← HL.out, decA_zero]; rfl
      go_wp2
      go_ret
      exact ⟨ret_text (by rw [HD.out, HE.out]), hb⟩

set_option maxRecDepth 10000 in
set_option maxHeartbeats 400000 in
theorem specDec_neg (n : Nat) (w : World) (hn : 0 < n) (hm : n ≤ 9223372036854775808) :
    Calls Try.prog 83 #[.int .i64 (-(n : Int))] w fun e w' => e = .returned (.string (decB (-(n : Int)))) ∧ Below w.heap.size w w' := by
  have q1 : ((-(n : Int)) == 0) = false := by rw [beq_eq_false_iff_ne]; omega
  have q2 : -(n : Int) < 0 := by omega
  have HD : Hid (decB (-(n : Int)) = ⟨#[45]⟩ ++ ⟨(decA n).toArray⟩) := by
    show _ = _
    rw [decB, if_neg (by omega), if_pos (by omega), show (-(n : Int)).natAbs = n by omega]
  have hl := decA_twenty (m := n) (by omega)
  go_enter Try.func83, Try.ntmps83
  go_wp2
  go_loopw [0, 4, 5] (fun x o _ wr => ∃ (m : Nat) (z : Int) (l : List UInt8), m ≤ n ∧ x = .int .i64 z ∧ z = -(m : Int) ∧ o = .string ⟨l.toArray⟩ ∧ Hid (decA m ++ l = decA n) ∧ Below w.heap.size w wr) (fun x _ _ _ => (intOf x).natAbs)
  case atStart => exact ⟨n, _, [], Nat.le_refl _, rfl, rfl, rfl, List.append_nil _, Below.refl _ _⟩
  case round =>
    obtain ⟨m, z, l, hmn, rfl, rfl, rfl, HL, hb⟩ := hrel
    have hll : l.length ≤ 20 := by
      have := congrArg List.length HL.out
      rw [List.length_append] at this; omega
    have hbs := hb.size
    by_cases h0 : 0 < m
    · have q3 : ((-(m : Int)) != 0) = true := by rw [bne_iff_ne]; omega
      have hsz : (⟨l.toArray⟩ : ByteArray).size ≤ 20 := hll
      by_cases h10 : 0 < m % 10
      · have q5 : (0 : Int) < (m : Int) % 10 := by omega
        have hr : RowAt (wr.alloc (.cells #[.int .u8 (48 + (m : Int) % 10)] 5)) wr.heap.size 5 (Lib.byteCells [UInt8.ofNat (48 + m % 10)] ++ []) := by
          rw [show (48 + (m : Int) % 10 : Int) = ((48 + m % 10 : Nat) : Int) by omega]; exact one_row _ wr _ (by omega)
        have hb2 : Below w.heap.size w (wr.alloc (.cells #[.int .u8 (48 + (m : Int) % 10)] 5)) := hb.alloc hbs _
        have HS : Hid (decA (m / 10) ++ (UInt8.ofNat (48 + m % 10) :: l) = decA n) := dec_step HL.out h0
        have HT : Hid ((⟨[UInt8.ofNat (48 + m % 10)].toArray⟩ : ByteArray) ++ ⟨l.toArray⟩ = ⟨(UInt8.ofNat (48 + m % 10) :: l).toArray⟩) := cons_text _ _
        have hone : (⟨[UInt8.ofNat (48 + m % 10)].toArray⟩ : ByteArray).size ≤ 1 := Nat.le_refl _
        go_wp2_with fail
        rw [text_of_row (P := Try.prog) _ 45 9 5 Try.underlying45 Try.underlying5 Try.underlying9 wr.heap.size 1 1 5 _ _ hr rfl]
        clear hr
        generalize (⟨[UInt8.ofNat (48 + m % 10)].toArray⟩ : ByteArray) = b1 at *
        generalize (⟨l.toArray⟩ : ByteArray) = o1 at *
        go_wp2
        go_roundw
        case rel => exact ⟨m / 10, _, UInt8.ofNat (48 + m % 10) :: l, by omega, rfl, by omega, by rw [HT.out], HS, hb2⟩
        case measure => simp [intOf]; omega
      · have e10 : (m : Int) % 10 = 0 := by omega
        have q5 : decide ((0 : Int) < (m : Int) % 10) = false := by rw [decide_eq_false_iff_not]; omega
        have hr : RowAt (wr.alloc (.cells #[.int .u8 (48)] 5)) wr.heap.size 5 (Lib.byteCells [UInt8.ofNat (48 + m % 10)] ++ []) := by
          rw [show (48 : Int) = ((48 + m % 10 : Nat) : Int) by omega]; exact one_row _ wr _ (by omega)
        have hb2 : Below w.heap.size w (wr.alloc (.cells #[.int .u8 (48)] 5)) := hb.alloc hbs _
        have HS : Hid (decA (m / 10) ++ (UInt8.ofNat (48 + m % 10) :: l) = decA n) := dec_step HL.out h0
        have HT : Hid ((⟨[UInt8.ofNat (48 + m % 10)].toArray⟩ : ByteArray) ++ ⟨l.toArray⟩ = ⟨(UInt8.ofNat (48 + m % 10) :: l).toArray⟩) := cons_text _ _
        have hone : (⟨[UInt8.ofNat (48 + m % 10)].toArray⟩ : ByteArray).size ≤ 1 := Nat.le_refl _
        go_wp2_with fail
        rw [text_of_row (P := Try.prog) _ 45 9 5 Try.underlying45 Try.underlying5 Try.underlying9 wr.heap.size 1 1 5 _ _ hr rfl]
        clear hr
        generalize (⟨[UInt8.ofNat (48 + m % 10)].toArray⟩ : ByteArray) = b1 at *
        generalize (⟨l.toArray⟩ : ByteArray) = o1 at *
        go_wp2
        go_roundw
        case rel => exact ⟨m / 10, _, UInt8.ofNat (48 + m % 10) :: l, by omega, rfl, by omega, by rw [HT.out], HS, hb2⟩
        case measure => simp [intOf]; omega
    · obtain rfl : m = 0 := by omega
      have HE : Hid (l = decA n) := by
        show _ = _
        rw [← HL.out, decA_zero]; rfl
      have hsz : (⟨l.toArray⟩ : ByteArray).size ≤ 20 := hll
      have HD2 : Hid (decB (-(n : Int)) = ⟨#[45]⟩ ++ ⟨l.toArray⟩) := by
        show _ = _
        rw [HD.out, HE.out]
      clear hll
      generalize (⟨l.toArray⟩ : ByteArray) = o1 at *
      go_wp2
      go_ret
      exact ⟨ret_text HD2.out.symm, hb⟩

end Go.Proofs.Ytehnklgpdjfcgaa

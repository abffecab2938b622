/- Reading a number's bytes as a plain function: what is read, of how many bytes, and a code. -/
import Derived.Test.YtcnimhkabeapkaeDoorBase
import Derived.Laws.BitsAllLaws
import Derived.RowKit
namespace Go.Proofs.YtcnimhkabeapkaeDoor
/-- the byte b, the last one that is looked at, behind k others that carry u: the number, of how many bytes, the code -/
def rdLast (b k u : Nat) : Nat × Nat × Nat := if (k = 9 ∧ 1 < b) ∨ (0 < k ∧ b = 0) then (0, 0, 3) else (u + b * 128 ^ k, k + 1, 0)
/-- the bytes behind k others that carry u -/
def rd : List UInt8 → Nat → Nat → Nat × Nat × Nat
  | [], _, _ => (0, 0, 4)
  | b :: l, k, u => if 128 ≤ b.toNat ∧ k ≠ 9 then rd l (k + 1) (u + (b.toNat - 128) * 128 ^ k) else rdLast b.toNat k u
theorem drop_at (s : ByteArray) (k : Nat) (h : k < s.size) : s.data.toList.drop k = s[k] :: s.data.toList.drop (k + 1) := by
  rw [List.drop_eq_getElem_cons (by simpa using h)]; rfl
theorem rd_end {s : ByteArray} {k u : Nat} (h : s.size ≤ k) : rd (s.data.toList.drop k) k u = (0, 0, 4) := by
  rw [List.drop_eq_nil_of_le (by simpa using h)]; rfl
theorem rd_more {s : ByteArray} {m k u : Nat} (h : m < s.size) (hb : 128 ≤ s[m].toNat) (hk : k ≠ 9) : rd (s.data.toList.drop m) k u = rd (s.data.toList.drop (m + 1)) (k + 1) (u + (s[m].toNat - 128) * 128 ^ k) := by
  rw [drop_at s m h, rd, if_pos ⟨hb, hk⟩]
theorem rd_last {s : ByteArray} {m k u : Nat} (h : m < s.size) (hb : s[m].toNat < 128 ∨ k = 9) : rd (s.data.toList.drop m) k u = rdLast s[m].toNat k u := by
  rw [drop_at s m h, rd, if_neg (by omega)]
theorem rdLast_no {b k u : Nat} (h : (k = 9 ∧ 1 < b) ∨ (0 < k ∧ b = 0)) : rdLast b k u = (0, 0, 3) := by rw [rdLast, if_pos h]
theorem rdLast_yes {b k u : Nat} (h : ¬ ((k = 9 ∧ 1 < b) ∨ (0 < k ∧ b = 0))) : rdLast b k u = (u + b * 128 ^ k, k + 1, 0) := by rw [rdLast, if_neg h]
theorem pow_seven (k : Nat) : 128 ^ k = 2 ^ (7 * k) := by rw [Nat.pow_mul]
/-- a part laid on above what is there -/
theorem or_part (u x k : Nat) (hu : u < 128 ^ k) : u ||| x * 128 ^ k = u + x * 128 ^ k := by
  rw [Nat.or_comm, pow_seven] 
  rw [pow_seven] at hu
  rw [nat_join (7 * k) _ u (by rw [Nat.mul_mod_left]) hu, Nat.add_comm]
theorem part_lt {u x k : Nat} (hu : u < 128 ^ k) (hx : x < 128) : u + x * 128 ^ k < 128 ^ (k + 1) := by
  rw [Nat.pow_succ]
  have : x * 128 ^ k ≤ 127 * 128 ^ k := Nat.mul_le_mul_right _ (by omega)
  omega
theorem pow_le {k : Nat} (hk : k ≤ 9) : 128 ^ k ≤ 9223372036854775808 := Nat.le_trans (Nat.pow_le_pow_right (by omega) hk) (by decide)
theorem pow_le8 {k : Nat} (hk : k ≤ 8) : 128 ^ k ≤ 72057594037927936 := Nat.le_trans (Nat.pow_le_pow_right (by omega) hk) (by decide)
theorem or_val {u x k : Nat} (hk : k ≤ 9) (hu : u < 128 ^ k) (hx : x * 128 ^ k < 18446744073709551616) :
    bits .or .u64 (u : Int) (IntKind.u64.wrap ((x : Int) * 2 ^ (7 * k))) = ((u + x * 128 ^ k : Nat) : Int) := by
  have h1 := pow_le hk
  have e : ((x : Int) * 2 ^ (7 * k)) = ((x * 128 ^ k : Nat) : Int) := by rw [pow_seven]; simp
  have e2 : IntKind.u64.wrap ((x * 128 ^ k : Nat) : Int) = ((x * 128 ^ k : Nat) : Int) := by rw [IntKind.wrap_u64]; omega
  rw [e, e2, u64_or_nat u _ (by omega) hx, or_part u x k hu]
theorem add_val {u x k : Nat} (hx : x * 128 ^ k < 18446744073709551616) (hs : u + x * 128 ^ k < 18446744073709551616) :
    IntKind.u64.wrap ((u : Int) + IntKind.u64.wrap ((x : Int) * 2 ^ (7 * k))) = ((u + x * 128 ^ k : Nat) : Int) := by
  have e : ((x : Int) * 2 ^ (7 * k)) = ((x * 128 ^ k : Nat) : Int) := by rw [pow_seven]; simp
  have e2 : IntKind.u64.wrap ((x * 128 ^ k : Nat) : Int) = ((x * 128 ^ k : Nat) : Int) := by rw [IntKind.wrap_u64]; omega
  rw [e, e2, IntKind.wrap_u64]; omega
theorem small_part {x k : Nat} (hk : k ≤ 8) (hx : x < 128) : x * 128 ^ k < 18446744073709551616 := by
  have h1 := pow_le8 hk
  have h2 : x * 128 ^ k ≤ 127 * 128 ^ k := Nat.mul_le_mul_right _ (by omega)
  omega
theorem one_part {x k : Nat} (hk : k ≤ 9) (hx : x ≤ 1) : x * 128 ^ k < 18446744073709551616 := by
  have h1 := pow_le hk
  have h2 : x * 128 ^ k ≤ 1 * 128 ^ k := Nat.mul_le_mul_right _ hx
  omega
theorem rdLast_facts {b k u : Nat} (hk : k ≤ 9) (hu : u < 128 ^ k) (hb : b < 128 ∨ k = 9) :
    (rdLast b k u).1 < 18446744073709551616 ∧ (rdLast b k u).2.1 ≤ k + 1 ∧ (rdLast b k u).2.2 ≤ 4 ∧ (¬ (rdLast b k u).2.2 = 0 → (rdLast b k u).1 = 0 ∧ (rdLast b k u).2.1 = 0) := by
  by_cases h : (k = 9 ∧ 1 < b) ∨ (0 < k ∧ b = 0)
  · rw [rdLast_no h]; simp
  · rw [rdLast_yes h]
    have h1 := pow_le hk
    refine ⟨?_, by simp, by simp, by simp⟩
    show u + b * 128 ^ k < _
    by_cases h9 : k = 9
    · have h2 : b * 128 ^ k ≤ 1 * 128 ^ k := Nat.mul_le_mul_right _ (by omega)
      omega
    · have h8 := pow_le8 (show k ≤ 8 by omega)
      have h2 : b * 128 ^ k ≤ 127 * 128 ^ k := Nat.mul_le_mul_right _ (by omega)
      omega
theorem rd_facts (l : List UInt8) : ∀ k u, k ≤ 9 → u < 128 ^ k →
    (rd l k u).1 < 18446744073709551616 ∧ (rd l k u).2.1 ≤ 10 ∧ (rd l k u).2.1 ≤ k + l.length ∧ (rd l k u).2.2 ≤ 4 ∧ (¬ (rd l k u).2.2 = 0 → (rd l k u).1 = 0 ∧ (rd l k u).2.1 = 0) := by
  induction l with
  | nil => intro k u _ _; simp [rd]
  | cons b l ih =>
    intro k u hk hu
    rw [rd]
    split
    · rename_i h
      have hb := b.toNat_lt
      have := ih (k + 1) (u + (b.toNat - 128) * 128 ^ k) (by omega) (part_lt hu (by omega))
      simp only [List.length_cons]
      refine ⟨this.1, this.2.1, by omega, this.2.2.2.1, this.2.2.2.2⟩
    · rename_i h
      have := rdLast_facts (b := b.toNat) hk hu (by omega)
      simp only [List.length_cons]
      exact ⟨this.1, by omega, by omega, this.2.2.1, this.2.2.2⟩
/-- the number that u carries -/
def unf (u : Nat) : Int := if u % 2 = 1 then -((u / 2 : Nat) : Int) - 1 else ((u / 2 : Nat) : Int)
theorem i64_flip (a : Nat) (ha : a < 9223372036854775808) : bits .xor .i64 (a : Int) (-1) = -(a : Int) - 1 := by
  show IntKind.i64.wrap ((BitVec.ofInt 64 (a : Int) ^^^ BitVec.ofInt 64 (-1)).toNat : Int) = _
  have h1 : BitVec.ofInt 64 (-1) = BitVec.allOnes 64 := by decide
  rw [h1, BitVec.xor_allOnes, BitVec.toNat_not, ofInt_u64 a (by omega)]
  simp [IntKind.wrap, IntKind.bits, IntKind.signed]
  omega
theorem i64_keep (a : Nat) (ha : a < 9223372036854775808) : bits .xor .i64 (a : Int) 0 = (a : Int) := by
  show IntKind.i64.wrap ((BitVec.ofInt 64 (a : Int) ^^^ BitVec.ofInt 64 0).toNat : Int) = _
  have h1 : BitVec.ofInt 64 0 = 0#64 := by decide
  rw [h1, BitVec.xor_zero, ofInt_u64 a (by omega)]
  simp [IntKind.wrap, IntKind.bits, IntKind.signed]
  omega
theorem unf_val {u : Nat} (hu : u < 18446744073709551616) : bits .xor .i64 ((u : Int) / 2) (RowKit.wrap64 (-RowKit.wrap64 (bits .and .u64 (u : Int) 1))) = unf u := by
  have e1 : bits .and .u64 (u : Int) 1 = ((u % 2 : Nat) : Int) := by
    have := u64_and_nat u 1 hu (by omega)
    rw [Int.natCast_one] at this
    rw [this, nat_mask1]
  have e2 : ((u : Int) / 2) = ((u / 2 : Nat) : Int) := by simp
  rw [e1, e2]
  unfold unf
  by_cases h : u % 2 = 1
  · rw [h, if_pos rfl, show RowKit.wrap64 (-RowKit.wrap64 ((1 : Nat) : Int)) = -1 by decide]
    exact i64_flip _ (by omega)
  · rw [show u % 2 = 0 by omega, if_neg (by omega), show RowKit.wrap64 (-RowKit.wrap64 ((0 : Nat) : Int)) = 0 by decide]
    exact i64_keep _ (by omega)
/-- what GetNum tells: the number, the place behind it, the code -/
def numR (s : ByteArray) (at_ : Int) : Int × Int × Nat :=
  if 8000 < s.size then (0, 0, 2) else if at_ < 0 then (0, 0, 1)
  else if (rd (s.data.toList.drop at_.toNat) 0 0).2.2 = 0 then (unf (rd (s.data.toList.drop at_.toNat) 0 0).1, at_ + (rd (s.data.toList.drop at_.toNat) 0 0).2.1, 0)
  else (0, 0, (rd (s.data.toList.drop at_.toNat) 0 0).2.2)
theorem unf_odd {v : Nat} (h : v % 2 = 1) : unf v = -((v : Int) / 2) - 1 := by unfold unf; rw [if_pos h]; simp
theorem unf_even {v : Nat} (h : ¬ v % 2 = 1) : unf v = (v : Int) / 2 := by unfold unf; rw [if_neg h]; simp
theorem numR_size {s : ByteArray} {p : Int} (h : 8000 < s.size) : numR s p = (0, 0, 2) := by rw [numR, if_pos h]
theorem numR_neg {s : ByteArray} {p : Int} (h : ¬ 8000 < s.size) (h2 : p < 0) : numR s p = (0, 0, 1) := by rw [numR, if_neg h, if_pos h2]
theorem numR_far {s : ByteArray} {p : Int} (h : ¬ 8000 < s.size) (h2 : ¬ p < 0) (h3 : (s.size : Int) < p) : numR s p = (0, 0, 4) := by
  have e : rd (s.data.toList.drop p.toNat) 0 0 = (0, 0, 4) := by rw [List.drop_eq_nil_of_le (by simp only [Array.length_toList]; show s.size ≤ _; omega)]; rfl
  rw [numR, if_neg h, if_neg h2, e]; rfl
theorem numR_no {s : ByteArray} {p : Int} {u n c : Nat} (h : ¬ 8000 < s.size) (h2 : ¬ p < 0) (hr : rd (s.data.toList.drop p.toNat) 0 0 = (u, n, c)) (hc : ¬ c = 0) : numR s p = (0, 0, c) := by
  rw [numR, if_neg h, if_neg h2, hr]; simp [hc]
theorem numR_yes {s : ByteArray} {p : Int} {u n : Nat} (h : ¬ 8000 < s.size) (h2 : ¬ p < 0) (hr : rd (s.data.toList.drop p.toNat) 0 0 = (u, n, 0)) : numR s p = (unf u, p + n, 0) := by
  rw [numR, if_neg h, if_neg h2, hr]; simp
end Go.Proofs.YtcnimhkabeapkaeDoor

/- A number's bytes as a plain function (seven bits a byte, the lowest first), and the number that they carry. -/
import Derived.Test.YtcnimhkabeapkadBase
import Derived.Laws.BitsAllLaws
namespace Go.Proofs.Ytcnimhkabeapkad
/-- 2 times n, or -2 times n less 1 below 0 -/
def foldN (n : Int) : Nat := if n < 0 then (-2 * n - 1).toNat else (2 * n).toNat
/-- seven bits a byte, the lowest first, 128 more in all bytes but the last; f: more than enough rounds -/
def numF : Nat → Nat → List UInt8
  | 0, u => [UInt8.ofNat u]
  | f + 1, u => if u < 128 then [UInt8.ofNat u] else UInt8.ofNat (u % 128 + 128) :: numF f (u / 128)
def numB (u : Nat) : List UInt8 := numF u u
theorem numF_enough (f : Nat) : ∀ g u, u ≤ f → u ≤ g → numF f u = numF g u := by
  induction f with
  | zero =>
    intro g u hf _
    obtain rfl : u = 0 := by omega
    cases g with
    | zero => rfl
    | succ g => rw [numF, numF, if_pos (by omega)]
  | succ f ih =>
    intro g u hf hg
    cases g with
    | zero =>
      obtain rfl : u = 0 := by omega
      rw [numF, numF, if_pos (by omega)]
    | succ g =>
      rw [numF, numF]
      split
      · rfl
      · rw [ih g (u / 128) (by omega) (by omega)]
theorem numB_small {u : Nat} (h : u < 128) : numB u = [UInt8.ofNat u] := by
  unfold numB
  cases u with
  | zero => rfl
  | succ u => rw [numF, if_pos h]
theorem numB_big {u : Nat} (h : ¬ u < 128) : numB u = UInt8.ofNat (u % 128 + 128) :: numB (u / 128) := by
  unfold numB
  cases u with
  | zero => omega
  | succ u => rw [numF, if_neg h, numF_enough u ((u + 1) / 128) ((u + 1) / 128) (by omega) (by omega)]
theorem numB_len (k u : Nat) (h : u < 128 ^ (k + 1)) : (numB u).length ≤ k + 1 := by
  induction k generalizing u with
  | zero => rw [numB_small (by simpa using h)]; simp
  | succ k ih =>
    by_cases hs : u < 128
    · rw [numB_small hs]; simp
    · rw [numB_big hs]
      have := ih (u / 128) (by rw [Nat.div_lt_iff_lt_mul (by omega)]; rw [Nat.pow_succ] at h; omega)
      simp; omega
theorem numB_ten {u : Nat} (h : u < 18446744073709551616) : (numB u).length ≤ 10 := numB_len 9 u (Nat.lt_trans h (by decide))
theorem numB_pos (u : Nat) : 0 < (numB u).length := by
  by_cases hs : u < 128
  · rw [numB_small hs]; simp
  · rw [numB_big hs]; simp
theorem byte_of_small {u : Nat} (h : u < 256) : ((UInt8.ofNat u).toNat : Int) = (u : Int) := by
  rw [UInt8.toNat_ofNat']; omega
theorem foldN_lt {n : Int} (h1 : -9223372036854775808 ≤ n) (h2 : n ≤ 9223372036854775807) : foldN n < 18446744073709551616 := by
  unfold foldN; split <;> omega
theorem xor_ones (x : Nat) (hx : x < 18446744073709551616) : x ^^^ 18446744073709551615 = 18446744073709551615 - x := by
  have h := congrArg BitVec.toNat (BitVec.xor_allOnes (x := BitVec.ofNat 64 x))
  rw [BitVec.toNat_xor, BitVec.toNat_not, BitVec.toNat_allOnes, BitVec.toNat_ofNat, Nat.mod_eq_of_lt (by omega)] at h
  simpa using h
theorem fold_neg {n : Int} (h1 : -9223372036854775808 ≤ n) (h : n < 0) :
    bits .xor .u64 (IntKind.u64.wrap (IntKind.u64.wrap n * 2)) (IntKind.u64.wrap (n / 9223372036854775808)) = ((foldN n : Nat) : Int) := by
  have e1 : IntKind.u64.wrap (n / 9223372036854775808) = ((18446744073709551615 : Nat) : Int) := by rw [IntKind.wrap_u64]; omega
  have e2 : IntKind.u64.wrap (IntKind.u64.wrap n * 2) = (((2 * n + 18446744073709551616).toNat : Nat) : Int) := by rw [IntKind.wrap_u64, IntKind.wrap_u64]; omega
  rw [e1, e2, u64_xor_nat _ _ (by omega) (by omega), xor_ones _ (by omega)]
  unfold foldN
  rw [if_pos h]
  omega
theorem fold_pos {n : Int} (h2 : n ≤ 9223372036854775807) (h : 0 ≤ n) : bits .xor .u64 (n * 2) (n / 9223372036854775808) = ((foldN n : Nat) : Int) := by
  have e1 : n / 9223372036854775808 = ((0 : Nat) : Int) := by omega
  have e2 : n * 2 = (((n * 2).toNat : Nat) : Int) := by omega
  rw [e1, e2, u64_xor_nat _ _ (by omega) (by omega), Nat.xor_zero]
  unfold foldN
  rw [if_neg (by omega)]
  omega
theorem grow_step {l : List UInt8} {v u : Nat} (h : l ++ numB v = numB u) (hv : ¬ v < 128) : (l ++ [UInt8.ofNat (v % 128 + 128)]) ++ numB (v / 128) = numB u := by
  rw [← h, numB_big hv]; simp
theorem grow_len {l : List UInt8} {v u : Nat} (h : l ++ numB v = numB u) (hu : u < 18446744073709551616) : l.length ≤ 9 := by
  have h1 := numB_ten hu
  have h2 := numB_pos v
  rw [← h, List.length_append] at h1
  omega
theorem grow_more {l : List UInt8} {v u : Nat} (h : l ++ numB v = numB u) (hu : u < 18446744073709551616) (hv : ¬ v < 128) : l.length ≤ 8 := by
  have h1 := numB_ten hu
  have h2 := numB_pos (v / 128)
  rw [← h, List.length_append, numB_big hv, List.length_cons] at h1
  omega
end Go.Proofs.Ytcnimhkabeapkad

/- A number's digits, as a plain function. -/
import Derived.Test.YtehnklgpdjfcgaaRow
namespace Go.Proofs.Ytehnklgpdjfcgaa
open Go.RowKit
/-- the digits of m, none of 0; f: more than enough rounds -/
def decF : Nat → Nat → List UInt8
  | 0, _ => []
  | f + 1, m => if m = 0 then [] else decF f (m / 10) ++ [UInt8.ofNat (48 + m % 10)]
def decA (m : Nat) : List UInt8 := decF m m
theorem decF_enough (f : Nat) : ∀ g m, m ≤ f → m ≤ g → decF f m = decF g m := by
  induction f with
  | zero =>
    intro g m hf _
    obtain rfl : m = 0 := by omega
    cases g with
    | zero => rfl
    | succ g => rw [decF, decF, if_pos rfl]
  | succ f ih =>
    intro g m hf hg
    cases g with
    | zero =>
      obtain rfl : m = 0 := by omega
      rw [decF, decF, if_pos rfl]
    | succ g =>
      rw [decF, decF]
      split
      · rfl
      · rw [ih g (m / 10) (by omega) (by omega)]
theorem decA_zero : decA 0 = [] := rfl
theorem decA_pos {m : Nat} (h : 0 < m) : decA m = decA (m / 10) ++ [UInt8.ofNat (48 + m % 10)] := by
  unfold decA
  cases m with
  | zero => omega
  | succ m => rw [decF, if_neg (by omega), decF_enough m ((m + 1) / 10) ((m + 1) / 10) (by omega) (by omega)]
theorem decA_len (k : Nat) : ∀ m, m < 10 ^ k → (decA m).length ≤ k := by
  induction k with
  | zero => intro m h; obtain rfl : m = 0 := by simpa using h
            exact Nat.le_refl _
  | succ k ih =>
    intro m h
    by_cases h0 : m = 0
    · subst h0; rw [decA_zero]; simp
    · rw [decA_pos (by omega)]
      have := ih (m / 10) (by rw [Nat.div_lt_iff_lt_mul (by omega)]; rw [Nat.pow_succ] at h; omega)
      simp; omega
theorem decA_twenty {m : Nat} (h : m ≤ 9223372036854775808) : (decA m).length ≤ 20 := decA_len 20 m (Nat.lt_of_le_of_lt h (by decide))
/-- the digits of a number, a sign ahead of one below 0 -/
def decB (n : Int) : ByteArray := if n = 0 then ⟨#[48]⟩ else if n < 0 then ⟨#[45]⟩ ++ ⟨(decA n.natAbs).toArray⟩ else ⟨(decA n.natAbs).toArray⟩
theorem dec_step {m m0 : Nat} {o : List UInt8} (h : decA m ++ o = decA m0) (hm : 0 < m) : decA (m / 10) ++ (UInt8.ofNat (48 + m % 10) :: o) = decA m0 := by
  rw [← h, decA_pos hm]; simp
theorem one_row (k : Nat) (w : World) (t : TypeId) (hk : k < 256) : RowAt (w.alloc (.cells #[.int .u8 (k : Int)] t)) w.heap.size t (Lib.byteCells [UInt8.ofNat k] ++ []) := by
  unfold RowAt; rw [heap_alloc_new]
  simp [Lib.byteCells]
  omega
theorem cons_text (b : UInt8) (o : List UInt8) : (⟨[b].toArray⟩ : ByteArray) ++ ⟨o.toArray⟩ = ⟨(b :: o).toArray⟩ := by
  apply ByteArray.ext; simp
end Go.Proofs.Ytehnklgpdjfcgaa

/- The library's digits of a number are decB's. -/
import Derived.Test.YtmlacbjlafdenaaDoorDec
import Derived.Lib.ItoaMem
namespace Go.Proofs.YtmlacbjlafdenaaDoor
theorem decA_lib (m : Nat) (h : 0 < m) : Lib.decDigits m = decA m := by
  induction m using Nat.strongRecOn with
  | _ m ih =>
    rw [Lib.decDigits, decA_pos h]
    split
    · rename_i h10
      rw [show m / 10 = 0 by omega, decA_zero, Nat.mod_eq_of_lt h10]; rfl
    · rw [ih (m / 10) (by omega) (by omega)]
theorem dec_lib (n : Nat) : (⟨(Lib.itoa (n : Int)).toArray⟩ : ByteArray) = decB (n : Int) := by
  rw [Lib.itoa_nonneg]
  unfold decB
  by_cases h : n = 0
  · subst h
    rw [if_pos (by omega), Lib.decDigits_one (by decide)]; rfl
  · rw [if_neg (by omega), if_neg (by omega), decA_lib n (by omega)]; rfl
end Go.Proofs.YtmlacbjlafdenaaDoor

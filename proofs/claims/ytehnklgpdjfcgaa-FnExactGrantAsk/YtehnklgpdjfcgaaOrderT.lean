/- The order of texts as a number, and of pairs of texts. -/
import Derived.Test.YtehnklgpdjfcgaaPutT
import Derived.Lib.Bytealg
namespace Go.Proofs.Ytehnklgpdjfcgaa
theorem cmp_lt : ∀ x y : List UInt8, Lib.compareBytes x y = (if x < y then -1 else if x = y then 0 else 1)
  | [], [] => by simp [Lib.compareBytes]
  | _ :: _, [] => by simp [Lib.compareBytes]
  | [], _ :: _ => by simp [Lib.compareBytes]
  | a :: x, b :: y => by
    rw [Lib.compareBytes, cmp_lt x y]
    by_cases h : a < b
    · rw [if_pos h, if_pos (by rw [List.cons_lt_cons_iff]; exact .inl h)]
    · rw [if_neg h]
      by_cases h2 : b < a
      · rw [if_pos h2, if_neg (by rw [List.cons_lt_cons_iff]; rintro (e | ⟨e, -⟩); exact h e; subst e; exact h h2), if_neg (by rintro e; injection e with e; subst e; exact h h2)]
      · rw [if_neg h2]
        obtain rfl : a = b := by
          rcases UInt8.lt_or_eq_of_le (UInt8.not_lt.1 h2) with e | e
          · exact absurd e h
          · exact e
        have e1 : (a :: x < a :: y) ↔ x < y := by rw [List.cons_lt_cons_iff]; simp
        have e2 : (a :: x = a :: y) ↔ x = y := by simp
        simp only [e1, e2]
/-- a pair of texts stands ahead of another -/
def ltK (a b : List UInt8 × List UInt8) : Prop := a.1 < b.1 ∨ a.1 = b.1 ∧ a.2 < b.2
theorem ltK_irrefl (a : List UInt8 × List UInt8) : ¬ ltK a a := by
  rintro (h | ⟨-, h⟩)
  · exact List.lt_irrefl _ h
  · exact List.lt_irrefl _ h
theorem ltK_trans {a b c : List UInt8 × List UInt8} (h1 : ltK a b) (h2 : ltK b c) : ltK a c := by
  rcases h1 with h1 | ⟨e1, h1⟩ <;> rcases h2 with h2 | ⟨e2, h2⟩
  · exact .inl (List.lt_trans h1 h2)
  · exact .inl (e2 ▸ h1)
  · exact .inl (e1 ▸ h2)
  · exact .inr ⟨e1.trans e2, List.lt_trans h1 h2⟩
theorem ltK_tri (a b : List UInt8 × List UInt8) : ltK a b ∨ a = b ∨ ltK b a := by
  rcases lt_tri a.1 b.1 with h | h | h
  · exact .inl (.inl h)
  · rcases lt_tri a.2 b.2 with h2 | h2 | h2
    · exact .inl (.inr ⟨h, h2⟩)
    · exact .inr (.inl (Prod.ext h h2))
    · exact .inr (.inr (.inr ⟨h.symm, h2⟩))
  · exact .inr (.inr (.inl h))
def cmpK (a b : List UInt8 × List UInt8) : Int := if Lib.compareBytes a.1 b.1 = 0 then Lib.compareBytes a.2 b.2 else Lib.compareBytes a.1 b.1
theorem cmpK_eq (a b : List UInt8 × List UInt8) : (ltK a b ∧ cmpK a b = -1) ∨ (a = b ∧ cmpK a b = 0) ∨ (ltK b a ∧ cmpK a b = 1) := by
  unfold cmpK
  rw [cmp_lt, cmp_lt]
  rcases lt_tri a.1 b.1 with h | h | h
  · exact .inl ⟨.inl h, by simp [h]⟩
  · rcases lt_tri a.2 b.2 with h2 | h2 | h2
    · exact .inl ⟨.inr ⟨h, h2⟩, by simp [h, h2, List.lt_irrefl]⟩
    · exact .inr (.inl ⟨Prod.ext h h2, by simp [h, h2, List.lt_irrefl]⟩)
    · have n2 : ¬ a.2 < b.2 := fun e => List.lt_irrefl _ (List.lt_trans e h2)
      have n3 : ¬ a.2 = b.2 := fun e => by rw [e] at h2; exact List.lt_irrefl _ h2
      exact .inr (.inr ⟨.inr ⟨h.symm, h2⟩, by simp [h, n2, n3, List.lt_irrefl]⟩)
  · have n2 : ¬ a.1 < b.1 := fun e => List.lt_irrefl _ (List.lt_trans e h)
    have n3 : ¬ a.1 = b.1 := fun e => by rw [e] at h; exact List.lt_irrefl _ h
    exact .inr (.inr ⟨.inl h, by simp [n2, n3]⟩)
end Go.Proofs.Ytehnklgpdjfcgaa

/- What NameRight says of a text, as a plain function: the facts that the two walks (the program's and the specification's) close with. -/
import Derived.Test.YtimmoclemcnhnaaBase
namespace Go.Proofs.Ytimmoclemcnhnaa
/-- may byte c stand at place i of a name? -/
def okB (i : Nat) (c : Int) : Bool := decide ((97 ≤ c ∧ c ≤ 122) ∨ (0 < i ∧ ((48 ≤ c ∧ c ≤ 57) ∨ c = 95)))
def nameB (s : ByteArray) : Bool := decide (1 ≤ s.size ∧ s.size ≤ 20 ∧ ∀ i (h : i < s.size), okB i (s[i].toNat : Int) = true)
theorem nameB_false_of_size {s : ByteArray} (h : s.size < 1 ∨ 20 < s.size) : nameB s = false := by
  unfold nameB; rw [decide_eq_false_iff_not]; rintro ⟨a, b, _⟩; omega
theorem nameB_false_at {s : ByteArray} (k : Nat) (h : k < s.size) (hk : okB k (s[k].toNat : Int) = false) : nameB s = false := by
  unfold nameB; rw [decide_eq_false_iff_not]; rintro ⟨_, _, c⟩; rw [c k h] at hk; cases hk
theorem nameB_true {s : ByteArray} (h1 : 1 ≤ s.size) (h2 : s.size ≤ 20) (h : ∀ i (h : i < s.size), okB i (s[i].toNat : Int) = true) : nameB s = true := by
  unfold nameB; rw [decide_eq_true_iff]; exact ⟨h1, h2, h⟩
theorem ok_succ {s : ByteArray} {k : Nat} (hr : ∀ i (h : i < s.size), i < k → okB i (s[i].toNat : Int) = true) (hk : k < s.size) (ho : okB k (s[k].toNat : Int) = true) :
    ∀ i (h : i < s.size), i < k + 1 → okB i (s[i].toNat : Int) = true := by
  intro i h hi
  by_cases e : i = k
  · subst e; exact ho
  · exact hr i h (by omega)
theorem byte_cases (c : Int) :
    (decide (48 ≤ c) = false ∧ decide (97 ≤ c) = false ∧ (c != 95) = true ∧ c ≤ 47) ∨
    (48 ≤ c ∧ c ≤ 57 ∧ decide (97 ≤ c) = false ∧ (c != 95) = true) ∨
    (48 ≤ c ∧ decide (c ≤ 57) = false ∧ decide (97 ≤ c) = false ∧ (c != 95) = true ∧ 58 ≤ c ∧ c ≤ 96 ∧ ¬ c = 95) ∨
    (48 ≤ c ∧ decide (c ≤ 57) = false ∧ decide (97 ≤ c) = false ∧ (c != 95) = false ∧ 95 ≤ c ∧ c ≤ 95) ∨
    (97 ≤ c ∧ c ≤ 122) ∨
    (97 ≤ c ∧ decide (c ≤ 122) = false ∧ 48 ≤ c ∧ decide (c ≤ 57) = false ∧ (c != 95) = true ∧ 123 ≤ c) := by
  simp only [decide_eq_false_iff_not, bne_iff_ne, ne_eq, bne_eq_false_iff_eq]; omega
theorem okB_of {k : Nat} {c : Int} (h : (97 ≤ c ∧ c ≤ 122) ∨ (0 < k ∧ ((48 ≤ c ∧ c ≤ 57) ∨ c = 95))) : okB k c = true := by unfold okB; rw [decide_eq_true_iff]; exact h
theorem okB_not {k : Nat} {c : Int} (h : ¬ ((97 ≤ c ∧ c ≤ 122) ∨ (0 < k ∧ ((48 ≤ c ∧ c ≤ 57) ∨ c = 95)))) : okB k c = false := by unfold okB; rw [decide_eq_false_iff_not]; exact h
theorem name_one {s : ByteArray} (hp : 0 < s.size) (h0 : okB 0 (s[0].toNat : Int) = true) : ∀ i (h : i < s.size), i < 1 → okB i (s[i].toNat : Int) = true := by
  intro i h hi
  obtain rfl : i = 0 := by omega
  exact h0
end Go.Proofs.Ytimmoclemcnhnaa

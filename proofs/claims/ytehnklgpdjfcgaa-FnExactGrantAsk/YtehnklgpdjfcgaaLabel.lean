/- What a label and a path of a url are, as plain functions, with the facts that walks close with. -/
import Derived.Test.YtehnklgpdjfcgaaBase
namespace Go.Proofs.Ytehnklgpdjfcgaa
/-- may the byte stand in a label? -/
def labC (c : Nat) : Bool := decide ((97 ≤ c ∧ c ≤ 122) ∨ (48 ≤ c ∧ c ≤ 57) ∨ c = 45)
def labelB (t : ByteArray) : Bool := decide (1 ≤ t.size ∧ t.size ≤ 12 ∧ (∀ h : 0 < t.size, ¬ t[0].toNat = 45) ∧ (∀ h : t.size - 1 < t.size, ¬ t[t.size - 1].toNat = 45) ∧ ∀ i (h : i < t.size), labC t[i].toNat = true)
theorem labelB_size {t : ByteArray} (h : t.size < 1 ∨ 12 < t.size) : labelB t = false := by
  unfold labelB; rw [decide_eq_false_iff_not]; rintro ⟨a, b, _⟩; omega
theorem labelB_first {t : ByteArray} (h : 0 < t.size) (hc : t[0].toNat = 45) : labelB t = false := by
  unfold labelB; rw [decide_eq_false_iff_not]; rintro ⟨_, _, a, _⟩; exact a h hc
theorem labelB_last {t : ByteArray} (h : t.size - 1 < t.size) (hc : t[t.size - 1].toNat = 45) : labelB t = false := by
  unfold labelB; rw [decide_eq_false_iff_not]; rintro ⟨_, _, _, a, _⟩; exact a h hc
theorem labelB_at {t : ByteArray} (k : Nat) (h : k < t.size) (hk : labC t[k].toNat = false) : labelB t = false := by
  unfold labelB; rw [decide_eq_false_iff_not]; rintro ⟨_, _, _, _, c⟩; rw [c k h] at hk; cases hk
theorem labelB_true {t : ByteArray} (h1 : 1 ≤ t.size) (h2 : t.size ≤ 12) (h3 : ∀ h : 0 < t.size, ¬ t[0].toNat = 45) (h4 : ∀ h : t.size - 1 < t.size, ¬ t[t.size - 1].toNat = 45)
    (h : ∀ i (h : i < t.size), labC t[i].toNat = true) : labelB t = true := by
  unfold labelB; rw [decide_eq_true_iff]; exact ⟨h1, h2, h3, h4, h⟩
theorem labC_yes {c : Nat} (h : (97 ≤ c ∧ c ≤ 122) ∨ (48 ≤ c ∧ c ≤ 57) ∨ c = 45) : labC c = true := by unfold labC; rw [decide_eq_true_iff]; exact h
theorem labC_no {c : Nat} (h : ¬ ((97 ≤ c ∧ c ≤ 122) ∨ (48 ≤ c ∧ c ≤ 57) ∨ c = 45)) : labC c = false := by unfold labC; rw [decide_eq_false_iff_not]; exact h
theorem all_succ {t : ByteArray} {P : Nat → Bool} {k : Nat} (hr : ∀ i (h : i < t.size), i < k → P t[i].toNat = true) (hk : k < t.size) (ho : P t[k].toNat = true) :
    ∀ i (h : i < t.size), i < k + 1 → P t[i].toNat = true := by
  intro i h hi
  by_cases e : i = k
  · subst e; exact ho
  · exact hr i h (by omega)
/-- may the byte stand in a path? -/
def pathC (c : Nat) : Bool := decide (33 ≤ c ∧ c ≤ 126 ∧ ¬ c = 63 ∧ ¬ c = 35 ∧ ¬ c = 59)
def pathB (t : ByteArray) : Bool := decide (1 ≤ t.size ∧ t.size ≤ 40 ∧ (∀ h : 0 < t.size, t[0].toNat = 47) ∧ ∀ i (h : i < t.size), pathC t[i].toNat = true)
theorem pathB_size {t : ByteArray} (h : t.size < 1 ∨ 40 < t.size) : pathB t = false := by
  unfold pathB; rw [decide_eq_false_iff_not]; rintro ⟨a, b, _⟩; omega
theorem pathB_first {t : ByteArray} (h : 0 < t.size) (hc : ¬ t[0].toNat = 47) : pathB t = false := by
  unfold pathB; rw [decide_eq_false_iff_not]; rintro ⟨_, _, a, _⟩; exact hc (a h)
theorem pathB_at {t : ByteArray} (k : Nat) (h : k < t.size) (hk : pathC t[k].toNat = false) : pathB t = false := by
  unfold pathB; rw [decide_eq_false_iff_not]; rintro ⟨_, _, _, c⟩; rw [c k h] at hk; cases hk
theorem pathB_true {t : ByteArray} (h1 : 1 ≤ t.size) (h2 : t.size ≤ 40) (h3 : ∀ h : 0 < t.size, t[0].toNat = 47) (h : ∀ i (h : i < t.size), pathC t[i].toNat = true) : pathB t = true := by
  unfold pathB; rw [decide_eq_true_iff]; exact ⟨h1, h2, h3, h⟩
theorem pathC_yes {c : Nat} (h : 33 ≤ c ∧ c ≤ 126 ∧ ¬ c = 63 ∧ ¬ c = 35 ∧ ¬ c = 59) : pathC c = true := by unfold pathC; rw [decide_eq_true_iff]; exact h
theorem pathC_no {c : Nat} (h : ¬ (33 ≤ c ∧ c ≤ 126 ∧ ¬ c = 63 ∧ ¬ c = 35 ∧ ¬ c = 59)) : pathC c = false := by unfold pathC; rw [decide_eq_false_iff_not]; exact h
end Go.Proofs.Ytehnklgpdjfcgaa

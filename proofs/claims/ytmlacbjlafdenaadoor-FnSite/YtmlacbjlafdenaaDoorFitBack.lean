/- The rules apart; the fitting one of most labels begins first; so the suffix's labels are those that the specification counts. -/
import Derived.Test.YtmlacbjlafdenaaDoorImplFit
import Derived.Test.YtmlacbjlafdenaaDoorRuleBack
import Derived.Test.YtmlacbjlafdenaaDoorSpecOf
namespace Go.Proofs.YtmlacbjlafdenaaDoor

/-- of the first i rules those with an exclamation mark, which is taken off -/
def exL (f : Nat → ByteArray) : Nat → List ByteArray
  | 0 => []
  | i + 1 => if bangB (f i) = true then exL f i ++ [unbang (f i)] else exL f i
/-- the others -/
def otL (f : Nat → ByteArray) : Nat → List ByteArray
  | 0 => []
  | i + 1 => if bangB (f i) = true then otL f i else otL f i ++ [f i]
theorem exL_len (f : Nat → ByteArray) : ∀ i, (exL f i).length ≤ i
  | 0 => Nat.le_refl _
  | i + 1 => by
    have := exL_len f i
    rw [exL]; split
    · simp; omega
    · omega
theorem otL_len (f : Nat → ByteArray) : ∀ i, (otL f i).length ≤ i
  | 0 => Nat.le_refl _
  | i + 1 => by
    have := otL_len f i
    rw [otL]; split
    · omega
    · simp; omega
theorem exL_small {f : Nat → ByteArray} {N : Nat} : ∀ {i}, (∀ j, j < i → (f j).size ≤ N) → ∀ x ∈ exL f i, x.size ≤ N
  | 0, _, x, hx => by cases hx
  | i + 1, h, x, hx => by
    rw [exL] at hx
    split at hx
    · rw [List.mem_append, List.mem_singleton] at hx
      rcases hx with hx | hx
      · exact exL_small (fun j hj => h j (by omega)) x hx
      · rw [hx]; exact Nat.le_trans (unbang_le _) (h i (by omega))
    · exact exL_small (fun j hj => h j (by omega)) x hx
theorem otL_small {f : Nat → ByteArray} {N : Nat} : ∀ {i}, (∀ j, j < i → (f j).size ≤ N) → ∀ x ∈ otL f i, x.size ≤ N
  | 0, _, x, hx => by cases hx
  | i + 1, h, x, hx => by
    rw [otL] at hx
    split at hx
    · exact otL_small (fun j hj => h j (by omega)) x hx
    · rw [List.mem_append, List.mem_singleton] at hx
      rcases hx with hx | hx
      · exact otL_small (fun j hj => h j (by omega)) x hx
      · rw [hx]; exact h i (by omega)

def fitT (s : ByteArray) (m : Nat) (h : Nat → ByteArray) : Bool := fitsB (splitB s 46).length (atL (splitB s 46)) m h
theorem fitT_len {s : ByteArray} {m : Nat} {h : Nat → ByteArray} (e : fitT s m h = true) : (splitB s 46).length ≤ m := by
  unfold fitT fitsB at e
  rw [Bool.and_eq_true, decide_eq_true_eq] at e
  exact e.1
/-- the most labels of a rule of a list that fits; 0 if none does -/
def mxL (m : Nat) (h : Nat → ByteArray) : List ByteArray → Nat
  | [] => 0
  | r :: L => if fitT r m h = true then max (splitB r 46).length (mxL m h L) else mxL m h L
theorem mxL_snoc (m : Nat) (h : Nat → ByteArray) (r : ByteArray) : ∀ L, mxL m h (L ++ [r]) = if fitT r m h = true then max (mxL m h L) (splitB r 46).length else mxL m h L
  | [] => by simp [mxL]
  | x :: L => by
    rw [List.cons_append, mxL, mxL_snoc m h r L, mxL]
    split
    · split
      · rw [Nat.max_assoc]
      · rfl
    · rfl
theorem mxL_le (m : Nat) (h : Nat → ByteArray) : ∀ L, mxL m h L ≤ m
  | [] => Nat.zero_le _
  | r :: L => by
    have ih := mxL_le m h L
    rw [mxL]; split
    · rename_i e
      have := fitT_len e
      omega
    · exact ih
theorem mxL_ge {m : Nat} {h : Nat → ByteArray} {r : ByteArray} (e : fitT r m h = true) : ∀ {L}, r ∈ L → (splitB r 46).length ≤ mxL m h L
  | [], hr => by cases hr
  | x :: L, hr => by
    rw [mxL]
    rcases List.mem_cons.1 hr with hx | hx
    · subst hx; rw [if_pos e]; omega
    · have := mxL_ge e hx
      split <;> omega
theorem mxL_at (m : Nat) (h : Nat → ByteArray) : ∀ L, 0 < mxL m h L → ∃ r ∈ L, fitT r m h = true ∧ (splitB r 46).length = mxL m h L
  | [], h0 => absurd h0 (by simp [mxL])
  | x :: L, h0 => by
    rw [mxL] at h0 ⊢
    split at h0
    · rename_i e
      rw [if_pos e]
      by_cases hc : (splitB x 46).length < mxL m h L
      · obtain ⟨r, hr, hf, hl⟩ := mxL_at m h L (by omega)
        exact ⟨r, by simp [hr], hf, by omega⟩
      · exact ⟨x, by simp, e, by omega⟩
    · rename_i e
      rw [if_neg e]
      obtain ⟨r, hr, hf, hl⟩ := mxL_at m h L h0
      exact ⟨r, by simp [hr], hf, hl⟩
theorem fitR_bang {s : ByteArray} {m : Nat} {h : Nat → ByteArray} (e : bangB s = true) : fitR s m h = fitT (unbang s) m h ∧ (ruleL s).length = (splitB (unbang s) 46).length := by
  have : ruleL s = splitB (unbang s) 46 := by rw [ruleL, if_pos e, unbang_yes e]
  unfold fitR fitT
  rw [this]; exact ⟨rfl, rfl⟩
theorem fitR_plain {s : ByteArray} {m : Nat} {h : Nat → ByteArray} (e : ¬ bangB s = true) : fitR s m h = fitT s m h ∧ (ruleL s).length = (splitB s 46).length := by
  have : ruleL s = splitB s 46 := by rw [ruleL, if_neg e]
  unfold fitR fitT
  rw [this]; exact ⟨rfl, rfl⟩
theorem cntTo_apart (f : Nat → ByteArray) (m : Nat) (h : Nat → ByteArray) : ∀ i, cntTo f m h i = (max 1 (mxL m h (otL f i)), mxL m h (exL f i))
  | 0 => rfl
  | i + 1 => by
    rw [cntTo, cntTo_apart f m h i, otL, exL]
    by_cases hb : bangB (f i) = true
    · rw [if_pos hb, if_pos hb, if_pos hb, mxL_snoc, (fitR_bang hb).1, (fitR_bang hb (m := m) (h := h)).2]
      split <;> rfl
    · rw [if_neg hb, if_neg hb, if_neg hb, mxL_snoc, (fitR_plain hb).1, (fitR_plain hb (m := m) (h := h)).2]
      split
      · rw [Nat.max_assoc]
      · rfl
/-- with which of the m labels the fitting rule of most labels begins; m, if none fits -/
def longN (L : List ByteArray) (m : Nat) (h : Nat → ByteArray) : Nat := m - mxL m h L
theorem fitK_fitT {s : ByteArray} {k m : Nat} {h : Nat → ByteArray} (e : fitK s k m h = true) : fitT s m h = true ∧ (splitB s 46).length + k = m := by
  unfold fitK at e
  rw [Bool.and_eq_true, decide_eq_true_eq] at e
  exact ⟨e.2, e.1⟩
theorem longN_hit {L : List ByteArray} {m : Nat} {h : Nat → ByteArray} {k : Nat} {r : ByteArray} (hlow : ∀ j, j < k → ∀ x ∈ L, fitK x j m h = false) (hr : r ∈ L) (he : fitK r k m h = true) : longN L m h = k := by
  obtain ⟨hf, hl⟩ := fitK_fitT he
  have h1 := mxL_ge hf hr
  have h2 := mxL_le m h L
  unfold longN
  by_cases hlt : m - mxL m h L < k
  · obtain ⟨n0, hn0⟩ := splitB_ne r 46
    obtain ⟨x, hx, hfx, hlx⟩ := mxL_at m h L (by omega)
    have := hlow (m - mxL m h L) hlt x hx
    rw [fitK, decide_eq_true (by omega), Bool.true_and] at this
    unfold fitT at hfx
    rw [hfx] at this; cases this
  · omega
theorem longN_none {L : List ByteArray} {m : Nat} {h : Nat → ByteArray} (hlow : ∀ j, j < m → ∀ x ∈ L, fitK x j m h = false) : longN L m h = m := by
  have h2 := mxL_le m h L
  unfold longN
  by_cases h0 : 0 < mxL m h L
  · obtain ⟨x, hx, hfx, hlx⟩ := mxL_at m h L h0
    have := hlow (m - mxL m h L) (by omega) x hx
    rw [fitK, decide_eq_true (by omega), Bool.true_and] at this
    unfold fitT at hfx
    rw [hfx] at this; cases this
  · omega
theorem longN_le (L : List ByteArray) (m : Nat) (h : Nat → ByteArray) : longN L m h ≤ m := Nat.sub_le _ _
/-- where the suffix begins -/
def beginN (n : Nat) (f : Nat → ByteArray) (m : Nat) (h : Nat → ByteArray) : Nat := if longN (exL f n) m h < m then longN (exL f n) m h + 1 else min (longN (otL f n) m h) (m - 1)
theorem beginN_count (n : Nat) (f : Nat → ByteArray) {m : Nat} (h : Nat → ByteArray) (hm : 1 ≤ m) : beginN n f m h = m - countN n f m h ∧ beginN n f m h ≤ m := by
  have h1 := mxL_le m h (exL f n)
  have h2 := mxL_le m h (otL f n)
  unfold beginN countN longN
  rw [cntTo_apart]
  simp only
  by_cases h0 : 0 < mxL m h (exL f n)
  · rw [if_pos (by omega), if_pos h0]; omega
  · rw [if_neg (by omega), if_neg h0]; omega
end Go.Proofs.YtmlacbjlafdenaaDoor

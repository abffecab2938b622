/- What the specification puts together label by label is what the library joins. -/
import Derived.Test.YtddlnbmkknbegaaDoorSpecTail
import Derived.Test.YtddlnbmkknbegaaDoorRuleBack
import Derived.Lib.Join
namespace Go.Proofs.YtddlnbmkknbegaaDoor

theorem join_snoc (y sep : List UInt8) : ∀ xs : List (List UInt8), Lib.join (xs ++ [y]) sep = if xs = [] then y else Lib.join xs sep ++ sep ++ y
  | [] => by simp [Lib.join_one]
  | x :: xs => by
    rw [if_neg (by simp), List.cons_append, Lib.join_cons, Lib.join_cons]
    simp [Lib.joinTail]
/-- n texts from place d on -/
def partL (f : Nat → ByteArray) (d n : Nat) : List ByteArray := (List.range n).map (fun i => f (d + i))
theorem partL_len (f : Nat → ByteArray) (d n : Nat) : (partL f d n).length = n := by simp [partL]
theorem partL_get {f : Nat → ByteArray} {d n j : Nat} {x : ByteArray} (h : (partL f d n)[j]? = some x) : j < n ∧ x = f (d + j) := by
  have hj : j < n := by
    have := (List.getElem?_eq_some_iff.1 h).1
    rwa [partL_len] at this
  refine ⟨hj, ?_⟩
  simp [partL, hj] at h
  exact h.symm
theorem tailN_pos {f : Nat → ByteArray} {d : Nat} : ∀ {j}, (∀ i, i < j + 1 → 0 < (f (d + i)).size) → 0 < (tailN f d (j + 1)).size
  | j, h => by
    have := h j (by omega)
    rw [tailN]
    split
    · rw [ByteArray.size_append]; omega
    · rw [ByteArray.size_append, ByteArray.size_append]; omega
theorem tail_join {f : Nat → ByteArray} {d : Nat} : ∀ j, (∀ i, i < j → 0 < (f (d + i)).size) → (tailN f d j).data.toList = Lib.join ((partL f d j).map (·.data.toList)) [46]
  | 0, _ => by simp [tailN, partL, Lib.join_nil]
  | j + 1, h => by
    have ih := tail_join j (fun i hi => h i (by omega))
    have e : (partL f d (j + 1)).map (·.data.toList) = (partL f d j).map (·.data.toList) ++ [(f (d + j)).data.toList] := by simp [partL, List.range_succ]
    rw [e, join_snoc, ← ih]
    cases j with
    | zero =>
      rw [if_pos (by simp [partL])]
      rw [tailN, if_pos (by simp [tailN, Lib.toList_data])]
      simp [tailN]
    | succ j =>
      have hp := tailN_pos (f := f) (d := d) (j := j) (fun i hi => h i (by omega))
      have hne : (tailN f d (j + 1)).toList.isEmpty = false := by
        rw [Lib.toList_data, List.isEmpty_eq_false_iff]
        intro e0
        rw [Lib.size_eq, e0] at hp
        exact absurd hp (by simp)
      rw [if_neg (by simp [partL, List.range_succ])]
      rw [tailN.eq_def f d (j + 1 + 1)]
      simp only
      rw [if_neg (by rw [hne]; decide)]
      simp
end Go.Proofs.YtddlnbmkknbegaaDoor

/- What RulesRead tells, as a plain function; rules put one by one are those sorted and each kept once. -/
import Derived.Test.YtddlnbmkknbegaaDoorSpecPut
import Derived.Test.YtddlnbmkknbegaaDoorSpecRule
namespace Go.Proofs.YtddlnbmkknbegaaDoor
open Go.RowKit

/-- of the first k lines the rules, put in their places -/
def putsTo (L : List ByteArray) : Nat → List ByteArray
  | 0 => []
  | k + 1 => if ruleB (atL L k) = true then putL (putsTo L k) (atL L k) else putsTo L k
/-- of the first k lines the rules, as they stand -/
def keptTo (L : List ByteArray) : Nat → List ByteArray
  | 0 => []
  | k + 1 => if ruleB (atL L k) = true then keptTo L k ++ [atL L k] else keptTo L k
theorem putsTo_len (L : List ByteArray) : ∀ k, (putsTo L k).length ≤ k
  | 0 => Nat.le_refl _
  | k + 1 => by
    have ih := putsTo_len L k
    rw [putsTo]
    split
    · have := putL_len (putsTo L k) (atL L k); omega
    · omega
theorem keptTo_len (L : List ByteArray) : ∀ k, (keptTo L k).length ≤ k
  | 0 => Nat.le_refl _
  | k + 1 => by
    have ih := keptTo_len L k
    rw [keptTo]
    split
    · simp; omega
    · omega
theorem puts_kept (L : List ByteArray) : ∀ k, (putsTo L k).map (·.data.toList) = ((keptTo L k).map (·.data.toList)).foldl putT []
  | 0 => rfl
  | k + 1 => by
    have ih := puts_kept L k
    rw [putsTo, keptTo]
    split
    · rw [putL_data, ih]; simp
    · exact ih
theorem puts_sorted (L : List ByteArray) (k : Nat) : (putsTo L k).map (·.data.toList) = Lib.compact (((keptTo L k).map (·.data.toList)).mergeSort fun x y => decide (x ≤ y)) := by
  rw [sorted_puts, puts_kept]
/-- what RulesRead tells -/
def readR (s : ByteArray) : List ByteArray := if 8000 < s.size then [] else (putsTo (splitB s 10) (splitB s 10).length).take 20
theorem readR_len (s : ByteArray) : (readR s).length ≤ 20 := by
  unfold readR
  split
  · simp
  · rw [List.length_take]; omega
theorem readR_no {s : ByteArray} (h : 8000 < s.size) : readR s = [] := by rw [readR, if_pos h]
theorem readR_yes {s : ByteArray} (h : ¬ 8000 < s.size) : readR s = (putsTo (splitB s 10) (splitB s 10).length).take 20 := by rw [readR, if_neg h]
theorem own_below {w w' : World} {B n : Nat} {e : TypeId} {v : Value} {xs : List Value} (h : w.ownsRow B e 1 v n xs) (hb : Below w.heap.size w w') : w'.ownsRow B e 1 v n xs := by
  obtain ⟨hl, h0 | ⟨g, cap, cur, rfl, hbg, hh, r⟩⟩ := h
  · exact ⟨hl, .inl h0⟩
  · have hg : g < w.heap.size := (Array.getElem?_eq_some_iff.mp hh).1
    exact ⟨hl, .inr ⟨g, cap, cur, rfl, hbg, by rw [hb.block g hg]; exact hh, r⟩⟩
theorem slice_base {w : World} {B B2 n : Nat} {v : Value} {f : Nat → ByteArray} (h : SliceS w B2 v n f) (hB : B ≤ B2) : SliceS w B v n f := by
  obtain ⟨p, cap, rfl, h⟩ := h
  refine ⟨p, cap, rfl, fun hn => ?_⟩
  obtain ⟨g, rfl, h1, h2, h3⟩ := h hn
  exact ⟨g, rfl, by omega, h2, h3⟩
theorem splitTo_little (s : ByteArray) (c : Nat) : ∀ i, ∀ x ∈ (splitTo s c i).1, x.size ≤ s.size
  | 0, x, h => by cases h
  | i + 1, x, h => by
    rw [splitTo] at h
    split at h
    · split at h
      · rw [List.mem_append] at h
        rcases h with h | h
        · exact splitTo_little s c i x h
        · rw [List.mem_singleton] at h
          rw [h, ByteArray.size_extract]; omega
      · exact splitTo_little s c i x h
    · exact splitTo_little s c i x h
theorem splitB_small (s : ByteArray) (c : Nat) : ∀ x ∈ splitB s c, x.size ≤ s.size := by
  intro x h
  unfold splitB at h
  rw [List.mem_append, List.mem_singleton] at h
  rcases h with h | h
  · exact splitTo_little s c _ x h
  · rw [h, ByteArray.size_extract]; omega
end Go.Proofs.YtddlnbmkknbegaaDoor

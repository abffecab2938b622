/- The library's Sort and Compact of a slice of texts that a call owns. -/
import Derived.Test.YtddlnbmkknbegaaDoorShelfSort
import Derived.Test.YtddlnbmkknbegaaDoorReadBack
import Derived.Shelf.Sort.Plain
import Derived.Sort.OwnSorted
import Derived.Lib.OwnBridge
namespace Go.Proofs.YtddlnbmkknbegaaDoor
open Go.RowKit Go.Sort

theorem cells_enc (K : List ByteArray) : strCells K = (K.map (·.data.toList)).map encStr := by
  rw [List.map_map]
  apply List.map_congr_left
  intro x _
  simp [encStr]
/-- texts sorted -/
def sortL (K : List ByteArray) : List ByteArray := ((K.map (·.data.toList)).mergeSort fun x y => decide (x ≤ y)).map (fun l => ⟨l.toArray⟩)
theorem sortL_data (K : List ByteArray) : (sortL K).map (·.data.toList) = (K.map (·.data.toList)).mergeSort fun x y => decide (x ≤ y) := data_back _
theorem sortL_len (K : List ByteArray) : (sortL K).length = K.length := by
  unfold sortL
  rw [List.length_map, List.length_mergeSort, List.length_map]
/-- each kept once -/
def onceL (K : List ByteArray) : List ByteArray := (Lib.compact (K.map (·.data.toList))).map (fun l => ⟨l.toArray⟩)
theorem onceL_data (K : List ByteArray) : (onceL K).map (·.data.toList) = Lib.compact (K.map (·.data.toList)) := data_back _
theorem onceL_len (K : List ByteArray) : (onceL K).length ≤ K.length := by
  have := Lib.compact_length_le (K.map (·.data.toList))
  unfold onceL
  rw [List.length_map]
  simpa using this
theorem puts_once (L : List ByteArray) (k : Nat) : onceL (sortL (keptTo L k)) = putsTo L k := by
  apply datas_inj
  rw [onceL_data, sortL_data, puts_sorted]

theorem sort_call (B g cap : Nat) (K : List ByteArray) (w : World) (ho : w.ownsRow B 9 1 (.slice (some ⟨g, 0, none⟩) K.length cap) K.length (strCells K)) (hn : K.length ≤ 1048576) :
    Calls Tryd.prog 52 #[.slice (some ⟨g, 0, none⟩) K.length cap] w fun e w' => e = .returned (.tuple #[]) ∧ w'.ownsRow B 9 1 (.slice (some ⟨g, 0, none⟩) K.length cap) K.length (strCells (sortL K)) ∧ w.grownBy w' (some g) := by
  rw [cells_enc] at ho
  obtain ⟨g', cap', e', hb, hlt, hcap, _, hl, hH⟩ := Lib.holds_of_ownsRow ho (by simp)
  obtain ⟨rfl, rfl⟩ : g = g' ∧ cap = cap' := by injection e' with a b c; injection a with a; injection a with a; exact ⟨a, c⟩
  have h := Any.slices_Sort_string Tryd.lays190 g 0 cap (K.map (·.data.toList)) w hH hlt (by simp; omega)
  rw [List.length_map] at h
  refine h.mono ?_
  rintro e w' ⟨rfl, n, os, rfl⟩
  refine ⟨rfl, ?_, grownBy_sorted _⟩
  rcases ho.2 with ⟨h0, _⟩ | ⟨g2, cap2, cur, hv, hbase, hbl, h1, h2, h3, h4⟩
  · cases h0
  cases hv
  rw [cells_enc, sortL_data]
  have hl2 : ((K.map (·.data.toList)).mergeSort fun x y => decide (x ≤ y)).length = (K.map (·.data.toList)).length := List.length_mergeSort _
  have hs := ownsRow_sorted (n := n) (os := os) (ts := (K.map (·.data.toList)).mergeSort fun x y => decide (x ≤ y)) hl2 hbase hbl (by simpa using h1) h2 h3
  rw [List.length_map] at hs
  exact hs
theorem once_call (B g cap : Nat) (K : List ByteArray) (w : World) (ho : w.ownsRow B 9 1 (.slice (some ⟨g, 0, none⟩) K.length cap) K.length (strCells K)) (hn : K.length ≤ 1048576) :
    Calls Tryd.prog 53 #[.slice (some ⟨g, 0, none⟩) K.length cap] w fun e w' => e = .returned (.slice (some ⟨g, 0, none⟩) (onceL K).length cap) ∧ w'.ownsRow B 9 1 (.slice (some ⟨g, 0, none⟩) (onceL K).length cap) (onceL K).length (strCells (onceL K)) ∧ (∀ B0 w0, Below B0 w0 w → B0 ≤ g → Below B0 w0 w') := by
  rw [cells_enc] at ho
  obtain ⟨g', cap', e', hb, hlt, hcap, _, hl, hH⟩ := Lib.holds_of_ownsRow ho (by simp)
  obtain ⟨rfl, rfl⟩ : g = g' ∧ cap = cap' := by injection e' with a b c; injection a with a; injection a with a; exact ⟨a, c⟩
  have h := Any.slices_Compact_string Tryd.lays194 g 0 cap (K.map (·.data.toList)) w hH (by simp; omega) (by simpa using hcap)
  rw [List.length_map] at h
  have el : (Lib.compact (K.map (·.data.toList))).length = (onceL K).length := by unfold onceL; rw [List.length_map]
  have hle := onceL_len K
  rw [el] at h
  refine h.mono ?_
  rintro e w' ⟨rfl, q, rfl⟩
  refine ⟨rfl, ?_, fun B0 w0 hb hg => Lib.below_putRow hb hg⟩
  have hc := Lib.ownsRow_putRow (q := q) (k := (onceL K).length) (ys := Lib.compact (K.map (·.data.toList)) ++ List.replicate (K.length - (onceL K).length) []) ho (by rw [List.length_append, List.length_replicate, el]; omega) hle
  rw [← el, List.take_left, el] at hc
  rw [cells_enc, onceL_data]
  exact hc
end Go.Proofs.YtddlnbmkknbegaaDoor

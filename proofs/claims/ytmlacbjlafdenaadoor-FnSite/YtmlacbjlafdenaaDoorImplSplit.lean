/- The library's Split and the digits of a number, as the program calls them, over the contracts laid at this translation. -/
import Derived.Test.YtmlacbjlafdenaaDoorShelf
import Derived.Test.YtmlacbjlafdenaaDoorSplitLib
import Derived.Test.YtmlacbjlafdenaaDoorSpecHost
import Derived.Test.YtmlacbjlafdenaaDoorDecLib
import Derived.Lib.AppendIntMem
import Derived.Shelf.Strconv.Itoa4
namespace Go.Proofs.YtmlacbjlafdenaaDoor
open Go.RowKit

/-- the library's variable MaxLen holds some number -/
def MaxI (w : World) : Prop := ∃ m : Int, w.cell? ⟨2, 0, none⟩ = some (.int .i64 m)
theorem MaxI.on {w w' : World} (h : MaxI w) (hb : Below w.heap.size w w') : MaxI w' := by
  obtain ⟨m, hm⟩ := h
  have hlt : 2 < w.heap.size := by
    by_cases h : 2 < w.heap.size
    · exact h
    · exfalso
      simp [World.cell?, Array.getElem?_eq_none (show w.heap.size ≤ 2 by omega)] at hm
  exact ⟨m, by rw [(bcell hb).1 _ _ hlt]; exact hm⟩

theorem split_call (s : ByteArray) (w : World) (hG : MaxI w) (hs : s.size < 4294967281) :
    Calls Tryd.prog 69 #[.string s, .string ⟨#[46]⟩] w fun e w' => e = .returned (.slice (some ⟨w.heap.size, 0, none⟩) (splitB s 46).length (splitB s 46).length) ∧ w' = w.alloc (.cells (strCells (splitB s 46)).toArray 9) := by
  obtain ⟨m, hm⟩ := hG
  have h := Any.strings_Split { Tryd.lays146 with } Tryd.lays146.i9 s ⟨#[46]⟩ m w hs hm (Nat.le_refl 1)
  rw [lib_split s 46, lib_count s 46] at h
  exact h
/-- all cuts and the bytes between them -/
theorem cutL_sum (c : UInt8) : ∀ l : List UInt8, ((cutL c l).map (fun p => p.length + 1)).sum = l.length + 1
  | [] => rfl
  | b :: l => by
    have ih := cutL_sum c l
    rw [cutL]
    split
    · simp only [List.map_cons, List.sum_cons, List.length_nil, List.length_cons, ih]; omega
    · split
      · rename_i h; rw [h] at ih; simp at ih
      · rename_i h
        rw [h] at ih
        simp only [List.map_cons, List.sum_cons, List.length_cons] at ih ⊢
        omega
theorem sum_le (L : List ByteArray) (h : ∀ x ∈ L, x.size ≤ 12) : (L.map (fun p => p.data.toList.length + 1)).sum ≤ 13 * L.length := by
  induction L with
  | nil => exact Nat.le_refl _
  | cons a L ih =>
    have h1 := h a (by simp)
    have h2 := ih (fun x hx => h x (by simp [hx]))
    have e : a.data.toList.length = a.size := (Lib.size_eq a).symm
    simp only [List.map_cons, List.sum_cons, List.length_cons, e]
    omega
theorem labelB_le {t : ByteArray} (h : labelB t = true) : t.size ≤ 12 := by
  by_cases hz : 12 < t.size
  · rw [labelB_size (.inr hz)] at h; cases h
  · omega
theorem host_size {s : ByteArray} (hn : (splitB s 46).length ≤ 6) (h : ∀ k (h : k < (splitB s 46).length), labelB ((splitB s 46)[k]) = true) : s.size ≤ 100 := by
  have e := splitB_cut s 46
  have e2 := cutL_sum 46 s.data.toList
  rw [← e, List.map_map] at e2
  have e3 := sum_le (splitB s 46) (fun x hx => by
    obtain ⟨k, hk, rfl⟩ := List.getElem_of_mem hx
    exact labelB_le (h k hk))
  have e4 : s.data.toList.length = s.size := (Lib.size_eq s).symm
  have e5 : ((splitB s 46).map (fun p => p.data.toList.length + 1)).sum = s.size + 1 := by rw [← e4]; exact e2
  omega
theorem hostB_six {s : ByteArray} (hn : (splitB s 46).length ≤ 6) (h : ∀ k (h : k < (splitB s 46).length), labelB ((splitB s 46)[k]) = true) : hostB s = true := by
  rw [hostB_all (host_size hn h) h]; simpa using hn
theorem hostB_many {s : ByteArray} (hn : 6 < (splitB s 46).length) : hostB s = false := by
  unfold hostB; rw [decide_eq_false (show ¬ (splitB s 46).length ≤ 6 by omega)]; simp
end Go.Proofs.YtmlacbjlafdenaaDoor

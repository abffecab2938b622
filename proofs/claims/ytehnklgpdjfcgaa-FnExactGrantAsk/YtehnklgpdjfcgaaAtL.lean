/- A row of texts that a call owns, as a slice of texts. -/
import Derived.Test.YtehnklgpdjfcgaaSpecHost
import Derived.Test.YtehnklgpdjfcgaaMarks
namespace Go.Proofs.Ytehnklgpdjfcgaa
open Go.RowKit

def atL (L : List ByteArray) (j : Nat) : ByteArray := L.getD j ⟨#[]⟩
theorem slice_of_own {w : World} {B : Nat} {t : TypeId} {v : Value} {L : List ByteArray} (h : w.ownsRow B t 1 v L.length (strCells L)) : SliceS w B v L.length (atL L) := by
  obtain ⟨h1, ⟨rfl, h0⟩ | ⟨g, cap, cur, rfl, hg, h3, h4, h5, h6, h7⟩⟩ := h
  · exact ⟨none, 0, by rw [h0], fun h => absurd h (by omega)⟩
  · refine ⟨_, cap, rfl, fun hn => ⟨g, rfl, hg, ?_, fun j hj => ?_⟩⟩
    · exact (Array.getElem?_eq_some_iff.mp h3).1
    · have e : cur[j]? = some (.string (atL L j)) := by
        have e1 : (cur.toList.take (L.length * 1))[j]? = (strCells L)[j]? := by rw [h7]
        rw [List.getElem?_take_of_lt (by omega)] at e1
        rw [← Array.getElem?_toList, e1]
        simp [strCells, atL, hj]
      refine ⟨?_, ?_⟩
      · simp [World.cell?, h3, e]
      · simp [World.frozen?, h3]
theorem own_below {w w' : World} {B n : Nat} {e : TypeId} {v : Value} {xs : List Value} (h : w.ownsRow B e 1 v n xs) (hb : Below w.heap.size w w') : w'.ownsRow B e 1 v n xs := by
  obtain ⟨hl, h0 | ⟨g, cap, cur, rfl, hbg, hh, r⟩⟩ := h
  · exact ⟨hl, .inl h0⟩
  · have hg : g < w.heap.size := (Array.getElem?_eq_some_iff.mp hh).1
    exact ⟨hl, .inr ⟨g, cap, cur, rfl, hbg, by rw [hb.block g hg]; exact hh, r⟩⟩
end Go.Proofs.Ytehnklgpdjfcgaa

/- What a list of cells holds, kept by whatever leaves old blocks as they were. -/
import Derived.Test.YtehnklgpdjfcgaaMarks
import Derived.Deep.RegionHeld3
namespace Go.Proofs.Ytehnklgpdjfcgaa
open Go.RowKit
theorem cell_in {W : World} {p : Addr} {v : Value} (h : W.cell? p = some v) : p.block < W.heap.size := by
  by_cases hb : p.block < W.heap.size
  · exact hb
  · exfalso
    simp [World.cell?, Array.getElem?_eq_none (show W.heap.size ≤ p.block by omega)] at h
/-- what these cells hold -/
def Cells (W : World) : List (Addr × Value) → Prop
  | [] => True
  | p :: L => W.cell? p.1 = some p.2 ∧ Cells W L
theorem Cells.below {W W' : World} : ∀ {L : List (Addr × Value)}, Cells W L → Below W.heap.size W W' → Cells W' L
  | [], _, _ => trivial
  | _ :: _, h, hb => ⟨(@Below.cell _ _ _ hb _ (cell_in h.1)).trans h.1, Cells.below h.2 hb⟩
theorem Cells.join {W : World} : ∀ {L M : List (Addr × Value)}, Cells W L → Cells W M → Cells W (L ++ M)
  | [], _, _, h => h
  | _ :: _, _, h, k => ⟨h.1, Cells.join h.2 k⟩
/-- a slice of texts, wherever it lies -/
def SliceH (w : World) (v : Value) (n : Nat) (f : Nat → ByteArray) : Prop := Hid (SliceS w 0 v n f)
theorem SliceH.out {w : World} {v : Value} {n : Nat} {f : Nat → ByteArray} (h : SliceH w v n f) : SliceS w 0 v n f := Hid.out h
theorem strip {w : World} {B n : Nat} {v : Value} {f : Nat → ByteArray} (h : SliceS w B v n f) : SliceH w v n f := by
  obtain ⟨p, cap, rfl, h⟩ := h
  exact (⟨p, cap, rfl, fun hn => by obtain ⟨g, e, _, r⟩ := h hn; exact ⟨g, e, Nat.zero_le _, r⟩⟩ : SliceS w 0 _ n f)
theorem SliceH.below {w w' : World} {v : Value} {n : Nat} {f : Nat → ByteArray} (h : SliceH w v n f) (hb : Below w.heap.size w w') : SliceH w' v n f := SliceS.below h.out hb
end Go.Proofs.Ytehnklgpdjfcgaa

/- Slices of structs while others are marked. -/
import Derived.Test.YtehnklgpdjfcgaaSliceR
namespace Go.Proofs.Ytehnklgpdjfcgaa
open Go.RowKit

theorem SliceR.place {w : World} {B sz n : Nat} {v : Value} {f : Nat → Nat → Value} (h : SliceR w B sz v n f) : 0 < n → ∃ g, v.ownBlock = some g ∧ B ≤ g ∧ g < w.heap.size := by
  obtain ⟨p, cap, rfl, h⟩ := h
  intro hn
  obtain ⟨g, rfl, hB, hg, -⟩ := h hn
  exact ⟨g, rfl, hB, hg⟩
theorem SliceR.keepG {w w' : World} {B sz n G : Nat} {v : Value} {f : Nat → Nat → Value} (h : SliceR w B sz v n f) (hg : w.grownBy w' (some G)) (hne : 0 < n → ∃ g, v.ownBlock = some g ∧ g ≠ G) : SliceR w' B sz v n f := by
  obtain ⟨p, cap, rfl, h⟩ := h
  refine ⟨p, cap, rfl, fun hn => ?_⟩
  obtain ⟨g, rfl, hB, hgw, hc⟩ := h hn
  obtain ⟨g', e, hn'⟩ := hne hn
  obtain rfl : g = g' := Option.some.inj e
  have hb : w'.heap[g]? = w.heap[g]? := hg.block g hgw (fun e => hn' (Option.some.inj e))
  refine ⟨g, rfl, hB, Nat.lt_of_lt_of_le hgw hg.size, fun j hj o ho => ⟨?_, ?_⟩⟩
  · rw [World.cell?_of_block (a := ⟨g, j * sz + o, none⟩) hb]; exact (hc j hj o ho).1
  · rw [World.frozen?_of_block (a := ⟨g, j * sz + o, none⟩) hb]; exact (hc j hj o ho).2
end Go.Proofs.Ytehnklgpdjfcgaa

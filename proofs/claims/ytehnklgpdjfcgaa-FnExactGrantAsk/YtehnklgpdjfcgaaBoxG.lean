/- The box of an answer of the functions of grants. -/
import Derived.Test.YtehnklgpdjfcgaaLeaveT
namespace Go.Proofs.Ytehnklgpdjfcgaa
open Go.RowKit

/-- an answer's value -/
def AnsG (w : World) (B : Nat) (v : Value) (x : GO) : Prop := ∃ s, v = .agg #[s, .bool x.us, .int .i64 x.co] ∧ SliceG w B s x.ar
theorem AnsG.below {w w' : World} {B : Nat} {v : Value} {x : GO} (h : AnsG w B v x) (hb : Below w.heap.size w w') : AnsG w' B v x := by
  obtain ⟨s, rfl, hs⟩ := h
  exact ⟨s, rfl, hs.below hb⟩
/-- an empty answer lies in the block -/
structure BoxG (W : World) (b : Nat) : Prop where
  c0 : W.cell? ⟨b, 0, none⟩ = some (.slice none 0 0)
  c1 : W.cell? ⟨b, 1, none⟩ = some (.bool false)
  c2 : W.cell? ⟨b, 2, none⟩ = some (.int .i64 0)
  f0 : W.frozen? ⟨b, 0, none⟩ = false
  f1 : W.frozen? ⟨b, 1, none⟩ = false
  f2 : W.frozen? ⟨b, 2, none⟩ = false
  lt : b < W.heap.size
theorem BoxG.of_block {W W' : World} {b : Nat} (h : BoxG W b) (hb : W'.heap[b]? = W.heap[b]?) (hs : W.heap.size ≤ W'.heap.size) : BoxG W' b :=
  ⟨by rw [World.cell?_of_block (a := ⟨b, 0, none⟩) hb]; exact h.c0, by rw [World.cell?_of_block (a := ⟨b, 1, none⟩) hb]; exact h.c1, by rw [World.cell?_of_block (a := ⟨b, 2, none⟩) hb]; exact h.c2,
   by rw [World.frozen?_of_block (a := ⟨b, 0, none⟩) hb]; exact h.f0, by rw [World.frozen?_of_block (a := ⟨b, 1, none⟩) hb]; exact h.f1, by rw [World.frozen?_of_block (a := ⟨b, 2, none⟩) hb]; exact h.f2, Nat.lt_of_lt_of_le h.lt hs⟩
theorem BoxG.below {W W' : World} {b : Nat} (h : BoxG W b) (hb : Below W.heap.size W W') : BoxG W' b := h.of_block (hb.block b h.lt) hb.size
theorem BoxG.grown {W W' : World} {b G : Nat} (h : BoxG W b) (hg : W.grownBy W' (some G)) (hne : b ≠ G) : BoxG W' b := h.of_block (hg.block b h.lt (fun e => hne (Option.some.inj e))) hg.size
theorem boxG_made (w : World) (t : TypeId) : BoxG (w.alloc (.cells #[.slice none 0 0, .bool false, .int .i64 0] t)) w.heap.size := ⟨by simp, by simp, by simp, by simp, by simp, by simp, by simp⟩
theorem store3G_below {w W : World} {b : Nat} {x y z : Value} (h : Below b w W) : Below b w (((W.setCell ⟨b, 0, none⟩ x).setCell ⟨b, 1, none⟩ y).setCell ⟨b, 2, none⟩ z) :=
  Below.setCell (Below.setCell (Below.setCell h (Nat.le_refl b) _) (Nat.le_refl b) _) (Nat.le_refl b) _
/-- a slice stays while an answer's box below it is written -/
theorem SliceG.store3 {W : World} {b B : Nat} {v x y z : Value} {L : List Gr} (h : SliceG W B v L) (hb : b < B) : SliceG (((W.setCell ⟨b, 0, none⟩ x).setCell ⟨b, 1, none⟩ y).setCell ⟨b, 2, none⟩ z) B v L := by
  have hz : (((W.setCell ⟨b, 0, none⟩ x).setCell ⟨b, 1, none⟩ y).setCell ⟨b, 2, none⟩ z).heap.size = W.heap.size := by simp
  have hk : ∀ k, k ≠ b → (((W.setCell ⟨b, 0, none⟩ x).setCell ⟨b, 1, none⟩ y).setCell ⟨b, 2, none⟩ z).heap[k]? = W.heap[k]? := fun k hk => by
    simp only [World.setCell, Array.getElem?_modify]
    rw [if_neg (Ne.symm hk), if_neg (Ne.symm hk), if_neg (Ne.symm hk)]
  obtain ⟨⟨p, cap, rfl, hg⟩, h2⟩ := h
  refine ⟨⟨p, cap, rfl, fun hn => ?_⟩, h2⟩
  obtain ⟨g, rfl, hB, hgw, hc⟩ := hg hn
  refine ⟨g, rfl, hB, by rw [hz]; exact hgw, fun j hj o ho => ⟨?_, ?_⟩⟩
  · rw [World.cell?_of_block (a := ⟨g, j * 3 + o, none⟩) (hk g (by omega))]; exact (hc j hj o ho).1
  · rw [World.frozen?_of_block (a := ⟨g, j * 3 + o, none⟩) (hk g (by omega))]; exact (hc j hj o ho).2
end Go.Proofs.Ytehnklgpdjfcgaa

/- What the laws do with a slice of Pairs besides their calls. Written by slices.py. -/
import Derived.Test.YtehnklgpdjfcgaaSliceR
import Derived.Test.YtehnklgpdjfcgaaMarkS
import Derived.Test.YtehnklgpdjfcgaaStructPair
namespace Go.Proofs.Ytehnklgpdjfcgaa
open Go.RowKit

/-- the mark of each cell -/
def markPairC (q j o : Nat) : Value := .string (markT (q + j * 2 + o))
/-- one cell turned -/
def updR (f : Nat → Nat → Value) (k o : Nat) (u : Value) (j p : Nat) : Value := if j = k ∧ p = o then u else f j p
theorem SliceR.congr {w : World} {B sz n : Nat} {v : Value} {f h : Nat → Nat → Value} (hs : SliceR w B sz v n f) (he : ∀ j, j < n → ∀ o, o < sz → f j o = h j o) : SliceR w B sz v n h := by
  obtain ⟨p, cap, rfl, hg⟩ := hs
  refine ⟨p, cap, rfl, fun hn => ?_⟩
  obtain ⟨g, rfl, hB, hlt, hc⟩ := hg hn
  exact ⟨g, rfl, hB, hlt, fun j hj o ho => by rw [← he j hj o ho]; exact hc j hj o ho⟩
theorem SliceR.set {w : World} {B sz n m g cap : Nat} {f : Nat → Nat → Value} (hs : SliceR w B sz (.slice (some ⟨g, 0, none⟩) m cap) n f) (k o : Nat) (hk : k < n) (ho : o < sz) (u : Value) : SliceR (w.setCell ⟨g, k * sz + o, none⟩ u) B sz (.slice (some ⟨g, 0, none⟩) m cap) n (updR f k o u) := by
  obtain ⟨p, cap', e, hg⟩ := hs
  injection e with e1 e2 e3
  subst e1 e2 e3
  refine ⟨_, _, rfl, fun hn => ?_⟩
  obtain ⟨g', e, hB, hlt, hc⟩ := hg hn
  injection e with e
  injection e with e
  subst e
  refine ⟨g, rfl, hB, by simpa [World.setCell] using hlt, fun j hj p hp => ⟨?_, ?_⟩⟩
  · unfold updR
    by_cases hjp : j = k ∧ p = o
    · rw [if_pos hjp, hjp.1, hjp.2]; exact World.cell?_setCell_same _ _ _ (hc k hk o ho).1
    · rw [if_neg hjp, World.cell?_setCell_other _ _ _ _ (by
        intro h
        injection h with _ h
        apply hjp
        by_cases hjk : j = k
        · subst hjk; exact ⟨rfl, by omega⟩
        · exfalso
          rcases Nat.lt_or_gt_of_ne hjk with hl | hl
          · have : (j + 1) * sz ≤ k * sz := Nat.mul_le_mul_right sz hl
            rw [Nat.add_mul, Nat.one_mul] at this; omega
          · have : (k + 1) * sz ≤ j * sz := Nat.mul_le_mul_right sz hl
            rw [Nat.add_mul, Nat.one_mul] at this; omega)]
      exact (hc j hj p hp).1
  · rw [World.frozen?_setCell]; exact (hc j hj p hp).2
theorem grownG_below {a w w' : World} {G : Nat} (h : a.grownBy w (some G)) (hb : Below w.heap.size w w') : a.grownBy w' (some G) :=
  ⟨hb.os.trans h.os, hb.tape.trans h.tape, hb.output.trans h.output, Nat.le_trans h.size hb.size, fun k hk hne => (hb.block k (Nat.lt_of_lt_of_le hk h.size)).trans (h.block k hk hne)⟩
theorem grownG_set {a w : World} {G : Nat} (h : a.grownBy w (some G)) (o : Nat) (v : Value) : a.grownBy (w.setCell ⟨G, o, none⟩ v) (some G) :=
  ⟨h.os, h.tape, h.output, by simpa [World.setCell] using h.size, fun k hk hne => (Below.heap_setCell _ _ _ _ (fun e => hne (congrArg some e))).trans (h.block k hk hne)⟩
end Go.Proofs.Ytehnklgpdjfcgaa

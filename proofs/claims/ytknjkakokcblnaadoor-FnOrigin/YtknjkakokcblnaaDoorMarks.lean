/- Rows of texts that a law reads, marks and reads again; the marks' texts. -/
import Derived.Test.YtknjkakokcblnaaDoorSpecDec
namespace Go.Proofs.YtknjkakokcblnaaDoor
open Go.RowKit

/-- the mark of a number above 0 -/
def markT (k : Nat) : ByteArray := ⟨#[109]⟩ ++ ⟨(decA k).toArray⟩

/-- a slice of n texts, f of each place, that lies from block B on -/
def SliceS (w : World) (B : Nat) (v : Value) (n : Nat) (f : Nat → ByteArray) : Prop :=
  ∃ p cap, v = .slice p n cap ∧ (0 < n → ∃ g, p = some ⟨g, 0, none⟩ ∧ B ≤ g ∧ g < w.heap.size ∧ ∀ j, j < n → w.cell? ⟨g, j, none⟩ = some (.string (f j)) ∧ w.frozen? ⟨g, j, none⟩ = false)
theorem SliceS.below {w w' : World} {B n : Nat} {v : Value} {f : Nat → ByteArray} (h : SliceS w B v n f) (hb : Below w.heap.size w w') : SliceS w' B v n f := by
  obtain ⟨p, cap, rfl, h⟩ := h
  refine ⟨p, cap, rfl, fun hn => ?_⟩
  obtain ⟨g, rfl, hB, hg, hc⟩ := h hn
  have hs := hb.size
  refine ⟨g, rfl, hB, by omega, fun j hj => ⟨?_, ?_⟩⟩
  · rw [(bcell hb).1 _ _ hg]; exact (hc j hj).1
  · rw [(bcell hb).2 _ _ hg]; exact (hc j hj).2
/-- a row below B stays while rows from B on are written -/
theorem SliceS.kept {w w' : World} {B B' n : Nat} {v : Value} {f : Nat → ByteArray} (h : SliceS w B v n f) (hb : Below B' w w') (hlt : ∀ g cap m, v = .slice (some ⟨g, 0, none⟩) m cap → g < B') : SliceS w' B v n f := by
  obtain ⟨p, cap, rfl, h⟩ := h
  refine ⟨p, cap, rfl, fun hn => ?_⟩
  obtain ⟨g, rfl, hB, hg, hc⟩ := h hn
  have hs := hb.size
  have hl := hlt g cap n rfl
  refine ⟨g, rfl, hB, by omega, fun j hj => ⟨?_, ?_⟩⟩
  · rw [hb.cell (p := ⟨g, j, none⟩) hl]; exact (hc j hj).1
  · rw [hb.frozen (p := ⟨g, j, none⟩) hl]; exact (hc j hj).2
theorem SliceS.lt {w : World} {B n : Nat} {v : Value} {f : Nat → ByteArray} (h : SliceS w B v (n + 1) f) : ∀ g cap m, v = .slice (some ⟨g, 0, none⟩) m cap → g < w.heap.size := by
  obtain ⟨p, cap, rfl, h⟩ := h
  obtain ⟨g, rfl, hB, hg, hc⟩ := h (by omega)
  intro g' cap' m e
  injection e with e1
  injection e1 with e1
  injection e1 with e1
  omega
theorem SliceS.mono {w : World} {B B' n : Nat} {v : Value} {f : Nat → ByteArray} (h : SliceS w B v n f) (hB : B' ≤ B) : SliceS w B' v n f := by
  obtain ⟨p, cap, rfl, h⟩ := h
  refine ⟨p, cap, rfl, fun hn => ?_⟩
  obtain ⟨g, rfl, h1, h2⟩ := h hn
  exact ⟨g, rfl, by omega, h2⟩

end Go.Proofs.YtknjkakokcblnaaDoor

/- Rows of grants that a call owns. Written by rowsown.py. -/
import Derived.Test.YtehnklgpdjfcgaaGrantsIn
import Derived.Test.YtehnklgpdjfcgaaOwnBase
import Derived.Laws.AppendOwn
namespace Go.Proofs.Ytehnklgpdjfcgaa
open Go.RowKit

/-- the cells of one -/
def grVals (c : Gr) : List Value := [.string c.tp, .string c.si, .int .i64 c.un]
def grCells : List Gr → List Value
  | [] => []
  | c :: L => grVals c ++ grCells L
theorem grCells_snoc (L : List Gr) (c : Gr) : grCells L ++ grVals c = grCells (L ++ [c]) := by
  induction L with
  | nil => simp [grCells]
  | cons q L ih => simp only [grCells, List.cons_append, List.append_assoc, ih]
theorem grCells_len (L : List Gr) : (grCells L).length = L.length * 3 := by
  induction L with
  | nil => rfl
  | cons q L ih => simp only [grCells, List.length_append, ih, List.length_cons]; show 3 + _ = _; omega
theorem grVals_at (c : Gr) : ∀ o, o < 3 → (grVals c)[o]? = some (grC c o)
  | 0, _ => rfl
  | 1, _ => rfl
  | 2, _ => rfl
theorem grCells_at : ∀ (L : List Gr) (j : Nat), j < L.length → ∀ o, o < 3 → (grCells L)[j * 3 + o]? = some (grR L j o)
  | [], j, h, _, _ => by simp at h
  | c :: L, 0, _, o, ho => by
    rw [Nat.zero_mul, Nat.zero_add, grCells, List.getElem?_append_left (by show o < 3; exact ho), grVals_at c o ho]
    rfl
  | c :: L, j + 1, h, o, ho => by
    have ih := grCells_at L j (by simpa using h) o ho
    have hl : (grVals c).length = 3 := rfl
    rw [grCells, List.getElem?_append_right (by rw [hl]; omega), hl, show (j + 1) * 3 + o - 3 = j * 3 + o by omega, ih]
    simp [grR, atG]
theorem sliceG_of_own {w : World} {B : Nat} {t : TypeId} {v : Value} {L : List Gr} (h : w.ownsRow B t 3 v L.length (grCells L)) : SliceG w B v L := by
  refine ⟨sliceR_of_own h (grCells_at L), ?_⟩
  obtain ⟨_, ⟨rfl, h0⟩ | ⟨g, cap, cur, rfl, _, _, hc, _⟩⟩ := h
  · exact ⟨none, 0, by rw [h0], by omega, fun _ => rfl⟩
  · exact ⟨_, cap, rfl, hc, fun h => by cases h⟩
theorem sliceG_none (w : World) (B : Nat) : SliceG w B (.slice none 0 0) [] := ⟨sliceR_none _ _ _ _ _ _, none, 0, rfl, Nat.le_refl _, fun _ => rfl⟩
theorem cell_Gr (w : World) (c : Gr) (t : TypeId) : ∀ j u, (grVals c)[j]? = some u → (w.alloc (.cells #[.string c.tp, .string c.si, .int .i64 c.un] t)).cell? ((⟨w.heap.size, 0, none⟩ : Addr).add j) = some u := by
  intro j u h
  have e : (⟨w.heap.size, 0, none⟩ : Addr).add j = ⟨w.heap.size, j, none⟩ := by unfold Addr.add; split <;> simp_all
  rw [e, World.cell?_alloc_new, ← Array.getElem?_toList]
  exact h
theorem one_Gr (c : Gr) : ∀ v ∈ grVals c, v.oneCell' = true := by
  intro u hu
  simp only [grVals, List.mem_cons, List.not_mem_nil, or_false] at hu
  rcases hu with rfl | rfl | rfl <;> rfl
/-- a row of them, kept while other blocks are written -/
theorem ownG_keep {w w' : World} {B n sz : Nat} {row : Option Nat} {e : TypeId} {v : Value} {xs : List Value} (h : w.ownsRow B e sz v n xs) (hg : w.grownBy w' row) (hne : ∀ g, v.ownBlock = some g → row ≠ some g) : w'.ownsRow B e sz v n xs := by
  obtain ⟨hl, h0 | ⟨g, cap, cur, rfl, hbg, hh, r⟩⟩ := h
  · exact ⟨hl, .inl h0⟩
  · have hgl : g < w.heap.size := (Array.getElem?_eq_some_iff.mp hh).1
    exact ⟨hl, .inr ⟨g, cap, cur, rfl, hbg, by rw [hg.block g hgl (fun e => hne g rfl e.symm)]; exact hh, r⟩⟩
end Go.Proofs.Ytehnklgpdjfcgaa

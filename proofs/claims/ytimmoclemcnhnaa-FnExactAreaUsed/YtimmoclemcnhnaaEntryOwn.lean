/- Rows of entrys that a call owns. Written by rowsown.py. -/
import Derived.Test.YtimmoclemcnhnaaEntrysIn
import Derived.Test.YtimmoclemcnhnaaOwnBase
import Derived.Laws.AppendOwn
namespace Go.Proofs.Ytimmoclemcnhnaa
open Go.RowKit

/-- the cells of one -/
def enVals (c : En) : List Value := [.string c.ke, .string c.na, .string c.va]
def enCells : List En → List Value
  | [] => []
  | c :: L => enVals c ++ enCells L
theorem enCells_snoc (L : List En) (c : En) : enCells L ++ enVals c = enCells (L ++ [c]) := by
  induction L with
  | nil => simp [enCells]
  | cons q L ih => simp only [enCells, List.cons_append, List.append_assoc, ih]
theorem enCells_len (L : List En) : (enCells L).length = L.length * 3 := by
  induction L with
  | nil => rfl
  | cons q L ih => simp only [enCells, List.length_append, ih, List.length_cons]; show 3 + _ = _; omega
theorem enVals_at (c : En) : ∀ o, o < 3 → (enVals c)[o]? = some (enC c o)
  | 0, _ => rfl
  | 1, _ => rfl
  | 2, _ => rfl
theorem enCells_at : ∀ (L : List En) (j : Nat), j < L.length → ∀ o, o < 3 → (enCells L)[j * 3 + o]? = some (enR L j o)
  | [], j, h, _, _ => by simp at h
  | c :: L, 0, _, o, ho => by
    rw [Nat.zero_mul, Nat.zero_add, enCells, List.getElem?_append_left (by show o < 3; exact ho), enVals_at c o ho]
    rfl
  | c :: L, j + 1, h, o, ho => by
    have ih := enCells_at L j (by simpa using h) o ho
    have hl : (enVals c).length = 3 := rfl
    rw [enCells, List.getElem?_append_right (by rw [hl]; omega), hl, show (j + 1) * 3 + o - 3 = j * 3 + o by omega, ih]
    simp [enR, atE]
theorem sliceE_of_own {w : World} {B : Nat} {t : TypeId} {v : Value} {L : List En} (h : w.ownsRow B t 3 v L.length (enCells L)) : SliceE w B v L := by
  refine ⟨sliceR_of_own h (enCells_at L), ?_⟩
  obtain ⟨_, ⟨rfl, h0⟩ | ⟨g, cap, cur, rfl, _, _, hc, _⟩⟩ := h
  · exact ⟨none, 0, by rw [h0], by omega⟩
  · exact ⟨_, cap, rfl, hc⟩
theorem sliceE_none (w : World) (B : Nat) : SliceE w B (.slice none 0 0) [] := ⟨sliceR_none _ _ _ _ _ _, none, 0, rfl, Nat.le_refl _⟩
theorem cell_En (w : World) (c : En) (t : TypeId) : ∀ j u, (enVals c)[j]? = some u → (w.alloc (.cells #[.string c.ke, .string c.na, .string c.va] t)).cell? ((⟨w.heap.size, 0, none⟩ : Addr).add j) = some u := by
  intro j u h
  have e : (⟨w.heap.size, 0, none⟩ : Addr).add j = ⟨w.heap.size, j, none⟩ := by unfold Addr.add; split <;> simp_all
  rw [e, World.cell?_alloc_new, ← Array.getElem?_toList]
  exact h
theorem one_En (c : En) : ∀ v ∈ enVals c, v.oneCell' = true := by
  intro u hu
  simp only [enVals, List.mem_cons, List.not_mem_nil, or_false] at hu
  rcases hu with rfl | rfl | rfl <;> rfl
/-- a row of them, kept while other blocks are written -/
theorem ownE_keep {w w' : World} {B n sz : Nat} {row : Option Nat} {e : TypeId} {v : Value} {xs : List Value} (h : w.ownsRow B e sz v n xs) (hg : w.grownBy w' row) (hne : ∀ g, v.ownBlock = some g → row ≠ some g) : w'.ownsRow B e sz v n xs := by
  obtain ⟨hl, h0 | ⟨g, cap, cur, rfl, hbg, hh, r⟩⟩ := h
  · exact ⟨hl, .inl h0⟩
  · have hgl : g < w.heap.size := (Array.getElem?_eq_some_iff.mp hh).1
    exact ⟨hl, .inr ⟨g, cap, cur, rfl, hbg, by rw [hg.block g hgl (fun e => hne g rfl e.symm)]; exact hh, r⟩⟩
end Go.Proofs.Ytimmoclemcnhnaa

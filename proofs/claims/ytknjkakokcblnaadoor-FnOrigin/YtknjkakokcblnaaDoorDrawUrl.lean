/- The specification's drawn hosts and urls: what they tell is short. -/
import Derived.Test.YtknjkakokcblnaaDoorDraw2
import Derived.Test.YtknjkakokcblnaaDoorSpecUrlText
namespace Go.Proofs.YtknjkakokcblnaaDoor
open Go.RowKit

/-- n texts of at most N bytes in block h -/
def ShortRow (w : World) (h n N : Nat) : Prop := ∀ j, j < n → ∃ x : ByteArray, w.cell? ⟨h, j, none⟩ = some (.string x) ∧ x.size ≤ N
def shortB (cs : Array Value) (n N : Nat) : Bool := (List.range n).all fun j => match cs[j]? with | some (.string x) => decide (x.size ≤ N) | _ => false
theorem short_made (w : World) (cs : Array Value) (t : TypeId) (n N : Nat) (h : shortB cs n N = true) : ShortRow (w.alloc (.cells cs t)) w.heap.size n N := by
  intro j hj
  have := List.all_eq_true.mp h j (List.mem_range.mpr hj)
  rw [World.cell?_alloc_new]
  revert this
  cases cs[j]? with
  | none => intro h; cases h
  | some v =>
    cases v with
    | string x => intro h; exact ⟨x, rfl, by simpa using h⟩
    | _ => intro h; cases h
theorem short_made_at (w : World) (b : Nat) (hb : b = w.heap.size) (cs : Array Value) (t : TypeId) (n N : Nat) (h : shortB cs n N = true) : ShortRow (w.alloc (.cells cs t)) b n N := by
  subst hb; exact short_made w cs t n N h

set_option maxRecDepth 10000 in
set_option maxHeartbeats 400000 in
theorem srcPick_short (g h n cap N : Nat) (w : World) (hs : SrcAt w g) (ht : ShortRow w h (n + 2) N) (hne : h ≠ g) (hn : n ≤ 1048576) :
    Calls Tryd.prog 51 #[.pointer (some ⟨g, 0, none⟩), .slice (some ⟨h, 0, none⟩) (n + 2) cap] w fun e w' => (∃ t : ByteArray, e = .returned (.string t) ∧ t.size ≤ N) ∧ SrcAt w' g ∧ w.grownBy w' (some g) := by
  classical
  let f : Nat → ByteArray := fun j => if hj : j < n + 2 then (ht j hj).choose else ⟨#[]⟩
  refine (srcPick_any g h n cap f w hs ?_ hne hn).mono ?_
  · intro j hj
    simp only [f, dif_pos hj]
    exact (ht j hj).choose_spec.1
  · rintro e w' ⟨⟨j, hj, rfl⟩, h1, h2⟩
    refine ⟨⟨_, rfl, ?_⟩, h1, h2⟩
    simp only [f, dif_pos hj]
    exact (ht j hj).choose_spec.2

theorem cell_lt {w : World} {a : Addr} {v : Value} (h : w.cell? a = some v) : a.block < w.heap.size := by
  unfold World.cell? at h
  split at h
  · rename_i hb
    exact (Array.getElem?_eq_some_iff.mp hb).1
  · cases h
theorem SrcAt.alloc {w : World} {g : Nat} (h : SrcAt w g) (o : Obj) : SrcAt (w.alloc o) g := by
  obtain ⟨hg, a, len, cap, k, mix, size, ⟨c0, c1, c2, c3⟩, hm, hf, hb⟩ := h
  refine ⟨by simp; omega, a, len, cap, k, mix, size, ⟨?_, ?_, ?_, ?_⟩, hm, ?_, ?_⟩
  · rw [World.cell?_alloc_lt _ _ _ hg]; exact c0
  · rw [World.cell?_alloc_lt _ _ _ hg]; exact c1
  · rw [World.cell?_alloc_lt _ _ _ hg]; exact c2
  · rw [World.cell?_alloc_lt _ _ _ hg]; exact c3
  · intro o'
    rw [World.frozen?_of_block (w := w) (Below.heap_alloc _ _ _ hg)]; exact hf o'
  · intro i hi
    obtain ⟨x, z, e, hx, hc, hz⟩ := hb i hi
    exact ⟨x, z, e, hx, (World.cell?_of_block (w := w) (Below.heap_alloc _ _ _ (cell_lt hc))).trans hc, hz⟩

set_option maxRecDepth 10000 in
set_option maxHeartbeats 1000000 in
theorem srcHost_any (g : Nat) (w : World) (hs : SrcAt w g) :
    Calls Tryd.prog 53 #[.pointer (some ⟨g, 0, none⟩)] w fun e w' => (∃ t : ByteArray, e = .returned (.string t) ∧ t.size ≤ 20) ∧ SrcAt w' g ∧ w.grownBy w' (some g) := by
  have HO : Hid (Calls Tryd.prog 43 #[.pointer (some ⟨g, 0, none⟩), .int .i64 20] w fun e w' => (∃ b : Bool, e = .returned (.bool b)) ∧ SrcAt w' g ∧ w.grownBy w' (some g)) := srcOne_any g 20 w hs (by decide)
  clear hs
  go_enter Tryd.func53, Tryd.ntmps53
  go_wp2_with fail
  refine HO.out.mono ?_
  rintro e w1 ⟨⟨b, rfl⟩, h1, h2⟩
  cases b with
  | true =>
    go_wp2_with fail
    refine (srcPick_short g w1.heap.size 4 6 20 _ (h1.alloc _) (short_made w1 _ _ _ _ (by rfl)) (by have := h1.1; omega) (by decide)).mono ?_
    rintro e w2 ⟨⟨t, rfl, ht⟩, h3, h4⟩
    go_wp2
    go_ret
    exact ⟨⟨t, rfl, ht⟩, h3, h2.trans ((World.grownBy_alloc _ _ _).trans h4)⟩
  | false =>
    go_wp2_with fail
    refine (srcPick_short g w1.heap.size 6 8 20 _ (h1.alloc _) (short_made w1 _ _ _ _ (by rfl)) (by have := h1.1; omega) (by decide)).mono ?_
    rintro e w2 ⟨⟨t, rfl, ht⟩, h3, h4⟩
    go_wp2
    go_ret
    exact ⟨⟨t, rfl, ht⟩, h3, h2.trans ((World.grownBy_alloc _ _ _).trans h4)⟩
end Go.Proofs.YtknjkakokcblnaaDoor

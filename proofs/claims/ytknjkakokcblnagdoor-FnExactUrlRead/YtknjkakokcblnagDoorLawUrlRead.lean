/- The law FnExactUrlRead, walked, over what the program's UrlRead answers. -/
import Derived.Test.YtknjkakokcblnagDoorSpecUrlRead
namespace Go.Proofs.YtknjkakokcblnagDoor
open Go.RowKit

set_option maxRecDepth 10000 in
set_option maxHeartbeats 400000 in
theorem eqUrlOut_same (sc ho pa : ByteArray) (po c : Int) (w : World) :
    Calls Tryd.prog 10 #[.agg #[.string sc, .string ho, .int .i64 po, .string pa, .int .i64 c], .agg #[.string sc, .string ho, .int .i64 po, .string pa, .int .i64 c]] w fun e w' => e = .returned (.bool true) ∧ Below w.heap.size w w' := by
  go_enter Tryd.func10, Tryd.ntmps10
  go_wp2
  go_ret
  refine ⟨rfl, ?_⟩
  exact ((((Below.refl _ _).alloc (Nat.le_refl _) _).alloc (by simp) _).alloc (by simp; omega) _).alloc (by simp; omega) _


/-- what UrlRead tells -/
def readV (t : ByteArray) : Value := if 8000 < t.size then urlOut ⟨#[]⟩ ⟨#[]⟩ ⟨#[]⟩ 0 2 else if readOk t = true then urlOut (readU t).1 (readU t).2.1 (readU t).2.2.2 (readU t).2.2.1 0 else urlOut ⟨#[]⟩ ⟨#[]⟩ ⟨#[]⟩ 0 3
theorem readV_form (t : ByteArray) : ∃ sc ho pa po c, readV t = .agg #[.string sc, .string ho, .int .i64 po, .string pa, .int .i64 c] := by
  unfold readV
  split
  · exact ⟨_, _, _, _, _, rfl⟩
  · split
    · exact ⟨_, _, _, _, _, rfl⟩
    · exact ⟨_, _, _, _, _, rfl⟩
theorem specUrlRead_any (t : ByteArray) (w : World) :
    Calls Tryd.prog 8 #[.string t] w fun e w' => e = .returned (readV t) ∧ Below w.heap.size w w' := by
  unfold readV
  by_cases h : 8000 < t.size
  · rw [if_pos h]; exact specUrlRead_size t w h
  · rw [if_neg h]; exact specUrlRead_more t w (by omega)

set_option maxRecDepth 10000 in
set_option maxHeartbeats 1000000 in
theorem lawUrlRead_of (w : World) (hI : ∀ (t : ByteArray) (W : World), Below w.heap.size w W → t.size ≤ 1048576 → Calls Tryd.prog 9 #[.string t] W fun e w' => e = .returned (readV t) ∧ Below W.heap.size W w') (t : ByteArray) :
    Calls Tryd.prog 3 #[.string t] w fun e w' => e = .returned (.bool true) ∧ Below w.heap.size w w' := by
  by_cases h1 : 1048576 < t.size
  · clear hI
    go_enter Tryd.func3, Tryd.ntmps3
    go_wp2
    go_ret
    exact ⟨rfl, Below.refl _ _⟩
  have h2 := fun W => specUrlRead_any t W
  have h3 := fun W hb => hI t W hb (by omega)
  obtain ⟨sc, ho, pa, po, c, e⟩ := readV_form t
  rw [e] at h2 h3
  have H2 : Hid (∀ W, Calls Tryd.prog 8 #[.string t] W fun e w' => e = .returned (.agg #[.string sc, .string ho, .int .i64 po, .string pa, .int .i64 c]) ∧ Below W.heap.size W w') := h2
  have H3 : Hid (∀ W, Below w.heap.size w W → Calls Tryd.prog 9 #[.string t] W fun e w' => e = .returned (.agg #[.string sc, .string ho, .int .i64 po, .string pa, .int .i64 c]) ∧ Below W.heap.size W w') := h3
  clear h2 h3 hI e
  go_enter Tryd.func3, Tryd.ntmps3
  go_wp2_with fail
  refine (H2.out _).mono ?_
  rintro e w1 ⟨rfl, hb1⟩
  go_wp2_with fail
  refine (H3.out _ (hb1.alloc hb1.size _)).mono ?_
  rintro e w2 ⟨rfl, hb2⟩
  have hz : w1.heap.size < w2.heap.size := by have := hb2.size; simp at this; omega
  have hc0 : w2.cell? ⟨w1.heap.size, 0, none⟩ = some (.string sc) := by rw [(bcell hb2).1 _ _ (by simp)]; simp
  have hc1 : w2.cell? ⟨w1.heap.size, 1, none⟩ = some (.string ho) := by rw [(bcell hb2).1 _ _ (by simp)]; simp
  have hc2 : w2.cell? ⟨w1.heap.size, 2, none⟩ = some (.int .i64 po) := by rw [(bcell hb2).1 _ _ (by simp)]; simp
  have hc3 : w2.cell? ⟨w1.heap.size, 3, none⟩ = some (.string pa) := by rw [(bcell hb2).1 _ _ (by simp)]; simp
  have hc4 : w2.cell? ⟨w1.heap.size, 4, none⟩ = some (.int .i64 c) := by rw [(bcell hb2).1 _ _ (by simp)]; simp
  go_wp2_with fail
  refine (eqUrlOut_same sc ho pa po c _).mono ?_
  rintro e w3 ⟨rfl, hb3⟩
  go_wp2
  go_ret
  refine ⟨rfl, ?_⟩
  have hz1 := hb1.size
  exact (((hb1.alloc hz1 _).trans (hb2.mono (by simp; omega))).alloc (by omega) _).trans (hb3.mono (by simp; omega))
end Go.Proofs.YtknjkakokcblnagDoor

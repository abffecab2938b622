/- The law FnExactOriginRight, walked, over what the program's OriginRight answers. -/
import Derived.Test.YtknjkakokcblnagDoorLawOrigin
namespace Go.Proofs.YtknjkakokcblnagDoor
open Go.RowKit

set_option maxHeartbeats 1000000 in
theorem lawOriginRight_of (w : World) (hI : ∀ (sc ho : ByteArray) (po no : Int) (W : World), Below w.heap.size w W → sc.size + ho.size ≤ 1048576 → Calls Tryd.prog 14 #[originV sc ho po no] W fun e w' => e = .returned (.bool (originB sc ho po no)) ∧ Below W.heap.size W w')
    (sc ho : ByteArray) (po no : Int) (h1 : sc.size ≤ maxLen) (h2 : ho.size ≤ maxLen) :
    Calls Tryd.prog 4 #[originV sc ho po no] w fun e w' => e = .returned (.bool true) ∧ Below w.heap.size w w' := by
  have H1 : Hid (∀ W, Calls Tryd.prog 11 #[originV sc ho po no, .int .i64 1048576] W fun e w' => (∃ r : Int, e = .returned (.int .i64 r) ∧ (r < 0 ∨ (0 ≤ r ∧ r ≤ 1048576 ∧ sc.size + ho.size ≤ 1048576))) ∧ Below W.heap.size W w') := fun W => szOrigin_any sc ho po no 1048576 W h1 h2 (by omega) (by omega)
  have H2 : Hid (∀ W, Calls Tryd.prog 13 #[originV sc ho po no] W fun e w' => e = .returned (originV sc ho po no) ∧ Below W.heap.size W w') := fun W => toOrigin_any sc ho po no W
  have H3 : Hid (∀ W, Calls Tryd.prog 12 #[originV sc ho po no] W fun e w' => e = .returned (.bool (originB sc ho po no)) ∧ Below W.heap.size W w') := fun W => specOriginRight_any sc ho po no W
  have H4 : Hid (∀ W, Below w.heap.size w W → sc.size + ho.size ≤ 1048576 → Calls Tryd.prog 14 #[originV sc ho po no] W fun e w' => e = .returned (.bool (originB sc ho po no)) ∧ Below W.heap.size W w') := fun W hb h => hI sc ho po no W hb h
  clear h1 h2 hI
  generalize originB sc ho po no = b at *
  unfold originV at *
  go_enter Tryd.func4, Tryd.ntmps4
  go_wp2_with fail
  refine (H1.out _).mono ?_
  rintro e w1 ⟨⟨r, rfl, hr⟩, hb1⟩
  have hz1 : w.heap.size < w1.heap.size := by have := hb1.size; simp at this; omega
  have HC1 : Hid (∀ o, w1.cell? ⟨w.heap.size, o, none⟩ = (w.alloc (.cells #[.string sc, .string ho, .int .i64 po, .int .i64 no] 30)).cell? ⟨w.heap.size, o, none⟩) := fun o => (bcell hb1).1 _ _ (by simp)
  have HB1 : Hid (Below w.heap.size w w1) := ((Below.refl _ _).alloc (Nat.le_refl _) _).trans (hb1.mono (by simp))
  clear hb1
  have a0 : w1.cell? ⟨w.heap.size, 0, none⟩ = some (.string sc) := by rw [HC1.out]; simp
  have a1 : w1.cell? ⟨w.heap.size, 1, none⟩ = some (.string ho) := by rw [HC1.out]; simp
  have a2 : w1.cell? ⟨w.heap.size, 2, none⟩ = some (.int .i64 po) := by rw [HC1.out]; simp
  have a3 : w1.cell? ⟨w.heap.size, 3, none⟩ = some (.int .i64 no) := by rw [HC1.out]; simp
  rcases hr with hr | ⟨hr, hr2, hsum⟩
  · go_wp2
    go_ret
    exact ⟨rfl, HB1.out⟩
  · have q : decide (r < 0) = false := by rw [decide_eq_false_iff_not]; omega
    go_wp2_with fail
    refine (H2.out _).mono ?_
    rintro e w2 ⟨rfl, hb2⟩
    have hz2 := hb2.size
    go_wp2_with fail
    refine (H3.out _).mono ?_
    rintro e w3 ⟨rfl, hb3⟩
    have hz3 := hb3.size
    have HB3 : Hid (Below w.heap.size w w3) := (HB1.out.trans (hb2.mono (Nat.le_of_lt hz1))).trans (hb3.mono (by omega))
    have c0 : w3.cell? ⟨w.heap.size, 0, none⟩ = some (.string sc) := by rw [(bcell hb3).1 _ _ (by omega), (bcell hb2).1 _ _ hz1]; exact a0
    have c1 : w3.cell? ⟨w.heap.size, 1, none⟩ = some (.string ho) := by rw [(bcell hb3).1 _ _ (by omega), (bcell hb2).1 _ _ hz1]; exact a1
    have c2 : w3.cell? ⟨w.heap.size, 2, none⟩ = some (.int .i64 po) := by rw [(bcell hb3).1 _ _ (by omega), (bcell hb2).1 _ _ hz1]; exact a2
    have c3 : w3.cell? ⟨w.heap.size, 3, none⟩ = some (.int .i64 no) := by rw [(bcell hb3).1 _ _ (by omega), (bcell hb2).1 _ _ hz1]; exact a3
    clear hb2 hb3 a0 a1 a2 a3
    go_wp2_with fail
    refine (H2.out _).mono ?_
    rintro e w4 ⟨rfl, hb4⟩
    have hz4 := hb4.size
    go_wp2_with fail
    refine (H4.out _ (HB3.out.trans (hb4.mono (by omega))) hsum).mono ?_
    rintro e w5 ⟨rfl, hb5⟩
    have HB5 : Hid (Below w.heap.size w w5) := (HB3.out.trans (hb4.mono (by omega))).trans (hb5.mono (by omega))
    clear hb4 hb5
    go_wp2
    go_ret
    exact ⟨rfl, HB5.out⟩
end Go.Proofs.YtknjkakokcblnagDoor

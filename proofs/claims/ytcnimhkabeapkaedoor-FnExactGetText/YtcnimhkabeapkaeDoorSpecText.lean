/- The walk of the specification's GetText. -/
import Derived.Test.YtcnimhkabeapkaeDoorSpecNum
import Derived.Test.YtcnimhkabeapkaeDoorTextAt
namespace Go.Proofs.YtcnimhkabeapkaeDoor
open Go.RowKit

set_option maxHeartbeats 400000 in
theorem specGetText_code (s : ByteArray) (p n a : Int) (c : Nat) (w : World) (hc : ¬ c = 0) (H : Hid (∀ W, Calls Tryd.prog 5 #[.string s, .int .i64 p] W fun e w' => e = .returned (.agg #[.int .i64 n, .int .i64 a, .int .i64 c]) ∧ Below W.heap.size W w')) :
    Calls Tryd.prog 8 #[.string s, .int .i64 p] w fun e w' => e = .returned (textOut ⟨#[]⟩ 0 c) ∧ Below w.heap.size w w' := by
  have q1 : ((c : Int) != 0) = true := by rw [bne_iff_ne]; omega
  go_enter Tryd.func8, Tryd.ntmps8
  go_wp2_with fail
  refine (H.out _).mono ?_
  rintro e w1 ⟨rfl, hb1⟩
  have hz1 : w.heap.size < w1.heap.size := by have := hb1.size; simp at this; omega
  have hc0 : w1.cell? ⟨w.heap.size, 0, none⟩ = some (.string ⟨#[]⟩) := by rw [(bcell hb1).1 _ _ (by simp)]; simp
  have hc1 : w1.cell? ⟨w.heap.size, 1, none⟩ = some (.int .i64 0) := by rw [(bcell hb1).1 _ _ (by simp)]; simp
  have hc2 : w1.cell? ⟨w.heap.size, 2, none⟩ = some (.int .i64 0) := by rw [(bcell hb1).1 _ _ (by simp)]; simp
  have hf0 : ∀ o, w1.frozen? ⟨w.heap.size, o, none⟩ = false := by intro o; rw [(bcell hb1).2 _ _ (by simp)]; simp
  have HB : Hid (Below w.heap.size w w1) := ((Below.refl _ _).alloc (Nat.le_refl _) _).trans (hb1.mono (by simp))
  clear hb1
  go_wp2
  refine bodyPost_ret (v := textOut ⟨#[]⟩ 0 c) (by simp [textOut, results, Tryd.results8, go_sem, hc0, hc1, hc2, hz1]) rfl ⟨rfl, ?_⟩
  exact (Below.setCell (Below.setCell (Below.setCell HB.out (Nat.le_refl _) _) (Nat.le_refl _) _) (Nat.le_refl _) _).alloc (by simp; omega) _

set_option maxHeartbeats 400000 in
theorem specGetText_neg (s : ByteArray) (p n a : Int) (w : World) (hn : n < 0) (H : Hid (∀ W, Calls Tryd.prog 5 #[.string s, .int .i64 p] W fun e w' => e = .returned (.agg #[.int .i64 n, .int .i64 a, .int .i64 0]) ∧ Below W.heap.size W w')) :
    Calls Tryd.prog 8 #[.string s, .int .i64 p] w fun e w' => e = .returned (textOut ⟨#[]⟩ 0 3) ∧ Below w.heap.size w w' := by
  go_enter Tryd.func8, Tryd.ntmps8
  go_wp2_with fail
  refine (H.out _).mono ?_
  rintro e w1 ⟨rfl, hb1⟩
  have hz1 : w.heap.size < w1.heap.size := by have := hb1.size; simp at this; omega
  have hc0 : w1.cell? ⟨w.heap.size, 0, none⟩ = some (.string ⟨#[]⟩) := by rw [(bcell hb1).1 _ _ (by simp)]; simp
  have hc1 : w1.cell? ⟨w.heap.size, 1, none⟩ = some (.int .i64 0) := by rw [(bcell hb1).1 _ _ (by simp)]; simp
  have hc2 : w1.cell? ⟨w.heap.size, 2, none⟩ = some (.int .i64 0) := by rw [(bcell hb1).1 _ _ (by simp)]; simp
  have hf0 : ∀ o, w1.frozen? ⟨w.heap.size, o, none⟩ = false := by intro o; rw [(bcell hb1).2 _ _ (by simp)]; simp
  have HB : Hid (Below w.heap.size w w1) := ((Below.refl _ _).alloc (Nat.le_refl _) _).trans (hb1.mono (by simp))
  clear hb1
  go_wp2
  refine bodyPost_ret (v := textOut ⟨#[]⟩ 0 3) (by simp [textOut, results, Tryd.results8, go_sem, hc0, hc1, hc2, hz1]) rfl ⟨rfl, ?_⟩
  exact (Below.setCell (Below.setCell (Below.setCell HB.out (Nat.le_refl _) _) (Nat.le_refl _) _) (Nat.le_refl _) _).alloc (by simp; omega) _

set_option maxHeartbeats 400000 in
theorem specGetText_big (s : ByteArray) (p n a : Int) (w : World) (hn : 8000 < n) (H : Hid (∀ W, Calls Tryd.prog 5 #[.string s, .int .i64 p] W fun e w' => e = .returned (.agg #[.int .i64 n, .int .i64 a, .int .i64 0]) ∧ Below W.heap.size W w')) :
    Calls Tryd.prog 8 #[.string s, .int .i64 p] w fun e w' => e = .returned (textOut ⟨#[]⟩ 0 3) ∧ Below w.heap.size w w' := by
  have q : decide (n < 0) = false := by rw [decide_eq_false_iff_not]; omega
  go_enter Tryd.func8, Tryd.ntmps8
  go_wp2_with fail
  refine (H.out _).mono ?_
  rintro e w1 ⟨rfl, hb1⟩
  have hz1 : w.heap.size < w1.heap.size := by have := hb1.size; simp at this; omega
  have hc0 : w1.cell? ⟨w.heap.size, 0, none⟩ = some (.string ⟨#[]⟩) := by rw [(bcell hb1).1 _ _ (by simp)]; simp
  have hc1 : w1.cell? ⟨w.heap.size, 1, none⟩ = some (.int .i64 0) := by rw [(bcell hb1).1 _ _ (by simp)]; simp
  have hc2 : w1.cell? ⟨w.heap.size, 2, none⟩ = some (.int .i64 0) := by rw [(bcell hb1).1 _ _ (by simp)]; simp
  have hf0 : ∀ o, w1.frozen? ⟨w.heap.size, o, none⟩ = false := by intro o; rw [(bcell hb1).2 _ _ (by simp)]; simp
  have HB : Hid (Below w.heap.size w w1) := ((Below.refl _ _).alloc (Nat.le_refl _) _).trans (hb1.mono (by simp))
  clear hb1
  go_wp2
  refine bodyPost_ret (v := textOut ⟨#[]⟩ 0 3) (by simp [textOut, results, Tryd.results8, go_sem, hc0, hc1, hc2, hz1]) rfl ⟨rfl, ?_⟩
  exact (Below.setCell (Below.setCell (Below.setCell HB.out (Nat.le_refl _) _) (Nat.le_refl _) _) (Nat.le_refl _) _).alloc (by simp; omega) _

set_option maxHeartbeats 400000 in
theorem specGetText_far (s : ByteArray) (p : Int) (n a : Nat) (w : World) (hn : n ≤ 8000) (hs : s.size ≤ 8000) (hf : s.size < a + n) (H : Hid (∀ W, Calls Tryd.prog 5 #[.string s, .int .i64 p] W fun e w' => e = .returned (.agg #[.int .i64 n, .int .i64 a, .int .i64 0]) ∧ Below W.heap.size W w')) :
    Calls Tryd.prog 8 #[.string s, .int .i64 p] w fun e w' => e = .returned (textOut ⟨#[]⟩ 0 4) ∧ Below w.heap.size w w' := by
  have q1 : decide ((n : Int) < 0) = false := by rw [decide_eq_false_iff_not]; omega
  have q2 : decide ((8000 : Int) < (n : Int)) = false := by rw [decide_eq_false_iff_not]; omega
  go_enter Tryd.func8, Tryd.ntmps8
  go_wp2_with fail
  refine (H.out _).mono ?_
  rintro e w1 ⟨rfl, hb1⟩
  have hz1 : w.heap.size < w1.heap.size := by have := hb1.size; simp at this; omega
  have hc0 : w1.cell? ⟨w.heap.size, 0, none⟩ = some (.string ⟨#[]⟩) := by rw [(bcell hb1).1 _ _ (by simp)]; simp
  have hc1 : w1.cell? ⟨w.heap.size, 1, none⟩ = some (.int .i64 0) := by rw [(bcell hb1).1 _ _ (by simp)]; simp
  have hc2 : w1.cell? ⟨w.heap.size, 2, none⟩ = some (.int .i64 0) := by rw [(bcell hb1).1 _ _ (by simp)]; simp
  have hf0 : ∀ o, w1.frozen? ⟨w.heap.size, o, none⟩ = false := by intro o; rw [(bcell hb1).2 _ _ (by simp)]; simp
  have HB : Hid (Below w.heap.size w w1) := ((Below.refl _ _).alloc (Nat.le_refl _) _).trans (hb1.mono (by simp))
  clear hb1
  go_wp2
  refine bodyPost_ret (v := textOut ⟨#[]⟩ 0 4) (by simp [textOut, results, Tryd.results8, go_sem, hc0, hc1, hc2, hz1]) rfl ⟨rfl, ?_⟩
  exact (Below.setCell (Below.setCell (Below.setCell HB.out (Nat.le_refl _) _) (Nat.le_refl _) _) (Nat.le_refl _) _).alloc (by simp; omega) _

set_option maxHeartbeats 400000 in
theorem specGetText_ok (s : ByteArray) (p : Int) (n a : Nat) (w : World) (hn : n ≤ 8000) (hs : s.size ≤ 8000) (hf : a + n ≤ s.size) (H : Hid (∀ W, Calls Tryd.prog 5 #[.string s, .int .i64 p] W fun e w' => e = .returned (.agg #[.int .i64 n, .int .i64 a, .int .i64 0]) ∧ Below W.heap.size W w')) :
    Calls Tryd.prog 8 #[.string s, .int .i64 p] w fun e w' => e = .returned (textOut (s.extract a (a + n)) ((a + n : Nat) : Int) 0) ∧ Below w.heap.size w w' := by
  have q1 : decide ((n : Int) < 0) = false := by rw [decide_eq_false_iff_not]; omega
  have q2 : decide ((8000 : Int) < (n : Int)) = false := by rw [decide_eq_false_iff_not]; omega
  have q3 : decide ((s.size : Int) - (n : Int) < (a : Int)) = false := by rw [decide_eq_false_iff_not]; omega
  have e1 : IntKind.i64.wrap ((a : Int) + (n : Int)) = (a : Int) + (n : Int) := by rw [IntKind.wrap_i64]; omega
  have e2 : ∀ W, Sem.run Tryd.prog (Instr.slice 9 (.string s) (some (.int .i64 (a : Int))) (some (.int .i64 ((a : Int) + (n : Int)))) none) W = .ok (.string (s.extract a (a + n))) W := by
    intro W
    rw [run_slice_string (P := Tryd.prog) W 9 s .i64 .i64 _ _ Tryd.underlying9 (by omega) (by omega) (by omega), Int.toNat_natCast, show ((a : Int) + (n : Int)).toNat = a + n by omega]
  go_enter Tryd.func8, Tryd.ntmps8
  go_wp2_with fail
  refine (H.out _).mono ?_
  rintro e w1 ⟨rfl, hb1⟩
  have hz1 : w.heap.size < w1.heap.size := by have := hb1.size; simp at this; omega
  have hc0 : w1.cell? ⟨w.heap.size, 0, none⟩ = some (.string ⟨#[]⟩) := by rw [(bcell hb1).1 _ _ (by simp)]; simp
  have hc1 : w1.cell? ⟨w.heap.size, 1, none⟩ = some (.int .i64 0) := by rw [(bcell hb1).1 _ _ (by simp)]; simp
  have hc2 : w1.cell? ⟨w.heap.size, 2, none⟩ = some (.int .i64 0) := by rw [(bcell hb1).1 _ _ (by simp)]; simp
  have hf0 : ∀ o, w1.frozen? ⟨w.heap.size, o, none⟩ = false := by intro o; rw [(bcell hb1).2 _ _ (by simp)]; simp
  have HB : Hid (Below w.heap.size w w1) := ((Below.refl _ _).alloc (Nat.le_refl _) _).trans (hb1.mono (by simp))
  clear hb1
  go_wp2_with fail
  go_region
  go_wp2
  refine bodyPost_ret (v := textOut (s.extract a (a + n)) ((a + n : Nat) : Int) 0) (by simp [textOut, results, Tryd.results8, go_sem, hc0, hc1, hc2, hz1]) rfl ⟨rfl, ?_⟩
  exact ((Below.setCell (Below.setCell (Below.setCell HB.out (Nat.le_refl _) _) (Nat.le_refl _) _) (Nat.le_refl _) _).alloc (by simp; omega) _).drew

/-- Both answer the same, at every text and place. -/
theorem getText_same (s : ByteArray) (p : Int) (hp : p ≤ 9223372036854775807) : ∃ (t : ByteArray) (b : Int) (c : Nat),
    (∀ W, Calls Tryd.prog 8 #[.string s, .int .i64 p] W fun e w' => e = .returned (textOut t b c) ∧ Below W.heap.size W w') ∧
    (∀ W, Laid W → Calls Tryd.prog 9 #[.string s, .int .i64 p] W fun e w' => e = .returned (textOut t b c) ∧ Below W.heap.size W w') := by
  have h1 := fun W => numAt_any s p W
  have h2 := fun W => specGetNum_any s p W hp
  by_cases h : (numR s p).2.2 = 0
  · have hpl := numR_place h
    have e : numR s p = ((numR s p).1, (numR s p).2.1, 0) := by rw [← h]
    generalize hn : (numR s p).1 = n at *
    generalize ha : (numR s p).2.1 = a at *
    rw [e] at h1 h2
    by_cases hn1 : n < 0
    · exact ⟨_, _, _, fun W => specGetText_neg s p n a W hn1 h2, fun W hW => implGetText_no s p 3 W hW (fun W => textAt_len s p n a W (.inl hn1) h1)⟩
    by_cases hn2 : 8000 < n
    · exact ⟨_, _, _, fun W => specGetText_big s p n a W hn2 h2, fun W hW => implGetText_no s p 3 W hW (fun W => textAt_len s p n a W (.inr hn2) h1)⟩
    obtain ⟨k, rfl⟩ := Int.eq_ofNat_of_zero_le (show 0 ≤ n by omega)
    obtain ⟨m, rfl⟩ := Int.eq_ofNat_of_zero_le hpl.2.1
    by_cases hf : s.size < m + k
    · exact ⟨_, _, _, fun W => specGetText_far s p k m W (by omega) hpl.1 hf h2, fun W hW => implGetText_no s p 4 W hW (fun W => textAt_far s p k m W (by omega) (by omega) hpl.1 hf h1)⟩
    · exact ⟨_, _, _, fun W => specGetText_ok s p k m W (by omega) hpl.1 (by omega) h2, fun W _ => implGetText_yes s _ p _ W (fun W => textAt_ok s p k m W (by omega) hpl.1 (by omega) h1)⟩
  · have e := numR_zero s p h
    generalize (numR s p).2.2 = c at *
    rw [e] at h1 h2
    simp only [numV, errV, if_neg h] at h1
    have h3 := fun W => textAt_code s p c W h h1
    simp only [textV, errV, if_neg h] at h3
    exact ⟨_, _, _, fun W => specGetText_code s p _ _ c W h h2, fun W hW => implGetText_no s p c W hW h3⟩
end Go.Proofs.YtcnimhkabeapkaeDoor

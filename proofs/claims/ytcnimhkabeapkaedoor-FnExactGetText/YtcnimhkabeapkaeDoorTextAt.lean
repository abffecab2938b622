/- The walks of textAt and GetText (the program's). -/
import Derived.Test.YtcnimhkabeapkaeDoorGetNum
import Derived.Test.YtcnimhkabeapkaeDoorTogether
namespace Go.Proofs.YtcnimhkabeapkaeDoor
open Go.RowKit

theorem numR_place {s : ByteArray} {p : Int} (h : (numR s p).2.2 = 0) : s.size ≤ 8000 ∧ 0 ≤ (numR s p).2.1 ∧ (numR s p).2.1 ≤ s.size := by
  unfold numR at *
  split at h
  · cases h
  · rename_i h1
    split at h
    · cases h
    · rename_i h2
      split at h
      · rename_i h3
        rw [if_neg h1, if_neg h2, if_pos h3]
        have hf := rd_facts (s.data.toList.drop p.toNat) 0 0 (by omega) (by decide)
        have hl : (s.data.toList.drop p.toNat).length = s.size - p.toNat := by rw [List.length_drop]; rfl
        refine ⟨by omega, by show (0 : Int) ≤ p + _; omega, ?_⟩
        show p + ((rd (s.data.toList.drop p.toNat) 0 0).2.1 : Int) ≤ s.size
        by_cases h4 : p.toNat ≤ s.size
        · omega
        · have e : rd (s.data.toList.drop p.toNat) 0 0 = (0, 0, 4) := by rw [List.drop_eq_nil_of_le (by simp only [Array.length_toList]; show s.size ≤ _; omega)]; rfl
          rw [e] at h3; cases h3
      · rename_i h3
        exact absurd h h3

/-- what textAt tells -/
def textV (t : ByteArray) (b : Int) (c : Nat) : Value := .tuple #[.string t, .int .i64 b, errV c]
/-- what a TextOut holds -/
def textOut (t : ByteArray) (b : Int) (c : Nat) : Value := .agg #[.string t, .int .i64 b, .int .i64 c]

set_option maxHeartbeats 400000 in
theorem textAt_code (s : ByteArray) (p : Int) (c : Nat) (w : World) (hc : ¬ c = 0) (H : Hid (∀ W, Calls Tryd.prog 11 #[.string s, .int .i64 p] W fun e w' => e = .returned (.tuple #[.int .i64 0, .int .i64 0, .iface 41 (.agg #[.int .i64 c])]) ∧ w' = W)) :
    Calls Tryd.prog 13 #[.string s, .int .i64 p] w fun e w' => e = .returned (textV ⟨#[]⟩ 0 c) ∧ Below w.heap.size w w' := by
  go_enter Tryd.func13, Tryd.ntmps13
  go_wp2_with fail
  refine (H.out _).mono ?_
  rintro e w1 ⟨rfl, rfl⟩
  go_wp2
  go_ret3
  exact ⟨by simp [textV, errV, hc], Below.refl _ _⟩

set_option maxHeartbeats 400000 in
theorem textAt_len (s : ByteArray) (p n a : Int) (w : World) (hn : n < 0 ∨ 8000 < n) (H : Hid (∀ W, Calls Tryd.prog 11 #[.string s, .int .i64 p] W fun e w' => e = .returned (.tuple #[.int .i64 n, .int .i64 a, .nilIface]) ∧ w' = W)) :
    Calls Tryd.prog 13 #[.string s, .int .i64 p] w fun e w' => e = .returned (textV ⟨#[]⟩ 0 3) ∧ Below w.heap.size w w' := by
  by_cases h : n < 0
  · clear hn
    go_enter Tryd.func13, Tryd.ntmps13
    go_wp2_with fail
    refine (H.out _).mono ?_
    rintro e w1 ⟨rfl, rfl⟩
    go_wp2
    go_ret3
    exact ⟨by simp [textV, errV], Below.refl _ _⟩
  · have h2 : 8000 < n := by omega
    have q : decide (n < 0) = false := by rw [decide_eq_false_iff_not]; omega
    clear hn h
    go_enter Tryd.func13, Tryd.ntmps13
    go_wp2_with fail
    refine (H.out _).mono ?_
    rintro e w1 ⟨rfl, rfl⟩
    go_wp2
    go_ret3
    exact ⟨by simp [textV, errV], Below.refl _ _⟩

set_option maxHeartbeats 400000 in
theorem textAt_far (s : ByteArray) (p : Int) (n a : Nat) (w : World) (hn : n ≤ 8000) (ha : a ≤ s.size) (hs : s.size ≤ 8000) (hf : s.size < a + n) (H : Hid (∀ W, Calls Tryd.prog 11 #[.string s, .int .i64 p] W fun e w' => e = .returned (.tuple #[.int .i64 n, .int .i64 a, .nilIface]) ∧ w' = W)) :
    Calls Tryd.prog 13 #[.string s, .int .i64 p] w fun e w' => e = .returned (textV ⟨#[]⟩ 0 4) ∧ Below w.heap.size w w' := by
  have q1 : decide ((n : Int) < 0) = false := by rw [decide_eq_false_iff_not]; omega
  have q2 : decide ((8000 : Int) < (n : Int)) = false := by rw [decide_eq_false_iff_not]; omega
  go_enter Tryd.func13, Tryd.ntmps13
  go_wp2_with fail
  refine (H.out _).mono ?_
  rintro e w1 ⟨rfl, rfl⟩
  go_wp2
  go_ret3
  exact ⟨by simp [textV, errV], Below.refl _ _⟩

set_option maxHeartbeats 400000 in
theorem textAt_ok (s : ByteArray) (p : Int) (n a : Nat) (w : World) (hn : n ≤ 8000) (hs : s.size ≤ 8000) (hf : a + n ≤ s.size) (H : Hid (∀ W, Calls Tryd.prog 11 #[.string s, .int .i64 p] W fun e w' => e = .returned (.tuple #[.int .i64 n, .int .i64 a, .nilIface]) ∧ w' = W)) :
    Calls Tryd.prog 13 #[.string s, .int .i64 p] w fun e w' => e = .returned (textV (s.extract a (a + n)) ((a + n : Nat) : Int) 0) ∧ Below w.heap.size w w' := by
  have q1 : decide ((n : Int) < 0) = false := by rw [decide_eq_false_iff_not]; omega
  have q2 : decide ((8000 : Int) < (n : Int)) = false := by rw [decide_eq_false_iff_not]; omega
  have hz : (s.extract a (a + n)).size ≤ 8000 := by simp; omega
  go_enter Tryd.func13, Tryd.ntmps13
  go_wp2_with fail
  refine (H.out _).mono ?_
  rintro e w1 ⟨rfl, rfl⟩
  go_wp2_with fail
  refine (together_empty (s.extract a (a + n)) _ (by omega)).mono ?_
  rintro e w2 ⟨rfl, hb⟩
  go_wp2
  go_ret3
  exact ⟨by simp [textV, errV], hb⟩

set_option maxHeartbeats 400000 in
theorem implGetText_yes (s t : ByteArray) (p b : Int) (w : World) (H : Hid (∀ W, Calls Tryd.prog 13 #[.string s, .int .i64 p] W fun e w' => e = .returned (.tuple #[.string t, .int .i64 b, .nilIface]) ∧ Below W.heap.size W w')) :
    Calls Tryd.prog 9 #[.string s, .int .i64 p] w fun e w' => e = .returned (textOut t b 0) ∧ Below w.heap.size w w' := by
  go_enter Tryd.func9, Tryd.ntmps9
  go_wp2_with fail
  refine (H.out _).mono ?_
  rintro e w1 ⟨rfl, hb⟩
  obtain ⟨hc, hf⟩ := bcell hb
  go_wp2
  refine bodyPost_ret (v := textOut t b 0) (by simp [textOut, results, Tryd.results9, go_sem, hc]) rfl ⟨rfl, ?_⟩
  exact Below.setCell (Below.setCell (Below.setCell (((Below.refl _ _).alloc (Nat.le_refl _) _).trans (hb.mono (by simp))) (Nat.le_refl _) _) (Nat.le_refl _) _) (Nat.le_refl _) _

set_option maxHeartbeats 400000 in
theorem implGetText_no (s : ByteArray) (p : Int) (c : Nat) (w : World) (hL : Laid w) (H : Hid (∀ W, Calls Tryd.prog 13 #[.string s, .int .i64 p] W fun e w' => e = .returned (.tuple #[.string ⟨#[]⟩, .int .i64 0, .iface 41 (.agg #[.int .i64 c])]) ∧ Below W.heap.size W w')) :
    Calls Tryd.prog 9 #[.string s, .int .i64 p] w fun e w' => e = .returned (textOut ⟨#[]⟩ 0 c) ∧ Below w.heap.size w w' := by
  have HL : Hid (Laid w) := hL
  clear hL
  go_enter Tryd.func9, Tryd.ntmps9
  go_wp2_with fail
  refine (H.out _).mono ?_
  rintro e w1 ⟨rfl, hb1⟩
  go_wp2_with fail
  refine (bytesCode_any c _ ((HL.out.alloc _).below hb1)).mono ?_
  rintro e w2 ⟨rfl, hb2⟩
  have hz1 : w.heap.size < w1.heap.size := by have := hb1.size; simp at this; omega
  have hc0 : w2.cell? ⟨w.heap.size, 0, none⟩ = some (.string ⟨#[]⟩) := by rw [(bcell hb2).1 _ _ hz1, (bcell hb1).1 _ _ (by simp)]; simp
  have hc1 : w2.cell? ⟨w.heap.size, 1, none⟩ = some (.int .i64 0) := by rw [(bcell hb2).1 _ _ hz1, (bcell hb1).1 _ _ (by simp)]; simp
  have hc2 : w2.cell? ⟨w.heap.size, 2, none⟩ = some (.int .i64 0) := by rw [(bcell hb2).1 _ _ hz1, (bcell hb1).1 _ _ (by simp)]; simp
  have hf0 : ∀ o, w2.frozen? ⟨w.heap.size, o, none⟩ = false := by intro o; rw [(bcell hb2).2 _ _ hz1, (bcell hb1).2 _ _ (by simp)]; simp
  go_wp2
  refine bodyPost_ret (v := textOut ⟨#[]⟩ 0 c) (by simp [textOut, results, Tryd.results9, go_sem, hc0, hc1, hc2]) rfl ⟨rfl, ?_⟩
  exact Below.setCell (Below.setCell (Below.setCell ((((Below.refl _ _).alloc (Nat.le_refl _) _).trans (hb1.mono (by simp))).trans (hb2.mono (Nat.le_of_lt hz1))) (Nat.le_refl _) _) (Nat.le_refl _) _) (Nat.le_refl _) _
end Go.Proofs.YtcnimhkabeapkaeDoor

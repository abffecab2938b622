/- The walk of the program's GetNum: it answers numR. -/
import Derived.Test.YtcnimhkabeapkaeDoorNumAt
import Derived.Laws.ResultCell
namespace Go.Proofs.YtcnimhkabeapkaeDoor
open Go.RowKit

/-- what errors.errorType holds -/
def Laid (w : World) : Prop := w.cell? ⟨0, 0, none⟩ = some (.iface 62 (.agg #[.pointer (some ⟨1, 34, none⟩)]))
theorem Laid.pos {w : World} (h : Laid w) : 0 < w.heap.size := by
  rcases Nat.eq_zero_or_pos w.heap.size with h0 | h1
  · simp [Laid, World.cell?, h0] at h
  · exact h1
theorem Laid.alloc {w : World} (h : Laid w) (o : Obj) : Laid (w.alloc o) := by
  unfold Laid; rw [World.cell?_alloc_lt _ _ ⟨0, 0, none⟩ h.pos]; exact h
theorem Laid.below {w w' : World} (h : Laid w) (hb : Below w.heap.size w w') : Laid w' := by
  unfold Laid; rw [hb.cell (p := ⟨0, 0, none⟩) h.pos]; exact h

/-- what a NumOut holds -/
def numOut (r : Int × Int × Nat) : Value := .agg #[.int .i64 r.1, .int .i64 r.2.1, .int .i64 r.2.2]

set_option maxHeartbeats 400000 in
theorem implGetNum_yes (s : ByteArray) (p n a : Int) (w : World) (H : Hid (∀ W, Calls Tryd.prog 11 #[.string s, .int .i64 p] W fun e w' => e = .returned (.tuple #[.int .i64 n, .int .i64 a, .nilIface]) ∧ w' = W)) :
    Calls Tryd.prog 6 #[.string s, .int .i64 p] w fun e w' => e = .returned (numOut (n, a, 0)) ∧ Below w.heap.size w w' := by
  go_enter Tryd.func6, Tryd.ntmps6
  go_wp2_with fail
  refine (H.out _).mono ?_
  rintro e w1 ⟨rfl, rfl⟩
  go_wp2
  exact bodyPost_ret (v := numOut (n, a, 0)) (by simp [numOut, results, Tryd.results6, go_sem]) rfl ⟨rfl, (Below.refl _ _).alloc (Nat.le_refl _) _⟩

set_option maxHeartbeats 400000 in
theorem implGetNum_no (s : ByteArray) (p : Int) (c : Nat) (w : World) (hL : Laid w) (H : Hid (∀ W, Calls Tryd.prog 11 #[.string s, .int .i64 p] W fun e w' => e = .returned (.tuple #[.int .i64 0, .int .i64 0, .iface 41 (.agg #[.int .i64 c])]) ∧ w' = W)) :
    Calls Tryd.prog 6 #[.string s, .int .i64 p] w fun e w' => e = .returned (numOut (0, 0, c)) ∧ Below w.heap.size w w' := by
  have HL : Hid (Laid w) := hL
  clear hL
  go_enter Tryd.func6, Tryd.ntmps6
  go_wp2_with fail
  refine (H.out _).mono ?_
  rintro e w1 ⟨rfl, rfl⟩
  go_wp2_with fail
  refine (bytesCode_any c _ (HL.out.alloc _)).mono ?_
  rintro e w2 ⟨rfl, hb⟩
  obtain ⟨hc, hf⟩ := bcell hb
  go_wp2
  refine bodyPost_ret (v := numOut (0, 0, c)) (by simp [numOut, results, Tryd.results6, go_sem, hc]) rfl ⟨rfl, ?_⟩
  exact Below.setCell (Below.setCell (Below.setCell (((Below.refl _ _).alloc (Nat.le_refl _) _).trans (hb.mono (by simp))) (Nat.le_refl _) _) (Nat.le_refl _) _) (Nat.le_refl _) _

theorem numR_zero (s : ByteArray) (p : Int) (h : ¬ (numR s p).2.2 = 0) : numR s p = (0, 0, (numR s p).2.2) := by
  unfold numR at *
  split
  · rfl
  · split
    · rfl
    · split
      · rename_i h1 h2 h3; rw [if_neg h1, if_neg h2, if_pos h3] at h; exact absurd rfl h
      · rfl

theorem implGetNum_any (s : ByteArray) (p : Int) (w : World) (hL : Laid w) :
    Calls Tryd.prog 6 #[.string s, .int .i64 p] w fun e w' => e = .returned (numOut (numR s p)) ∧ Below w.heap.size w w' := by
  by_cases h : (numR s p).2.2 = 0
  · have e : numR s p = ((numR s p).1, (numR s p).2.1, 0) := by rw [← h]
    have h1 := fun W => numAt_any s p W
    rw [e] at h1 ⊢
    exact implGetNum_yes s p _ _ w h1
  · have e := numR_zero s p h
    have h1 := fun W => numAt_any s p W
    rw [e] at h1 ⊢
    simp only [numV, errV, if_neg h] at h1
    exact implGetNum_no s p _ w hL h1
end Go.Proofs.YtcnimhkabeapkaeDoor

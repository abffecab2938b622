/- The law FnExactGetText, walked: both callees answer the same, field by field. -/
import Derived.Test.YtcnimhkabeapkaeDoorSpecText
namespace Go.Proofs.YtcnimhkabeapkaeDoor
open Go.RowKit

set_option maxHeartbeats 400000 in
theorem eqTextOut_same (t : ByteArray) (b c : Int) (w : World) :
    Calls Tryd.prog 10 #[.agg #[.string t, .int .i64 b, .int .i64 c], .agg #[.string t, .int .i64 b, .int .i64 c]] w fun e w' => e = .returned (.bool true) ∧ Below w.heap.size w w' := by
  go_enter Tryd.func10, Tryd.ntmps10
  go_wp2
  go_ret
  exact ⟨rfl, ((Below.refl _ _).alloc (Nat.le_refl _) _).alloc (by simp) _⟩

set_option maxHeartbeats 400000 in
theorem lawGetText_any (s : ByteArray) (p : Int) (w : World) (hp : p ≤ 9223372036854775807) (hL : Laid w) :
    Calls Tryd.prog 4 #[.string s, .int .i64 p] w fun e w' => e = .returned (.bool true) ∧ Below w.heap.size w w' := by
  by_cases h1 : 1048576 < s.size
  · clear hL
    go_enter Tryd.func4, Tryd.ntmps4
    go_wp2
    go_ret
    exact ⟨rfl, Below.refl _ _⟩
  obtain ⟨t, a, c, h2, h3⟩ := getText_same s p hp
  have H2 : Hid (∀ W, Calls Tryd.prog 8 #[.string s, .int .i64 p] W fun e w' => e = .returned (.agg #[.string t, .int .i64 a, .int .i64 c]) ∧ Below W.heap.size W w') := h2
  have H3 : Hid (∀ W, Laid W → Calls Tryd.prog 9 #[.string s, .int .i64 p] W fun e w' => e = .returned (.agg #[.string t, .int .i64 a, .int .i64 c]) ∧ Below W.heap.size W w') := h3
  have HL : Hid (Laid w) := hL
  clear h2 h3 hL
  go_enter Tryd.func4, Tryd.ntmps4
  go_wp2_with fail
  refine (H2.out _).mono ?_
  rintro e w1 ⟨rfl, hb1⟩
  go_wp2_with fail
  refine (H3.out _ ((HL.out.below hb1).alloc _)).mono ?_
  rintro e w2 ⟨rfl, hb2⟩
  have hz : w1.heap.size < w2.heap.size := by have := hb2.size; simp at this; omega
  have hc0 : w2.cell? ⟨w1.heap.size, 0, none⟩ = some (.string t) := by rw [(bcell hb2).1 _ _ (by simp)]; simp
  have hc1 : w2.cell? ⟨w1.heap.size, 1, none⟩ = some (.int .i64 a) := by rw [(bcell hb2).1 _ _ (by simp)]; simp
  have hc2 : w2.cell? ⟨w1.heap.size, 2, none⟩ = some (.int .i64 c) := by rw [(bcell hb2).1 _ _ (by simp)]; simp
  go_wp2_with fail
  refine (eqTextOut_same t a c _).mono ?_
  rintro e w3 ⟨rfl, hb3⟩
  go_wp2
  go_ret
  refine ⟨rfl, ?_⟩
  have hz1 := hb1.size
  exact (((hb1.alloc hz1 _).trans (hb2.mono (by simp; omega))).alloc (by omega) _).trans (hb3.mono (by simp; omega))
end Go.Proofs.YtcnimhkabeapkaeDoor

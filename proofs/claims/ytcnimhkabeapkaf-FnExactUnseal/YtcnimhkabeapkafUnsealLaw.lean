/- The law FnExactUnseal, walked: both callees answer the same. -/
import Derived.Test.YtcnimhkabeapkafUnsealWalk
namespace Go.Proofs.Ytcnimhkabeapkaf
open Go.RowKit

set_option maxHeartbeats 400000 in
theorem eqTextOut_same (t : ByteArray) (a c : Int) (w : World) :
    Calls Try.prog 11 #[textOut t a c, textOut t a c] w fun e w' => e = .returned (.bool true) ∧ Below w.heap.size w w' := by
  unfold textOut
  go_enter Try.func11, Try.ntmps11
  go_wp2
  go_ret
  exact ⟨rfl, ((Below.refl _ _).alloc (Nat.le_refl _) _).alloc (by simp) _⟩

set_option maxHeartbeats 400000 in
theorem lawUnseal_any (s : ByteArray) (w : World) :
    Calls Try.prog 4 #[.string s] w fun e w' => e = .returned (.bool true) ∧ Below w.heap.size w w' := by
  by_cases h1 : 1048576 < s.size
  · go_enter Try.func4, Try.ntmps4
    go_wp2
    go_ret
    exact ⟨rfl, Below.refl _ _⟩
  obtain ⟨t, a, c, h2, h3⟩ := unseal_same s
  have H2 : Hid (∀ w, Calls Try.prog 9 #[.string s] w fun e w' => e = .returned (textOut t a c) ∧ Below w.heap.size w w') := h2
  have H3 : Hid (∀ w, Calls Try.prog 10 #[.string s] w fun e w' => e = .returned (textOut t a c) ∧ Below w.heap.size w w') := h3
  clear h2 h3
  go_enter Try.func4, Try.ntmps4
  go_wp2_with fail
  refine (H2.out _).mono ?_
  rintro e w1 ⟨rfl, hb1⟩
  unfold textOut
  go_wp2_with fail
  refine (H3.out _).mono ?_
  rintro e w2 ⟨rfl, hb2⟩
  have hz : w1.heap.size < w2.heap.size := by have := hb2.size; simp at this; omega
  have hc0 : w2.cell? ⟨w1.heap.size, 0, none⟩ = some (.string t) := by rw [(bcell hb2).1 _ _ (by simp)]; simp
  have hc1 : w2.cell? ⟨w1.heap.size, 1, none⟩ = some (.int .i64 a) := by rw [(bcell hb2).1 _ _ (by simp)]; simp
  have hc2 : w2.cell? ⟨w1.heap.size, 2, none⟩ = some (.int .i64 c) := by rw [(bcell hb2).1 _ _ (by simp)]; simp
  unfold textOut
  go_wp2_with fail
  refine (eqTextOut_same t a c _).mono ?_
  rintro e w3 ⟨rfl, hb3⟩
  go_wp2
  go_ret
  refine ⟨rfl, ?_⟩
  have hz1 := hb1.size
  exact (((hb1.alloc hz1 _).trans (hb2.mono (by simp; omega))).alloc (by omega) _).trans (hb3.mono (by simp; omega))

end Go.Proofs.Ytcnimhkabeapkaf

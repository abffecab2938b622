/- The walk of the specification's LabelsOf. -/
import Derived.Test.YtknjkakokcblnaaDoorSpecHost
namespace Go.Proofs.YtknjkakokcblnaaDoor
open Go.RowKit

set_option maxRecDepth 10000 in
set_option maxHeartbeats 400000 in
theorem specLabelsOf_no (s : ByteArray) (w : World) (h : hostB s = false) :
    Calls Tryd.prog 25 #[.string s] w fun e w' => ∃ v, e = .returned v ∧ w'.ownsRow w.heap.size 9 1 v 0 [] ∧ Below w.heap.size w w' := by
  have H1 := fun W => specHost_any s W
  rw [h] at H1
  have G1 : Hid (∀ W, Calls Tryd.prog 27 #[.string s] W fun e w' => e = .returned (.bool false) ∧ Below W.heap.size W w') := H1
  clear H1 h
  go_enter Tryd.func25, Tryd.ntmps25
  go_wp2_with fail
  refine (G1.out _).mono ?_
  rintro e w1 ⟨rfl, hb⟩
  go_wp2
  go_ret
  exact ⟨_, rfl, World.ownsRow_made w1 #[] 0 hb.size (Nat.zero_le _) rfl, hb.alloc hb.size _⟩

theorem own_base {w : World} {base base' n : Nat} {e : TypeId} {v : Value} {xs : List Value} (h : w.ownsRow base e 1 v n xs) (hb : base' ≤ base) : w.ownsRow base' e 1 v n xs := by
  obtain ⟨h1, h2 | ⟨g, cap, cur, hv, hg, h3⟩⟩ := h
  · exact ⟨h1, .inl h2⟩
  · exact ⟨h1, .inr ⟨g, cap, cur, hv, Nat.le_trans hb hg, h3⟩⟩

set_option maxRecDepth 10000 in
set_option maxHeartbeats 400000 in
theorem specLabelsOf_yes (s : ByteArray) (w : World) (h : hostB s = true) :
    Calls Tryd.prog 25 #[.string s] w fun e w' => ∃ v, e = .returned v ∧ w'.ownsRow w.heap.size 9 1 v (splitB s 46).length (strCells (splitB s 46)) ∧ Below w.heap.size w w' := by
  have hsz : s.size ≤ 100 := by
    by_cases hz : 100 < s.size
    · rw [hostB_size hz] at h; cases h
    · omega
  have H1 := fun W => specHost_any s W
  rw [h] at H1
  have G1 : Hid (∀ W, Calls Tryd.prog 27 #[.string s] W fun e w' => e = .returned (.bool true) ∧ Below W.heap.size W w') := H1
  have G2 : Hid (∀ W, Calls Tryd.prog 61 #[.string s, .int .u8 46] W fun e w' => ∃ v, e = .returned v ∧ w'.ownsRow W.heap.size 9 1 v (splitB s 46).length (strCells (splitB s 46)) ∧ Below W.heap.size W w') := fun W => split_any s 46 W (by omega)
  clear H1 h
  go_enter Tryd.func25, Tryd.ntmps25
  go_wp2_with fail
  refine (G1.out _).mono ?_
  rintro e w1 ⟨rfl, hb⟩
  go_wp2_with fail
  refine (G2.out _).mono ?_
  rintro e w2 ⟨v, rfl, hown, hb2⟩
  go_wp2
  go_ret
  exact ⟨_, rfl, own_base hown hb.size, hb.trans (hb2.mono hb.size)⟩
end Go.Proofs.YtknjkakokcblnaaDoor

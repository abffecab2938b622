/- The law FnExactHostRight, walked, over what the program's HostRight answers. -/
import Derived.Test.YtknjkakokcblnafDoorSpecHost
namespace Go.Proofs.YtknjkakokcblnafDoor
open Go.RowKit

set_option maxHeartbeats 400000 in
theorem lawHost_of (w : World) (hI : ∀ (s : ByteArray) (W : World), Below w.heap.size w W → s.size ≤ 1048576 → Calls Tryd.prog 8 #[.string s] W fun e w' => e = .returned (.bool (hostB s)) ∧ Below W.heap.size W w')
    (s : ByteArray) :
    Calls Tryd.prog 3 #[.string s] w fun e w' => e = .returned (.bool true) ∧ Below w.heap.size w w' := by
  by_cases h1 : 1048576 < s.size
  · go_enter Tryd.func3, Tryd.ntmps3
    go_wp2
    go_ret
    exact ⟨rfl, Below.refl _ _⟩
  · have H1 : Hid (∀ W, Calls Tryd.prog 7 #[.string s] W fun e w' => e = .returned (.bool (hostB s)) ∧ Below W.heap.size W w') := fun W => specHost_any s W
    have H2 : Hid (∀ W, Below w.heap.size w W → Calls Tryd.prog 8 #[.string s] W fun e w' => e = .returned (.bool (hostB s)) ∧ Below W.heap.size W w') := fun W hb => hI s W hb (by omega)
    clear hI
    generalize hostB s = b at *
    go_enter Tryd.func3, Tryd.ntmps3
    go_wp2_with fail
    refine (H1.out _).mono ?_
    rintro e w1 ⟨rfl, hb1⟩
    go_wp2_with fail
    refine (H2.out _ hb1).mono ?_
    rintro e w2 ⟨rfl, hb2⟩
    go_wp2
    go_ret
    exact ⟨rfl, hb1.trans (hb2.mono hb1.size)⟩
end Go.Proofs.YtknjkakokcblnafDoor

/- The walk of the specification's l03Labels. -/
import Derived.Test.YtddlnbmkknbegaaDoorSpecRule
namespace Go.Proofs.YtddlnbmkknbegaaDoor
open Go.RowKit

/-- the labels of a rule, without the sign ahead -/
def ruleL (s : ByteArray) : List ByteArray := if bangB s = true then splitB (s.extract 1 s.size) 46 else splitB s 46

set_option maxRecDepth 10000 in
set_option maxHeartbeats 400000 in
theorem specRuleL_any (s : ByteArray) (w : World) (hp : 0 < s.size) (hs : s.size ≤ 1048576) :
    Calls Tryd.prog 83 #[.string s] w fun e w' => ∃ v, e = .returned v ∧ w'.ownsRow w.heap.size 9 1 v (ruleL s).length (strCells (ruleL s)) ∧ Below w.heap.size w w' := by
  by_cases h33 : s[0].toNat = 33
  · have q1 : ((s[0].toNat : Int) == 33) = true := by rw [beq_iff_eq]; omega
    have HL : Hid (ruleL s = splitB (s.extract 1 s.size) 46) := by show _ = _; rw [ruleL, if_pos (bangB_yes hp h33)]
    have HC : Hid (∀ W, Calls Tryd.prog 48 #[.string (s.extract 1 s.size), .int .u8 46] W fun e w' => ∃ v, e = .returned v ∧ w'.ownsRow W.heap.size 9 1 v (splitB (s.extract 1 s.size) 46).length (strCells (splitB (s.extract 1 s.size) 46)) ∧ Below W.heap.size W w') := fun W => split_any (s.extract 1 s.size) 46 W (by rw [ByteArray.size_extract]; omega)
    clear h33
    go_enter Tryd.func83, Tryd.ntmps83
    go_wp2_with fail
    refine (HC.out _).mono ?_
    rintro e w1 ⟨v, rfl, ho, hb⟩
    go_wp2
    go_ret
    exact ⟨_, rfl, by rw [HL.out]; exact ho, hb⟩
  · have q1 : ((s[0].toNat : Int) == 33) = false := by rw [beq_eq_false_iff_ne]; omega
    have HL : Hid (ruleL s = splitB s 46) := by
      show _ = _
      rw [ruleL, if_neg]
      rw [bangB_no (by rintro ⟨_, h⟩; exact h33 h)]; decide
    have HC : Hid (∀ W, Calls Tryd.prog 48 #[.string s, .int .u8 46] W fun e w' => ∃ v, e = .returned v ∧ w'.ownsRow W.heap.size 9 1 v (splitB s 46).length (strCells (splitB s 46)) ∧ Below W.heap.size W w') := fun W => split_any s 46 W hs
    clear h33
    go_enter Tryd.func83, Tryd.ntmps83
    go_wp2_with fail
    refine (HC.out _).mono ?_
    rintro e w1 ⟨v, rfl, ho, hb⟩
    go_wp2
    go_ret
    exact ⟨_, rfl, by rw [HL.out]; exact ho, hb⟩
end Go.Proofs.YtddlnbmkknbegaaDoor

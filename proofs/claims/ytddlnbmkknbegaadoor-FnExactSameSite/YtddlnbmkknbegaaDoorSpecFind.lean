/- The walks of the specification's l02Find (from place 0 on) and l02Num. -/
import Derived.Test.YtddlnbmkknbegaaDoorFind
import Derived.Test.YtddlnbmkknbegaaDoorLabel
import Derived.WalkKit
import Derived.WalkSpells
import Derived.WalkLawsBesides
namespace Go.Proofs.YtddlnbmkknbegaaDoor
open Go.RowKit

set_option maxRecDepth 10000 in
set_option maxHeartbeats 400000 in
theorem specFind_any (t x : ByteArray) (w : World) (ht : t.size ≤ 1048576) (hx : x.size ≤ 1048576) :
    Calls Tryd.prog 43 #[.string t, .int .i64 0, .string x] w fun e w' => e = .returned (.int .i64 (findI t x)) ∧ w' = w := by
  go_enter Tryd.func43, Tryd.ntmps43
  go_wp2
  go_loop [7] (fun i => ∃ k : Nat, k ≤ t.size + 1 ∧ i = .int .i64 k ∧ Hid (findTo t x k = none)) (fun i => t.size + 1 - (intOf i).toNat)
  case atStart => exact ⟨0, by omega, rfl, rfl⟩
  case round =>
    obtain ⟨k, hk, rfl, HN⟩ := hrel
    by_cases hle : k + x.size ≤ t.size
    · cases hat : isAt t x k with
      | true =>
        have HF : Hid (findI t x = k) := findI_hit HN.out hle hat
        have q : ((t.extract k (k + x.size)).toList == x.toList) = true := hat
        clear hat
        go_wp2
        go_ret
        exact ⟨ret_int HF.out.symm, rfl⟩
      | false =>
        have HF : Hid (findTo t x (k + 1) = none) := findTo_miss HN.out (by rw [hat]; simp)
        have q : ((t.extract k (k + x.size)).toList == x.toList) = false := hat
        clear hat
        go_wp2
        go_round
        case rel => exact ⟨k + 1, by omega, by go_num, HF⟩
        case measure => simp [intOf]; omega
    · have HF : Hid (findI t x = -1) := findI_none HN.out (by omega) hk
      go_wp2
      go_ret
      exact ⟨ret_int HF.out.symm, rfl⟩

end Go.Proofs.YtddlnbmkknbegaaDoor

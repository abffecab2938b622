/- What the laws over a Url do besides their two calls: its size is looked at, and it is handed on field by field. -/
import Derived.Test.YtddlnbmkknbegaaDoorSpecUrlText
import Derived.Laws.ResultCell
namespace Go.Proofs.YtddlnbmkknbegaaDoor
open Go.RowKit

set_option maxRecDepth 10000 in
set_option maxHeartbeats 400000 in
theorem szUrl_any (sc ho pa : ByteArray) (po : Int) (w : World) (h1 : sc.size ≤ maxLen) (h2 : ho.size ≤ maxLen) (h3 : pa.size ≤ maxLen) :
    Calls Tryd.prog 31 #[urlV sc ho pa po, .int .i64 1048576] w fun e w' => (∃ r : Int, e = .returned (.int .i64 r) ∧ (r < 0 ∨ (0 ≤ r ∧ sc.size + ho.size + pa.size ≤ 1048576))) ∧ Below w.heap.size w w' := by
  unfold maxLen at h1 h2 h3
  unfold urlV
  by_cases c1 : 1048576 < sc.size
  · have q1 : (1048576 : Int) - (sc.size : Int) < 0 := by omega
    go_enter Tryd.func31, Tryd.ntmps31
    go_wp2
    go_ret
    exact ⟨⟨-1, rfl, .inl (by omega)⟩, (Below.refl _ _).alloc (Nat.le_refl _) _⟩
  have q1 : decide ((1048576 : Int) - (sc.size : Int) < 0) = false := by rw [decide_eq_false_iff_not]; omega
  by_cases c2 : 1048576 < sc.size + ho.size
  · have q2 : (1048576 : Int) - (sc.size : Int) - (ho.size : Int) < 0 := by omega
    go_enter Tryd.func31, Tryd.ntmps31
    go_wp2
    go_ret
    exact ⟨⟨-1, rfl, .inl (by omega)⟩, (Below.refl _ _).alloc (Nat.le_refl _) _⟩
  have q2 : decide ((1048576 : Int) - (sc.size : Int) - (ho.size : Int) < 0) = false := by rw [decide_eq_false_iff_not]; omega
  by_cases c3 : 1048576 < sc.size + ho.size + pa.size
  · have q3 : (1048576 : Int) - (sc.size : Int) - (ho.size : Int) - (pa.size : Int) < 0 := by omega
    go_enter Tryd.func31, Tryd.ntmps31
    go_wp2
    go_ret
    exact ⟨⟨-1, rfl, .inl (by omega)⟩, (Below.refl _ _).alloc (Nat.le_refl _) _⟩
  have q3 : decide ((1048576 : Int) - (sc.size : Int) - (ho.size : Int) - (pa.size : Int) < 0) = false := by rw [decide_eq_false_iff_not]; omega
  go_enter Tryd.func31, Tryd.ntmps31
  go_wp2
  go_ret
  exact ⟨⟨(1048576 : Int) - (sc.size : Int) - (ho.size : Int) - (pa.size : Int), rfl, .inr ⟨by omega, by omega⟩⟩, (Below.refl _ _).alloc (Nat.le_refl _) _⟩

set_option maxRecDepth 10000 in
set_option maxHeartbeats 400000 in
theorem toUrl_any (sc ho pa : ByteArray) (po : Int) (w : World) :
    Calls Tryd.prog 32 #[urlV sc ho pa po] w fun e w' => e = .returned (urlV sc ho pa po) ∧ Below w.heap.size w w' := by
  have HV : Hid (urlV sc ho pa po = .agg #[.string sc, .string ho, .int .i64 po, .string pa]) := rfl
  rw [HV.out]
  go_enter Tryd.func32, Tryd.ntmps32
  go_wp2
  exact bodyPost_ret (v := .agg #[.string sc, .string ho, .int .i64 po, .string pa]) (by simp [results, Tryd.results32, go_sem]) rfl ⟨rfl, (((Below.refl _ _).alloc (Nat.le_refl _) _).alloc (by simp) _).alloc (by simp; omega) _⟩
end Go.Proofs.YtddlnbmkknbegaaDoor

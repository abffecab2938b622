/- The walk of cmp.Or at int. -/
import Derived.Test.YtehnklgpdjfcgaaSliceR
import Derived.Laws.ResultCell
import Derived.WalkKit
import Derived.WalkSpells
import Derived.WalkLawsBesides
import Derived.Deep.RegionHeld3
import Derived.Deep.DeepCutAuto
namespace Go.Proofs.Ytehnklgpdjfcgaa
open Go.RowKit

set_option maxRecDepth 10000 in
set_option maxHeartbeats 1000000 in
theorem orInt_any (a b : Int) (g : Nat) (w : World) (h0 : w.cell? ⟨g, 0, none⟩ = some (.int .i64 a)) (h1 : w.cell? ⟨g, 1, none⟩ = some (.int .i64 b)) : Calls Try.prog 77 #[.slice (some ⟨g, 0, none⟩) 2 2] w fun e w' => e = .returned (.int .i64 (if a = 0 then b else a)) ∧ w' = w := by
  have HO : Hid ((if a = 0 then b else a) = if a = 0 then b else a) := rfl
  generalize hR : (if a = 0 then b else a) = R at *
  have HR : Hid ((if a = 0 then b else a) = R) := hR
  clear hR HO
  go_enter Try.func77, Try.ntmps77
  go_wp2
  go_loopw [8] (fun i wr => ∃ k : Nat, k ≤ 2 ∧ i = .int .i64 k ∧ wr = w ∧ (0 < k → a = 0) ∧ (1 < k → b = 0)) (fun i _ => 2 - (intOf i).toNat)
  case atStart => exact ⟨0, by omega, rfl, rfl, fun h => absurd h (by omega), fun h => absurd h (by omega)⟩
  case round =>
    obtain ⟨k, hk, rfl, rfl, ha, hb⟩ := hrel
    match k, hk with
    | 0, _ =>
      clear ha hb
      by_cases e : a = 0
      · subst e
        go_wp2
        go_roundw
        case rel => exact ⟨1, by omega, by first | rfl | go_num, (by first | rfl | trivial), (fun _ => by first | rfl | trivial), fun h => absurd h (by omega)⟩
        case measure => simp [intOf]
      · have q : (a != 0) = true := by rw [bne_iff_ne]; exact e
        have HR1 : Hid (R = a) := by show _ = _; rw [← HR.out, if_neg e]
        go_wp2
        go_ret
        exact ⟨by rw [HR1.out]; rfl, rfl⟩
    | 1, _ =>
      obtain rfl := ha (by omega)
      have HR1 : Hid (R = b) := by show _ = _; rw [← HR.out, if_pos rfl]
      clear ha hb
      by_cases e : b = 0
      · subst e
        go_wp2
        go_roundw
        case rel => exact ⟨2, by omega, by first | rfl | go_num, (by first | rfl | trivial), (fun _ => by first | rfl | trivial), (fun _ => by first | rfl | trivial)⟩
        case measure => simp [intOf]
      · have q : (b != 0) = true := by rw [bne_iff_ne]; exact e
        go_wp2
        go_ret
        exact ⟨by rw [HR1.out]; rfl, rfl⟩
    | 2, _ =>
      obtain rfl := ha (by omega)
      obtain rfl := hb (by omega)
      have HR1 : Hid (R = 0) := by show _ = _; rw [← HR.out, if_pos rfl]
      clear ha hb
      go_wp2
      go_ret
      exact ⟨by rw [HR1.out]; rfl, rfl⟩
end Go.Proofs.Ytehnklgpdjfcgaa

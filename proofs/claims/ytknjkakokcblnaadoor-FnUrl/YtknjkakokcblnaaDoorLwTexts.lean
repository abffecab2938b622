/- The laws' lwTexts: rows of the same texts. -/
import Derived.Test.YtknjkakokcblnaaDoorMarks
import Derived.Deep.RegionHeld3
namespace Go.Proofs.YtknjkakokcblnaaDoor
open Go.RowKit

set_option maxRecDepth 10000 in
set_option maxHeartbeats 400000 in
theorem lwTexts_any (a b : Value) (n B B' : Nat) (f : Nat → ByteArray) (w : World) (ha : SliceS w B a n f) (hb : SliceS w B' b n f) (hn : n ≤ 1048576) :
    Calls Tryd.prog 23 #[a, b] w fun e w' => e = .returned (.bool true) ∧ Below w.heap.size w w' := by
  obtain ⟨p, cap, rfl, h1⟩ := ha
  obtain ⟨p', cap', rfl, h2⟩ := hb
  cases n with
  | zero =>
    clear h1 h2
    go_enter Tryd.func23, Tryd.ntmps23
    go_wp2
    go_loop [5] (fun i => i = .int .i64 0) (fun _ => 0)
    case atStart => rfl
    case round =>
      subst hrel
      go_wp2
      go_ret
      exact ⟨rfl, Below.refl _ _⟩
  | succ n =>
    obtain ⟨g, rfl, _, hg, hc⟩ := h1 (by omega)
    obtain ⟨g', rfl, _, hg', hc'⟩ := h2 (by omega)
    clear h1 h2
    have HC : Hid (∀ j, j < n + 1 → w.cell? ⟨g, j, none⟩ = some (.string (f j)) ∧ w.frozen? ⟨g, j, none⟩ = false) := hc
    have HC' : Hid (∀ j, j < n + 1 → w.cell? ⟨g', j, none⟩ = some (.string (f j)) ∧ w.frozen? ⟨g', j, none⟩ = false) := hc'
    clear hc hc'
    go_enter Tryd.func23, Tryd.ntmps23
    go_wp2
    go_loopw [5] (fun i wr => ∃ k : Nat, k ≤ n + 1 ∧ i = .int .i64 k ∧ Below w.heap.size w wr) (fun i _ => n + 1 - (intOf i).toNat)
    case atStart => exact ⟨0, by omega, rfl, Below.refl _ _⟩
    case round =>
      obtain ⟨k, hk, rfl, hb⟩ := hrel
      by_cases hlt : k < n + 1
      · have c1 : wr.cell? ⟨g, k, none⟩ = some (.string (f k)) := by rw [(bcell hb).1 _ _ hg]; exact (HC.out k hlt).1
        have c2 : wr.cell? ⟨g', k, none⟩ = some (.string (f k)) := by rw [(bcell hb).1 _ _ hg']; exact (HC'.out k hlt).1
        have k0 : (0 : Int) ≤ k := by omega
        have k1 : (k : Int) < (n : Int) + 1 := by omega
        generalize f k = x at *
        go_wp2_with fail
        go_region_held3 (fun w' => w'.cell? ⟨g, k, none⟩ = some (.string x) ∧ w'.cell? ⟨g', k, none⟩ = some (.string x)) (go_keep) (fail)
        go_wp2
        go_roundw
        case rel => exact ⟨k + 1, by omega, by go_num, hb.trans (Below.drew (Below.refl _ _))⟩
        case measure => simp [intOf]; omega
      · go_wp2
        go_ret
        exact ⟨rfl, hb⟩
end Go.Proofs.YtknjkakokcblnaaDoor

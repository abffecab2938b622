/- The specification's source of draws: what it tells is somewhere in its bounds; it writes into its own block alone. -/
import Derived.Test.YtknjkakokcblnaaDoorRow
import Derived.Deep.RegionHeld3
import Derived.Laws.Bits64
namespace Go.Proofs.YtknjkakokcblnaaDoor
open Go.RowKit

/-- the bytes of a source: readable, and of a block below g -/
def BytesOf (w : World) (g : Nat) (a : Option Addr) (len : Nat) : Prop := ∀ i, i < len → ∃ (x : Addr) (z : Int), a = some x ∧ x.block < g ∧ w.cell? (x.add i) = some (.int .u8 z) ∧ 0 ≤ z ∧ z < 256
/-- a source of draws lies in block g -/
def SrcAt (w : World) (g : Nat) : Prop :=
  g < w.heap.size ∧ ∃ (a : Option Addr) (len cap at' : Nat) (mix size : Int), (w.cell? ⟨g, 0, none⟩ = some (.slice a len cap) ∧ w.cell? ⟨g, 1, none⟩ = some (.int .i64 at') ∧ w.cell? ⟨g, 2, none⟩ = some (.int .u64 mix) ∧ w.cell? ⟨g, 3, none⟩ = some (.int .i64 size)) ∧
    (0 ≤ mix ∧ mix < 18446744073709551616 ∧ 0 ≤ size ∧ size ≤ 12 ∧ len ≤ 1048576 ∧ at' ≤ len) ∧ (∀ o, w.frozen? ⟨g, o, none⟩ = false) ∧ BytesOf w g a len

theorem setCell_twice (W : World) (p : Addr) (u v : Value) : (W.setCell p u).setCell p v = W.setCell p v := by
  unfold World.setCell
  congr 1
  apply Array.ext
  · simp
  · intro i h1 h2
    simp only [Array.getElem_modify]
    split
    · have hi : i < W.heap.size := by simpa using h2
      cases W.heap[i] with
      | cells c e f => by_cases hs : p.spot.isSome = true <;> simp [hs]
      | _ => rfl
    · rfl
theorem xor_range (a b : Int) : 0 ≤ bits BinOp.xor IntKind.u64 a b ∧ bits BinOp.xor IntKind.u64 a b < 18446744073709551616 := by
  show 0 ≤ IntKind.u64.wrap _ ∧ IntKind.u64.wrap _ < _
  rw [IntKind.wrap_u64]
  exact ⟨Int.emod_nonneg _ (by decide), Int.emod_lt_of_pos _ (by decide)⟩
theorem draw_range (x most : Int) (h1 : 1 < most) (h2 : most < 9223372036854775808) : 0 ≤ wrap64 ((IntKind.u64.wrap x).tmod most) ∧ wrap64 ((IntKind.u64.wrap x).tmod most) < most := by
  rw [IntKind.wrap_u64]
  have h0 : 0 ≤ x % 18446744073709551616 := Int.emod_nonneg _ (by decide)
  generalize x % 18446744073709551616 = y at *
  rw [Int.tmod_eq_emod_of_nonneg h0]
  have a1 := Int.emod_nonneg y (b := most) (by omega)
  have a2 := Int.emod_lt_of_pos y (b := most) (by omega)
  generalize y % most = r at *
  unfold wrap64
  omega
theorem BytesOf.setCell {w : World} {g o : Nat} {a : Option Addr} {len : Nat} (hb : BytesOf w g a len) (v : Value) : BytesOf (w.setCell ⟨g, o, none⟩ v) g a len := by
  intro i hi
  obtain ⟨x, z, e, hx, hc, hz⟩ := hb i hi
  have hxb : (x.add i).block = x.block := by unfold Addr.add; split <;> rfl
  refine ⟨x, z, e, hx, ?_, hz⟩
  rw [World.cell?_setCell_far _ _ _ _ (by rw [hxb]; show g ≠ _; omega)]
  exact hc
theorem grown_setCell {w w' : World} {g o : Nat} (h : w.grownBy w' (some g)) (v : Value) : w.grownBy (w'.setCell ⟨g, o, none⟩ v) (some g) :=
  ⟨h.os, h.tape, h.output, by have := h.size; simp [World.setCell]; omega, fun j hj hne => by
    have hj' : j ≠ g := fun h => hne (by rw [h])
    rw [Below.heap_setCell _ _ _ _ hj']; exact h.block j hj hne⟩
theorem grown_refl (w : World) (r : Option Nat) : w.grownBy w r := ⟨rfl, rfl, rfl, Nat.le_refl _, fun _ _ _ => rfl⟩
/-- a source turned: its place moved on -/
theorem src_on {w : World} {g : Nat} {a : Option Addr} {len cap k k' : Nat} {mix size : Int} (hg : g < w.heap.size)
    (c0 : w.cell? ⟨g, 0, none⟩ = some (.slice a len cap)) (c1 : w.cell? ⟨g, 1, none⟩ = some (.int .i64 k)) (c2 : w.cell? ⟨g, 2, none⟩ = some (.int .u64 mix)) (c3 : w.cell? ⟨g, 3, none⟩ = some (.int .i64 size))
    (m0 : 0 ≤ mix) (m1 : mix < 18446744073709551616) (hs0 : 0 ≤ size) (hs1 : size ≤ 12) (hl : len ≤ 1048576) (hk : k' ≤ len) (hf : ∀ o, w.frozen? ⟨g, o, none⟩ = false) (hb : BytesOf w g a len) :
    SrcAt (w.setCell ⟨g, 1, none⟩ (.int .i64 k')) g := by
  refine ⟨by simpa [World.setCell] using hg, a, len, cap, k', mix, size, ⟨?_, ?_, ?_, ?_⟩, ⟨m0, m1, hs0, hs1, hl, hk⟩, ?_, hb.setCell _⟩
  · rw [World.cell?_setCell_other _ _ _ _ (by simp)]; exact c0
  · exact World.cell?_setCell_same _ _ _ c1
  · rw [World.cell?_setCell_other _ _ _ _ (by simp)]; exact c2
  · rw [World.cell?_setCell_other _ _ _ _ (by simp)]; exact c3
  · intro o; rw [World.frozen?_setCell]; exact hf o
/-- a source turned: its mix another one -/
theorem src_mix {w : World} {g : Nat} {M : Int} (h : SrcAt w g) (hM : 0 ≤ M ∧ M < 18446744073709551616) : SrcAt (w.setCell ⟨g, 2, none⟩ (.int .u64 M)) g := by
  obtain ⟨hg, a, len, cap, k, mix, size, ⟨c0, c1, c2, c3⟩, ⟨m0, m1, s0, s1, hl, hk⟩, hf, hb⟩ := h
  refine ⟨by simpa [World.setCell] using hg, a, len, cap, k, M, size, ⟨?_, ?_, ?_, ?_⟩, ⟨hM.1, hM.2, s0, s1, hl, hk⟩, ?_, hb.setCell _⟩
  · rw [World.cell?_setCell_other _ _ _ _ (by simp)]; exact c0
  · rw [World.cell?_setCell_other _ _ _ _ (by simp)]; exact c1
  · exact World.cell?_setCell_same _ _ _ c2
  · rw [World.cell?_setCell_other _ _ _ _ (by simp)]; exact c3
  · intro o; rw [World.frozen?_setCell]; exact hf o
theorem SrcAt.drew {w : World} {g : Nat} (h : SrcAt w g) : SrcAt w.drew g := h
theorem grown_drew {w w' : World} {r : Option Nat} (h : w.grownBy w' r) : w.grownBy w'.drew r := ⟨h.os, h.tape, h.output, h.size, h.block⟩

set_option maxRecDepth 10000 in
set_option maxHeartbeats 1000000 in
theorem srcN_any (g : Nat) (most : Int) (w : World) (hs : SrcAt w g) (hm : most < 9223372036854775808) :
    Calls Tryd.prog 44 #[.pointer (some ⟨g, 0, none⟩), .int .i64 most] w fun e w' => ∃ r : Int, e = .returned (.int .i64 r) ∧ 0 ≤ r ∧ (1 < most → r < most) ∧ (most ≤ 1 → r = 0) ∧ SrcAt w' g ∧ w.grownBy w' (some g) := by
  have HS : Hid (SrcAt w g) := hs
  obtain ⟨hg, a, len, cap, k, mix, size, ⟨c0, c1, c2, c3⟩, ⟨m0, m1, s0, s1, hl, hk⟩, hf, hb⟩ := hs
  have hcc : ∀ (W : World) (p : Addr) (u v : Value), (W.setCell p u).setCell p v = W.setCell p v := setCell_twice
  by_cases h1 : most ≤ 1
  · go_enter Tryd.func44, Tryd.ntmps44
    go_wp2
    go_ret
    exact ⟨0, rfl, Int.le_refl _, fun h => absurd h (by omega), fun _ => rfl, HS.out, ⟨rfl, rfl, rfl, Nat.le_refl _, fun _ _ _ => rfl⟩⟩
  have q1 : decide (most ≤ 1) = false := by rw [decide_eq_false_iff_not]; exact h1
  by_cases hlt : k < len
  · obtain ⟨x, z, rfl, hx, hz, z0, z1⟩ := hb k hlt
    have k0 : (0 : Int) ≤ k := by omega
    have k1 : (k : Int) < (len : Int) := by omega
    have HBy : Hid (BytesOf w g (some x) len) := hb
    clear hb
    go_enter Tryd.func44, Tryd.ntmps44
    go_wp2
    go_region
    go_wp2
    go_region
    go_wp2
    go_region
    go_wp2
    go_region
    go_wp2
    go_region
    go_wp2
    go_ret
    exact ⟨_, rfl, (draw_range _ most h1 hm).1, fun _ => (draw_range _ most h1 hm).2, fun h => absurd h (by omega),
      src_mix (src_on (k' := k + 1) hg c0 c1 c2 c3 m0 m1 s0 s1 hl (by omega) hf HBy.out) (xor_range _ _), grown_drew (grown_drew (grown_drew (grown_drew (grown_drew (grown_setCell (grown_setCell (grown_refl _ _) _) _)))))⟩
  · have HBy : Hid (BytesOf w g a len) := hb
    clear hb
    go_enter Tryd.func44, Tryd.ntmps44
    go_wp2
    go_region
    go_wp2
    go_region
    go_wp2
    go_region
    go_wp2
    go_region
    go_wp2
    go_ret
    exact ⟨_, rfl, (draw_range _ most h1 hm).1, fun _ => (draw_range _ most h1 hm).2, fun h => absurd h (by omega),
      src_mix HS.out (xor_range _ _), grown_drew (grown_drew (grown_drew (grown_drew (grown_setCell (grown_refl _ _) _))))⟩
end Go.Proofs.YtknjkakokcblnaaDoor

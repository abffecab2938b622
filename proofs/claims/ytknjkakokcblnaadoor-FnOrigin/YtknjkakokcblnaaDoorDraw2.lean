/- More of the specification's source of draws: one of so many, one of some texts, a source from bytes. -/
import Derived.Test.YtknjkakokcblnaaDoorDraw
import Derived.Test.YtknjkakokcblnaaDoorMarks
namespace Go.Proofs.YtknjkakokcblnaaDoor
open Go.RowKit

set_option maxRecDepth 10000 in
set_option maxHeartbeats 400000 in
theorem srcOne_any (g : Nat) (most : Int) (w : World) (hs : SrcAt w g) (hm : most < 9223372036854775808) :
    Calls Tryd.prog 43 #[.pointer (some ⟨g, 0, none⟩), .int .i64 most] w fun e w' => (∃ b : Bool, e = .returned (.bool b)) ∧ SrcAt w' g ∧ w.grownBy w' (some g) := by
  have HN : Hid (Calls Tryd.prog 44 #[.pointer (some ⟨g, 0, none⟩), .int .i64 most] w fun e w' => ∃ r : Int, e = .returned (.int .i64 r) ∧ 0 ≤ r ∧ (1 < most → r < most) ∧ (most ≤ 1 → r = 0) ∧ SrcAt w' g ∧ w.grownBy w' (some g)) := srcN_any g most w hs hm
  clear hs
  go_enter Tryd.func43, Tryd.ntmps43
  go_wp2_with fail
  refine HN.out.mono ?_
  rintro e w1 ⟨r, rfl, _, _, _, h1, h2⟩
  go_wp2
  go_ret
  exact ⟨⟨_, rfl⟩, h1, h2⟩

/-- a row of texts in block h -/
def TextsAt (w : World) (h n : Nat) (f : Nat → ByteArray) : Prop := ∀ j, j < n → w.cell? ⟨h, j, none⟩ = some (.string (f j))
theorem TextsAt.kept {w w' : World} {h n : Nat} {f : Nat → ByteArray} {r : Option Nat} (ht : TextsAt w h n f) (hg : w.grownBy w' r) (hne : some h ≠ r) : TextsAt w' h n f :=
  fun j hj => hg.cell (a := ⟨h, j, none⟩) (ht j hj) hne

set_option maxRecDepth 10000 in
set_option maxHeartbeats 400000 in
theorem srcPick_any (g h n cap : Nat) (f : Nat → ByteArray) (w : World) (hs : SrcAt w g) (ht : TextsAt w h (n + 2) f) (hne : h ≠ g) (hn : n ≤ 1048576) :
    Calls Tryd.prog 51 #[.pointer (some ⟨g, 0, none⟩), .slice (some ⟨h, 0, none⟩) (n + 2) cap] w fun e w' => (∃ j, j < n + 2 ∧ e = .returned (.string (f j))) ∧ SrcAt w' g ∧ w.grownBy w' (some g) := by
  have HN : Hid (Calls Tryd.prog 44 #[.pointer (some ⟨g, 0, none⟩), .int .i64 ((n : Int) + 2)] w fun e w' => ∃ r : Int, e = .returned (.int .i64 r) ∧ 0 ≤ r ∧ (1 < (n : Int) + 2 → r < (n : Int) + 2) ∧ ((n : Int) + 2 ≤ 1 → r = 0) ∧ SrcAt w' g ∧ w.grownBy w' (some g)) := srcN_any g _ w hs (by omega)
  have HT : Hid (TextsAt w h (n + 2) f) := ht
  clear hs ht
  go_enter Tryd.func51, Tryd.ntmps51
  go_wp2_with fail
  refine HN.out.mono ?_
  rintro e w1 ⟨r, rfl, r0, r1, _, h1, h2⟩
  have r2 := r1 (by omega)
  obtain ⟨j, rfl⟩ : ∃ j : Nat, r = j := ⟨r.toNat, by omega⟩
  have hj : j < n + 2 := by omega
  have hc := HT.out.kept h2 (by simpa using hne) j hj
  clear r1
  go_wp2
  go_ret
  exact ⟨⟨j, hj, rfl⟩, h1, h2⟩

/-- the bytes that a source is made from -/
def CodeRow (w : World) (a : Option Addr) (len : Nat) : Prop := ∀ i, i < len → ∃ (x : Addr) (z : Int), a = some x ∧ x.block < w.heap.size ∧ w.cell? (x.add i) = some (.int .u8 z) ∧ 0 ≤ z ∧ z < 256
theorem add_block (x : Addr) (i : Nat) : (x.add i).block = x.block := by unfold Addr.add; split <;> rfl
theorem CodeRow.bytes {w w' : World} {a : Option Addr} {len : Nat} (h : CodeRow w a len) (hb : Below w.heap.size w w') : BytesOf w' w.heap.size a len := by
  intro i hi
  obtain ⟨x, z, e, hx, hc, hz⟩ := h i hi
  exact ⟨x, z, e, by omega, by rw [hb.cell (p := x.add i) (by rw [add_block]; exact hx)]; exact hc, hz⟩

theorem wrap_range (x : Int) : 0 ≤ IntKind.u64.wrap x ∧ IntKind.u64.wrap x < 18446744073709551616 := by
  rw [IntKind.wrap_u64]
  exact ⟨Int.emod_nonneg _ (by decide), Int.emod_lt_of_pos _ (by decide)⟩
theorem src_size {w : World} {g : Nat} {a : Option Addr} {len cap : Nat} {mix size size' : Int} (hg : g < w.heap.size)
    (c0 : w.cell? ⟨g, 0, none⟩ = some (.slice a len cap)) (c1 : w.cell? ⟨g, 1, none⟩ = some (.int .i64 0)) (c2 : w.cell? ⟨g, 2, none⟩ = some (.int .u64 mix)) (c3 : w.cell? ⟨g, 3, none⟩ = some (.int .i64 size))
    (m0 : 0 ≤ mix) (m1 : mix < 18446744073709551616) (hs0 : 0 ≤ size') (hs1 : size' ≤ 12) (hl : len ≤ 1048576) (hf : ∀ o, w.frozen? ⟨g, o, none⟩ = false) (hb : BytesOf w g a len) :
    SrcAt (w.setCell ⟨g, 3, none⟩ (.int .i64 size')) g := by
  refine ⟨by simpa [World.setCell] using hg, a, len, cap, 0, mix, size', ⟨?_, ?_, ?_, ?_⟩, ⟨m0, m1, hs0, hs1, hl, Nat.zero_le _⟩, ?_, hb.setCell _⟩
  · rw [World.cell?_setCell_other _ _ _ _ (by simp)]; exact c0
  · rw [World.cell?_setCell_other _ _ _ _ (by simp)]; exact c1
  · rw [World.cell?_setCell_other _ _ _ _ (by simp)]; exact c2
  · exact World.cell?_setCell_same _ _ _ c3
  · intro o; rw [World.frozen?_setCell]; exact hf o

set_option maxRecDepth 10000 in
set_option maxHeartbeats 1000000 in
theorem source_any (a : Option Addr) (len cap : Nat) (w : World) (hr : CodeRow w a len) (hl : len ≤ 1048576) :
    Calls Tryd.prog 38 #[.slice a len cap] w fun e w' => e = .returned (.pointer (some ⟨w.heap.size, 0, none⟩)) ∧ SrcAt w' w.heap.size ∧ Below w.heap.size w w' := by
  have HR : Hid (CodeRow w a len) := hr
  clear hr
  have hcc : ∀ (W : World) (p : Addr) (u v : Value), (W.setCell p u).setCell p v = W.setCell p v := setCell_twice
  go_enter Tryd.func38, Tryd.ntmps38
  go_wp2
  go_loopw [4] (fun i wr => ∃ (k : Nat) (mix : Int), k ≤ len ∧ i = .int .i64 k ∧ w.heap.size < wr.heap.size ∧ (wr.cell? ⟨w.heap.size, 0, none⟩ = some (.slice a len cap) ∧ wr.cell? ⟨w.heap.size, 1, none⟩ = some (.int .i64 0) ∧ wr.cell? ⟨w.heap.size, 2, none⟩ = some (.int .u64 mix) ∧ wr.cell? ⟨w.heap.size, 3, none⟩ = some (.int .i64 0)) ∧ 0 ≤ mix ∧ mix < 18446744073709551616 ∧ (∀ o, wr.frozen? ⟨w.heap.size, o, none⟩ = false) ∧ Below w.heap.size w wr) (fun i _ => len - (intOf i).toNat)
  case atStart => exact ⟨0, 88172645463325252, by omega, rfl, by simp, ⟨by simp, by simp, by simp, by simp⟩, by decide, by decide, by simp, (Below.refl _ _).alloc (Nat.le_refl _) _⟩
  case round =>
    obtain ⟨k, mix, hk, rfl, hz, ⟨c0, c1, c2, c3⟩, m0, m1, hf, hb⟩ := hrel
    have HBy : Hid (BytesOf wr w.heap.size a len) := HR.out.bytes hb
    have HB : Hid (Below w.heap.size w wr) := hb
    clear hb
    by_cases hgo : k < len ∧ k < 64
    · obtain ⟨h1, h2⟩ := hgo
      obtain ⟨x, z, rfl, hx, hzc, z0, z1⟩ := HBy.out k h1
      have k0 : (0 : Int) ≤ k := by omega
      have k1 : (k : Int) < (len : Int) := by omega
      have q2 : (k : Int) < 64 := by omega
      go_wp2
      go_region
      go_wp2
      go_roundw
      case rel =>
        refine ⟨k + 1, IntKind.u64.wrap (bits BinOp.xor IntKind.u64 mix z * 1099511628211), by omega, by go_num, ?_, ⟨?_, ?_, ?_, ?_⟩, ?_, ?_, ?_, ?_⟩
        · simpa [World.setCell] using hz
        · exact (World.cell?_setCell_other _ _ _ _ (by simp)).trans c0
        · exact (World.cell?_setCell_other _ _ _ _ (by simp)).trans c1
        · exact World.cell?_setCell_same _ _ _ c2
        · exact (World.cell?_setCell_other _ _ _ _ (by simp)).trans c3
        · exact (wrap_range _).1
        · exact (wrap_range _).2
        · intro o
          exact (World.frozen?_setCell _ _ _ _).trans (hf o)
        · exact (HB.out.setCell (Nat.le_refl _) _).drew
      case measure => simp [intOf]; omega
    · have hq : (¬ k < len ∧ decide (k < len) = false) ∨ (k < len ∧ ¬ k < 64 ∧ decide (k < 64) = false ∧ decide ((k : Int) < 64) = false) := by
        by_cases h : k < len
        · exact .inr ⟨h, by omega, by rw [decide_eq_false_iff_not]; omega, by rw [decide_eq_false_iff_not]; omega⟩
        · exact .inl ⟨h, by rw [decide_eq_false_iff_not]; omega⟩
      have hd0 : (0 : Int) ≤ (len : Int) / 20 := by omega
      by_cases h12 : (12 : Int) < (len : Int) / 20
      · rcases hq with ⟨q1, q1'⟩ | ⟨q1, q2, q2', q2''⟩
        all_goals
          go_wp2
          go_ret
          exact ⟨rfl, src_size hz c0 c1 c2 c3 m0 m1 (by decide) (by decide) hl hf HBy.out, HB.out.setCell (Nat.le_refl _) _⟩
      · have q3 : decide ((12 : Int) < (len : Int) / 20) = false := by rw [decide_eq_false_iff_not]; exact h12
        rcases hq with ⟨q1, q1'⟩ | ⟨q1, q2, q2', q2''⟩
        all_goals
          go_wp2
          go_ret
          exact ⟨rfl, src_size hz c0 c1 c2 c3 m0 m1 hd0 (by omega) hl hf HBy.out, HB.out.setCell (Nat.le_refl _) _⟩
end Go.Proofs.YtknjkakokcblnaaDoor

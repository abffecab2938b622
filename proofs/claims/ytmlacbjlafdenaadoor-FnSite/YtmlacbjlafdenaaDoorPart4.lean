/- 10 of this claim's texts, one behind the other. -/
import Derived.Test.YtmlacbjlafdenaaDoorPart3
import Derived.Test.YtmlacbjlafdenaaDoorPart1
import Derived.Maps.AppendAt
import Derived.Below
import Derived.Lib.SlicesCompact
import Derived.ProofKit
import Derived.OpenShut
/- More of the specification's source of draws: one of so many, one of some texts, a source from bytes. -/
namespace Go.Proofs.YtmlacbjlafdenaaDoor
open Go.RowKit

set_option maxRecDepth 10000 in
set_option maxHeartbeats 400000 in
theorem srcOne_any (g : Nat) (most : Int) (w : World) (hs : SrcAt w g) (hm : most < 9223372036854775808) :
    Calls Tryd.prog 52 #[.pointer (some ⟨g, 0, none⟩), .int .i64 most] w fun e w' => (∃ b : Bool, e = .returned (.bool b)) ∧ SrcAt w' g ∧ w.grownBy w' (some g) := by
  have HN : Hid (Calls Tryd.prog 53 #[.pointer (some ⟨g, 0, none⟩), .int .i64 most] w fun e w' => ∃ r : Int, e = .returned (.int .i64 r) ∧ 0 ≤ r ∧ (1 < most → r < most) ∧ (most ≤ 1 → r = 0) ∧ SrcAt w' g ∧ w.grownBy w' (some g)) := srcN_any g most w hs hm
  clear hs
  go_enter Tryd.func52, Tryd.ntmps52
  go_wp2_with fail
  refine HN.out.mono ?_
  rintro e w1 ⟨r, rfl, _, _, _, h1, h2⟩
  go_wp2
  go_ret
  exact ⟨⟨_, rfl⟩, h1, h2⟩

/-- a row of texts in block h -/
def TextsAt (w : World) (h n : Nat) (f : Nat → ByteArray) : Prop := ∀ j, j < n → w.cell? ⟨h, j, none⟩ = some (.string (f j))
theorem TextsAt.kept {w w' : World} {h n : Nat} {f : Nat → ByteArray} {r : Option Nat} (ht : TextsAt w h n f) (hg : w.grownBy w' r) (hne : some h ≠ r) : TextsAt w' h n f :=
  fun j hj => hg.cell (a := ⟨h, j, none⟩) (ht j hj) hne

set_option maxRecDepth 10000 in
set_option maxHeartbeats 400000 in
theorem srcPick_any (g h n cap : Nat) (f : Nat → ByteArray) (w : World) (hs : SrcAt w g) (ht : TextsAt w h (n + 2) f) (hne : h ≠ g) (hn : n ≤ 1048576) :
    Calls Tryd.prog 60 #[.pointer (some ⟨g, 0, none⟩), .slice (some ⟨h, 0, none⟩) (n + 2) cap] w fun e w' => (∃ j, j < n + 2 ∧ e = .returned (.string (f j))) ∧ SrcAt w' g ∧ w.grownBy w' (some g) := by
  have HN : Hid (Calls Tryd.prog 53 #[.pointer (some ⟨g, 0, none⟩), .int .i64 ((n : Int) + 2)] w fun e w' => ∃ r : Int, e = .returned (.int .i64 r) ∧ 0 ≤ r ∧ (1 < (n : Int) + 2 → r < (n : Int) + 2) ∧ ((n : Int) + 2 ≤ 1 → r = 0) ∧ SrcAt w' g ∧ w.grownBy w' (some g)) := srcN_any g _ w hs (by omega)
  have HT : Hid (TextsAt w h (n + 2) f) := ht
  clear hs ht
  go_enter Tryd.func60, Tryd.ntmps60
  go_wp2_with fail
  refine HN.out.mono ?_
  rintro e w1 ⟨r, rfl, r0, r1, _, h1, h2⟩
  have r2 := r1 (by omega)
  obtain ⟨j, rfl⟩ : ∃ j : Nat, r = j := ⟨r.toNat, by omega⟩
  have hj : j < n + 2 := by omega
  have hc := HT.out.kept h2 (by simpa using hne) j hj
  clear r1
  go_wp2
  go_ret
  exact ⟨⟨j, hj, rfl⟩, h1, h2⟩

/-- the bytes that a source is made from -/
def CodeRow (w : World) (a : Option Addr) (len : Nat) : Prop := ∀ i, i < len → ∃ (x : Addr) (z : Int), a = some x ∧ x.block < w.heap.size ∧ w.cell? (x.add i) = some (.int .u8 z) ∧ 0 ≤ z ∧ z < 256
theorem add_block (x : Addr) (i : Nat) : (x.add i).block = x.block := by unfold Addr.add; split <;> rfl
theorem CodeRow.bytes {w w' : World} {a : Option Addr} {len : Nat} (h : CodeRow w a len) (hb : Below w.heap.size w w') : BytesOf w' w.heap.size a len := by
  intro i hi
  obtain ⟨x, z, e, hx, hc, hz⟩ := h i hi
  exact ⟨x, z, e, by omega, by rw [hb.cell (p := x.add i) (by rw [add_block]; exact hx)]; exact hc, hz⟩

theorem wrap_range (x : Int) : 0 ≤ IntKind.u64.wrap x ∧ IntKind.u64.wrap x < 18446744073709551616 := by
  rw [IntKind.wrap_u64]
  exact ⟨Int.emod_nonneg _ (by decide), Int.emod_lt_of_pos _ (by decide)⟩
theorem src_size {w : World} {g : Nat} {a : Option Addr} {len cap : Nat} {mix size size' : Int} (hg : g < w.heap.size)
    (c0 : w.cell? ⟨g, 0, none⟩ = some (.slice a len cap)) (c1 : w.cell? ⟨g, 1, none⟩ = some (.int .i64 0)) (c2 : w.cell? ⟨g, 2, none⟩ = some (.int .u64 mix)) (c3 : w.cell? ⟨g, 3, none⟩ = some (.int .i64 size))
    (m0 : 0 ≤ mix) (m1 : mix < 18446744073709551616) (hs0 : 0 ≤ size') (hs1 : size' ≤ 12) (hl : len ≤ 1048576) (hf : ∀ o, w.frozen? ⟨g, o, none⟩ = false) (hb : BytesOf w g a len) :
    SrcAt (w.setCell ⟨g, 3, none⟩ (.int .i64 size')) g := by
  refine ⟨by simpa [World.setCell] using hg, a, len, cap, 0, mix, size', ⟨?_, ?_, ?_, ?_⟩, ⟨m0, m1, hs0, hs1, hl, Nat.zero_le _⟩, ?_, hb.setCell _⟩
  · rw [World.cell?_setCell_other _ _ _ _ (by simp)]; exact c0
  · rw [World.cell?_setCell_other _ _ _ _ (by simp)]; exact c1
  · rw [World.cell?_setCell_other _ _ _ _ (by simp)]; exact c2
  · exact World.cell?_setCell_same _ _ _ c3
  · intro o; rw [World.frozen?_setCell]; exact hf o

set_option maxRecDepth 10000 in
set_option maxHeartbeats 1000000 in
theorem source_any (a : Option Addr) (len cap : Nat) (w : World) (hr : CodeRow w a len) (hl : len ≤ 1048576) :
    Calls Tryd.prog 47 #[.slice a len cap] w fun e w' => e = .returned (.pointer (some ⟨w.heap.size, 0, none⟩)) ∧ SrcAt w' w.heap.size ∧ Below w.heap.size w w' := by
  have HR : Hid (CodeRow w a len) := hr
  clear hr
  have hcc : ∀ (W : World) (p : Addr) (u v : Value), (W.setCell p u).setCell p v = W.setCell p v := setCell_twice
  go_enter Tryd.func47, Tryd.ntmps47
  go_wp2
  go_loopw [4] (fun i wr => ∃ (k : Nat) (mix : Int), k ≤ len ∧ i = .int .i64 k ∧ w.heap.size < wr.heap.size ∧ (wr.cell? ⟨w.heap.size, 0, none⟩ = some (.slice a len cap) ∧ wr.cell? ⟨w.heap.size, 1, none⟩ = some (.int .i64 0) ∧ wr.cell? ⟨w.heap.size, 2, none⟩ = some (.int .u64 mix) ∧ wr.cell? ⟨w.heap.size, 3, none⟩ = some (.int .i64 0)) ∧ 0 ≤ mix ∧ mix < 18446744073709551616 ∧ (∀ o, wr.frozen? ⟨w.heap.size, o, none⟩ = false) ∧ Below w.heap.size w wr) (fun i _ => len - (intOf i).toNat)
  case atStart => exact ⟨0, 88172645463325252, by omega, rfl, by simp, ⟨by simp, by simp, by simp, by simp⟩, by decide, by decide, by simp, (Below.refl _ _).alloc (Nat.le_refl _) _⟩
  case round =>
    obtain ⟨k, mix, hk, rfl, hz, ⟨c0, c1, c2, c3⟩, m0, m1, hf, hb⟩ := hrel
    have HBy : Hid (BytesOf wr w.heap.size a len) := HR.out.bytes hb
    have HB : Hid (Below w.heap.size w wr) := hb
    clear hb
    by_cases hgo : k < len ∧ k < 64
    · obtain ⟨h1, h2⟩ := hgo
      obtain ⟨x, z, rfl, hx, hzc, z0, z1⟩ := HBy.out k h1
      have k0 : (0 : Int) ≤ k := by omega
      have k1 : (k : Int) < (len : Int) := by omega
      have q2 : (k : Int) < 64 := by omega
      go_wp2
      go_region
      go_wp2
      go_roundw
      case rel =>
        refine ⟨k + 1, IntKind.u64.wrap (bits BinOp.xor IntKind.u64 mix z * 1099511628211), by omega, by go_num, ?_, ⟨?_, ?_, ?_, ?_⟩, ?_, ?_, ?_, ?_⟩
        · simpa [World.setCell] using hz
        · exact (World.cell?_setCell_other _ _ _ _ (by simp)).trans c0
        · exact (World.cell?_setCell_other _ _ _ _ (by simp)).trans c1
        · exact World.cell?_setCell_same _ _ _ c2
        · exact (World.cell?_setCell_other _ _ _ _ (by simp)).trans c3
        · exact (wrap_range _).1
        · exact (wrap_range _).2
        · intro o
          exact (World.frozen?_setCell _ _ _ _).trans (hf o)
        · exact (HB.out.setCell (Nat.le_refl _) _).drew
      case measure => simp [intOf]; omega
    · have hq : (¬ k < len ∧ decide (k < len) = false) ∨ (k < len ∧ ¬ k < 64 ∧ decide (k < 64) = false ∧ decide ((k : Int) < 64) = false) := by
        by_cases h : k < len
        · exact .inr ⟨h, by omega, by rw [decide_eq_false_iff_not]; omega, by rw [decide_eq_false_iff_not]; omega⟩
        · exact .inl ⟨h, by rw [decide_eq_false_iff_not]; omega⟩
      have hd0 : (0 : Int) ≤ (len : Int) / 20 := by omega
      by_cases h12 : (12 : Int) < (len : Int) / 20
      · rcases hq with ⟨q1, q1'⟩ | ⟨q1, q2, q2', q2''⟩
        all_goals
          go_wp2
          go_ret
          exact ⟨rfl, src_size hz c0 c1 c2 c3 m0 m1 (by decide) (by decide) hl hf HBy.out, HB.out.setCell (Nat.le_refl _) _⟩
      · have q3 : decide ((12 : Int) < (len : Int) / 20) = false := by rw [decide_eq_false_iff_not]; exact h12
        rcases hq with ⟨q1, q1'⟩ | ⟨q1, q2, q2', q2''⟩
        all_goals
          go_wp2
          go_ret
          exact ⟨rfl, src_size hz c0 c1 c2 c3 m0 m1 hd0 (by omega) hl hf HBy.out, HB.out.setCell (Nat.le_refl _) _⟩
end Go.Proofs.YtmlacbjlafdenaaDoor

/- The specification's drawn hosts and urls: what they tell is short. -/
namespace Go.Proofs.YtmlacbjlafdenaaDoor
open Go.RowKit

/-- n texts of at most N bytes in block h -/
def ShortRow (w : World) (h n N : Nat) : Prop := ∀ j, j < n → ∃ x : ByteArray, w.cell? ⟨h, j, none⟩ = some (.string x) ∧ x.size ≤ N
def shortB (cs : Array Value) (n N : Nat) : Bool := (List.range n).all fun j => match cs[j]? with | some (.string x) => decide (x.size ≤ N) | _ => false
theorem short_made (w : World) (cs : Array Value) (t : TypeId) (n N : Nat) (h : shortB cs n N = true) : ShortRow (w.alloc (.cells cs t)) w.heap.size n N := by
  intro j hj
  have := List.all_eq_true.mp h j (List.mem_range.mpr hj)
  rw [World.cell?_alloc_new]
  revert this
  cases cs[j]? with
  | none => intro h; cases h
  | some v =>
    cases v with
    | string x => intro h; exact ⟨x, rfl, by simpa using h⟩
    | _ => intro h; cases h
theorem short_made_at (w : World) (b : Nat) (hb : b = w.heap.size) (cs : Array Value) (t : TypeId) (n N : Nat) (h : shortB cs n N = true) : ShortRow (w.alloc (.cells cs t)) b n N := by
  subst hb; exact short_made w cs t n N h

set_option maxRecDepth 10000 in
set_option maxHeartbeats 400000 in
theorem srcPick_short (g h n cap N : Nat) (w : World) (hs : SrcAt w g) (ht : ShortRow w h (n + 2) N) (hne : h ≠ g) (hn : n ≤ 1048576) :
    Calls Tryd.prog 60 #[.pointer (some ⟨g, 0, none⟩), .slice (some ⟨h, 0, none⟩) (n + 2) cap] w fun e w' => (∃ t : ByteArray, e = .returned (.string t) ∧ t.size ≤ N) ∧ SrcAt w' g ∧ w.grownBy w' (some g) := by
  classical
  let f : Nat → ByteArray := fun j => if hj : j < n + 2 then (ht j hj).choose else ⟨#[]⟩
  refine (srcPick_any g h n cap f w hs ?_ hne hn).mono ?_
  · intro j hj
    simp only [f, dif_pos hj]
    exact (ht j hj).choose_spec.1
  · rintro e w' ⟨⟨j, hj, rfl⟩, h1, h2⟩
    refine ⟨⟨_, rfl, ?_⟩, h1, h2⟩
    simp only [f, dif_pos hj]
    exact (ht j hj).choose_spec.2

theorem cell_lt {w : World} {a : Addr} {v : Value} (h : w.cell? a = some v) : a.block < w.heap.size := by
  unfold World.cell? at h
  split at h
  · rename_i hb
    exact (Array.getElem?_eq_some_iff.mp hb).1
  · cases h
theorem SrcAt.alloc {w : World} {g : Nat} (h : SrcAt w g) (o : Obj) : SrcAt (w.alloc o) g := by
  obtain ⟨hg, a, len, cap, k, mix, size, ⟨c0, c1, c2, c3⟩, hm, hf, hb⟩ := h
  refine ⟨by simp; omega, a, len, cap, k, mix, size, ⟨?_, ?_, ?_, ?_⟩, hm, ?_, ?_⟩
  · rw [World.cell?_alloc_lt _ _ _ hg]; exact c0
  · rw [World.cell?_alloc_lt _ _ _ hg]; exact c1
  · rw [World.cell?_alloc_lt _ _ _ hg]; exact c2
  · rw [World.cell?_alloc_lt _ _ _ hg]; exact c3
  · intro o'
    rw [World.frozen?_of_block (w := w) (Below.heap_alloc _ _ _ hg)]; exact hf o'
  · intro i hi
    obtain ⟨x, z, e, hx, hc, hz⟩ := hb i hi
    exact ⟨x, z, e, hx, (World.cell?_of_block (w := w) (Below.heap_alloc _ _ _ (cell_lt hc))).trans hc, hz⟩

set_option maxRecDepth 10000 in
set_option maxHeartbeats 1000000 in
theorem srcHost_any (g : Nat) (w : World) (hs : SrcAt w g) :
    Calls Tryd.prog 62 #[.pointer (some ⟨g, 0, none⟩)] w fun e w' => (∃ t : ByteArray, e = .returned (.string t) ∧ t.size ≤ 20) ∧ SrcAt w' g ∧ w.grownBy w' (some g) := by
  have HO : Hid (Calls Tryd.prog 52 #[.pointer (some ⟨g, 0, none⟩), .int .i64 20] w fun e w' => (∃ b : Bool, e = .returned (.bool b)) ∧ SrcAt w' g ∧ w.grownBy w' (some g)) := srcOne_any g 20 w hs (by decide)
  clear hs
  go_enter Tryd.func62, Tryd.ntmps62
  go_wp2_with fail
  refine HO.out.mono ?_
  rintro e w1 ⟨⟨b, rfl⟩, h1, h2⟩
  cases b with
  | true =>
    go_wp2_with fail
    refine (srcPick_short g w1.heap.size 4 6 20 _ (h1.alloc _) (short_made w1 _ _ _ _ (by rfl)) (by have := h1.1; omega) (by decide)).mono ?_
    rintro e w2 ⟨⟨t, rfl, ht⟩, h3, h4⟩
    go_wp2
    go_ret
    exact ⟨⟨t, rfl, ht⟩, h3, h2.trans ((World.grownBy_alloc _ _ _).trans h4)⟩
  | false =>
    go_wp2_with fail
    refine (srcPick_short g w1.heap.size 6 8 20 _ (h1.alloc _) (short_made w1 _ _ _ _ (by rfl)) (by have := h1.1; omega) (by decide)).mono ?_
    rintro e w2 ⟨⟨t, rfl, ht⟩, h3, h4⟩
    go_wp2
    go_ret
    exact ⟨⟨t, rfl, ht⟩, h3, h2.trans ((World.grownBy_alloc _ _ _).trans h4)⟩
end Go.Proofs.YtmlacbjlafdenaaDoor

/- The specification's drawn urls: their texts are short. -/
namespace Go.Proofs.YtmlacbjlafdenaaDoor
open Go.RowKit

/-- four cells in block b, none of them frozen -/
def U4 (w : World) (b : Nat) (v0 v1 v2 v3 : Value) : Prop := b < w.heap.size ∧ (w.cell? ⟨b, 0, none⟩ = some v0 ∧ w.cell? ⟨b, 1, none⟩ = some v1 ∧ w.cell? ⟨b, 2, none⟩ = some v2 ∧ w.cell? ⟨b, 3, none⟩ = some v3) ∧ ∀ o, w.frozen? ⟨b, o, none⟩ = false
theorem U4.kept {w w' : World} {b : Nat} {v0 v1 v2 v3 : Value} {r : Option Nat} (h : U4 w b v0 v1 v2 v3) (hg : w.grownBy w' r) (hne : some b ≠ r) : U4 w' b v0 v1 v2 v3 := by
  obtain ⟨hb, ⟨c0, c1, c2, c3⟩, hf⟩ := h
  have hs := hg.size
  refine ⟨by omega, ⟨hg.cell (a := ⟨b, 0, none⟩) c0 hne, hg.cell (a := ⟨b, 1, none⟩) c1 hne, hg.cell (a := ⟨b, 2, none⟩) c2 hne, hg.cell (a := ⟨b, 3, none⟩) c3 hne⟩, ?_⟩
  intro o
  rw [World.frozen?_of_block (w := w) (a := ⟨b, o, none⟩) (hg.block b hb hne)]
  exact hf o
theorem U4.made (w : World) (v0 v1 v2 v3 : Value) (t : TypeId) : U4 (w.alloc (.cells #[v0, v1, v2, v3] t)) w.heap.size v0 v1 v2 v3 := by
  refine ⟨by simp, ⟨by simp, by simp, by simp, by simp⟩, by simp⟩
theorem U4.alloc {w : World} {b : Nat} {v0 v1 v2 v3 : Value} (h : U4 w b v0 v1 v2 v3) (o : Obj) : U4 (w.alloc o) b v0 v1 v2 v3 := h.kept (World.grownBy_alloc w o none) (by simp)
/-- a cell of a block that the call has made is written -/
theorem grown_new {w w' : World} {r : Option Nat} {p : Addr} (h : w.grownBy w' r) (hp : w.heap.size ≤ p.block) (v : Value) : w.grownBy (w'.setCell p v) r :=
  ⟨h.os, h.tape, h.output, by have := h.size; simp [World.setCell]; omega, fun j hj hne => by
    rw [Below.heap_setCell _ _ _ _ (by omega)]; exact h.block j hj hne⟩
theorem SrcAt.setCell {w : World} {g : Nat} {p : Addr} (h : SrcAt w g) (hp : g < p.block) (v : Value) : SrcAt (w.setCell p v) g := by
  obtain ⟨hg, a, len, cap, k, mix, size, ⟨c0, c1, c2, c3⟩, hm, hf, hby⟩ := h
  have hne : p.block ≠ g := by omega
  refine ⟨by simpa [World.setCell] using hg, a, len, cap, k, mix, size, ⟨?_, ?_, ?_, ?_⟩, hm, ?_, ?_⟩
  · rw [World.cell?_setCell_far _ _ _ _ hne]; exact c0
  · rw [World.cell?_setCell_far _ _ _ _ hne]; exact c1
  · rw [World.cell?_setCell_far _ _ _ _ hne]; exact c2
  · rw [World.cell?_setCell_far _ _ _ _ hne]; exact c3
  · intro o; rw [World.frozen?_setCell]; exact hf o
  · intro i hi
    obtain ⟨x, z, e, hx, hc, hz⟩ := hby i hi
    refine ⟨x, z, e, hx, ?_, hz⟩
    rw [World.cell?_setCell_far _ _ _ _ (by rw [add_block]; omega)]
    exact hc
theorem U4.far {w : World} {b : Nat} {v0 v1 v2 v3 : Value} {p : Addr} (h : U4 w b v0 v1 v2 v3) (hp : p.block ≠ b) (v : Value) : U4 (w.setCell p v) b v0 v1 v2 v3 := by
  obtain ⟨hb, ⟨c0, c1, c2, c3⟩, hf⟩ := h
  refine ⟨by simpa [World.setCell] using hb, ⟨?_, ?_, ?_, ?_⟩, ?_⟩
  · rw [World.cell?_setCell_far _ _ _ _ hp]; exact c0
  · rw [World.cell?_setCell_far _ _ _ _ hp]; exact c1
  · rw [World.cell?_setCell_far _ _ _ _ hp]; exact c2
  · rw [World.cell?_setCell_far _ _ _ _ hp]; exact c3
  · intro o; rw [World.frozen?_setCell]; exact hf o
theorem U4.set0 {w : World} {b : Nat} {v0 v1 v2 v3 : Value} (h : U4 w b v0 v1 v2 v3) (v : Value) : U4 (w.setCell ⟨b, 0, none⟩ v) b v v1 v2 v3 := by
  obtain ⟨hb, ⟨c0, c1, c2, c3⟩, hf⟩ := h
  refine ⟨by simpa [World.setCell] using hb, ⟨?_, ?_, ?_, ?_⟩, ?_⟩
  · exact World.cell?_setCell_same _ _ _ c0
  · rw [World.cell?_setCell_other _ _ _ _ (by simp)]; exact c1
  · rw [World.cell?_setCell_other _ _ _ _ (by simp)]; exact c2
  · rw [World.cell?_setCell_other _ _ _ _ (by simp)]; exact c3
  · intro o; rw [World.frozen?_setCell]; exact hf o
theorem U4.set1 {w : World} {b : Nat} {v0 v1 v2 v3 : Value} (h : U4 w b v0 v1 v2 v3) (v : Value) : U4 (w.setCell ⟨b, 1, none⟩ v) b v0 v v2 v3 := by
  obtain ⟨hb, ⟨c0, c1, c2, c3⟩, hf⟩ := h
  refine ⟨by simpa [World.setCell] using hb, ⟨?_, ?_, ?_, ?_⟩, ?_⟩
  · rw [World.cell?_setCell_other _ _ _ _ (by simp)]; exact c0
  · exact World.cell?_setCell_same _ _ _ c1
  · rw [World.cell?_setCell_other _ _ _ _ (by simp)]; exact c2
  · rw [World.cell?_setCell_other _ _ _ _ (by simp)]; exact c3
  · intro o; rw [World.frozen?_setCell]; exact hf o
theorem U4.set2 {w : World} {b : Nat} {v0 v1 v2 v3 : Value} (h : U4 w b v0 v1 v2 v3) (v : Value) : U4 (w.setCell ⟨b, 2, none⟩ v) b v0 v1 v v3 := by
  obtain ⟨hb, ⟨c0, c1, c2, c3⟩, hf⟩ := h
  refine ⟨by simpa [World.setCell] using hb, ⟨?_, ?_, ?_, ?_⟩, ?_⟩
  · rw [World.cell?_setCell_other _ _ _ _ (by simp)]; exact c0
  · rw [World.cell?_setCell_other _ _ _ _ (by simp)]; exact c1
  · exact World.cell?_setCell_same _ _ _ c2
  · rw [World.cell?_setCell_other _ _ _ _ (by simp)]; exact c3
  · intro o; rw [World.frozen?_setCell]; exact hf o
theorem U4.set3 {w : World} {b : Nat} {v0 v1 v2 v3 : Value} (h : U4 w b v0 v1 v2 v3) (v : Value) : U4 (w.setCell ⟨b, 3, none⟩ v) b v0 v1 v2 v := by
  obtain ⟨hb, ⟨c0, c1, c2, c3⟩, hf⟩ := h
  refine ⟨by simpa [World.setCell] using hb, ⟨?_, ?_, ?_, ?_⟩, ?_⟩
  · rw [World.cell?_setCell_other _ _ _ _ (by simp)]; exact c0
  · rw [World.cell?_setCell_other _ _ _ _ (by simp)]; exact c1
  · rw [World.cell?_setCell_other _ _ _ _ (by simp)]; exact c2
  · exact World.cell?_setCell_same _ _ _ c3
  · intro o; rw [World.frozen?_setCell]; exact hf o

set_option maxRecDepth 10000 in
set_option maxHeartbeats 1000000 in
theorem srcUrl_any (g : Nat) (w : World) (hs : SrcAt w g) :
    Calls Tryd.prog 57 #[.pointer (some ⟨g, 0, none⟩)] w fun e w' => (∃ (sc ho pa : ByteArray) (po : Int), e = .returned (urlV sc ho pa po) ∧ sc.size ≤ 20 ∧ ho.size ≤ 20 ∧ pa.size ≤ 20) ∧ SrcAt w' g ∧ w.grownBy w' (some g) := by
  have hg := hs.1
  have HS : Hid (SrcAt w g) := hs
  clear hs
  go_enter Tryd.func57, Tryd.ntmps57
  go_wp2_with fail
  refine (srcPick_short g (w.heap.size + 1) 1 3 20 _ ((HS.out.alloc _).alloc _) (short_made_at _ _ (by simp) _ _ _ _ (by rfl)) (by omega) (by decide)).mono ?_
  rintro e w1 ⟨⟨sc, rfl, hsc⟩, s1, g1⟩
  have R1 : U4 w1 w.heap.size (.string ⟨#[]⟩) (.string ⟨#[]⟩) (.int .i64 0) (.string ⟨#[]⟩) := ((U4.made w _ _ _ _ _).alloc _).kept g1 (by simp; omega)
  have G1 : Hid (w.grownBy w1 (some g)) := (World.grownBy_alloc _ _ _).trans ((World.grownBy_alloc _ _ _).trans g1)
  have RR1 : Hid (U4 w1 w.heap.size (.string ⟨#[]⟩) (.string ⟨#[]⟩) (.int .i64 0) (.string ⟨#[]⟩)) := R1
  clear g1 R1
  go_wp2_with fail
  refine (srcHost_any g _ s1).mono ?_
  rintro e w2 ⟨⟨ho, rfl, hho⟩, s2, g2⟩
  have RR2 : Hid (U4 w2 w.heap.size (.string ⟨#[]⟩) (.string ⟨#[]⟩) (.int .i64 0) (.string ⟨#[]⟩)) := RR1.out.kept g2 (by simp; omega)
  have G2 : Hid (w.grownBy w2 (some g)) := G1.out.trans g2
  clear g2 s1 RR1 G1
  go_wp2_with fail
  refine (srcPick_short g w2.heap.size 1 3 20 _ (s2.alloc _) (short_made_at _ _ rfl _ _ _ _ (by rfl)) (by have := s2.1; omega) (by decide)).mono ?_
  rintro e w3 ⟨⟨pa, rfl, hpa⟩, s3, g3⟩
  have RR3 : Hid (U4 w3 w.heap.size (.string ⟨#[]⟩) (.string ⟨#[]⟩) (.int .i64 0) (.string ⟨#[]⟩)) := (RR2.out.alloc _).kept g3 (by simp; omega)
  have G3 : Hid (w.grownBy w3 (some g)) := G2.out.trans ((World.grownBy_alloc _ _ _).trans g3)
  have hu3 : w.heap.size < w3.heap.size := RR3.out.1
  clear g3 s2 RR2 G2
  go_wp2_with fail
  refine (specUsual_any sc _).mono ?_
  rintro e w' ⟨rfl, rfl⟩
  generalize usualP sc = po
  go_wp2_with fail
  refine (srcOne_any g 8 _ (s3.alloc _) (by decide)).mono ?_
  rintro e w4 ⟨⟨bA, rfl⟩, s4, g4⟩
  have hug : g < w3.heap.size := s3.1
  have UU : Hid (U4 w4 w3.heap.size (.string sc) (.string ho) (.int .i64 po) (.string pa)) := (U4.made w3 _ _ _ _ _).kept g4 (by simp; omega)
  have RR : Hid (U4 w4 w.heap.size (.string ⟨#[]⟩) (.string ⟨#[]⟩) (.int .i64 0) (.string ⟨#[]⟩)) := (RR3.out.alloc _).kept g4 (by simp; omega)
  have GG : Hid (w.grownBy w4 (some g)) := G3.out.trans ((World.grownBy_alloc _ _ _).trans g4)
  clear g4 s3 RR3 G3
  generalize w3.heap.size = u at *
  cases bA with
  | true =>
    obtain ⟨hbu, ⟨b0, b1, b2, b3⟩, hbf⟩ := UU.out
    go_wp2_with fail
    refine (srcN_any g 5 _ (s4.alloc _) (by decide)).mono ?_
    rintro e w5 ⟨r, rfl, r0, r1, _, s5, g5⟩
    have r2 := r1 (by decide)
    obtain ⟨j, rfl⟩ : ∃ j : Nat, r = j := ⟨r.toNat, by omega⟩
    have hne5 : (some w4.heap.size : Option Nat) ≠ some g := by have := s4.1; simp; omega
    obtain ⟨po', hv⟩ : ∃ v : Int, w5.cell? ⟨w4.heap.size, j, none⟩ = some (.int .i64 v) := by
      rcases j with _ | _ | _ | _ | _ | j
      · exact ⟨_, g5.cell (a := ⟨w4.heap.size, 0, none⟩) (v := .int .i64 0) (by simp) hne5⟩
      · exact ⟨_, g5.cell (a := ⟨w4.heap.size, 1, none⟩) (v := .int .i64 1) (by simp) hne5⟩
      · exact ⟨_, g5.cell (a := ⟨w4.heap.size, 2, none⟩) (v := .int .i64 8080) (by simp) hne5⟩
      · exact ⟨_, g5.cell (a := ⟨w4.heap.size, 3, none⟩) (v := .int .i64 65535) (by simp) hne5⟩
      · exact ⟨_, g5.cell (a := ⟨w4.heap.size, 4, none⟩) (v := .int .i64 65536) (by simp) hne5⟩
      · omega
    have UU5 : Hid (U4 w5 u (.string sc) (.string ho) (.int .i64 po) (.string pa)) := (UU.out.alloc _).kept g5 (by simp; omega)
    have RR5 : Hid (U4 w5 w.heap.size (.string ⟨#[]⟩) (.string ⟨#[]⟩) (.int .i64 0) (.string ⟨#[]⟩)) := (RR.out.alloc _).kept g5 (by simp; omega)
    have G5 : Hid (w.grownBy w5 (some g)) := GG.out.trans ((World.grownBy_alloc _ _ _).trans g5)
    clear b0 b1 b2 b3 hbf hbu g5 s4 UU RR GG r1
    obtain ⟨hbu, ⟨b0, b1, b2, b3⟩, hbf⟩ := UU5.out
    go_wp2_with fail
    refine (srcOne_any g 20 _ (s5.setCell (p := ⟨u, 2, none⟩) hug _) (by decide)).mono ?_
    rintro e w6 ⟨⟨bB, rfl⟩, s6, g6⟩
    have UU : Hid (U4 w6 u (.string sc) (.string ho) (.int .i64 po') (.string pa)) := (UU5.out.set2 _).kept g6 (by simp; omega)
    have RR : Hid (U4 w6 w.heap.size (.string ⟨#[]⟩) (.string ⟨#[]⟩) (.int .i64 0) (.string ⟨#[]⟩)) := (RR5.out.far (p := ⟨u, 2, none⟩) (by show u ≠ _; omega) _).kept g6 (by simp; omega)
    have GG : Hid (w.grownBy w6 (some g)) := (grown_new (p := ⟨u, 2, none⟩) G5.out (by show _ ≤ u; omega) _).trans g6
    clear b0 b1 b2 b3 hbf hbu g6 s5 UU5 RR5 G5 hv r0 r2 hne5
    cases bB with
    | true =>
      obtain ⟨hbu, ⟨b0, b1, b2, b3⟩, hbf⟩ := UU.out
      go_wp2_with fail
      refine (srcPick_short g w6.heap.size 2 4 20 _ (s6.alloc _) (short_made_at _ _ rfl _ _ _ _ (by rfl)) (by have := s6.1; omega) (by decide)).mono ?_
      rintro e w7 ⟨⟨pa', rfl, hpa'⟩, s7, g7⟩
      have UU7 : Hid (U4 w7 u (.string sc) (.string ho) (.int .i64 po') (.string pa)) := (UU.out.alloc _).kept g7 (by simp; omega)
      have RR7 : Hid (U4 w7 w.heap.size (.string ⟨#[]⟩) (.string ⟨#[]⟩) (.int .i64 0) (.string ⟨#[]⟩)) := (RR.out.alloc _).kept g7 (by simp; omega)
      have G7 : Hid (w.grownBy w7 (some g)) := GG.out.trans ((World.grownBy_alloc _ _ _).trans g7)
      clear b0 b1 b2 b3 hbf hbu g7 s6 UU RR GG
      obtain ⟨hbu, ⟨b0, b1, b2, b3⟩, hbf⟩ := UU7.out
      go_wp2_with fail
      refine (srcOne_any g 25 _ (s7.setCell (p := ⟨u, 3, none⟩) hug _) (by decide)).mono ?_
      rintro e w8 ⟨⟨bC, rfl⟩, s8, g8⟩
      have UU : Hid (U4 w8 u (.string sc) (.string ho) (.int .i64 po') (.string pa')) := (UU7.out.set3 _).kept g8 (by simp; omega)
      have RR : Hid (U4 w8 w.heap.size (.string ⟨#[]⟩) (.string ⟨#[]⟩) (.int .i64 0) (.string ⟨#[]⟩)) := (RR7.out.far (p := ⟨u, 3, none⟩) (by show u ≠ _; omega) _).kept g8 (by simp; omega)
      have GG : Hid (w.grownBy w8 (some g)) := (grown_new (p := ⟨u, 3, none⟩) G7.out (by show _ ≤ u; omega) _).trans g8
      clear b0 b1 b2 b3 hbf hbu g8 s7 UU7 RR7 G7
      cases bC with
      | true =>
        obtain ⟨hbr, ⟨d0, d1, d2, d3⟩, hdf⟩ := RR.out
        obtain ⟨hbu, ⟨b0, b1, b2, b3⟩, hbf⟩ := UU.out
        go_wp2
        have FR := (((((RR.out.far (p := ⟨u, 0, none⟩) (by show u ≠ _; omega) (.string ⟨#[102, 116, 112]⟩)).set0 (.string ⟨#[102, 116, 112]⟩)).set1 (.string ho)).set2 (.int .i64 po')).set3 (.string pa'))
        have FS := (((((s8.setCell (p := ⟨u, 0, none⟩) hug (.string ⟨#[102, 116, 112]⟩)).setCell (p := ⟨w.heap.size, 0, none⟩) hg (.string ⟨#[102, 116, 112]⟩)).setCell (p := ⟨w.heap.size, 1, none⟩) hg (.string ho)).setCell (p := ⟨w.heap.size, 2, none⟩) hg (.int .i64 po')).setCell (p := ⟨w.heap.size, 3, none⟩) hg (.string pa'))
        have FG := (grown_new (p := ⟨w.heap.size, 3, none⟩) (grown_new (p := ⟨w.heap.size, 2, none⟩) (grown_new (p := ⟨w.heap.size, 1, none⟩) (grown_new (p := ⟨w.heap.size, 0, none⟩) (grown_new (p := ⟨u, 0, none⟩) GG.out (by show _ ≤ u; omega) (.string ⟨#[102, 116, 112]⟩)) (Nat.le_refl _) (.string ⟨#[102, 116, 112]⟩)) (Nat.le_refl _) (.string ho)) (Nat.le_refl _) (.int .i64 po')) (Nat.le_refl _) (.string pa'))
        generalize (((((w8.setCell ⟨u, 0, none⟩ (.string ⟨#[102, 116, 112]⟩)).setCell ⟨w.heap.size, 0, none⟩ (.string ⟨#[102, 116, 112]⟩)).setCell ⟨w.heap.size, 1, none⟩ (.string ho)).setCell ⟨w.heap.size, 2, none⟩ (.int .i64 po')).setCell ⟨w.heap.size, 3, none⟩ (.string pa')) = W at *
        obtain ⟨hz, ⟨f0, f1, f2, f3⟩, _⟩ := FR
        exact bodyPost_ret (v := urlV ⟨#[102, 116, 112]⟩ ho pa' po') (by simp [urlV, results, Tryd.results57, go_sem, f0, f1, f2, f3]) rfl ⟨⟨_, _, _, _, rfl, (by decide), hho, hpa'⟩, FS, FG⟩
      | false =>
        obtain ⟨hbr, ⟨d0, d1, d2, d3⟩, hdf⟩ := RR.out
        obtain ⟨hbu, ⟨b0, b1, b2, b3⟩, hbf⟩ := UU.out
        go_wp2
        have FR := ((((RR.out.set0 (.string sc)).set1 (.string ho)).set2 (.int .i64 po')).set3 (.string pa'))
        have FS := ((((s8.setCell (p := ⟨w.heap.size, 0, none⟩) hg (.string sc)).setCell (p := ⟨w.heap.size, 1, none⟩) hg (.string ho)).setCell (p := ⟨w.heap.size, 2, none⟩) hg (.int .i64 po')).setCell (p := ⟨w.heap.size, 3, none⟩) hg (.string pa'))
        have FG := (grown_new (p := ⟨w.heap.size, 3, none⟩) (grown_new (p := ⟨w.heap.size, 2, none⟩) (grown_new (p := ⟨w.heap.size, 1, none⟩) (grown_new (p := ⟨w.heap.size, 0, none⟩) GG.out (Nat.le_refl _) (.string sc)) (Nat.le_refl _) (.string ho)) (Nat.le_refl _) (.int .i64 po')) (Nat.le_refl _) (.string pa'))
        generalize ((((w8.setCell ⟨w.heap.size, 0, none⟩ (.string sc)).setCell ⟨w.heap.size, 1, none⟩ (.string ho)).setCell ⟨w.heap.size, 2, none⟩ (.int .i64 po')).setCell ⟨w.heap.size, 3, none⟩ (.string pa')) = W at *
        obtain ⟨hz, ⟨f0, f1, f2, f3⟩, _⟩ := FR
        exact bodyPost_ret (v := urlV sc ho pa' po') (by simp [urlV, results, Tryd.results57, go_sem, f0, f1, f2, f3]) rfl ⟨⟨_, _, _, _, rfl, hsc, hho, hpa'⟩, FS, FG⟩
    | false =>
      go_wp2_with fail
      refine (srcOne_any g 25 _ s6 (by decide)).mono ?_
      rintro e w8 ⟨⟨bC, rfl⟩, s8, g8⟩
      have UU8 : Hid (U4 w8 u (.string sc) (.string ho) (.int .i64 po') (.string pa)) := UU.out.kept g8 (by simp; omega)
      have RR8 : Hid (U4 w8 w.heap.size (.string ⟨#[]⟩) (.string ⟨#[]⟩) (.int .i64 0) (.string ⟨#[]⟩)) := RR.out.kept g8 (by simp; omega)
      have GG8 : Hid (w.grownBy w8 (some g)) := GG.out.trans g8
      clear UU RR GG g8 s6
      have UU := UU8
      have RR := RR8
      have GG := GG8
      clear UU8 RR8 GG8
      cases bC with
      | true =>
        obtain ⟨hbr, ⟨d0, d1, d2, d3⟩, hdf⟩ := RR.out
        obtain ⟨hbu, ⟨b0, b1, b2, b3⟩, hbf⟩ := UU.out
        go_wp2
        have FR := (((((RR.out.far (p := ⟨u, 0, none⟩) (by show u ≠ _; omega) (.string ⟨#[102, 116, 112]⟩)).set0 (.string ⟨#[102, 116, 112]⟩)).set1 (.string ho)).set2 (.int .i64 po')).set3 (.string pa))
        have FS := (((((s8.setCell (p := ⟨u, 0, none⟩) hug (.string ⟨#[102, 116, 112]⟩)).setCell (p := ⟨w.heap.size, 0, none⟩) hg (.string ⟨#[102, 116, 112]⟩)).setCell (p := ⟨w.heap.size, 1, none⟩) hg (.string ho)).setCell (p := ⟨w.heap.size, 2, none⟩) hg (.int .i64 po')).setCell (p := ⟨w.heap.size, 3, none⟩) hg (.string pa))
        have FG := (grown_new (p := ⟨w.heap.size, 3, none⟩) (grown_new (p := ⟨w.heap.size, 2, none⟩) (grown_new (p := ⟨w.heap.size, 1, none⟩) (grown_new (p := ⟨w.heap.size, 0, none⟩) (grown_new (p := ⟨u, 0, none⟩) GG.out (by show _ ≤ u; omega) (.string ⟨#[102, 116, 112]⟩)) (Nat.le_refl _) (.string ⟨#[102, 116, 112]⟩)) (Nat.le_refl _) (.string ho)) (Nat.le_refl _) (.int .i64 po')) (Nat.le_refl _) (.string pa))
        generalize (((((w8.setCell ⟨u, 0, none⟩ (.string ⟨#[102, 116, 112]⟩)).setCell ⟨w.heap.size, 0, none⟩ (.string ⟨#[102, 116, 112]⟩)).setCell ⟨w.heap.size, 1, none⟩ (.string ho)).setCell ⟨w.heap.size, 2, none⟩ (.int .i64 po')).setCell ⟨w.heap.size, 3, none⟩ (.string pa)) = W at *
        obtain ⟨hz, ⟨f0, f1, f2, f3⟩, _⟩ := FR
        exact bodyPost_ret (v := urlV ⟨#[102, 116, 112]⟩ ho pa po') (by simp [urlV, results, Tryd.results57, go_sem, f0, f1, f2, f3]) rfl ⟨⟨_, _, _, _, rfl, (by decide), hho, hpa⟩, FS, FG⟩
      | false =>
        obtain ⟨hbr, ⟨d0, d1, d2, d3⟩, hdf⟩ := RR.out
        obtain ⟨hbu, ⟨b0, b1, b2, b3⟩, hbf⟩ := UU.out
        go_wp2
        have FR := ((((RR.out.set0 (.string sc)).set1 (.string ho)).set2 (.int .i64 po')).set3 (.string pa))
        have FS := ((((s8.setCell (p := ⟨w.heap.size, 0, none⟩) hg (.string sc)).setCell (p := ⟨w.heap.size, 1, none⟩) hg (.string ho)).setCell (p := ⟨w.heap.size, 2, none⟩) hg (.int .i64 po')).setCell (p := ⟨w.heap.size, 3, none⟩) hg (.string pa))
        have FG := (grown_new (p := ⟨w.heap.size, 3, none⟩) (grown_new (p := ⟨w.heap.size, 2, none⟩) (grown_new (p := ⟨w.heap.size, 1, none⟩) (grown_new (p := ⟨w.heap.size, 0, none⟩) GG.out (Nat.le_refl _) (.string sc)) (Nat.le_refl _) (.string ho)) (Nat.le_refl _) (.int .i64 po')) (Nat.le_refl _) (.string pa))
        generalize ((((w8.setCell ⟨w.heap.size, 0, none⟩ (.string sc)).setCell ⟨w.heap.size, 1, none⟩ (.string ho)).setCell ⟨w.heap.size, 2, none⟩ (.int .i64 po')).setCell ⟨w.heap.size, 3, none⟩ (.string pa)) = W at *
        obtain ⟨hz, ⟨f0, f1, f2, f3⟩, _⟩ := FR
        exact bodyPost_ret (v := urlV sc ho pa po') (by simp [urlV, results, Tryd.results57, go_sem, f0, f1, f2, f3]) rfl ⟨⟨_, _, _, _, rfl, hsc, hho, hpa⟩, FS, FG⟩
  | false =>
    go_wp2_with fail
    refine (srcOne_any g 20 _ s4 (by decide)).mono ?_
    rintro e w6 ⟨⟨bB, rfl⟩, s6, g6⟩
    have UU6 : Hid (U4 w6 u (.string sc) (.string ho) (.int .i64 po) (.string pa)) := UU.out.kept g6 (by simp; omega)
    have RR6 : Hid (U4 w6 w.heap.size (.string ⟨#[]⟩) (.string ⟨#[]⟩) (.int .i64 0) (.string ⟨#[]⟩)) := RR.out.kept g6 (by simp; omega)
    have GG6 : Hid (w.grownBy w6 (some g)) := GG.out.trans g6
    clear UU RR GG g6 s4
    have UU := UU6
    have RR := RR6
    have GG := GG6
    clear UU6 RR6 GG6
    cases bB with
    | true =>
      obtain ⟨hbu, ⟨b0, b1, b2, b3⟩, hbf⟩ := UU.out
      go_wp2_with fail
      refine (srcPick_short g w6.heap.size 2 4 20 _ (s6.alloc _) (short_made_at _ _ rfl _ _ _ _ (by rfl)) (by have := s6.1; omega) (by decide)).mono ?_
      rintro e w7 ⟨⟨pa', rfl, hpa'⟩, s7, g7⟩
      have UU7 : Hid (U4 w7 u (.string sc) (.string ho) (.int .i64 po) (.string pa)) := (UU.out.alloc _).kept g7 (by simp; omega)
      have RR7 : Hid (U4 w7 w.heap.size (.string ⟨#[]⟩) (.string ⟨#[]⟩) (.int .i64 0) (.string ⟨#[]⟩)) := (RR.out.alloc _).kept g7 (by simp; omega)
      have G7 : Hid (w.grownBy w7 (some g)) := GG.out.trans ((World.grownBy_alloc _ _ _).trans g7)
      clear b0 b1 b2 b3 hbf hbu g7 s6 UU RR GG
      obtain ⟨hbu, ⟨b0, b1, b2, b3⟩, hbf⟩ := UU7.out
      go_wp2_with fail
      refine (srcOne_any g 25 _ (s7.setCell (p := ⟨u, 3, none⟩) hug _) (by decide)).mono ?_
      rintro e w8 ⟨⟨bC, rfl⟩, s8, g8⟩
      have UU : Hid (U4 w8 u (.string sc) (.string ho) (.int .i64 po) (.string pa')) := (UU7.out.set3 _).kept g8 (by simp; omega)
      have RR : Hid (U4 w8 w.heap.size (.string ⟨#[]⟩) (.string ⟨#[]⟩) (.int .i64 0) (.string ⟨#[]⟩)) := (RR7.out.far (p := ⟨u, 3, none⟩) (by show u ≠ _; omega) _).kept g8 (by simp; omega)
      have GG : Hid (w.grownBy w8 (some g)) := (grown_new (p := ⟨u, 3, none⟩) G7.out (by show _ ≤ u; omega) _).trans g8
      clear b0 b1 b2 b3 hbf hbu g8 s7 UU7 RR7 G7
      cases bC with
      | true =>
        obtain ⟨hbr, ⟨d0, d1, d2, d3⟩, hdf⟩ := RR.out
        obtain ⟨hbu, ⟨b0, b1, b2, b3⟩, hbf⟩ := UU.out
        go_wp2
        have FR := (((((RR.out.far (p := ⟨u, 0, none⟩) (by show u ≠ _; omega) (.string ⟨#[102, 116, 112]⟩)).set0 (.string ⟨#[102, 116, 112]⟩)).set1 (.string ho)).set2 (.int .i64 po)).set3 (.string pa'))
        have FS := (((((s8.setCell (p := ⟨u, 0, none⟩) hug (.string ⟨#[102, 116, 112]⟩)).setCell (p := ⟨w.heap.size, 0, none⟩) hg (.string ⟨#[102, 116, 112]⟩)).setCell (p := ⟨w.heap.size, 1, none⟩) hg (.string ho)).setCell (p := ⟨w.heap.size, 2, none⟩) hg (.int .i64 po)).setCell (p := ⟨w.heap.size, 3, none⟩) hg (.string pa'))
        have FG := (grown_new (p := ⟨w.heap.size, 3, none⟩) (grown_new (p := ⟨w.heap.size, 2, none⟩) (grown_new (p := ⟨w.heap.size, 1, none⟩) (grown_new (p := ⟨w.heap.size, 0, none⟩) (grown_new (p := ⟨u, 0, none⟩) GG.out (by show _ ≤ u; omega) (.string ⟨#[102, 116, 112]⟩)) (Nat.le_refl _) (.string ⟨#[102, 116, 112]⟩)) (Nat.le_refl _) (.string ho)) (Nat.le_refl _) (.int .i64 po)) (Nat.le_refl _) (.string pa'))
        generalize (((((w8.setCell ⟨u, 0, none⟩ (.string ⟨#[102, 116, 112]⟩)).setCell ⟨w.heap.size, 0, none⟩ (.string ⟨#[102, 116, 112]⟩)).setCell ⟨w.heap.size, 1, none⟩ (.string ho)).setCell ⟨w.heap.size, 2, none⟩ (.int .i64 po)).setCell ⟨w.heap.size, 3, none⟩ (.string pa')) = W at *
        obtain ⟨hz, ⟨f0, f1, f2, f3⟩, _⟩ := FR
        exact bodyPost_ret (v := urlV ⟨#[102, 116, 112]⟩ ho pa' po) (by simp [urlV, results, Tryd.results57, go_sem, f0, f1, f2, f3]) rfl ⟨⟨_, _, _, _, rfl, (by decide), hho, hpa'⟩, FS, FG⟩
      | false =>
        obtain ⟨hbr, ⟨d0, d1, d2, d3⟩, hdf⟩ := RR.out
        obtain ⟨hbu, ⟨b0, b1, b2, b3⟩, hbf⟩ := UU.out
        go_wp2
        have FR := ((((RR.out.set0 (.string sc)).set1 (.string ho)).set2 (.int .i64 po)).set3 (.string pa'))
        have FS := ((((s8.setCell (p := ⟨w.heap.size, 0, none⟩) hg (.string sc)).setCell (p := ⟨w.heap.size, 1, none⟩) hg (.string ho)).setCell (p := ⟨w.heap.size, 2, none⟩) hg (.int .i64 po)).setCell (p := ⟨w.heap.size, 3, none⟩) hg (.string pa'))
        have FG := (grown_new (p := ⟨w.heap.size, 3, none⟩) (grown_new (p := ⟨w.heap.size, 2, none⟩) (grown_new (p := ⟨w.heap.size, 1, none⟩) (grown_new (p := ⟨w.heap.size, 0, none⟩) GG.out (Nat.le_refl _) (.string sc)) (Nat.le_refl _) (.string ho)) (Nat.le_refl _) (.int .i64 po)) (Nat.le_refl _) (.string pa'))
        generalize ((((w8.setCell ⟨w.heap.size, 0, none⟩ (.string sc)).setCell ⟨w.heap.size, 1, none⟩ (.string ho)).setCell ⟨w.heap.size, 2, none⟩ (.int .i64 po)).setCell ⟨w.heap.size, 3, none⟩ (.string pa')) = W at *
        obtain ⟨hz, ⟨f0, f1, f2, f3⟩, _⟩ := FR
        exact bodyPost_ret (v := urlV sc ho pa' po) (by simp [urlV, results, Tryd.results57, go_sem, f0, f1, f2, f3]) rfl ⟨⟨_, _, _, _, rfl, hsc, hho, hpa'⟩, FS, FG⟩
    | false =>
      go_wp2_with fail
      refine (srcOne_any g 25 _ s6 (by decide)).mono ?_
      rintro e w8 ⟨⟨bC, rfl⟩, s8, g8⟩
      have UU8 : Hid (U4 w8 u (.string sc) (.string ho) (.int .i64 po) (.string pa)) := UU.out.kept g8 (by simp; omega)
      have RR8 : Hid (U4 w8 w.heap.size (.string ⟨#[]⟩) (.string ⟨#[]⟩) (.int .i64 0) (.string ⟨#[]⟩)) := RR.out.kept g8 (by simp; omega)
      have GG8 : Hid (w.grownBy w8 (some g)) := GG.out.trans g8
      clear UU RR GG g8 s6
      have UU := UU8
      have RR := RR8
      have GG := GG8
      clear UU8 RR8 GG8
      cases bC with
      | true =>
        obtain ⟨hbr, ⟨d0, d1, d2, d3⟩, hdf⟩ := RR.out
        obtain ⟨hbu, ⟨b0, b1, b2, b3⟩, hbf⟩ := UU.out
        go_wp2
        have FR := (((((RR.out.far (p := ⟨u, 0, none⟩) (by show u ≠ _; omega) (.string ⟨#[102, 116, 112]⟩)).set0 (.string ⟨#[102, 116, 112]⟩)).set1 (.string ho)).set2 (.int .i64 po)).set3 (.string pa))
        have FS := (((((s8.setCell (p := ⟨u, 0, none⟩) hug (.string ⟨#[102, 116, 112]⟩)).setCell (p := ⟨w.heap.size, 0, none⟩) hg (.string ⟨#[102, 116, 112]⟩)).setCell (p := ⟨w.heap.size, 1, none⟩) hg (.string ho)).setCell (p := ⟨w.heap.size, 2, none⟩) hg (.int .i64 po)).setCell (p := ⟨w.heap.size, 3, none⟩) hg (.string pa))
        have FG := (grown_new (p := ⟨w.heap.size, 3, none⟩) (grown_new (p := ⟨w.heap.size, 2, none⟩) (grown_new (p := ⟨w.heap.size, 1, none⟩) (grown_new (p := ⟨w.heap.size, 0, none⟩) (grown_new (p := ⟨u, 0, none⟩) GG.out (by show _ ≤ u; omega) (.string ⟨#[102, 116, 112]⟩)) (Nat.le_refl _) (.string ⟨#[102, 116, 112]⟩)) (Nat.le_refl _) (.string ho)) (Nat.le_refl _) (.int .i64 po)) (Nat.le_refl _) (.string pa))
        generalize (((((w8.setCell ⟨u, 0, none⟩ (.string ⟨#[102, 116, 112]⟩)).setCell ⟨w.heap.size, 0, none⟩ (.string ⟨#[102, 116, 112]⟩)).setCell ⟨w.heap.size, 1, none⟩ (.string ho)).setCell ⟨w.heap.size, 2, none⟩ (.int .i64 po)).setCell ⟨w.heap.size, 3, none⟩ (.string pa)) = W at *
        obtain ⟨hz, ⟨f0, f1, f2, f3⟩, _⟩ := FR
        exact bodyPost_ret (v := urlV ⟨#[102, 116, 112]⟩ ho pa po) (by simp [urlV, results, Tryd.results57, go_sem, f0, f1, f2, f3]) rfl ⟨⟨_, _, _, _, rfl, (by decide), hho, hpa⟩, FS, FG⟩
      | false =>
        obtain ⟨hbr, ⟨d0, d1, d2, d3⟩, hdf⟩ := RR.out
        obtain ⟨hbu, ⟨b0, b1, b2, b3⟩, hbf⟩ := UU.out
        go_wp2
        have FR := ((((RR.out.set0 (.string sc)).set1 (.string ho)).set2 (.int .i64 po)).set3 (.string pa))
        have FS := ((((s8.setCell (p := ⟨w.heap.size, 0, none⟩) hg (.string sc)).setCell (p := ⟨w.heap.size, 1, none⟩) hg (.string ho)).setCell (p := ⟨w.heap.size, 2, none⟩) hg (.int .i64 po)).setCell (p := ⟨w.heap.size, 3, none⟩) hg (.string pa))
        have FG := (grown_new (p := ⟨w.heap.size, 3, none⟩) (grown_new (p := ⟨w.heap.size, 2, none⟩) (grown_new (p := ⟨w.heap.size, 1, none⟩) (grown_new (p := ⟨w.heap.size, 0, none⟩) GG.out (Nat.le_refl _) (.string sc)) (Nat.le_refl _) (.string ho)) (Nat.le_refl _) (.int .i64 po)) (Nat.le_refl _) (.string pa))
        generalize ((((w8.setCell ⟨w.heap.size, 0, none⟩ (.string sc)).setCell ⟨w.heap.size, 1, none⟩ (.string ho)).setCell ⟨w.heap.size, 2, none⟩ (.int .i64 po)).setCell ⟨w.heap.size, 3, none⟩ (.string pa)) = W at *
        obtain ⟨hz, ⟨f0, f1, f2, f3⟩, _⟩ := FR
        exact bodyPost_ret (v := urlV sc ho pa po) (by simp [urlV, results, Tryd.results57, go_sem, f0, f1, f2, f3]) rfl ⟨⟨_, _, _, _, rfl, hsc, hho, hpa⟩, FS, FG⟩
end Go.Proofs.YtmlacbjlafdenaaDoor

/- The specification's spoil: a text changed a little is at most one byte longer. -/
namespace Go.Proofs.YtmlacbjlafdenaaDoor
open Go.RowKit

set_option maxRecDepth 10000 in
set_option maxHeartbeats 2000000 in
theorem spoil_any (g : Nat) (t : ByteArray) (w : World) (hs : SrcAt w g) (ht : t.size ≤ 1048576) :
    Calls Tryd.prog 59 #[.pointer (some ⟨g, 0, none⟩), .string t] w fun e w' => (∃ x : ByteArray, e = .returned (.string x) ∧ x.size ≤ t.size + 1) ∧ SrcAt w' g ∧ w.grownBy w' (some g) := by
  have HN : Hid (Calls Tryd.prog 53 #[.pointer (some ⟨g, 0, none⟩), .int .i64 ((t.size : Int) + 1)] w fun e w' => ∃ r : Int, e = .returned (.int .i64 r) ∧ 0 ≤ r ∧ (1 < (t.size : Int) + 1 → r < (t.size : Int) + 1) ∧ ((t.size : Int) + 1 ≤ 1 → r = 0) ∧ SrcAt w' g ∧ w.grownBy w' (some g)) := srcN_any g _ w hs (by omega)
  clear hs
  go_enter Tryd.func59, Tryd.ntmps59
  go_wp2_with fail
  refine HN.out.mono ?_
  rintro e w1 ⟨r, rfl, r0, r1, r1', s1, g1⟩
  obtain ⟨k, rfl⟩ : ∃ k : Nat, r = k := ⟨r.toNat, by omega⟩
  have hk : k ≤ t.size := by omega
  clear HN r0 r1 r1'
  go_wp2_with fail
  refine (srcN_any g 17 _ s1 (by decide)).mono ?_
  rintro e w2 ⟨r, rfl, r0, r1, _, s2, g2⟩
  have r2 := r1 (by decide)
  obtain ⟨j, rfl⟩ : ∃ j : Nat, r = j := ⟨r.toNat, by omega⟩
  have hj : j < 17 := by omega
  have G2 : Hid (w.grownBy w2 (some g)) := g1.trans g2
  clear r1 r0 g1 g2 s1
  go_wp2_with fail
  have hr : RowAt (w2.alloc (.cells #[.int .u8 (((⟨#[32, 10, 48, 97, 45, 110, 44, 58, 93, 255, 40, 120, 126, 49, 128, 225, 59]⟩ : ByteArray)[j]'hj).toNat : Int)] 5)) w2.heap.size 5 (Lib.byteCells [UInt8.ofNat ((⟨#[32, 10, 48, 97, 45, 110, 44, 58, 93, 255, 40, 120, 126, 49, 128, 225, 59]⟩ : ByteArray)[j]'hj).toNat] ++ []) := one_row _ w2 _ (UInt8.toNat_lt _)
  rw [text_of_row (P := Tryd.prog) _ 22 9 5 Tryd.underlying22 Tryd.underlying5 Tryd.underlying9 w2.heap.size 1 1 5 _ _ hr rfl]
  have hc1 : (⟨[UInt8.ofNat ((⟨#[32, 10, 48, 97, 45, 110, 44, 58, 93, 255, 40, 120, 126, 49, 128, 225, 59]⟩ : ByteArray)[j]'hj).toNat].toArray⟩ : ByteArray).size ≤ 1 := Nat.le_refl _
  clear hr
  generalize (⟨[UInt8.ofNat ((⟨#[32, 10, 48, 97, 45, 110, 44, 58, 93, 255, 40, 120, 126, 49, 128, 225, 59]⟩ : ByteArray)[j]'hj).toNat].toArray⟩ : ByteArray) = c at *
  have s3 := s2.alloc (.cells #[.int .u8 (((⟨#[32, 10, 48, 97, 45, 110, 44, 58, 93, 255, 40, 120, 126, 49, 128, 225, 59]⟩ : ByteArray)[j]'hj).toNat : Int)] 5)
  have G3 : Hid (w.grownBy (w2.alloc (.cells #[.int .u8 (((⟨#[32, 10, 48, 97, 45, 110, 44, 58, 93, 255, 40, 120, 126, 49, 128, 225, 59]⟩ : ByteArray)[j]'hj).toNat : Int)] 5)) (some g)) := G2.out.trans (World.grownBy_alloc _ _ _)
  generalize ((⟨#[32, 10, 48, 97, 45, 110, 44, 58, 93, 255, 40, 120, 126, 49, 128, 225, 59]⟩ : ByteArray)[j]'hj) = cc at *
  generalize w2.alloc (.cells #[.int .u8 (cc.toNat : Int)] 5) = w3 at *
  clear s2 G2
  by_cases he : k = t.size
  · subst he
    go_wp2_with fail
    go_region
    go_wp2
    go_ret
    exact ⟨⟨_, rfl, by rw [ByteArray.size_append]; omega⟩, s3.drew, grown_drew G3.out⟩
  · have q : ((k : Int) == (t.size : Int)) = false := by rw [beq_eq_false_iff_ne]; omega
    have hlt : k < t.size := by omega
    have e1 : (t.extract 0 k).size = k := by rw [ByteArray.size_extract]; omega
    have e2 : (t.extract k t.size).size = t.size - k := by rw [ByteArray.size_extract]; omega
    have e3 : (t.extract (k + 1) t.size).size = t.size - (k + 1) := by rw [ByteArray.size_extract]; omega
    have HZ1 : Hid ((t.extract 0 k ++ c ++ t.extract k t.size).size ≤ t.size + 1) := by show _ ≤ _; rw [ByteArray.size_append, ByteArray.size_append]; omega
    have HZ2 : Hid ((t.extract 0 k ++ t.extract (k + 1) t.size).size ≤ t.size + 1) := by show _ ≤ _; rw [ByteArray.size_append]; omega
    have HZ3 : Hid ((t.extract 0 k ++ c ++ t.extract (k + 1) t.size).size ≤ t.size + 1) := by show _ ≤ _; rw [ByteArray.size_append, ByteArray.size_append]; omega
    go_wp2_with fail
    refine (srcOne_any g 3 _ s3 (by decide)).mono ?_
    rintro e w4 ⟨⟨b, rfl⟩, s4, g4⟩
    have G4 : Hid (w.grownBy w4 (some g)) := G3.out.trans g4
    clear s3 G3 g4
    cases b with
    | true =>
      go_wp2_with fail
      go_region
      go_wp2
      go_ret
      exact ⟨⟨_, rfl, HZ1.out⟩, s4.drew, grown_drew G4.out⟩
    | false =>
      go_wp2_with fail
      refine (srcOne_any g 2 _ s4 (by decide)).mono ?_
      rintro e w5 ⟨⟨b, rfl⟩, s5, g5⟩
      have G5 : Hid (w.grownBy w5 (some g)) := G4.out.trans g5
      clear s4 G4 g5
      cases b with
      | true =>
        go_wp2_with fail
        go_region
        go_wp2
        go_ret
        exact ⟨⟨_, rfl, HZ2.out⟩, s5.drew, grown_drew G5.out⟩
      | false =>
        go_wp2_with fail
        go_region
        go_wp2
        go_ret
        exact ⟨⟨_, rfl, HZ3.out⟩, s5.drew, grown_drew G5.out⟩
end Go.Proofs.YtmlacbjlafdenaaDoor

/- The specification's draws over urls: a drawn url, a drawn text, a drawn host: all short. -/
namespace Go.Proofs.YtmlacbjlafdenaaDoor
open Go.RowKit

theorem CodeRow.below {w w' : World} {a : Option Addr} {len : Nat} (h : CodeRow w a len) (hb : Below w.heap.size w w') : CodeRow w' a len := by
  intro i hi
  obtain ⟨x, z, e, hx, hc, hz⟩ := h i hi
  exact ⟨x, z, e, Nat.lt_of_lt_of_le hx hb.size, by rw [hb.cell (p := x.add i) (by rw [add_block]; exact hx)]; exact hc, hz⟩
/-- a draw's world: nothing that was there is turned -/
theorem below_grown {w w1 w2 : World} {B g : Nat} (h : Below B w w1) (hg : w1.grownBy w2 (some g)) (hB : B ≤ w1.heap.size) (hBg : B ≤ g) : Below B w w2 := h.grown hg hB (fun k e => by injection e with e; omega)

theorem SrcAt.below {w w' : World} {g : Nat} (h : SrcAt w g) (hb : Below w.heap.size w w') : SrcAt w' g := by
  obtain ⟨hg, a, len, cap, k, mix, size, ⟨c0, c1, c2, c3⟩, hm, hf, hby⟩ := h
  refine ⟨Nat.lt_of_lt_of_le hg hb.size, a, len, cap, k, mix, size, ⟨?_, ?_, ?_, ?_⟩, hm, ?_, ?_⟩
  · rw [(bcell hb).1 _ _ hg]; exact c0
  · rw [(bcell hb).1 _ _ hg]; exact c1
  · rw [(bcell hb).1 _ _ hg]; exact c2
  · rw [(bcell hb).1 _ _ hg]; exact c3
  · intro o; rw [(bcell hb).2 _ _ hg]; exact hf o
  · intro i hi
    obtain ⟨x, z, e, hx, hc, hz⟩ := hby i hi
    exact ⟨x, z, e, hx, by rw [hb.cell (p := x.add i) (by rw [add_block]; omega)]; exact hc, hz⟩

set_option maxRecDepth 10000 in
set_option maxHeartbeats 1000000 in
theorem drawLabelsOf_any (a : Option Addr) (len cap : Nat) (w : World) (hr : CodeRow w a len) (hl : len ≤ 1048576) :
    Calls Tryd.prog 19 #[.slice a len cap] w fun e w' => (∃ t : ByteArray, e = .returned (.string t) ∧ t.size ≤ 20) ∧ Below w.heap.size w w' := by
  have H1 : Hid (Calls Tryd.prog 47 #[.slice a len cap] w fun e w' => e = .returned (.pointer (some ⟨w.heap.size, 0, none⟩)) ∧ SrcAt w' w.heap.size ∧ Below w.heap.size w w') := source_any a len cap w hr hl
  clear hr
  go_enter Tryd.func19, Tryd.ntmps19
  go_wp2_with fail
  refine H1.out.mono ?_
  rintro e w1 ⟨rfl, s1, hb1⟩
  go_wp2_with fail
  refine (srcHost_any _ _ s1).mono ?_
  rintro e w2 ⟨⟨t, rfl, ht⟩, _, g2⟩
  go_wp2
  go_ret
  exact ⟨⟨t, rfl, ht⟩, below_grown hb1 g2 hb1.size (Nat.le_refl _)⟩

set_option maxRecDepth 10000 in
set_option maxHeartbeats 1000000 in
theorem drawUrlRead_any (a : Option Addr) (len cap : Nat) (w : World) (hr : CodeRow w a len) (hl : len ≤ 1048576) :
    Calls Tryd.prog 17 #[.slice a len cap] w fun e w' => (∃ t : ByteArray, e = .returned (.string t) ∧ t.size ≤ 1000) ∧ Below w.heap.size w w' := by
  have H1 : Hid (Calls Tryd.prog 47 #[.slice a len cap] w fun e w' => e = .returned (.pointer (some ⟨w.heap.size, 0, none⟩)) ∧ SrcAt w' w.heap.size ∧ Below w.heap.size w w') := source_any a len cap w hr hl
  clear hr
  go_enter Tryd.func17, Tryd.ntmps17
  go_wp2_with fail
  refine H1.out.mono ?_
  rintro e w1 ⟨rfl, s1, hb1⟩
  go_wp2_with fail
  refine (srcUrl_any _ _ s1).mono ?_
  rintro e w2 ⟨⟨sc, ho, pa, po, rfl, hsc, hho, hpa⟩, s2, g2⟩
  go_wp2_with fail
  refine (specUrlText_any sc ho pa po _).mono ?_
  rintro e w3 ⟨rfl, hb3⟩
  have ht : (urlT sc ho pa po).size ≤ 300 := by
    unfold urlT
    split
    · rename_i h
      obtain ⟨p1, p2, p3, p4, p5⟩ := urlB_parts h
      have := placeT_size p1 p2 p3 p4
      rw [ByteArray.size_append]; omega
    · exact Nat.zero_le _
  generalize urlT sc ho pa po = t at *
  have HB3 : Hid (Below w.heap.size w w3) := (below_grown hb1 g2 hb1.size (Nat.le_refl _)).trans (hb3.mono (Nat.le_trans hb1.size g2.size))
  have s3 := s2.below hb3
  have hz3 : w.heap.size < w3.heap.size := s3.1
  clear hb3 g2 s2 s1 hb1 hsc hho hpa
  go_wp2_with fail
  refine (srcN_any _ 4 _ s3 (by decide)).mono ?_
  rintro e w4 ⟨r, rfl, r0, r1, _, s4, g4⟩
  have HB4 : Hid (Below w.heap.size w w4) := below_grown HB3.out g4 (Nat.le_of_lt hz3) (Nat.le_refl _)
  have hz4 : w.heap.size < w4.heap.size := s4.1
  clear g4 s3 HB3 r1
  by_cases c0 : r = 0
  · subst c0
    go_wp2_with fail
    refine (spoil_any _ t _ s4 (by omega)).mono ?_
    rintro e w5 ⟨⟨x, rfl, hx⟩, s5, g5⟩
    go_wp2
    go_ret
    exact ⟨⟨x, rfl, by omega⟩, below_grown HB4.out g5 (Nat.le_of_lt hz4) (Nat.le_refl _)⟩
  by_cases c1 : r = 1
  · subst c1
    go_wp2_with fail
    refine (srcPick_short w.heap.size w4.heap.size 6 8 20 _ (s4.alloc _) (short_made_at _ _ rfl _ _ _ _ (by rfl)) (by omega) (by decide)).mono ?_
    rintro e w5 ⟨⟨x, rfl, hx⟩, s5, g5⟩
    go_wp2
    go_ret
    exact ⟨⟨x, rfl, by omega⟩, below_grown (HB4.out.alloc (Nat.le_of_lt hz4) _) g5 (by simp; omega) (Nat.le_refl _)⟩
  · have q0 : (r == 0) = false := by rw [beq_eq_false_iff_ne]; exact c0
    have q1 : (r == 1) = false := by rw [beq_eq_false_iff_ne]; exact c1
    go_wp2
    go_ret
    exact ⟨⟨t, rfl, by omega⟩, HB4.out⟩

set_option maxRecDepth 10000 in
set_option maxHeartbeats 1000000 in
theorem drawUrlText_any (a : Option Addr) (len cap : Nat) (w : World) (hr : CodeRow w a len) (hl : len ≤ 1048576) :
    Calls Tryd.prog 15 #[.slice a len cap] w fun e w' => (∃ (sc ho pa : ByteArray) (po : Int), e = .returned (urlV sc ho pa po) ∧ sc.size ≤ 20 ∧ ho.size ≤ 20 ∧ pa.size ≤ 20) ∧ Below w.heap.size w w' := by
  have HR : Hid (CodeRow w a len) := hr
  clear hr
  go_enter Tryd.func15, Tryd.ntmps15
  go_wp2_with fail
  refine (source_any a len cap _ (HR.out.below ((Below.refl _ _).alloc (Nat.le_refl _) _)) hl).mono ?_
  rintro e w1 ⟨rfl, s1, hb1⟩
  have s1' : SrcAt w1 (w.heap.size + 1) := by simpa using s1
  have RR : Hid (U4 w1 w.heap.size (.string ⟨#[]⟩) (.string ⟨#[]⟩) (.int .i64 0) (.string ⟨#[]⟩)) := by
    obtain ⟨hb, ⟨c0, c1, c2, c3⟩, hf⟩ := U4.made w (.string ⟨#[]⟩) (.string ⟨#[]⟩) (.int .i64 0) (.string ⟨#[]⟩) 35
    exact ⟨Nat.lt_of_lt_of_le hb hb1.size, ⟨by rw [(bcell hb1).1 _ _ hb]; exact c0, by rw [(bcell hb1).1 _ _ hb]; exact c1, by rw [(bcell hb1).1 _ _ hb]; exact c2, by rw [(bcell hb1).1 _ _ hb]; exact c3⟩, fun o => by rw [(bcell hb1).2 _ _ hb]; exact hf o⟩
  have HB1 : Hid (Below w.heap.size w w1) := ((Below.refl _ _).alloc (Nat.le_refl _) _).trans (hb1.mono (by simp))
  have hz1 : w.heap.size < w1.heap.size := RR.out.1
  clear s1 hb1
  go_wp2_with fail
  refine (srcUrl_any _ _ s1').mono ?_
  rintro e w2 ⟨⟨sc, ho, pa, po, rfl, hsc, hho, hpa⟩, s2, g2⟩
  have RR2 : Hid (U4 w2 w.heap.size (.string ⟨#[]⟩) (.string ⟨#[]⟩) (.int .i64 0) (.string ⟨#[]⟩)) := RR.out.kept g2 (by simp)
  have HB2 : Hid (Below w.heap.size w w2) := below_grown HB1.out g2 (Nat.le_of_lt hz1) (Nat.le_succ _)
  obtain ⟨hbr, ⟨d0, d1, d2, d3⟩, hdf⟩ := RR2.out
  clear g2 RR HB1 s2 s1'
  unfold urlV
  go_wp2
  have FR := (((RR2.out.set0 (.string sc)).set1 (.string ho)).set2 (.int .i64 po)).set3 (.string pa)
  have FB := Below.setCell (Below.setCell (Below.setCell (Below.setCell HB2.out (p := ⟨w.heap.size, 0, none⟩) (Nat.le_refl _) (.string sc)) (p := ⟨w.heap.size, 1, none⟩) (Nat.le_refl _) (.string ho)) (p := ⟨w.heap.size, 2, none⟩) (Nat.le_refl _) (.int .i64 po)) (p := ⟨w.heap.size, 3, none⟩) (Nat.le_refl _) (.string pa)
  generalize ((((w2.setCell ⟨w.heap.size, 0, none⟩ (.string sc)).setCell ⟨w.heap.size, 1, none⟩ (.string ho)).setCell ⟨w.heap.size, 2, none⟩ (.int .i64 po)).setCell ⟨w.heap.size, 3, none⟩ (.string pa)) = W at *
  obtain ⟨hz, ⟨f0, f1, f2, f3⟩, _⟩ := FR
  exact bodyPost_ret (v := urlV sc ho pa po) (by simp [urlV, results, Tryd.results15, go_sem, f0, f1, f2, f3]) rfl ⟨⟨_, _, _, _, rfl, hsc, hho, hpa⟩, FB⟩

set_option maxRecDepth 10000 in
set_option maxHeartbeats 1000000 in
theorem drawOriginOf_any (a : Option Addr) (len cap : Nat) (w : World) (hr : CodeRow w a len) (hl : len ≤ 1048576) :
    Calls Tryd.prog 30 #[.slice a len cap] w fun e w' => (∃ (sc ho pa : ByteArray) (po : Int), e = .returned (urlV sc ho pa po) ∧ sc.size ≤ 20 ∧ ho.size ≤ 20 ∧ pa.size ≤ 20) ∧ Below w.heap.size w w' := by
  have HR : Hid (CodeRow w a len) := hr
  clear hr
  go_enter Tryd.func30, Tryd.ntmps30
  go_wp2_with fail
  refine (source_any a len cap _ (HR.out.below ((Below.refl _ _).alloc (Nat.le_refl _) _)) hl).mono ?_
  rintro e w1 ⟨rfl, s1, hb1⟩
  have s1' : SrcAt w1 (w.heap.size + 1) := by simpa using s1
  have RR : Hid (U4 w1 w.heap.size (.string ⟨#[]⟩) (.string ⟨#[]⟩) (.int .i64 0) (.string ⟨#[]⟩)) := by
    obtain ⟨hb, ⟨c0, c1, c2, c3⟩, hf⟩ := U4.made w (.string ⟨#[]⟩) (.string ⟨#[]⟩) (.int .i64 0) (.string ⟨#[]⟩) 35
    exact ⟨Nat.lt_of_lt_of_le hb hb1.size, ⟨by rw [(bcell hb1).1 _ _ hb]; exact c0, by rw [(bcell hb1).1 _ _ hb]; exact c1, by rw [(bcell hb1).1 _ _ hb]; exact c2, by rw [(bcell hb1).1 _ _ hb]; exact c3⟩, fun o => by rw [(bcell hb1).2 _ _ hb]; exact hf o⟩
  have HB1 : Hid (Below w.heap.size w w1) := ((Below.refl _ _).alloc (Nat.le_refl _) _).trans (hb1.mono (by simp))
  have hz1 : w.heap.size < w1.heap.size := RR.out.1
  clear s1 hb1
  go_wp2_with fail
  refine (srcUrl_any _ _ s1').mono ?_
  rintro e w2 ⟨⟨sc, ho, pa, po, rfl, hsc, hho, hpa⟩, s2, g2⟩
  have RR2 : Hid (U4 w2 w.heap.size (.string ⟨#[]⟩) (.string ⟨#[]⟩) (.int .i64 0) (.string ⟨#[]⟩)) := RR.out.kept g2 (by simp)
  have HB2 : Hid (Below w.heap.size w w2) := below_grown HB1.out g2 (Nat.le_of_lt hz1) (Nat.le_succ _)
  obtain ⟨hbr, ⟨d0, d1, d2, d3⟩, hdf⟩ := RR2.out
  clear g2 RR HB1 s2 s1'
  unfold urlV
  go_wp2
  have FR := (((RR2.out.set0 (.string sc)).set1 (.string ho)).set2 (.int .i64 po)).set3 (.string pa)
  have FB := Below.setCell (Below.setCell (Below.setCell (Below.setCell HB2.out (p := ⟨w.heap.size, 0, none⟩) (Nat.le_refl _) (.string sc)) (p := ⟨w.heap.size, 1, none⟩) (Nat.le_refl _) (.string ho)) (p := ⟨w.heap.size, 2, none⟩) (Nat.le_refl _) (.int .i64 po)) (p := ⟨w.heap.size, 3, none⟩) (Nat.le_refl _) (.string pa)
  generalize ((((w2.setCell ⟨w.heap.size, 0, none⟩ (.string sc)).setCell ⟨w.heap.size, 1, none⟩ (.string ho)).setCell ⟨w.heap.size, 2, none⟩ (.int .i64 po)).setCell ⟨w.heap.size, 3, none⟩ (.string pa)) = W at *
  obtain ⟨hz, ⟨f0, f1, f2, f3⟩, _⟩ := FR
  exact bodyPost_ret (v := urlV sc ho pa po) (by simp [urlV, results, Tryd.results30, go_sem, f0, f1, f2, f3]) rfl ⟨⟨_, _, _, _, rfl, hsc, hho, hpa⟩, FB⟩
end Go.Proofs.YtmlacbjlafdenaaDoor

/- Texts put in their places, one by one, are the texts sorted and each kept once. -/
namespace Go.Proofs.YtmlacbjlafdenaaDoor
/-- the model's order of texts is that of their bytes -/
theorem less_iff : ∀ (x y : List UInt8), Op.bytesLess x y = true ↔ x < y
  | [], [] => by simp [Op.bytesLess]
  | _ :: _, [] => by simp [Op.bytesLess]
  | [], _ :: _ => by simp [Op.bytesLess]
  | a :: x, b :: y => by
    rw [Op.bytesLess, List.cons_lt_cons_iff, Bool.or_eq_true, Bool.and_eq_true, less_iff x y, decide_eq_true_eq, beq_iff_eq]
theorem lt_tri (x y : List UInt8) : x < y ∨ x = y ∨ y < x := by
  by_cases h : x < y
  · exact .inl h
  · by_cases h2 : y < x
    · exact .inr (.inr h2)
    · exact .inr (.inl (List.le_antisymm (List.not_lt.1 h2) (List.not_lt.1 h)))
/-- rising, none twice -/
def Rising (L : List (List UInt8)) : Prop := L.Pairwise (· < ·)
theorem rising_eq : ∀ {A B : List (List UInt8)}, Rising A → Rising B → (∀ x, x ∈ A ↔ x ∈ B) → A = B
  | [], [], _, _, _ => rfl
  | [], b :: B, _, _, h => absurd ((h b).2 (by simp)) (by simp)
  | a :: A, [], _, _, h => absurd ((h a).1 (by simp)) (by simp)
  | a :: A, b :: B, ha, hb, h => by
    obtain ⟨ha1, ha2⟩ := List.pairwise_cons.1 ha
    obtain ⟨hb1, hb2⟩ := List.pairwise_cons.1 hb
    have e : a = b := by
      rcases lt_tri a b with c | c | c
      · rcases List.mem_cons.1 ((h a).1 (by simp)) with e | e
        · exact e
        · exact absurd (List.lt_trans (hb1 a e) c) (List.lt_irrefl b)
      · exact c
      · rcases List.mem_cons.1 ((h b).2 (by simp)) with e | e
        · exact e.symm
        · exact absurd (List.lt_trans (ha1 b e) c) (List.lt_irrefl a)
    subst e
    congr 1
    refine rising_eq ha2 hb2 fun x => ?_
    have hx := h x
    rw [List.mem_cons, List.mem_cons] at hx
    constructor
    · intro hm
      rcases hx.1 (.inr hm) with e | e
      · subst e; exact absurd (ha1 x hm) (List.lt_irrefl x)
      · exact e
    · intro hm
      rcases hx.2 (.inr hm) with e | e
      · subst e; exact absurd (hb1 x hm) (List.lt_irrefl x)
      · exact e
/-- a text put among others, in its place -/
def putT : List (List UInt8) → List UInt8 → List (List UInt8)
  | [], t => [t]
  | x :: l, t => if x < t then x :: putT l t else if x = t then x :: l else t :: x :: l
theorem putT_mem (t x : List UInt8) : ∀ L : List (List UInt8), x ∈ putT L t ↔ x ∈ L ∨ x = t
  | [] => by simp [putT]
  | y :: l => by
    rw [putT]
    split
    · rw [List.mem_cons, putT_mem t x l, List.mem_cons]
      constructor
      · rintro (h | h | h) <;> simp [h]
      · rintro ((h | h) | h) <;> simp [h]
    · split
      · rename_i e; subst e; simp
        intro h; exact .inl h
      · simp only [List.mem_cons]
        constructor
        · rintro (h | h) <;> simp [h]
        · rintro (h | h) <;> simp [h]
theorem putT_rising (t : List UInt8) : ∀ {L : List (List UInt8)}, Rising L → Rising (putT L t)
  | [], _ => by simp [putT, Rising]
  | y :: l, h => by
    obtain ⟨h1, h2⟩ := List.pairwise_cons.1 h
    rw [putT]
    split
    · rename_i hlt
      refine List.pairwise_cons.2 ⟨fun z hz => ?_, putT_rising t h2⟩
      rcases (putT_mem t z l).1 hz with e | e
      · exact h1 z e
      · rw [e]; exact hlt
    · rename_i hlt
      split
      · exact h
      · rename_i hne
        have hty : t < y := by
          rcases lt_tri t y with c | c | c
          · exact c
          · exact absurd c.symm hne
          · exact absurd c hlt
        refine List.pairwise_cons.2 ⟨fun z hz => ?_, h⟩
        rcases List.mem_cons.1 hz with e | e
        · rw [e]; exact hty
        · exact List.lt_trans hty (h1 z e)
theorem puts_rising : ∀ (K : List (List UInt8)) {L : List (List UInt8)}, Rising L → Rising (K.foldl putT L)
  | [], _, h => h
  | t :: K, _, h => puts_rising K (putT_rising t h)
theorem puts_mem (x : List UInt8) : ∀ (K L : List (List UInt8)), x ∈ K.foldl putT L ↔ x ∈ L ∨ x ∈ K
  | [], L => by simp
  | t :: K, L => by
    rw [List.foldl_cons, puts_mem x K, putT_mem, List.mem_cons]
    constructor
    · rintro ((h | h) | h) <;> simp [h]
    · rintro (h | h | h) <;> simp [h]
/-- where a text is put, and how -/
theorem putT_at (t : List UInt8) : ∀ (L : List (List UInt8)) (k : Nat), k ≤ L.length → (∀ j (h : j < L.length), j < k → L[j] < t) → (∀ h : k < L.length, ¬ L[k] < t) →
    putT L t = if ∃ h : k < L.length, L[k] = t then L else L.take k ++ t :: L.drop k
  | [], k, hk, _, _ => by
    obtain rfl : k = 0 := by simpa using hk
    rw [if_neg (by rintro ⟨h, _⟩; exact absurd h (by simp))]
    rfl
  | x :: l, 0, hk, _, h2 => by
    have hx : ¬ x < t := h2 (by simp)
    rw [putT, if_neg hx]
    by_cases e : x = t
    · rw [if_pos e, if_pos ⟨by simp, e⟩]
    · rw [if_neg e, if_neg (by rintro ⟨_, h⟩; exact e h)]; rfl
  | x :: l, k + 1, hk, h1, h2 => by
    have hx : x < t := h1 0 (by simp) (by omega)
    rw [putT, if_pos hx, putT_at t l k (by simpa using hk) (fun j h hj => h1 (j + 1) (by simpa using h) (by omega)) (fun h => h2 (by simpa using h))]
    by_cases e : ∃ h : k < l.length, l[k] = t
    · rw [if_pos e, if_pos (by obtain ⟨h, e⟩ := e; exact ⟨by simpa using h, e⟩)]
    · rw [if_neg e, if_neg (by rintro ⟨h, e2⟩; exact e ⟨by simpa using h, e2⟩)]; rfl
theorem le_lt {a b c : List UInt8} (h : ¬ b < a) (h2 : b < c) : a < c := by
  rcases lt_tri a b with e | e | e
  · exact List.lt_trans e h2
  · rw [e]; exact h2
  · exact absurd e h
/-- what stays of rising texts is rising, none twice, and they are the same -/
theorem compact_upto (d : Array (List UInt8)) (hd : ∀ j, j + 1 < d.size → ¬ d[j + 1]! < d[j]!) : ∀ m, m ≤ d.size →
    Rising (Lib.compactUpTo d m) ∧ (∀ x, x ∈ Lib.compactUpTo d m ↔ ∃ j, j < m ∧ d[j]! = x) ∧ (∀ x, x ∈ Lib.compactUpTo d m → ¬ d[m - 1]! < x)
  | 0, _ => by simp [Lib.compactUpTo, Rising]
  | m + 1, hm => by
    obtain ⟨h1, h2, h3⟩ := compact_upto d hd m (by omega)
    rw [Lib.compactUpTo_succ]
    by_cases hk : Lib.keeps d m = true
    · rw [if_pos hk]
      have hlt : ∀ x, x ∈ Lib.compactUpTo d m → x < d[m]! := by
        intro x hx
        obtain ⟨j, hj, -⟩ := (h2 x).1 hx
        have hm0 : ¬ m = 0 := by omega
        have hne : d[m]! ≠ d[m - 1]! := by
          have := hk
          unfold Lib.keeps at this
          rw [decide_eq_true_eq] at this
          exact this.resolve_left hm0
        have hle := hd (m - 1) (by omega)
        rw [show m - 1 + 1 = m by omega] at hle
        refine le_lt (h3 x hx) ?_
        rcases lt_tri d[m - 1]! d[m]! with e | e | e
        · exact e
        · exact absurd e.symm hne
        · exact absurd e hle
      refine ⟨?_, fun x => ?_, fun x hx => ?_⟩
      · unfold Rising
        rw [List.pairwise_append]
        refine ⟨h1, by simp, fun a ha b hb => ?_⟩
        rw [List.mem_singleton] at hb
        rw [hb]; exact hlt a ha
      · rw [List.mem_append, h2, List.mem_singleton]
        constructor
        · rintro (⟨j, hj, e⟩ | e)
          · exact ⟨j, by omega, e⟩
          · exact ⟨m, by omega, e.symm⟩
        · rintro ⟨j, hj, e⟩
          by_cases hjm : j = m
          · subst hjm; exact .inr e.symm
          · exact .inl ⟨j, by omega, e⟩
      · rw [List.mem_append, List.mem_singleton] at hx
        rw [Nat.add_sub_cancel]
        rcases hx with hx | hx
        · exact fun h => List.lt_irrefl x (List.lt_trans (hlt x hx) h)
        · rw [hx]; exact List.lt_irrefl _
    · rw [if_neg hk, List.append_nil]
      have hm0 : ¬ m = 0 := fun e => hk (by subst e; simp [Lib.keeps])
      have he : d[m]! = d[m - 1]! := by
        by_cases e : d[m]! = d[m - 1]!
        · exact e
        · exact absurd (Lib.keeps_pos e) hk
      refine ⟨h1, fun x => ?_, fun x hx => ?_⟩
      · rw [h2]
        constructor
        · rintro ⟨j, hj, e⟩; exact ⟨j, by omega, e⟩
        · rintro ⟨j, hj, e⟩
          by_cases hjm : j = m
          · subst hjm; exact ⟨j - 1, by omega, by rw [← e, he]⟩
          · exact ⟨j, by omega, e⟩
      · rw [Nat.add_sub_cancel, he]; exact h3 x hx
theorem compact_sorted (zs : List (List UInt8)) (h : zs.Pairwise (fun a b => ¬ b < a)) : Rising (Lib.compact zs) ∧ ∀ x, x ∈ Lib.compact zs ↔ x ∈ zs := by
  have hd : ∀ j, j + 1 < zs.toArray.size → ¬ zs.toArray[j + 1]! < zs.toArray[j]! := by
    intro j hj
    have hj2 : j + 1 < zs.length := by simpa using hj
    have := List.pairwise_iff_getElem.1 h j (j + 1) (by omega) hj2 (by omega)
    simpa [getElem!_pos, hj2, show j < zs.length by omega] using this
  obtain ⟨h1, h2, _⟩ := compact_upto zs.toArray hd zs.length (by simp)
  refine ⟨h1, fun x => ?_⟩
  unfold Lib.compact
  rw [h2]
  constructor
  · rintro ⟨j, hj, e⟩
    rw [← e]
    simp [getElem!_pos, hj]
  · intro hx
    obtain ⟨j, hj, e⟩ := List.getElem_of_mem hx
    exact ⟨j, hj, by simp [getElem!_pos, hj, e]⟩
/-- texts sorted and each kept once are those put one by one -/
theorem sorted_puts (K : List (List UInt8)) : Lib.compact (K.mergeSort fun x y => decide (x ≤ y)) = K.foldl putT [] := by
  have hp : (K.mergeSort fun x y => decide (x ≤ y)).Pairwise (fun a b => ¬ b < a) := by
    have := List.pairwise_mergeSort (le := fun x y : List UInt8 => decide (x ≤ y)) (fun a b c h1 h2 => by
      rw [decide_eq_true_eq] at *; exact List.le_trans h1 h2) (fun a b => by
      rw [Bool.or_eq_true, decide_eq_true_eq, decide_eq_true_eq]; exact List.le_total a b) K
    refine this.imp ?_
    intro a b h
    rw [decide_eq_true_eq] at h
    exact List.not_lt.2 h
  obtain ⟨h1, h2⟩ := compact_sorted _ hp
  refine rising_eq h1 (puts_rising K (by simp [Rising])) fun x => ?_
  rw [h2, puts_mem, (List.mergeSort_perm K _).mem_iff]
  simp
end Go.Proofs.YtmlacbjlafdenaaDoor

/- The walk of the specification's l03Put. -/
namespace Go.Proofs.YtmlacbjlafdenaaDoor
open Go.RowKit

/-- a text put among others, in its place -/
def putL (L : List ByteArray) (t : ByteArray) : List ByteArray := (putT (L.map (·.data.toList)) t.data.toList).map (fun l => ⟨l.toArray⟩)
theorem data_back (L : List (List UInt8)) : (L.map (fun l => (⟨l.toArray⟩ : ByteArray))).map (·.data.toList) = L := by
  rw [List.map_map]
  conv => rhs; rw [← List.map_id L]
  apply List.map_congr_left
  intro l _
  simp
theorem back_data (L : List ByteArray) : (L.map (·.data.toList)).map (fun l => (⟨l.toArray⟩ : ByteArray)) = L := by
  apply datas_inj
  rw [data_back]
theorem putL_data (L : List ByteArray) (t : ByteArray) : (putL L t).map (·.data.toList) = putT (L.map (·.data.toList)) t.data.toList := data_back _
theorem less_data (a b : ByteArray) : Op.bytesLess a.toList b.toList = true ↔ a.data.toList < b.data.toList := by rw [less_iff, Lib.toList_data, Lib.toList_data]
theorem same_data (a b : ByteArray) : (a.toList == b.toList) = true ↔ a.data.toList = b.data.toList := by rw [beq_iff_eq, Lib.toList_data, Lib.toList_data]
theorem putL_at {L : List ByteArray} {t : ByteArray} {k : Nat} (hk : k ≤ L.length) (h1 : ∀ j, j < k → Op.bytesLess (atL L j).toList t.toList = true) (h2 : k < L.length → Op.bytesLess (atL L k).toList t.toList = false) :
    ((k < L.length ∧ ((atL L k).toList == t.toList) = true) → putL L t = L) ∧ (¬ (k < L.length ∧ ((atL L k).toList == t.toList) = true) → putL L t = L.take k ++ t :: L.drop k) := by
  have e := putT_at t.data.toList (L.map (·.data.toList)) k (by simpa using hk)
    (fun j hj hjk => by
      have := h1 j hjk
      rw [less_data] at this
      have hl : j < L.length := by simpa using hj
      have e2 : atL L j = L[j] := by simp [atL, hl]
      rw [e2] at this
      simpa using this)
    (fun h hlt => by
      have hl : k < L.length := by simpa using h
      have := h2 hl
      have e2 : atL L k = L[k] := by simp [atL, hl]
      rw [e2, (less_data _ _).2 (by simpa using hlt)] at this
      cases this)
  have ec : (∃ h : k < (L.map (·.data.toList)).length, (L.map (·.data.toList))[k] = t.data.toList) ↔ (k < L.length ∧ ((atL L k).toList == t.toList) = true) := by
    constructor
    · rintro ⟨h, e1⟩
      have hl : k < L.length := by simpa using h
      have e2 : atL L k = L[k] := by simp [atL, hl]
      exact ⟨hl, by rw [e2, same_data]; simpa using e1⟩
    · rintro ⟨hl, e1⟩
      have e2 : atL L k = L[k] := by simp [atL, hl]
      rw [e2, same_data] at e1
      exact ⟨by simpa using hl, by simpa using e1⟩
  constructor
  · intro hc
    rw [if_pos (ec.2 hc)] at e
    unfold putL
    rw [e]; exact back_data L
  · intro hc
    rw [if_neg (fun h => hc (ec.1 h))] at e
    apply datas_inj
    rw [putL_data, e]
    simp
theorem putL_len (L : List ByteArray) (t : ByteArray) : (putL L t).length ≤ L.length + 1 := by
  have : ∀ K : List (List UInt8), (putT K t.data.toList).length ≤ K.length + 1 := by
    intro K
    induction K with
    | nil => simp [putT]
    | cons x K ih =>
      rw [putT]
      split
      · simp; omega
      · split <;> simp
  have h := this (L.map (·.data.toList))
  unfold putL
  simpa using h

theorem own_base_put {w : World} {B B2 n : Nat} {e : TypeId} {v : Value} {xs : List Value} (h : w.ownsRow B2 e 1 v n xs) (hB : B ≤ B2) : w.ownsRow B e 1 v n xs := by
  obtain ⟨hl, h0 | ⟨g, cap, cur, rfl, hb, r⟩⟩ := h
  · exact ⟨hl, .inl h0⟩
  · exact ⟨hl, .inr ⟨g, cap, cur, rfl, by omega, r⟩⟩
theorem strCells_get {L : List ByteArray} {j : Nat} {u : Value} (h : (strCells L)[j]? = some u) : j < L.length ∧ u = .string (atL L j) := by
  have hj : j < L.length := by
    have := (List.getElem?_eq_some_iff.1 h).1
    simpa [strCells] using this
  refine ⟨hj, ?_⟩
  simp [strCells, hj] at h
  rw [← h]; simp [atL, hj]
theorem news_from {w W : World} {L : List ByteArray} {g k o : Nat} (hb : Below w.heap.size w W) (hg : g < w.heap.size) (hc : ∀ j, j < L.length → w.cell? ⟨g, j, none⟩ = some (.string (atL L j)) ∧ w.frozen? ⟨g, j, none⟩ = false) (ho : k < L.length → o = k) :
    ∀ j u, (strCells (L.drop k))[j]? = some u → W.cell? ((⟨g, o, none⟩ : Addr).add j) = some u := by
  intro j u hu
  obtain ⟨hj, rfl⟩ := strCells_get hu
  rw [List.length_drop] at hj
  rw [ho (by omega), Addr.add_lit, (bcell hb).1 _ _ hg, (hc (k + j) (by omega)).1]
  simp [atL]
theorem news_to {w W : World} {L : List ByteArray} {g k : Nat} (hb : Below w.heap.size w W) (hg : g < w.heap.size) (hc : ∀ j, j < L.length → w.cell? ⟨g, j, none⟩ = some (.string (atL L j)) ∧ w.frozen? ⟨g, j, none⟩ = false) :
    ∀ j u, (strCells (L.take k))[j]? = some u → W.cell? ((⟨g, 0, none⟩ : Addr).add j) = some u := by
  intro j u hu
  obtain ⟨hj, rfl⟩ := strCells_get hu
  rw [List.length_take] at hj
  rw [Addr.add_lit, Nat.zero_add, (bcell hb).1 _ _ hg, (hc j (by omega)).1]
  simp [atL, show j < k by omega]
theorem strCells_one {L : List ByteArray} : ∀ u ∈ strCells L, u.oneCell' = true := by
  intro u hu
  unfold strCells at hu
  rw [List.mem_map] at hu
  obtain ⟨x, _, rfl⟩ := hu
  rfl
set_option maxRecDepth 10000 in
set_option maxHeartbeats 4000000 in
theorem specPut_any (v : Value) (B : Nat) (L : List ByteArray) (t : ByteArray) (w : World) (hB : B ≤ w.heap.size) (ho : w.ownsRow B 9 1 v L.length (strCells L)) (hv : ¬ v = .slice none 0 0) (hn : L.length ≤ 1048576) :
    Calls Tryd.prog 97 #[v, .string t] w fun e w' => ∃ v', e = .returned v' ∧ w'.ownsRow B 9 1 v' (putL L t).length (strCells (putL L t)) ∧ (¬ v' = .slice none 0 0) ∧ Below w.heap.size w w' := by
  obtain ⟨i0, hi, hz0, hz1, hz2⟩ := info_parts infoStr
  have HO : Hid (w.ownsRow B 9 1 v L.length (strCells L)) := ho
  have HP : Hid (∀ k, k ≤ L.length → (∀ j, j < k → Op.bytesLess (atL L j).toList t.toList = true) → (k < L.length → Op.bytesLess (atL L k).toList t.toList = false) →
      ((k < L.length ∧ ((atL L k).toList == t.toList) = true) → putL L t = L) ∧ (¬ (k < L.length ∧ ((atL L k).toList == t.toList) = true) → putL L t = L.take k ++ t :: L.drop k)) := fun k a b c => putL_at a b c
  obtain ⟨hl0, ⟨rfl, h0⟩ | ⟨g, cap, cur, rfl, hbg, hh, hcap, -, -, htake⟩⟩ := ho
  · exact absurd rfl hv
  have hgw : g < w.heap.size := (Array.getElem?_eq_some_iff.mp hh).1
  have HG : Hid (∀ j, j < L.length → w.cell? ⟨g, j, none⟩ = some (.string (atL L j)) ∧ w.frozen? ⟨g, j, none⟩ = false) := fun j hj => by
    obtain ⟨p', c', e', hg'⟩ := slice_of_own HO.out
    obtain ⟨g', rfl, -, -, hc⟩ := hg' (by omega)
    obtain rfl : g = g' := by injection e' with a; injection a with a; injection a
    exact hc j hj
  clear hl0 htake hh hv
  generalize putL L t = R at *
  go_enter Tryd.func97, Tryd.ntmps97
  go_wp2
  go_loopw [5] (fun i wr => ∃ k : Nat, k ≤ L.length ∧ i = .int .i64 k ∧ wr = w ∧ Hid (∀ j, j < k → Op.bytesLess (atL L j).toList t.toList = true)) (fun i _ => L.length - (intOf i).toNat)
  case atStart => exact ⟨0, Nat.zero_le _, rfl, rfl, fun j hj => absurd hj (by omega)⟩
  case round =>
    obtain ⟨k, hk, rfl, rfl, HR⟩ := hrel
    have k0 : (0 : Int) ≤ k := by omega
    have kc : (k : Int) ≤ cap := by omega
    have kl : (k : Int) ≤ L.length := by omega
    have lc : (L.length : Int) ≤ cap := by omega
    by_cases hlt : k < L.length
    · have hck := (HG.out k hlt).1
      have k1 : (k : Int) < L.length := by omega
      have hkc : ¬ cap = k := by omega
      cases hl : Op.bytesLess (atL L k).toList t.toList with
      | true =>
        have HK : Hid (Op.bytesLess (atL L k).toList t.toList = true) := hl
        generalize hx : atL L k = x at *
        have HX : Hid (atL L k = x) := hx
        clear hx
        go_wp2
        go_roundw
        case rel =>
          refine ⟨k + 1, by omega, by go_num, trivial, ?_⟩
          intro j hj
          by_cases e : j = k
          · subst e; rw [HX.out]; exact HK.out
          · exact HR.out j (by omega)
        case measure => simp [intOf]; omega
      | false =>
        have HP2 := HP.out k hk HR.out (fun _ => hl)
        cases he : ((atL L k).toList == t.toList) with
        | true =>
          have HQ : Hid (R = L) := HP2.1 ⟨hlt, he⟩
          clear HP2
          generalize atL L k = x at *
          go_wp2
          go_ret
          exact ⟨_, rfl, by rw [HQ.out]; exact HO.out, by simp, Below.refl _ _⟩
        | false =>
          have HQ : Hid (R = L.take k ++ t :: L.drop k) := HP2.2 (by rw [he]; rintro ⟨_, h⟩; cases h)
          have hb0 : Below wr.heap.size wr (wr.alloc (.cells #[] 9)) := (Below.refl _ _).alloc (Nat.le_refl _) _
          clear HP2
          generalize atL L k = x at *
          go_wp2_with (at_builtin; go_must (refine wpList_append_own _ rfl _ _ 43 rfl wr.heap.size 9 i0 (.string ⟨#[]⟩) 1 16 Tryd.underlying43 hi hz0 hz1 hz2 rfl (by decide) _ _ _ rfl (World.ownsRow_made wr #[] 0 (Nat.le_refl _) (Nat.zero_le _) rfl) ⟨g, 0, none⟩ k _ (strCells (L.take k)) rfl (by simp [strCells]; omega) (news_to hb0 hgw HG.out) strCells_one (by unfold maxLen; omega) (by omega) (by simp) ?_))
          intro v1 w1 ho1 hg1 hn1
          have hb1 : Below wr.heap.size wr w1 := hb0.grown hg1 (by simp) (fun j hj => by simp [Value.ownBlock] at hj; omega)
          have B1 : Hid (Below wr.heap.size wr w1) := hb1
          have O1 : Hid (w1.ownsRow wr.heap.size 9 1 v1 k (strCells (L.take k))) := by show World.ownsRow _ _ _ _ _ _ _; simpa using ho1
          have N1 : Hid (¬ v1 = .slice none 0 0) := by show ¬ _; simpa using hn1
          have hz1' := hb1.size
          clear hb1 ho1 hg1 hn1 hb0
          go_wp2_with (at_builtin; go_must (refine wpList_append_own _ rfl _ _ 43 rfl wr.heap.size 9 i0 (.string ⟨#[]⟩) 1 16 Tryd.underlying43 hi hz0 hz1 hz2 rfl (by decide) _ _ _ rfl (O1.out.alloc _) ⟨w1.heap.size, 0, none⟩ 1 1 [.string t] rfl rfl (cell_one_new _ _ _) (by intro u hu; simp at hu; subst hu; rfl) (by unfold maxLen; omega) (by omega) (by simp; omega) ?_))
          intro v2 w2 ho2 hg2 hn2
          have hb2 : Below wr.heap.size wr w2 := (B1.out.alloc hz1' _).grown hg2 (by simp; omega) (fun j hj => (O1.out.lt j hj).1)
          have B2 : Hid (Below wr.heap.size wr w2) := hb2
          have O2 : Hid (w2.ownsRow wr.heap.size 9 1 v2 (k + 1) (strCells (L.take k) ++ [.string t])) := ho2
          have N2 : Hid (¬ v2 = .slice none 0 0) := hn2
          have hz2' := hb2.size
          clear hb2 ho2 hg2 hn2 O1 B1 N1
          go_wp2_with (at_builtin; go_must (refine wpList_append_own _ rfl _ _ 43 rfl wr.heap.size 9 i0 (.string ⟨#[]⟩) 1 16 Tryd.underlying43 hi hz0 hz1 hz2 rfl (by decide) _ _ _ rfl O2.out ⟨g, k, none⟩ (L.length - k) _ (strCells (L.drop k)) rfl (by simp [strCells]) (news_from B2.out hgw HG.out (by omega)) strCells_one (by unfold maxLen; omega) (by omega) hz2' ?_))
          intro v3 w3 ho3 hg3 hn3
          have hb3 : Below wr.heap.size wr w3 := B2.out.grown hg3 hz2' (fun j hj => (O2.out.lt j hj).1)
          have O3 : Hid (w3.ownsRow B 9 1 v3 R.length (strCells R)) := by
            show World.ownsRow _ _ _ _ _ _ _
            have e1 : strCells R = strCells (L.take k) ++ .string t :: strCells (L.drop k) := by rw [HQ.out]; simp [strCells]
            have e2 : R.length = k + 1 + (L.length - k) := by rw [HQ.out]; simp; omega
            rw [e1, e2]; exact own_base_put ho3 hB
          have N3 : Hid (¬ v3 = .slice none 0 0) := fun h => N2.out (hn3.1 h).1
          have B3 : Hid (Below wr.heap.size wr w3) := hb3
          clear hb3 ho3 hg3 hn3 O2 B2 N2
          go_wp2
          go_ret
          exact ⟨_, rfl, O3.out, N3.out, B3.out⟩
    · have HQ : Hid (R = L.take k ++ t :: L.drop k) := (HP.out k hk HR.out (fun h => absurd h hlt)).2 (fun h => hlt h.1)
      have hb0 : Below wr.heap.size wr (wr.alloc (.cells #[] 9)) := (Below.refl _ _).alloc (Nat.le_refl _) _
      have k1 : ¬ (k : Int) < L.length := by omega
      by_cases hkc : cap = k
      · go_wp2_with (at_builtin; go_must (refine wpList_append_own _ rfl _ _ 43 rfl wr.heap.size 9 i0 (.string ⟨#[]⟩) 1 16 Tryd.underlying43 hi hz0 hz1 hz2 rfl (by decide) _ _ _ rfl (World.ownsRow_made wr #[] 0 (Nat.le_refl _) (Nat.zero_le _) rfl) ⟨g, 0, none⟩ k _ (strCells (L.take k)) rfl (by simp [strCells]; omega) (news_to hb0 hgw HG.out) strCells_one (by unfold maxLen; omega) (by omega) (by simp) ?_))
        intro v1 w1 ho1 hg1 hn1
        have hb1 : Below wr.heap.size wr w1 := hb0.grown hg1 (by simp) (fun j hj => by simp [Value.ownBlock] at hj; omega)
        have B1 : Hid (Below wr.heap.size wr w1) := hb1
        have O1 : Hid (w1.ownsRow wr.heap.size 9 1 v1 k (strCells (L.take k))) := by show World.ownsRow _ _ _ _ _ _ _; simpa using ho1
        have N1 : Hid (¬ v1 = .slice none 0 0) := by show ¬ _; simpa using hn1
        have hz1' := hb1.size
        clear hb1 ho1 hg1 hn1 hb0
        go_wp2_with (at_builtin; go_must (refine wpList_append_own _ rfl _ _ 43 rfl wr.heap.size 9 i0 (.string ⟨#[]⟩) 1 16 Tryd.underlying43 hi hz0 hz1 hz2 rfl (by decide) _ _ _ rfl (O1.out.alloc _) ⟨w1.heap.size, 0, none⟩ 1 1 [.string t] rfl rfl (cell_one_new _ _ _) (by intro u hu; simp at hu; subst hu; rfl) (by unfold maxLen; omega) (by omega) (by simp; omega) ?_))
        intro v2 w2 ho2 hg2 hn2
        have hb2 : Below wr.heap.size wr w2 := (B1.out.alloc hz1' _).grown hg2 (by simp; omega) (fun j hj => (O1.out.lt j hj).1)
        have B2 : Hid (Below wr.heap.size wr w2) := hb2
        have O2 : Hid (w2.ownsRow wr.heap.size 9 1 v2 (k + 1) (strCells (L.take k) ++ [.string t])) := ho2
        have N2 : Hid (¬ v2 = .slice none 0 0) := hn2
        have hz2' := hb2.size
        clear hb2 ho2 hg2 hn2 O1 B1 N1
        go_wp2_with (at_builtin; go_must (refine wpList_append_own _ rfl _ _ 43 rfl wr.heap.size 9 i0 (.string ⟨#[]⟩) 1 16 Tryd.underlying43 hi hz0 hz1 hz2 rfl (by decide) _ _ _ rfl O2.out ⟨g, 0, none⟩ (L.length - k) _ (strCells (L.drop k)) rfl (by simp [strCells]) (news_from B2.out hgw HG.out (by omega)) strCells_one (by unfold maxLen; omega) (by omega) hz2' ?_))
        intro v3 w3 ho3 hg3 hn3
        have hb3 : Below wr.heap.size wr w3 := B2.out.grown hg3 hz2' (fun j hj => (O2.out.lt j hj).1)
        have O3 : Hid (w3.ownsRow B 9 1 v3 R.length (strCells R)) := by
          show World.ownsRow _ _ _ _ _ _ _
          have e1 : strCells R = strCells (L.take k) ++ .string t :: strCells (L.drop k) := by rw [HQ.out]; simp [strCells]
          have e2 : R.length = k + 1 + (L.length - k) := by rw [HQ.out]; simp; omega
          rw [e1, e2]; exact own_base_put ho3 hB
        have N3 : Hid (¬ v3 = .slice none 0 0) := fun h => N2.out (hn3.1 h).1
        have B3 : Hid (Below wr.heap.size wr w3) := hb3
        clear hb3 ho3 hg3 hn3 O2 B2 N2
        go_wp2
        go_ret
        exact ⟨_, rfl, O3.out, N3.out, B3.out⟩
      · go_wp2_with (at_builtin; go_must (refine wpList_append_own _ rfl _ _ 43 rfl wr.heap.size 9 i0 (.string ⟨#[]⟩) 1 16 Tryd.underlying43 hi hz0 hz1 hz2 rfl (by decide) _ _ _ rfl (World.ownsRow_made wr #[] 0 (Nat.le_refl _) (Nat.zero_le _) rfl) ⟨g, 0, none⟩ k _ (strCells (L.take k)) rfl (by simp [strCells]; omega) (news_to hb0 hgw HG.out) strCells_one (by unfold maxLen; omega) (by omega) (by simp) ?_))
        intro v1 w1 ho1 hg1 hn1
        have hb1 : Below wr.heap.size wr w1 := hb0.grown hg1 (by simp) (fun j hj => by simp [Value.ownBlock] at hj; omega)
        have B1 : Hid (Below wr.heap.size wr w1) := hb1
        have O1 : Hid (w1.ownsRow wr.heap.size 9 1 v1 k (strCells (L.take k))) := by show World.ownsRow _ _ _ _ _ _ _; simpa using ho1
        have N1 : Hid (¬ v1 = .slice none 0 0) := by show ¬ _; simpa using hn1
        have hz1' := hb1.size
        clear hb1 ho1 hg1 hn1 hb0
        go_wp2_with (at_builtin; go_must (refine wpList_append_own _ rfl _ _ 43 rfl wr.heap.size 9 i0 (.string ⟨#[]⟩) 1 16 Tryd.underlying43 hi hz0 hz1 hz2 rfl (by decide) _ _ _ rfl (O1.out.alloc _) ⟨w1.heap.size, 0, none⟩ 1 1 [.string t] rfl rfl (cell_one_new _ _ _) (by intro u hu; simp at hu; subst hu; rfl) (by unfold maxLen; omega) (by omega) (by simp; omega) ?_))
        intro v2 w2 ho2 hg2 hn2
        have hb2 : Below wr.heap.size wr w2 := (B1.out.alloc hz1' _).grown hg2 (by simp; omega) (fun j hj => (O1.out.lt j hj).1)
        have B2 : Hid (Below wr.heap.size wr w2) := hb2
        have O2 : Hid (w2.ownsRow wr.heap.size 9 1 v2 (k + 1) (strCells (L.take k) ++ [.string t])) := ho2
        have N2 : Hid (¬ v2 = .slice none 0 0) := hn2
        have hz2' := hb2.size
        clear hb2 ho2 hg2 hn2 O1 B1 N1
        go_wp2_with (at_builtin; go_must (refine wpList_append_own _ rfl _ _ 43 rfl wr.heap.size 9 i0 (.string ⟨#[]⟩) 1 16 Tryd.underlying43 hi hz0 hz1 hz2 rfl (by decide) _ _ _ rfl O2.out ⟨g, k, none⟩ (L.length - k) _ (strCells (L.drop k)) rfl (by simp [strCells]) (news_from B2.out hgw HG.out (by omega)) strCells_one (by unfold maxLen; omega) (by omega) hz2' ?_))
        intro v3 w3 ho3 hg3 hn3
        have hb3 : Below wr.heap.size wr w3 := B2.out.grown hg3 hz2' (fun j hj => (O2.out.lt j hj).1)
        have O3 : Hid (w3.ownsRow B 9 1 v3 R.length (strCells R)) := by
          show World.ownsRow _ _ _ _ _ _ _
          have e1 : strCells R = strCells (L.take k) ++ .string t :: strCells (L.drop k) := by rw [HQ.out]; simp [strCells]
          have e2 : R.length = k + 1 + (L.length - k) := by rw [HQ.out]; simp; omega
          rw [e1, e2]; exact own_base_put ho3 hB
        have N3 : Hid (¬ v3 = .slice none 0 0) := fun h => N2.out (hn3.1 h).1
        have B3 : Hid (Below wr.heap.size wr w3) := hb3
        clear hb3 ho3 hg3 hn3 O2 B2 N2
        go_wp2
        go_ret
        exact ⟨_, rfl, O3.out, N3.out, B3.out⟩
end Go.Proofs.YtmlacbjlafdenaaDoor

/- The specification's drawn rules: few and short. -/
namespace Go.Proofs.YtmlacbjlafdenaaDoor
open Go.RowKit

theorem row_kept {w w' : World} {base n size : Nat} {e : TypeId} {v : Value} {xs : List Value} {row : Option Nat} (h : w.ownsRow base e size v n xs) (hg : w.grownBy w' row) (hne : ∀ b, row = some b → b < base) : w'.ownsRow base e size v n xs := by
  obtain ⟨hl, ⟨rfl, h0⟩ | ⟨g, cap, cur, rfl, hb, hh, r⟩⟩ := h
  · exact ⟨hl, .inl ⟨rfl, h0⟩⟩
  · refine ⟨hl, .inr ⟨g, cap, cur, rfl, hb, ?_, r⟩⟩
    rw [hg.block g (Array.getElem?_eq_some_iff.mp hh).1 (fun e => by have := hne g e.symm; omega)]
    exact hh
theorem row_below {w w' : World} {B n : Nat} {e : TypeId} {v : Value} {xs : List Value} (h : w.ownsRow B e 1 v n xs) (hb : Below w.heap.size w w') : w'.ownsRow B e 1 v n xs := by
  obtain ⟨hl, h0 | ⟨g, cap, cur, rfl, hbg, hh, r⟩⟩ := h
  · exact ⟨hl, .inl h0⟩
  · have hg : g < w.heap.size := (Array.getElem?_eq_some_iff.mp hh).1
    exact ⟨hl, .inr ⟨g, cap, cur, rfl, hbg, by rw [hb.block g hg]; exact hh, r⟩⟩
theorem grown_of_below {w w1 w2 : World} {r : Option Nat} (h : w.grownBy w1 r) (hb : Below w1.heap.size w1 w2) : w.grownBy w2 r :=
  ⟨hb.os.trans h.os, hb.tape.trans h.tape, hb.output.trans h.output, Nat.le_trans h.size hb.size, fun k hk hne => (hb.block k (Nat.lt_of_lt_of_le hk h.size)).trans (h.block k hk hne)⟩
/-- a row that the call owns grows: what was there is as it was -/
theorem rows_grown {w w1 w2 w3 : World} {r r2 : Option Nat} (h : w.grownBy w1 r) (h2 : w1.grownBy w2 r2) (h3 : w2.grownBy w3 r2) (hr : ∀ b, r2 = some b → w.heap.size ≤ b) : w.grownBy w3 r :=
  ⟨h3.os.trans (h2.os.trans h.os), h3.tape.trans (h2.tape.trans h.tape), h3.output.trans (h2.output.trans h.output), Nat.le_trans h.size (Nat.le_trans h2.size h3.size), fun k hk hne => by
    have e1 := h.block k hk hne
    have hn : ¬ some k = r2 := fun e => by have := hr k e.symm; omega
    exact (h3.block k (Nat.lt_of_lt_of_le hk (Nat.le_trans h.size h2.size)) hn).trans ((h2.block k (Nat.lt_of_lt_of_le hk h.size) hn).trans e1)⟩
theorem SrcAt.grown {w w' : World} {g : Nat} {r : Option Nat} (h : SrcAt w g) (hg : w.grownBy w' r) (hr : ∀ b, r = some b → g < b) : SrcAt w' g := by
  obtain ⟨hgw, a, len, cap, k, mix, size, ⟨c0, c1, c2, c3⟩, hm, hf, hby⟩ := h
  have hne : ∀ b, b ≤ g → ¬ some b = r := fun b hb e => by have := hr b e.symm; omega
  have hblk : ∀ b, b ≤ g → w'.heap[b]? = w.heap[b]? := fun b hb => hg.block b (by omega) (hne b hb)
  refine ⟨Nat.lt_of_lt_of_le hgw hg.size, a, len, cap, k, mix, size, ⟨?_, ?_, ?_, ?_⟩, hm, ?_, ?_⟩
  · rw [← c0]; simp only [World.cell?, hblk g (Nat.le_refl _)]
  · rw [← c1]; simp only [World.cell?, hblk g (Nat.le_refl _)]
  · rw [← c2]; simp only [World.cell?, hblk g (Nat.le_refl _)]
  · rw [← c3]; simp only [World.cell?, hblk g (Nat.le_refl _)]
  · intro o; rw [← hf o]; simp only [World.frozen?, hblk g (Nat.le_refl _)]
  · intro i hi
    obtain ⟨x, z, e, hx, hc, hz⟩ := hby i hi
    refine ⟨x, z, e, hx, ?_, hz⟩
    exact hg.cell (a := x.add i) hc (hne _ (by rw [add_block]; omega))
theorem putL_mem {L : List ByteArray} {t x : ByteArray} (h : x ∈ putL L t) : x ∈ L ∨ x = t := by
  have e : x.data.toList ∈ putT (L.map (·.data.toList)) t.data.toList := by rw [← putL_data]; exact List.mem_map.2 ⟨x, h, rfl⟩
  have inj : ∀ {a b : ByteArray}, a.data.toList = b.data.toList → a = b := fun {a b} h => by
    cases a; cases b
    congr 1
    exact Array.toList_inj.1 h
  rcases (putT_mem _ _ _).1 e with h1 | h1
  · obtain ⟨y, hy, e2⟩ := List.mem_map.1 h1
    rw [← inj e2]; exact .inl hy
  · exact .inr (inj h1)

set_option maxRecDepth 10000 in
theorem plain_any (w : World) :
    Calls Tryd.prog 98 #[] w fun e w' => ∃ v L, e = .returned v ∧ w'.ownsRow w.heap.size 9 1 v L.length (strCells L) ∧ (¬ v = .slice none 0 0) ∧ L.length ≤ 4 ∧ (∀ x ∈ L, x.size ≤ 20) ∧ Below w.heap.size w w' := by
  go_enter Tryd.func98, Tryd.ntmps98
  go_wp2
  go_ret
  refine ⟨_, [⟨#[33, 99, 105, 116, 121, 46, 117, 107]⟩, ⟨#[42, 46, 117, 107]⟩, ⟨#[99, 111, 109]⟩], rfl, ?_, by simp, by decide, by decide, (Below.refl _ _).alloc (Nat.le_refl _) _⟩
  exact ⟨rfl, .inr ⟨w.heap.size, 3, #[.string ⟨#[33, 99, 105, 116, 121, 46, 117, 107]⟩, .string ⟨#[42, 46, 117, 107]⟩, .string ⟨#[99, 111, 109]⟩], rfl, Nat.le_refl _, heap_alloc_new w _, by decide, by decide, rfl, rfl⟩⟩

set_option maxRecDepth 10000 in
set_option maxHeartbeats 4000000 in
theorem srcRules_any (g : Nat) (w : World) (hs : SrcAt w g) :
    Calls Tryd.prog 77 #[.pointer (some ⟨g, 0, none⟩)] w fun e w' => (∃ v L, e = .returned v ∧ w'.ownsRow w.heap.size 9 1 v L.length (strCells L) ∧ L.length ≤ 5 ∧ ∀ x ∈ L, x.size ≤ 20) ∧ SrcAt w' g ∧ w.grownBy w' (some g) := by
  obtain ⟨i0, hi, hz0, hz1, hz2⟩ := info_parts infoStr
  have hgw : g < w.heap.size := hs.1
  have HS : Hid (SrcAt w g) := hs
  clear hs
  go_enter Tryd.func77, Tryd.ntmps77
  go_wp2_with fail
  refine (srcN_any g 5 _ (HS.out.alloc _) (by decide)).mono ?_
  rintro e w1 ⟨r, rfl, r0, r1, -, s1, g1⟩
  have r5 := r1 (by decide)
  obtain ⟨K0, rfl⟩ : ∃ K0 : Nat, r = K0 := ⟨r.toNat, by omega⟩
  have O1 : Hid (w1.ownsRow w.heap.size 9 1 (.slice (some ⟨w.heap.size, 0, none⟩) 0 0) 0 (strCells [])) :=
    row_kept (World.ownsRow_made (e := 9) (size := 1) w #[] 0 (Nat.le_refl _) (Nat.zero_le _) rfl) g1 (fun b e => by injection e with e; omega)
  have G1 : Hid (w.grownBy w1 (some g)) := (World.grownBy_alloc _ _ _).trans g1
  have S1 : Hid (SrcAt w1 g) := s1
  have hK0 : K0 ≤ 4 := by omega
  clear g1 s1 r1 r5 r0
  go_wp2
  go_loopw [3, 4] (fun v i wr => ∃ (K : Nat) (L : List ByteArray), K + L.length ≤ 4 ∧ i = .int .i64 K ∧ Hid (wr.ownsRow w.heap.size 9 1 v L.length (strCells L)) ∧ Hid (¬ v = .slice none 0 0) ∧ Hid (∀ x ∈ L, x.size ≤ 20) ∧ Hid (SrcAt wr g) ∧ Hid (w.grownBy wr (some g))) (fun _ i _ => (intOf i).toNat)
  case atStart => exact ⟨K0, [], by simpa using hK0, rfl, O1, (by simp : ¬ _), (fun x hx => by cases hx), S1, G1⟩
  case round =>
    obtain ⟨K, L, hKL, rfl, HO, HN, HZ, HSr, HG⟩ := hrel
    by_cases hK : 0 < K
    · have q : decide ((0 : Int) < (K : Int)) = true := by rw [decide_eq_true_iff]; omega
      go_wp2_with fail
      refine (srcPick_short g wr.heap.size 5 7 20 _ (HSr.out.alloc _) (short_made wr _ _ _ _ (by rfl)) (by have := HSr.out.1; omega) (by decide)).mono ?_
      rintro e w2 ⟨⟨t, rfl, ht⟩, s2, g2⟩
      have G2 : Hid (w.grownBy w2 (some g)) := HG.out.trans ((World.grownBy_alloc _ _ _).trans g2)
      have O2 : w2.ownsRow w.heap.size 9 1 u3 L.length (strCells L) := row_kept (HO.out.alloc _) g2 (fun b e => by injection e with e; omega)
      have hzw2 := G2.out.size
      have S2 : Hid (SrcAt w2 g) := s2
      have KP : Hid (Calls Tryd.prog 97 #[u3, .string t] w2 fun e w' => ∃ v', e = .returned v' ∧ w'.ownsRow w.heap.size 9 1 v' (putL L t).length (strCells (putL L t)) ∧ (¬ v' = .slice none 0 0) ∧ Below w2.heap.size w2 w') := specPut_any u3 w.heap.size L t w2 hzw2 O2 HN.out (by omega)
      clear g2 s2 O2
      go_wp2_with fail
      refine KP.out.mono ?_
      rintro e w3 ⟨v3, rfl, o3, n3, b3⟩
      have O3 : Hid (w3.ownsRow w.heap.size 9 1 v3 (putL L t).length (strCells (putL L t))) := o3
      have N3 : Hid (¬ v3 = .slice none 0 0) := n3
      have S3 : Hid (SrcAt w3 g) := S2.out.below b3
      have G3 : Hid (w.grownBy w3 (some g)) := grown_of_below G2.out b3
      have hpl := putL_len L t
      have HZ3 : Hid (∀ x ∈ putL L t, x.size ≤ 20) := fun x hx => by
        rcases putL_mem hx with h | h
        · exact HZ.out x h
        · rw [h]; exact ht
      clear b3 o3 n3
      go_wp2
      go_roundw
      case rel => exact ⟨K - 1, putL L t, by omega, by rw [show ((K - 1 : Nat) : Int) = (K : Int) - 1 by omega], O3, N3, HZ3, S3, G3⟩
      case measure => simp [intOf]; omega
    · have q : decide ((0 : Int) < (K : Int)) = false := by rw [decide_eq_false_iff_not]; omega
      have hL4 : L.length ≤ 4 := by omega
      go_wp2_with fail
      refine (srcOne_any g 2 _ HSr.out (by decide)).mono ?_
      rintro e w2 ⟨⟨b2, rfl⟩, s2, g2⟩
      have G2 : Hid (w.grownBy w2 (some g)) := HG.out.trans g2
      have O2 : Hid (w2.ownsRow w.heap.size 9 1 u3 L.length (strCells L)) := row_kept HO.out g2 (fun b e => by injection e with e; omega)
      have S2 : Hid (SrcAt w2 g) := s2
      clear g2 s2 HO HSr HG
      cases b2 with
      | false =>
        have hzW := G2.out.size
        have hlW := hL4
        go_wp2_with fail
        refine (srcOne_any g 20 _ S2.out (by decide)).mono ?_
        rintro e w6 ⟨⟨b6, rfl⟩, s6, g6⟩
        have G6 : Hid (w.grownBy w6 (some g)) := G2.out.trans g6
        have O6 : Hid (w6.ownsRow w.heap.size 9 1 u3 L.length (strCells L)) := row_kept O2.out g6 (fun b e => by injection e with e; omega)
        have S6 : Hid (SrcAt w6 g) := s6
        clear g6 s6
        cases b6 with
        | false =>
          go_wp2
          go_ret
          exact ⟨⟨_, L, rfl, O6.out, by omega, HZ.out⟩, S6.out, G6.out⟩
        | true =>
          have hz6 := G6.out.size
          go_wp2_with fail
          refine (srcPick_short g w6.heap.size 3 5 20 _ (S6.out.alloc _) (short_made w6 _ _ _ _ (by rfl)) (by have := S6.out.1; omega) (by decide)).mono ?_
          rintro e w7 ⟨⟨t, rfl, ht⟩, s7, g7⟩
          have G7 : Hid (w.grownBy w7 (some g)) := G6.out.trans ((World.grownBy_alloc _ _ _).trans g7)
          have O7 : Hid (w7.ownsRow w.heap.size 9 1 u3 L.length (strCells L)) := row_kept (O6.out.alloc _) g7 (fun b e => by injection e with e; omega)
          have S7 : Hid (SrcAt w7 g) := s7
          have hz7 := G7.out.size
          clear g7 s7
          go_wp2_with (at_builtin; go_must (refine wpList_append_own _ rfl _ _ 43 rfl w.heap.size 9 i0 (.string ⟨#[]⟩) 1 16 Tryd.underlying43 hi hz0 hz1 hz2 rfl (by decide) _ _ _ rfl (O7.out.alloc _) ⟨w7.heap.size, 0, none⟩ 1 1 [.string t] rfl rfl (cell_one_new _ _ _) (by intro u hu; simp at hu; subst hu; rfl) (by unfold maxLen; omega) (by omega) (by simp; omega) ?_))
          intro v8 w8 o8 g8 _
          rw [strCells_snoc] at o8
          have O8 : Hid (w8.ownsRow w.heap.size 9 1 v8 (L ++ [t]).length (strCells (L ++ [t]))) := by show World.ownsRow _ _ _ _ _ _ _; simpa using o8
          have G8 : Hid (w.grownBy w8 (some g)) := rows_grown G7.out (World.grownBy_alloc w7 (.cells #[.string t] 9) _) g8 (fun b e => by have := (O7.out.lt b e).1; omega)
          have S8 : Hid (SrcAt w8 g) := (S7.out.alloc (.cells #[.string t] 9)).grown g8 (fun b e => by have := (O7.out.lt b e).1; omega)
          have HZ8 : Hid (∀ x ∈ L ++ [t], x.size ≤ 20) := fun x hx => by
            rw [List.mem_append, List.mem_singleton] at hx
            rcases hx with h | h
            · exact HZ.out x h
            · rw [h]; exact ht
          clear o8 g8
          go_wp2
          go_ret
          exact ⟨⟨_, L ++ [t], rfl, O8.out, by simp; omega, HZ8.out⟩, S8.out, G8.out⟩
      | true =>
        go_wp2_with fail
        refine (plain_any _).mono ?_
        rintro e w3 ⟨vP, P, rfl, oP, -, hP, zP, bP⟩
        have hz2' := G2.out.size
        have G3 : Hid (w.grownBy w3 (some g)) := grown_of_below G2.out bP
        have S3 : Hid (SrcAt w3 g) := S2.out.below bP
        have O3 : Hid (w3.ownsRow w.heap.size 9 1 vP P.length (strCells P)) := own_base_put oP hz2'
        have HZ3 : Hid (∀ x ∈ P, x.size ≤ 20) := zP
        clear oP zP bP
        have hzW := G3.out.size
        have hlW := hP
        go_wp2_with fail
        refine (srcOne_any g 20 _ S3.out (by decide)).mono ?_
        rintro e w6 ⟨⟨b6, rfl⟩, s6, g6⟩
        have G6 : Hid (w.grownBy w6 (some g)) := G3.out.trans g6
        have O6 : Hid (w6.ownsRow w.heap.size 9 1 vP P.length (strCells P)) := row_kept O3.out g6 (fun b e => by injection e with e; omega)
        have S6 : Hid (SrcAt w6 g) := s6
        clear g6 s6
        cases b6 with
        | false =>
          go_wp2
          go_ret
          exact ⟨⟨_, P, rfl, O6.out, by omega, HZ3.out⟩, S6.out, G6.out⟩
        | true =>
          have hz6 := G6.out.size
          go_wp2_with fail
          refine (srcPick_short g w6.heap.size 3 5 20 _ (S6.out.alloc _) (short_made w6 _ _ _ _ (by rfl)) (by have := S6.out.1; omega) (by decide)).mono ?_
          rintro e w7 ⟨⟨t, rfl, ht⟩, s7, g7⟩
          have G7 : Hid (w.grownBy w7 (some g)) := G6.out.trans ((World.grownBy_alloc _ _ _).trans g7)
          have O7 : Hid (w7.ownsRow w.heap.size 9 1 vP P.length (strCells P)) := row_kept (O6.out.alloc _) g7 (fun b e => by injection e with e; omega)
          have S7 : Hid (SrcAt w7 g) := s7
          have hz7 := G7.out.size
          clear g7 s7
          go_wp2_with (at_builtin; go_must (refine wpList_append_own _ rfl _ _ 43 rfl w.heap.size 9 i0 (.string ⟨#[]⟩) 1 16 Tryd.underlying43 hi hz0 hz1 hz2 rfl (by decide) _ _ _ rfl (O7.out.alloc _) ⟨w7.heap.size, 0, none⟩ 1 1 [.string t] rfl rfl (cell_one_new _ _ _) (by intro u hu; simp at hu; subst hu; rfl) (by unfold maxLen; omega) (by omega) (by simp; omega) ?_))
          intro v8 w8 o8 g8 _
          rw [strCells_snoc] at o8
          have O8 : Hid (w8.ownsRow w.heap.size 9 1 v8 (P ++ [t]).length (strCells (P ++ [t]))) := by show World.ownsRow _ _ _ _ _ _ _; simpa using o8
          have G8 : Hid (w.grownBy w8 (some g)) := rows_grown G7.out (World.grownBy_alloc w7 (.cells #[.string t] 9) _) g8 (fun b e => by have := (O7.out.lt b e).1; omega)
          have S8 : Hid (SrcAt w8 g) := (S7.out.alloc (.cells #[.string t] 9)).grown g8 (fun b e => by have := (O7.out.lt b e).1; omega)
          have HZ8 : Hid (∀ x ∈ P ++ [t], x.size ≤ 20) := fun x hx => by
            rw [List.mem_append, List.mem_singleton] at hx
            rcases hx with h | h
            · exact HZ3.out x h
            · rw [h]; exact ht
          clear o8 g8
          go_wp2
          go_ret
          exact ⟨⟨_, P ++ [t], rfl, O8.out, by simp; omega, HZ8.out⟩, S8.out, G8.out⟩
end Go.Proofs.YtmlacbjlafdenaaDoor

/- The specification's draws over rules and urls. -/
namespace Go.Proofs.YtmlacbjlafdenaaDoor
open Go.RowKit

theorem slice_far {w : World} {B n : Nat} {v : Value} {f : Nat → ByteArray} {p : Addr} (h : SliceS w B v n f) (hp : p.block < B) (x : Value) : SliceS (w.setCell p x) B v n f := by
  obtain ⟨q, cap, rfl, h⟩ := h
  refine ⟨q, cap, rfl, fun hn => ?_⟩
  obtain ⟨g, rfl, hB, hg, hc⟩ := h hn
  refine ⟨g, rfl, hB, by simpa [World.setCell] using hg, fun j hj => ⟨?_, ?_⟩⟩
  · rw [World.cell?_setCell_far _ _ _ _ (by show p.block ≠ g; omega)]; exact (hc j hj).1
  · rw [World.frozen?_setCell]; exact (hc j hj).2
theorem slice_kept {w w' : World} {B n : Nat} {v : Value} {f : Nat → ByteArray} {r : Option Nat} (h : SliceS w B v n f) (hg : w.grownBy w' r) (hr : ∀ b, r = some b → b < B) : SliceS w' B v n f := by
  obtain ⟨q, cap, rfl, h⟩ := h
  refine ⟨q, cap, rfl, fun hn => ?_⟩
  obtain ⟨g, rfl, hB, hgw, hc⟩ := h hn
  have hne : ¬ some g = r := fun e => by have := hr g e.symm; omega
  refine ⟨g, rfl, hB, Nat.lt_of_lt_of_le hgw hg.size, fun j hj => ⟨hg.cell (a := ⟨g, j, none⟩) (hc j hj).1 hne, ?_⟩⟩
  rw [World.frozen?_of_block (w := w) (a := ⟨g, j, none⟩) (hg.block g hgw hne)]
  exact (hc j hj).2
theorem slice_new {w : World} {B n : Nat} {v : Value} {f : Nat → ByteArray} (h : SliceS w B v n f) (o : Obj) : SliceS (w.alloc o) B v n f := slice_kept h (World.grownBy_alloc w o none) (fun b e => by cases e)
theorem slice_low {w : World} {B B2 n : Nat} {v : Value} {f : Nat → ByteArray} (h : SliceS w B2 v n f) (hB : B ≤ B2) : SliceS w B v n f := by
  obtain ⟨p, cap, rfl, h⟩ := h
  refine ⟨p, cap, rfl, fun hn => ?_⟩
  obtain ⟨g, rfl, h1, h2, h3⟩ := h hn
  exact ⟨g, rfl, by omega, h2, h3⟩
theorem slice_drew {w : World} {B n : Nat} {v : Value} {f : Nat → ByteArray} (h : SliceS w B v n f) : SliceS w.drew B v n f := h
/-- a cell of a block that is not the row's -/
theorem slice_apart {w : World} {B n : Nat} {v : Value} {f : Nat → ByteArray} {p : Addr} (h : SliceS w B v n f) (hk : 0 < n → ∀ q, v.ownBlock = some q → ¬ p.block = q) (x : Value) : SliceS (w.setCell p x) B v n f := by
  obtain ⟨q, cap, rfl, h⟩ := h
  refine ⟨q, cap, rfl, fun hn => ?_⟩
  obtain ⟨g, rfl, hB, hg, hc⟩ := h hn
  refine ⟨g, rfl, hB, by simpa [World.setCell] using hg, fun j hj => ⟨?_, ?_⟩⟩
  · rw [World.cell?_setCell_far _ _ _ _ (hk hn g rfl)]; exact (hc j hj).1
  · rw [World.frozen?_setCell]; exact (hc j hj).2
theorem slice_lt {w : World} {B n : Nat} {v : Value} {f : Nat → ByteArray} (h : SliceS w B v n f) : 0 < n → ∀ q, v.ownBlock = some q → q < w.heap.size := by
  obtain ⟨p, cap, rfl, h⟩ := h
  intro hn q hq
  obtain ⟨g, rfl, -, hg, -⟩ := h hn
  obtain rfl : g = q := by simpa [Value.ownBlock] using hq
  exact hg
/-- drawn rules: few and short -/
def Few (n : Nat) (f : Nat → ByteArray) : Prop := n ≤ 5 ∧ ∀ i, i < n → (f i).size ≤ 20
theorem few_of {L : List ByteArray} (h : L.length ≤ 5) (hz : ∀ x ∈ L, x.size ≤ 20) : Few L.length (atL L) :=
  ⟨h, fun i hi => by
    have e : atL L i = L[i] := by simp [atL, hi]
    rw [e]; exact hz _ (List.getElem_mem hi)⟩
theorem U4.below {w w' : World} {b : Nat} {v0 v1 v2 v3 : Value} (h : U4 w b v0 v1 v2 v3) (hb : Below w.heap.size w w') : U4 w' b v0 v1 v2 v3 := by
  obtain ⟨hz, ⟨c0, c1, c2, c3⟩, hf⟩ := h
  exact ⟨Nat.lt_of_lt_of_le hz hb.size, ⟨by rw [(bcell hb).1 _ _ hz]; exact c0, by rw [(bcell hb).1 _ _ hz]; exact c1, by rw [(bcell hb).1 _ _ hz]; exact c2, by rw [(bcell hb).1 _ _ hz]; exact c3⟩, fun o => by rw [(bcell hb).2 _ _ hz]; exact hf o⟩

set_option maxRecDepth 10000 in
set_option maxHeartbeats 2000000 in
theorem drawSiteOf_any (a : Option Addr) (len cap : Nat) (w : World) (hr : CodeRow w a len) (hl : len ≤ 1048576) :
    Calls Tryd.prog 40 #[.slice a len cap] w fun e w' => (∃ (v : Value) (n : Nat) (f : Nat → ByteArray) (sc ho pa : ByteArray) (po : Int), e = .returned (.tuple #[v, urlV sc ho pa po]) ∧ SliceS w' w.heap.size v n f ∧ Few n f ∧ sc.size ≤ 20 ∧ ho.size ≤ 20 ∧ pa.size ≤ 20) ∧ Below w.heap.size w w' := by
  have HR : Hid (CodeRow w a len) := hr
  clear hr
  go_enter Tryd.func40, Tryd.ntmps40
  go_wp2_with fail
  refine (source_any a len cap _ (HR.out.below ((Below.refl _ _).alloc (Nat.le_refl _) _)) hl).mono ?_
  rintro e w1 ⟨rfl, s1, hb1⟩
  have s1' : SrcAt w1 (w.heap.size + 1) := by simpa using s1
  have RR : Hid (U4 w1 w.heap.size (.string ⟨#[]⟩) (.string ⟨#[]⟩) (.int .i64 0) (.string ⟨#[]⟩)) := (U4.made w (.string ⟨#[]⟩) (.string ⟨#[]⟩) (.int .i64 0) (.string ⟨#[]⟩) 35).below hb1
  have HB1 : Hid (Below w.heap.size w w1) := ((Below.refl _ _).alloc (Nat.le_refl _) _).trans (hb1.mono (by simp))
  have hz1 : w.heap.size < w1.heap.size := RR.out.1
  have hz1' : w.heap.size + 1 < w1.heap.size := s1'.1
  clear s1 hb1
  go_wp2_with fail
  refine (srcRules_any _ _ s1').mono ?_
  rintro e w2 ⟨⟨v, L, rfl, o2, hL5, hLz⟩, s2, g2⟩
  have RR2 : Hid (U4 w2 w.heap.size (.string ⟨#[]⟩) (.string ⟨#[]⟩) (.int .i64 0) (.string ⟨#[]⟩)) := RR.out.kept g2 (by simp)
  have HB2 : Hid (Below w.heap.size w w2) := below_grown HB1.out g2 (Nat.le_of_lt hz1) (Nat.le_succ _)
  have SL2 : Hid (SliceS w2 w1.heap.size v L.length (atL L)) := slice_of_own o2
  have FW : Hid (Few L.length (atL L)) := few_of hL5 hLz
  have hz2 := HB2.out.size
  clear g2 s1' o2 hLz RR HB1
  go_wp2_with fail
  refine (srcUrl_any _ _ s2).mono ?_
  rintro e w3 ⟨⟨sc, ho, pa, po, rfl, hsc, hho, hpa⟩, s3, g3⟩
  have RR3 : Hid (U4 w3 w.heap.size (.string ⟨#[]⟩) (.string ⟨#[]⟩) (.int .i64 0) (.string ⟨#[]⟩)) := RR2.out.kept g3 (by simp)
  have HB3 : Hid (Below w.heap.size w w3) := below_grown HB2.out g3 hz2 (Nat.le_succ _)
  have SL3 : Hid (SliceS w3 w1.heap.size v L.length (atL L)) := slice_kept SL2.out g3 (fun b e => by injection e with e; omega)
  obtain ⟨hbr, ⟨d0, d1, d2, d3⟩, hdf⟩ := RR3.out
  clear g3 RR2 HB2 s3 s2 SL2
  unfold urlV
  go_wp2
  have FR := (((RR3.out.set0 (.string sc)).set1 (.string ho)).set2 (.int .i64 po)).set3 (.string pa)
  have FB := Below.setCell (Below.setCell (Below.setCell (Below.setCell HB3.out (p := ⟨w.heap.size, 0, none⟩) (Nat.le_refl _) (.string sc)) (p := ⟨w.heap.size, 1, none⟩) (Nat.le_refl _) (.string ho)) (p := ⟨w.heap.size, 2, none⟩) (Nat.le_refl _) (.int .i64 po)) (p := ⟨w.heap.size, 3, none⟩) (Nat.le_refl _) (.string pa)
  have FS := slice_far (slice_far (slice_far (slice_far SL3.out (p := ⟨w.heap.size, 0, none⟩) hz1 (.string sc)) (p := ⟨w.heap.size, 1, none⟩) hz1 (.string ho)) (p := ⟨w.heap.size, 2, none⟩) hz1 (.int .i64 po)) (p := ⟨w.heap.size, 3, none⟩) hz1 (.string pa)
  generalize ((((w3.setCell ⟨w.heap.size, 0, none⟩ (.string sc)).setCell ⟨w.heap.size, 1, none⟩ (.string ho)).setCell ⟨w.heap.size, 2, none⟩ (.int .i64 po)).setCell ⟨w.heap.size, 3, none⟩ (.string pa)) = W at *
  obtain ⟨hz, ⟨f0, f1, f2, f3⟩, _⟩ := FR
  exact bodyPost_ret (v := .tuple #[v, urlV sc ho pa po]) (by simp [urlV, results, Tryd.results40, go_sem, f0, f1, f2, f3]) rfl ⟨⟨v, _, _, _, _, _, _, rfl, slice_low FS (Nat.le_of_lt hz1), FW.out, hsc, hho, hpa⟩, FB⟩
set_option maxRecDepth 10000 in
set_option maxHeartbeats 8000000 in
theorem drawSameSite_any (a : Option Addr) (len cap : Nat) (w : World) (hr : CodeRow w a len) (hl : len ≤ 1048576) :
    Calls Tryd.prog 39 #[.slice a len cap] w fun e w' => (∃ (v : Value) (n : Nat) (f : Nat → ByteArray) (sc ho pa : ByteArray) (po : Int) (sc2 ho2 pa2 : ByteArray) (po2 : Int), e = .returned (.tuple #[v, urlV sc ho pa po, urlV sc2 ho2 pa2 po2]) ∧ SliceS w' w.heap.size v n f ∧ Few n f ∧ (sc.size ≤ 20 ∧ ho.size ≤ 20 ∧ pa.size ≤ 20) ∧ sc2.size ≤ 20 ∧ ho2.size ≤ 20 ∧ pa2.size ≤ 20) ∧ Below w.heap.size w w' := by
  have HR : Hid (CodeRow w a len) := hr
  clear hr
  have BA : Hid (∀ o o', Below w.heap.size w ((w.alloc o).alloc o')) := fun o o' => ((Below.refl _ _).alloc (Nat.le_refl _) _).alloc (by simp) _
  go_enter Tryd.func39, Tryd.ntmps39
  go_wp2_with fail
  refine (source_any a len cap _ (HR.out.below (BA.out _ _)) hl).mono ?_
  rintro e w1 ⟨rfl, s1, hb1⟩
  have s1' : SrcAt w1 (w.heap.size + 2) := by simpa using s1
  have RA : Hid (U4 w1 w.heap.size (.string ⟨#[]⟩) (.string ⟨#[]⟩) (.int .i64 0) (.string ⟨#[]⟩)) := ((U4.made w (.string ⟨#[]⟩) (.string ⟨#[]⟩) (.int .i64 0) (.string ⟨#[]⟩) 35).alloc (.cells #[.string ⟨#[]⟩, .string ⟨#[]⟩, .int .i64 0, .string ⟨#[]⟩] 35)).below hb1
  have RB : Hid (U4 w1 (w.heap.size + 1) (.string ⟨#[]⟩) (.string ⟨#[]⟩) (.int .i64 0) (.string ⟨#[]⟩)) := by
    have h := U4.made (w.alloc (.cells #[.string ⟨#[]⟩, .string ⟨#[]⟩, .int .i64 0, .string ⟨#[]⟩] 35)) (.string ⟨#[]⟩) (.string ⟨#[]⟩) (.int .i64 0) (.string ⟨#[]⟩) 35
    have e : (w.alloc (.cells #[.string ⟨#[]⟩, .string ⟨#[]⟩, .int .i64 0, .string ⟨#[]⟩] 35)).heap.size = w.heap.size + 1 := by simp
    rw [e] at h
    exact h.below hb1
  have HB1 : Hid (Below w.heap.size w w1) := (BA.out _ _).trans (hb1.mono (by simp; omega))
  have hz1 : w.heap.size + 2 < w1.heap.size := s1'.1
  clear s1 hb1
  go_wp2_with fail
  refine (srcRules_any _ _ s1').mono ?_
  rintro e w2 ⟨⟨v, L, rfl, o2, hL5, hLz⟩, s2, g2⟩
  have RA2 : Hid (U4 w2 w.heap.size (.string ⟨#[]⟩) (.string ⟨#[]⟩) (.int .i64 0) (.string ⟨#[]⟩)) := RA.out.kept g2 (by simp)
  have RB2 : Hid (U4 w2 (w.heap.size + 1) (.string ⟨#[]⟩) (.string ⟨#[]⟩) (.int .i64 0) (.string ⟨#[]⟩)) := RB.out.kept g2 (by simp)
  have HB2 : Hid (Below w.heap.size w w2) := below_grown HB1.out g2 (by omega) (by omega)
  have SL2 : Hid (SliceS w2 w1.heap.size v L.length (atL L)) := slice_of_own o2
  have FW : Hid (Few L.length (atL L)) := few_of hL5 hLz
  have hz2 : w1.heap.size ≤ w2.heap.size := g2.size
  clear g2 s1' o2 hLz RA RB HB1
  go_wp2_with fail
  refine (srcUrl_any _ _ s2).mono ?_
  rintro e w3 ⟨⟨sc, ho, pa, po, rfl, hsc, hho, hpa⟩, s3, g3⟩
  have RA3 : Hid (U4 w3 w.heap.size (.string ⟨#[]⟩) (.string ⟨#[]⟩) (.int .i64 0) (.string ⟨#[]⟩)) := RA2.out.kept g3 (by simp)
  have RB3 : Hid (U4 w3 (w.heap.size + 1) (.string ⟨#[]⟩) (.string ⟨#[]⟩) (.int .i64 0) (.string ⟨#[]⟩)) := RB2.out.kept g3 (by simp)
  have HB3 : Hid (Below w.heap.size w w3) := below_grown HB2.out g3 (by omega) (by omega)
  have SL3 : Hid (SliceS w3 w1.heap.size v L.length (atL L)) := slice_kept SL2.out g3 (fun b e => by injection e with e; omega)
  have hz3 : w2.heap.size ≤ w3.heap.size := g3.size
  clear g3 s2 RA2 RB2 HB2 SL2
  unfold urlV
  have UU : Hid (U4 (w3.alloc (.cells #[.string sc, .string ho, .int .i64 po, .string pa] 35)) w3.heap.size (.string sc) (.string ho) (.int .i64 po) (.string pa)) := U4.made w3 _ _ _ _ _
  go_wp2_with fail
  refine (srcUrl_any _ _ (s3.alloc _)).mono ?_
  rintro e w4 ⟨⟨sc2, ho2, pa2, po2, rfl, hsc2, hho2, hpa2⟩, s4, g4⟩
  have RA4 : Hid (U4 w4 w.heap.size (.string ⟨#[]⟩) (.string ⟨#[]⟩) (.int .i64 0) (.string ⟨#[]⟩)) := (RA3.out.alloc _).kept g4 (by simp)
  have RB4 : Hid (U4 w4 (w.heap.size + 1) (.string ⟨#[]⟩) (.string ⟨#[]⟩) (.int .i64 0) (.string ⟨#[]⟩)) := (RB3.out.alloc _).kept g4 (by simp)
  have UU4 : Hid (U4 w4 w3.heap.size (.string sc) (.string ho) (.int .i64 po) (.string pa)) := UU.out.kept g4 (by simp; omega)
  have HB4 : Hid (Below w.heap.size w w4) := below_grown (HB3.out.alloc HB3.out.size _) g4 (by simp; omega) (by omega)
  have SL4 : Hid (SliceS w4 w1.heap.size v L.length (atL L)) := slice_kept (slice_new SL3.out _) g4 (fun b e => by injection e with e; omega)
  have HNE0 : 0 < L.length → ∀ q, v.ownBlock = some q → ¬ w4.heap.size = q := fun a q b e => by have := slice_lt SL4.out a q b; omega
  have HNH : Hid (0 < L.length → ∀ q, v.ownBlock = some q → ¬ w4.heap.size = q) := HNE0
  clear HNE0
  have hz4 : w3.heap.size + 1 ≤ w4.heap.size := by have := g4.size; simpa using this
  clear g4 s3 RA3 RB3 HB3 SL3 UU
  unfold urlV
  have VV : Hid (U4 (w4.alloc (.cells #[.string sc2, .string ho2, .int .i64 po2, .string pa2] 35)) w4.heap.size (.string sc2) (.string ho2) (.int .i64 po2) (.string pa2)) := U4.made w4 _ _ _ _ _
  go_wp2_with fail
  refine (srcOne_any _ 3 _ (s4.alloc _) (by decide)).mono ?_
  rintro e w5 ⟨⟨b5, rfl⟩, s5, g5⟩
  have RA5 : Hid (U4 w5 w.heap.size (.string ⟨#[]⟩) (.string ⟨#[]⟩) (.int .i64 0) (.string ⟨#[]⟩)) := (RA4.out.alloc _).kept g5 (by simp)
  have RB5 : Hid (U4 w5 (w.heap.size + 1) (.string ⟨#[]⟩) (.string ⟨#[]⟩) (.int .i64 0) (.string ⟨#[]⟩)) := (RB4.out.alloc _).kept g5 (by simp)
  have UU5 : Hid (U4 w5 w3.heap.size (.string sc) (.string ho) (.int .i64 po) (.string pa)) := (UU4.out.alloc _).kept g5 (by simp; omega)
  have VV5 : Hid (U4 w5 w4.heap.size (.string sc2) (.string ho2) (.int .i64 po2) (.string pa2)) := VV.out.kept g5 (by simp; omega)
  have HB5 : Hid (Below w.heap.size w w5) := below_grown (HB4.out.alloc HB4.out.size _) g5 (by simp; omega) (by omega)
  have SL5 : Hid (SliceS w5 w1.heap.size v L.length (atL L)) := slice_kept (slice_new SL4.out _) g5 (fun b e => by injection e with e; omega)
  have hz5 : w4.heap.size + 1 ≤ w5.heap.size := by have := g5.size; simpa using this
  clear g5 s4 s5 RA4 RB4 HB4 SL4 UU4 VV
  have n1 : ¬ w3.heap.size = w.heap.size := by omega
  have n2 : ¬ w3.heap.size = w.heap.size + 1 := by omega
  have n3 : ¬ w4.heap.size = w.heap.size := by omega
  have n4 : ¬ w4.heap.size = w.heap.size + 1 := by omega
  have n5 : ¬ w4.heap.size = w3.heap.size := by omega
  obtain ⟨-, ⟨a0, a1, a2, a3⟩, af⟩ := RA5.out
  obtain ⟨-, ⟨b0, b1, b2, b3⟩, bf⟩ := RB5.out
  obtain ⟨-, ⟨c0, c1, c2, c3⟩, cf⟩ := UU5.out
  obtain ⟨-, ⟨d0, d1, d2, d3⟩, df⟩ := VV5.out
  cases b5 with
  | false =>
    go_wp2_with fail
    go_region
    have FA := ((((((((RA5.out.set0 (.string sc)).set1 (.string ho)).set2 (.int .i64 po)).set3 (.string pa)).far (p := ⟨w.heap.size + 1, 0, none⟩) (by show ¬ (w.heap.size + 1) = (w.heap.size); omega) (.string sc2)).far (p := ⟨w.heap.size + 1, 1, none⟩) (by show ¬ (w.heap.size + 1) = (w.heap.size); omega) (.string ho2)).far (p := ⟨w.heap.size + 1, 2, none⟩) (by show ¬ (w.heap.size + 1) = (w.heap.size); omega) (.int .i64 po2)).far (p := ⟨w.heap.size + 1, 3, none⟩) (by show ¬ (w.heap.size + 1) = (w.heap.size); omega) (.string pa2))
    have FB := ((((((((RB5.out.far (p := ⟨w.heap.size, 0, none⟩) (by show ¬ (w.heap.size) = (w.heap.size + 1); omega) (.string sc)).far (p := ⟨w.heap.size, 1, none⟩) (by show ¬ (w.heap.size) = (w.heap.size + 1); omega) (.string ho)).far (p := ⟨w.heap.size, 2, none⟩) (by show ¬ (w.heap.size) = (w.heap.size + 1); omega) (.int .i64 po)).far (p := ⟨w.heap.size, 3, none⟩) (by show ¬ (w.heap.size) = (w.heap.size + 1); omega) (.string pa)).set0 (.string sc2)).set1 (.string ho2)).set2 (.int .i64 po2)).set3 (.string pa2))
    have FH := (Below.setCell (Below.setCell (Below.setCell (Below.setCell (Below.setCell (Below.setCell (Below.setCell (Below.setCell HB5.out (p := ⟨w.heap.size, 0, none⟩) (by show w.heap.size ≤ (w.heap.size); omega) (.string sc)) (p := ⟨w.heap.size, 1, none⟩) (by show w.heap.size ≤ (w.heap.size); omega) (.string ho)) (p := ⟨w.heap.size, 2, none⟩) (by show w.heap.size ≤ (w.heap.size); omega) (.int .i64 po)) (p := ⟨w.heap.size, 3, none⟩) (by show w.heap.size ≤ (w.heap.size); omega) (.string pa)) (p := ⟨w.heap.size + 1, 0, none⟩) (by show w.heap.size ≤ (w.heap.size + 1); omega) (.string sc2)) (p := ⟨w.heap.size + 1, 1, none⟩) (by show w.heap.size ≤ (w.heap.size + 1); omega) (.string ho2)) (p := ⟨w.heap.size + 1, 2, none⟩) (by show w.heap.size ≤ (w.heap.size + 1); omega) (.int .i64 po2)) (p := ⟨w.heap.size + 1, 3, none⟩) (by show w.heap.size ≤ (w.heap.size + 1); omega) (.string pa2))
    have FS := (slice_far (slice_far (slice_far (slice_far (slice_far (slice_far (slice_far (slice_far SL5.out (p := ⟨w.heap.size, 0, none⟩) (by show (w.heap.size) < w1.heap.size; omega) (.string sc)) (p := ⟨w.heap.size, 1, none⟩) (by show (w.heap.size) < w1.heap.size; omega) (.string ho)) (p := ⟨w.heap.size, 2, none⟩) (by show (w.heap.size) < w1.heap.size; omega) (.int .i64 po)) (p := ⟨w.heap.size, 3, none⟩) (by show (w.heap.size) < w1.heap.size; omega) (.string pa)) (p := ⟨w.heap.size + 1, 0, none⟩) (by show (w.heap.size + 1) < w1.heap.size; omega) (.string sc2)) (p := ⟨w.heap.size + 1, 1, none⟩) (by show (w.heap.size + 1) < w1.heap.size; omega) (.string ho2)) (p := ⟨w.heap.size + 1, 2, none⟩) (by show (w.heap.size + 1) < w1.heap.size; omega) (.int .i64 po2)) (p := ⟨w.heap.size + 1, 3, none⟩) (by show (w.heap.size + 1) < w1.heap.size; omega) (.string pa2))
    generalize ((((((((w5.setCell ⟨w.heap.size, 0, none⟩ (.string sc)).setCell ⟨w.heap.size, 1, none⟩ (.string ho)).setCell ⟨w.heap.size, 2, none⟩ (.int .i64 po)).setCell ⟨w.heap.size, 3, none⟩ (.string pa)).setCell ⟨w.heap.size + 1, 0, none⟩ (.string sc2)).setCell ⟨w.heap.size + 1, 1, none⟩ (.string ho2)).setCell ⟨w.heap.size + 1, 2, none⟩ (.int .i64 po2)).setCell ⟨w.heap.size + 1, 3, none⟩ (.string pa2)) = W at *
    obtain ⟨hy, ⟨f0, f1, f2, f3⟩, _⟩ := FA
    obtain ⟨hx, ⟨h0, h1, h2, h3⟩, _⟩ := FB
    go_wp2
    exact bodyPost_ret (v := .tuple #[v, urlV sc ho pa po, urlV sc2 ho2 pa2 po2]) (by simp [urlV, results, Tryd.results39, go_sem, f0, f1, f2, f3, h0, h1, h2, h3]) rfl ⟨⟨v, _, _, _, _, _, _, _, _, _, _, rfl, slice_low (slice_drew FS) (by omega), FW.out, ⟨hsc, hho, hpa⟩, hsc2, hho2, hpa2⟩, FH.drew⟩
  | true =>
    go_wp2_with fail
    have RA6 : Hid (U4 (((((w5.setCell ⟨w4.heap.size, 0, none⟩ (.string sc)).setCell ⟨w4.heap.size, 1, none⟩ (.string ho)).setCell ⟨w4.heap.size, 2, none⟩ (.int .i64 po)).setCell ⟨w4.heap.size, 3, none⟩ (.string pa)).setCell ⟨w4.heap.size, 3, none⟩ (.string ⟨#[47, 111, 116, 104, 101, 114]⟩)) w.heap.size (.string ⟨#[]⟩) (.string ⟨#[]⟩) (.int .i64 0) (.string ⟨#[]⟩)) := (((((RA5.out.far (p := ⟨w4.heap.size, 0, none⟩) (by show ¬ (w4.heap.size) = (w.heap.size); omega) (.string sc)).far (p := ⟨w4.heap.size, 1, none⟩) (by show ¬ (w4.heap.size) = (w.heap.size); omega) (.string ho)).far (p := ⟨w4.heap.size, 2, none⟩) (by show ¬ (w4.heap.size) = (w.heap.size); omega) (.int .i64 po)).far (p := ⟨w4.heap.size, 3, none⟩) (by show ¬ (w4.heap.size) = (w.heap.size); omega) (.string pa)).far (p := ⟨w4.heap.size, 3, none⟩) (by show ¬ (w4.heap.size) = (w.heap.size); omega) (.string ⟨#[47, 111, 116, 104, 101, 114]⟩))
    have RB6 : Hid (U4 (((((w5.setCell ⟨w4.heap.size, 0, none⟩ (.string sc)).setCell ⟨w4.heap.size, 1, none⟩ (.string ho)).setCell ⟨w4.heap.size, 2, none⟩ (.int .i64 po)).setCell ⟨w4.heap.size, 3, none⟩ (.string pa)).setCell ⟨w4.heap.size, 3, none⟩ (.string ⟨#[47, 111, 116, 104, 101, 114]⟩)) (w.heap.size + 1) (.string ⟨#[]⟩) (.string ⟨#[]⟩) (.int .i64 0) (.string ⟨#[]⟩)) := (((((RB5.out.far (p := ⟨w4.heap.size, 0, none⟩) (by show ¬ (w4.heap.size) = (w.heap.size + 1); omega) (.string sc)).far (p := ⟨w4.heap.size, 1, none⟩) (by show ¬ (w4.heap.size) = (w.heap.size + 1); omega) (.string ho)).far (p := ⟨w4.heap.size, 2, none⟩) (by show ¬ (w4.heap.size) = (w.heap.size + 1); omega) (.int .i64 po)).far (p := ⟨w4.heap.size, 3, none⟩) (by show ¬ (w4.heap.size) = (w.heap.size + 1); omega) (.string pa)).far (p := ⟨w4.heap.size, 3, none⟩) (by show ¬ (w4.heap.size) = (w.heap.size + 1); omega) (.string ⟨#[47, 111, 116, 104, 101, 114]⟩))
    have UU6 : Hid (U4 (((((w5.setCell ⟨w4.heap.size, 0, none⟩ (.string sc)).setCell ⟨w4.heap.size, 1, none⟩ (.string ho)).setCell ⟨w4.heap.size, 2, none⟩ (.int .i64 po)).setCell ⟨w4.heap.size, 3, none⟩ (.string pa)).setCell ⟨w4.heap.size, 3, none⟩ (.string ⟨#[47, 111, 116, 104, 101, 114]⟩)) w3.heap.size (.string sc) (.string ho) (.int .i64 po) (.string pa)) := (((((UU5.out.far (p := ⟨w4.heap.size, 0, none⟩) (by show ¬ (w4.heap.size) = (w3.heap.size); omega) (.string sc)).far (p := ⟨w4.heap.size, 1, none⟩) (by show ¬ (w4.heap.size) = (w3.heap.size); omega) (.string ho)).far (p := ⟨w4.heap.size, 2, none⟩) (by show ¬ (w4.heap.size) = (w3.heap.size); omega) (.int .i64 po)).far (p := ⟨w4.heap.size, 3, none⟩) (by show ¬ (w4.heap.size) = (w3.heap.size); omega) (.string pa)).far (p := ⟨w4.heap.size, 3, none⟩) (by show ¬ (w4.heap.size) = (w3.heap.size); omega) (.string ⟨#[47, 111, 116, 104, 101, 114]⟩))
    have VV6 : Hid (U4 (((((w5.setCell ⟨w4.heap.size, 0, none⟩ (.string sc)).setCell ⟨w4.heap.size, 1, none⟩ (.string ho)).setCell ⟨w4.heap.size, 2, none⟩ (.int .i64 po)).setCell ⟨w4.heap.size, 3, none⟩ (.string pa)).setCell ⟨w4.heap.size, 3, none⟩ (.string ⟨#[47, 111, 116, 104, 101, 114]⟩)) w4.heap.size (.string sc) (.string ho) (.int .i64 po) (.string ⟨#[47, 111, 116, 104, 101, 114]⟩)) := (((((VV5.out.set0 (.string sc)).set1 (.string ho)).set2 (.int .i64 po)).set3 (.string pa)).set3 (.string ⟨#[47, 111, 116, 104, 101, 114]⟩))
    have HB6 : Hid (Below w.heap.size w (((((w5.setCell ⟨w4.heap.size, 0, none⟩ (.string sc)).setCell ⟨w4.heap.size, 1, none⟩ (.string ho)).setCell ⟨w4.heap.size, 2, none⟩ (.int .i64 po)).setCell ⟨w4.heap.size, 3, none⟩ (.string pa)).setCell ⟨w4.heap.size, 3, none⟩ (.string ⟨#[47, 111, 116, 104, 101, 114]⟩))) := (Below.setCell (Below.setCell (Below.setCell (Below.setCell (Below.setCell HB5.out (p := ⟨w4.heap.size, 0, none⟩) (by show w.heap.size ≤ (w4.heap.size); omega) (.string sc)) (p := ⟨w4.heap.size, 1, none⟩) (by show w.heap.size ≤ (w4.heap.size); omega) (.string ho)) (p := ⟨w4.heap.size, 2, none⟩) (by show w.heap.size ≤ (w4.heap.size); omega) (.int .i64 po)) (p := ⟨w4.heap.size, 3, none⟩) (by show w.heap.size ≤ (w4.heap.size); omega) (.string pa)) (p := ⟨w4.heap.size, 3, none⟩) (by show w.heap.size ≤ (w4.heap.size); omega) (.string ⟨#[47, 111, 116, 104, 101, 114]⟩))
    have SL6 : Hid (SliceS (((((w5.setCell ⟨w4.heap.size, 0, none⟩ (.string sc)).setCell ⟨w4.heap.size, 1, none⟩ (.string ho)).setCell ⟨w4.heap.size, 2, none⟩ (.int .i64 po)).setCell ⟨w4.heap.size, 3, none⟩ (.string pa)).setCell ⟨w4.heap.size, 3, none⟩ (.string ⟨#[47, 111, 116, 104, 101, 114]⟩)) w1.heap.size v L.length (atL L)) := (slice_apart (slice_apart (slice_apart (slice_apart (slice_apart SL5.out (p := ⟨w4.heap.size, 0, none⟩) HNH.out (.string sc)) (p := ⟨w4.heap.size, 1, none⟩) HNH.out (.string ho)) (p := ⟨w4.heap.size, 2, none⟩) HNH.out (.int .i64 po)) (p := ⟨w4.heap.size, 3, none⟩) HNH.out (.string pa)) (p := ⟨w4.heap.size, 3, none⟩) HNH.out (.string ⟨#[47, 111, 116, 104, 101, 114]⟩))
    clear a0 a1 a2 a3 af b0 b1 b2 b3 bf c0 c1 c2 c3 cf d0 d1 d2 d3 df
    generalize (((((w5.setCell ⟨w4.heap.size, 0, none⟩ (.string sc)).setCell ⟨w4.heap.size, 1, none⟩ (.string ho)).setCell ⟨w4.heap.size, 2, none⟩ (.int .i64 po)).setCell ⟨w4.heap.size, 3, none⟩ (.string pa)).setCell ⟨w4.heap.size, 3, none⟩ (.string ⟨#[47, 111, 116, 104, 101, 114]⟩)) = w6 at *
    obtain ⟨-, ⟨a0, a1, a2, a3⟩, af⟩ := RA6.out
    obtain ⟨-, ⟨b0, b1, b2, b3⟩, bf⟩ := RB6.out
    obtain ⟨-, ⟨c0, c1, c2, c3⟩, cf⟩ := UU6.out
    obtain ⟨-, ⟨d0, d1, d2, d3⟩, df⟩ := VV6.out
    go_region
    have FA := ((((((((RA6.out.set0 (.string sc)).set1 (.string ho)).set2 (.int .i64 po)).set3 (.string pa)).far (p := ⟨w.heap.size + 1, 0, none⟩) (by show ¬ (w.heap.size + 1) = (w.heap.size); omega) (.string sc)).far (p := ⟨w.heap.size + 1, 1, none⟩) (by show ¬ (w.heap.size + 1) = (w.heap.size); omega) (.string ho)).far (p := ⟨w.heap.size + 1, 2, none⟩) (by show ¬ (w.heap.size + 1) = (w.heap.size); omega) (.int .i64 po)).far (p := ⟨w.heap.size + 1, 3, none⟩) (by show ¬ (w.heap.size + 1) = (w.heap.size); omega) (.string ⟨#[47, 111, 116, 104, 101, 114]⟩))
    have FB := ((((((((RB6.out.far (p := ⟨w.heap.size, 0, none⟩) (by show ¬ (w.heap.size) = (w.heap.size + 1); omega) (.string sc)).far (p := ⟨w.heap.size, 1, none⟩) (by show ¬ (w.heap.size) = (w.heap.size + 1); omega) (.string ho)).far (p := ⟨w.heap.size, 2, none⟩) (by show ¬ (w.heap.size) = (w.heap.size + 1); omega) (.int .i64 po)).far (p := ⟨w.heap.size, 3, none⟩) (by show ¬ (w.heap.size) = (w.heap.size + 1); omega) (.string pa)).set0 (.string sc)).set1 (.string ho)).set2 (.int .i64 po)).set3 (.string ⟨#[47, 111, 116, 104, 101, 114]⟩))
    have FH := (Below.setCell (Below.setCell (Below.setCell (Below.setCell (Below.setCell (Below.setCell (Below.setCell (Below.setCell HB6.out (p := ⟨w.heap.size, 0, none⟩) (by show w.heap.size ≤ (w.heap.size); omega) (.string sc)) (p := ⟨w.heap.size, 1, none⟩) (by show w.heap.size ≤ (w.heap.size); omega) (.string ho)) (p := ⟨w.heap.size, 2, none⟩) (by show w.heap.size ≤ (w.heap.size); omega) (.int .i64 po)) (p := ⟨w.heap.size, 3, none⟩) (by show w.heap.size ≤ (w.heap.size); omega) (.string pa)) (p := ⟨w.heap.size + 1, 0, none⟩) (by show w.heap.size ≤ (w.heap.size + 1); omega) (.string sc)) (p := ⟨w.heap.size + 1, 1, none⟩) (by show w.heap.size ≤ (w.heap.size + 1); omega) (.string ho)) (p := ⟨w.heap.size + 1, 2, none⟩) (by show w.heap.size ≤ (w.heap.size + 1); omega) (.int .i64 po)) (p := ⟨w.heap.size + 1, 3, none⟩) (by show w.heap.size ≤ (w.heap.size + 1); omega) (.string ⟨#[47, 111, 116, 104, 101, 114]⟩))
    have FS := (slice_far (slice_far (slice_far (slice_far (slice_far (slice_far (slice_far (slice_far SL6.out (p := ⟨w.heap.size, 0, none⟩) (by show (w.heap.size) < w1.heap.size; omega) (.string sc)) (p := ⟨w.heap.size, 1, none⟩) (by show (w.heap.size) < w1.heap.size; omega) (.string ho)) (p := ⟨w.heap.size, 2, none⟩) (by show (w.heap.size) < w1.heap.size; omega) (.int .i64 po)) (p := ⟨w.heap.size, 3, none⟩) (by show (w.heap.size) < w1.heap.size; omega) (.string pa)) (p := ⟨w.heap.size + 1, 0, none⟩) (by show (w.heap.size + 1) < w1.heap.size; omega) (.string sc)) (p := ⟨w.heap.size + 1, 1, none⟩) (by show (w.heap.size + 1) < w1.heap.size; omega) (.string ho)) (p := ⟨w.heap.size + 1, 2, none⟩) (by show (w.heap.size + 1) < w1.heap.size; omega) (.int .i64 po)) (p := ⟨w.heap.size + 1, 3, none⟩) (by show (w.heap.size + 1) < w1.heap.size; omega) (.string ⟨#[47, 111, 116, 104, 101, 114]⟩))
    generalize ((((((((w6.setCell ⟨w.heap.size, 0, none⟩ (.string sc)).setCell ⟨w.heap.size, 1, none⟩ (.string ho)).setCell ⟨w.heap.size, 2, none⟩ (.int .i64 po)).setCell ⟨w.heap.size, 3, none⟩ (.string pa)).setCell ⟨w.heap.size + 1, 0, none⟩ (.string sc)).setCell ⟨w.heap.size + 1, 1, none⟩ (.string ho)).setCell ⟨w.heap.size + 1, 2, none⟩ (.int .i64 po)).setCell ⟨w.heap.size + 1, 3, none⟩ (.string ⟨#[47, 111, 116, 104, 101, 114]⟩)) = W at *
    obtain ⟨hy, ⟨f0, f1, f2, f3⟩, _⟩ := FA
    obtain ⟨hx, ⟨h0, h1, h2, h3⟩, _⟩ := FB
    go_wp2
    exact bodyPost_ret (v := .tuple #[v, urlV sc ho pa po, urlV sc ho ⟨#[47, 111, 116, 104, 101, 114]⟩ po]) (by simp [urlV, results, Tryd.results39, go_sem, f0, f1, f2, f3, h0, h1, h2, h3]) rfl ⟨⟨v, _, _, _, _, _, _, _, _, _, _, rfl, slice_low (slice_drew FS) (by omega), FW.out, ⟨hsc, hho, hpa⟩, hsc, hho, by decide⟩, FH.drew⟩
end Go.Proofs.YtmlacbjlafdenaaDoor

/- A slice of bytes that came in, as a law's frame opens it, is a row of a code. -/
namespace Go.Proofs.YtmlacbjlafdenaaDoor
open Go.ChangeShapes Go.WideShapes Go.ChangeAt Go.RowKit

theorem codeRow_of {H : Type} {enc : TypeId × Value → H} {W : World} {a : Option Addr} {len cap : Nat} {d : DataW H} {p : List MemPlace}
    (h : ∃ fuel, DataW.trod enc Tryd.prog W 0 (fun _ => true) true fuel 22 (Value.slice a len cap).cells.toList = some (d, p)) : CodeRow W a len := by
  obtain ⟨fuel, hf⟩ := h
  rcases open_ints Tryd.underlying22 Tryd.underlying5 (by kernel_rfl) hf with ⟨hcs, _⟩ | ⟨x, l, c, zs, hcs, _, hl, hm, hz, _, hcell, hwz⟩
  · simp [Value.cells] at hcs
    obtain ⟨rfl, rfl, rfl⟩ := hcs
    exact fun i hi => absurd hi (by omega)
  · simp [Value.cells] at hcs
    obtain ⟨rfl, rfl, rfl⟩ := hcs
    intro i hi
    have hz2 : zs.length = cap := by simpa using hz
    have hc := hcell i (by omega)
    have hb := hwz (zs.getD i 0) (by simp [List.getD, show i < zs.length by omega])
    generalize zs.getD i 0 = z at hb hc
    have hbb : 0 ≤ z ∧ z < 256 := by
      simp [Lit.wf, IntKind.min, IntKind.max, IntKind.signed, IntKind.bits] at hb
      omega
    refine ⟨_, _, rfl, ?_, hc, hbb.1, hbb.2⟩
    have : (x.add i).block < W.heap.size := by
      by_cases h : (x.add i).block < W.heap.size
      · exact h
      · exfalso
        simp [World.cell?, Array.getElem?_eq_none (show W.heap.size ≤ (x.add i).block by omega)] at hc
    have e : (x.add i).block = x.block := by
      unfold Addr.add; split
      · rfl
      · rfl
    rw [e] at this; exact this
end Go.Proofs.YtmlacbjlafdenaaDoor

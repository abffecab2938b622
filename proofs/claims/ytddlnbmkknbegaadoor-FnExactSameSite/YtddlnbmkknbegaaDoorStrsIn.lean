/- A slice of texts that came in; the laws' szStringS and toStringS over it. -/
import Derived.Test.YtddlnbmkknbegaaDoorMarkS
import Derived.Lib.Split
namespace Go.Proofs.YtddlnbmkknbegaaDoor
open Go.RowKit

/-- n texts, f of each place, that a slice leads to -/
def StrRow (w : World) (a : Option Addr) (n : Nat) (f : Nat → ByteArray) : Prop := ∀ i, i < n → ∃ x, a = some x ∧ x.block < w.heap.size ∧ w.cell? (x.add i) = some (.string (f i)) ∧ (f i).size ≤ maxLen
theorem StrRow.below {w w' : World} {a : Option Addr} {n : Nat} {f : Nat → ByteArray} (h : StrRow w a n f) (hb : Below w.heap.size w w') : StrRow w' a n f := by
  intro i hi
  obtain ⟨x, e, hx, hc, hs⟩ := h i hi
  have hxb : (x.add i).block = x.block := by unfold Addr.add; split <;> rfl
  exact ⟨x, e, Nat.lt_of_lt_of_le hx hb.size, by rw [hb.cell (p := x.add i) (by rw [hxb]; exact hx)]; exact hc, hs⟩

set_option maxRecDepth 10000 in
set_option maxHeartbeats 400000 in
theorem szStringS_any (a : Option Addr) (n cap : Nat) (f : Nat → ByteArray) (l : Int) (w : World) (hr : StrRow w a n f) (hn : n ≤ maxLen) (h0 : 0 ≤ l) (h1 : l ≤ 1048576) :
    Calls Tryd.prog 21 #[.slice a n cap, .int .i64 l] w fun e w' => (∃ r : Int, e = .returned (.int .i64 r) ∧ (r < 0 ∨ (0 ≤ r ∧ r ≤ l ∧ (n : Int) ≤ l ∧ ∀ i, i < n → ((f i).size : Int) ≤ l))) ∧ w' = w := by
  unfold maxLen at hn
  by_cases hl : l < n
  · have q : decide (l - (n : Int) < 0) = true := by rw [decide_eq_true_iff]; omega
    go_enter Tryd.func21, Tryd.ntmps21
    go_wp2
    go_ret
    exact ⟨⟨_, rfl, .inl (by decide)⟩, rfl⟩
  have q : decide (l - (n : Int) < 0) = false := by rw [decide_eq_false_iff_not]; omega
  have HR : Hid (StrRow w a n f) := hr
  clear hr
  go_enter Tryd.func21, Tryd.ntmps21
  go_wp2
  go_loop [1, 5] (fun v i => ∃ (k : Nat) (z : Int), k ≤ n ∧ v = .int .i64 z ∧ i = .int .i64 k ∧ 0 ≤ z ∧ z ≤ l ∧ Hid (∀ i, i < k → ((f i).size : Int) ≤ l)) (fun _ i => n - (intOf i).toNat)
  case atStart => exact ⟨0, _, Nat.zero_le _, rfl, rfl, by omega, by omega, fun i hi => absurd hi (by omega)⟩
  case round =>
    obtain ⟨k, z, hk, rfl, rfl, z0, zl, HS⟩ := hrel
    by_cases hlt : k < n
    · obtain ⟨x, rfl, hx, hc, hs⟩ := HR.out k hlt
      unfold maxLen at hs
      have k0 : (0 : Int) ≤ k := by omega
      have k1 : (k : Int) < n := by omega
      by_cases hz : z < (f k).size
      · have q2 : decide (z - ((f k).size : Int) < 0) = true := by rw [decide_eq_true_iff]; omega
        go_wp2
        go_ret
        exact ⟨⟨_, rfl, .inl (by decide)⟩, rfl⟩
      · have q2 : decide (z - ((f k).size : Int) < 0) = false := by rw [decide_eq_false_iff_not]; omega
        go_wp2
        go_round
        case rel =>
          refine ⟨k + 1, _, by omega, rfl, by go_num, by omega, by omega, ?_⟩
          intro i hi
          by_cases e : i = k
          · subst e; omega
          · exact HS.out i (by omega)
        case measure => simp [intOf]; omega
    · go_wp2
      go_ret
      exact ⟨⟨_, rfl, .inr (by first | exact ⟨z0, zl, by omega, fun i hi => HS.out i (by omega)⟩ | exact ⟨z0, zl, fun i hi => HS.out i (by omega)⟩)⟩, rfl⟩

theorem infoStr2 : (Tryd.prog.info? 9).map (fun i => (i.zero, i.size, i.bytes)) = some (some (.string ⟨#[]⟩), 1, 16) := by kernel_rfl
theorem make_strs (w : World) (n : Nat) (hn : n ≤ 1048576) :
    ∃ w', Sem.run Tryd.prog (Instr.makeSlice 23 (.int .i64 (n : Int)) (.int .i64 (n : Int))) w = .ok (.slice (some ⟨w.heap.size, 0, none⟩) n n) w' ∧ w.heap.size < w'.heap.size ∧
      (∀ j, j < n → w'.cell? ⟨w.heap.size, j, none⟩ = some (.string ⟨#[]⟩) ∧ w'.frozen? ⟨w.heap.size, j, none⟩ = false) ∧ Below w.heap.size w w' := by
  obtain ⟨i, h2, h3, h4, h5⟩ := info_parts infoStr2
  have hrun := run_make (P := Tryd.prog) w 23 9 i (.string ⟨#[]⟩) Tryd.underlying23 h2 h3 .i64 .i64 n n (by omega) (Int.le_refl _) (by rw [h5]; omega) (by omega)
  simp only [Int.toNat_natCast, h4, Nat.mul_one] at hrun
  refine ⟨_, hrun, by simp, fun j hj => ⟨?_, by simp⟩, (Below.refl _ _).alloc (Nat.le_refl _) _⟩
  have e : madeCells (Value.string ⟨#[]⟩).cells n = Lib.cellsOf [] n := (Lib.cellsOf_nil n).symm
  rw [e, World.cell?_alloc_new]
  simp [Lib.cellsOf, hj]
  rfl

/-- the first k of f, the others empty -/
def upto (f : Nat → ByteArray) (k j : Nat) : ByteArray := if j < k then f j else ⟨#[]⟩
theorem upto_at (f : Nat → ByteArray) (k : Nat) : upto f (k + 1) k = f k := by unfold upto; rw [if_pos (Nat.lt_succ_self _)]
theorem upto_else (f : Nat → ByteArray) (k j : Nat) (h : ¬ j = k) : upto f (k + 1) j = upto f k j := by
  unfold upto
  by_cases hj : j < k
  · rw [if_pos hj, if_pos (by omega)]
  · rw [if_neg hj, if_neg (by omega)]
theorem upto_all (f : Nat → ByteArray) (n j : Nat) (h : j < n) : upto f n j = f j := by unfold upto; rw [if_pos h]
set_option maxRecDepth 10000 in
set_option maxHeartbeats 1000000 in
theorem toStringS_any (a : Option Addr) (n cap : Nat) (f : Nat → ByteArray) (w : World) (hr : StrRow w a n f) (hn : n ≤ 1048576) :
    Calls Tryd.prog 22 #[.slice a n cap] w fun e w' => ∃ v, e = .returned v ∧ SliceS w' w.heap.size v n f ∧ Below w.heap.size w w' := by
  have HR : Hid (StrRow w a n f) := hr
  clear hr
  obtain ⟨w1, hmk, hz1, hc1, hb1⟩ := make_strs w n hn
  have HC1 : Hid (∀ j, j < n → w1.cell? ⟨w.heap.size, j, none⟩ = some (.string (upto f 0 j)) ∧ w1.frozen? ⟨w.heap.size, j, none⟩ = false) := fun j hj => ⟨by rw [upto, if_neg (by omega)]; exact (hc1 j hj).1, (hc1 j hj).2⟩
  have HB1 : Hid (Below w.heap.size w w1) := hb1
  clear hc1 hb1
  go_enter Tryd.func22, Tryd.ntmps22
  go_wp2
  clear hmk
  go_loopw [4] (fun i wr => ∃ k : Nat, k ≤ n ∧ i = .int .i64 k ∧ w.heap.size < wr.heap.size ∧ Hid (Below w.heap.size w wr) ∧ Hid (∀ j, j < n → wr.cell? ⟨w.heap.size, j, none⟩ = some (.string (upto f k j)) ∧ wr.frozen? ⟨w.heap.size, j, none⟩ = false)) (fun i _ => n - (intOf i).toNat)
  case atStart => exact ⟨0, Nat.zero_le _, rfl, hz1, HB1, HC1⟩
  case round =>
    obtain ⟨k, hk, rfl, hzr, HB, HC⟩ := hrel
    by_cases hlt : k < n
    · obtain ⟨x, rfl, hx, hc, hs⟩ := HR.out k hlt
      have hxb : (x.add k).block = x.block := by unfold Addr.add; split <;> rfl
      have hcr : wr.cell? (x.add k) = some (.string (f k)) := by rw [HB.out.cell (p := x.add k) (by rw [hxb]; exact hx)]; exact hc
      have d1 := (HC.out k hlt).1
      have d2 := (HC.out k hlt).2
      have k0 : (0 : Int) ≤ k := by omega
      have k1 : (k : Int) < n := by omega
      clear hs hc
      go_wp2
      go_roundw
      case rel =>
        refine ⟨k + 1, by omega, by go_num, ?_, ?_, ?_⟩
        · simpa [World.setCell] using hzr
        · exact HB.out.setCell (Nat.le_refl _) _
        · intro j hj
          by_cases e : j = k
          · subst e
            rw [upto_at]
            exact ⟨World.cell?_setCell_same _ _ _ d1, by rw [World.frozen?_setCell]; exact d2⟩
          · rw [upto_else f k j e, World.cell?_setCell_other _ _ _ _ (by intro h; injection h with _ h; exact e h.symm), World.frozen?_setCell]
            exact HC.out j hj
      case measure => simp [intOf]; omega
    · go_wp2
      go_ret
      refine ⟨_, rfl, ⟨_, _, rfl, fun _ => ⟨w.heap.size, rfl, Nat.le_refl _, hzr, fun j hj => ?_⟩⟩, HB.out⟩
      have h := HC.out j hj
      obtain rfl : k = n := by omega
      rw [upto_all f k j hj] at h
      exact h
end Go.Proofs.YtddlnbmkknbegaaDoor

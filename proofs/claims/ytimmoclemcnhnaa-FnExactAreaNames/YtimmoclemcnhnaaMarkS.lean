/- The laws' eqStringS, markStringS, heldStringS. -/
import Derived.Test.YtimmoclemcnhnaaMarks
import Derived.Deep.RegionHeld3
namespace Go.Proofs.Ytimmoclemcnhnaa
open Go.RowKit

set_option maxRecDepth 10000 in
set_option maxHeartbeats 400000 in
theorem eqStringS_any (a b : Value) (n B B' : Nat) (f : Nat → ByteArray) (w : World) (ha : SliceS w B a n f) (hb : SliceS w B' b n f) (hn : n ≤ 1048576) :
    Calls Try.prog 20 #[a, b] w fun e w' => e = .returned (.bool true) ∧ Below w.heap.size w w' := by
  obtain ⟨p, cap, rfl, h1⟩ := ha
  obtain ⟨p', cap', rfl, h2⟩ := hb
  cases n with
  | zero =>
    clear h1 h2
    go_enter Try.func20, Try.ntmps20
    go_wp2
    go_loop [5] (fun i => i = .int .i64 0) (fun _ => 0)
    case atStart => rfl
    case round =>
      subst hrel
      go_wp2
      go_ret
      exact ⟨rfl, Below.refl _ _⟩
  | succ n =>
    obtain ⟨g, rfl, _, hg, hc⟩ := h1 (by omega)
    obtain ⟨g', rfl, _, hg', hc'⟩ := h2 (by omega)
    clear h1 h2
    have HC : Hid (∀ j, j < n + 1 → w.cell? ⟨g, j, none⟩ = some (.string (f j)) ∧ w.frozen? ⟨g, j, none⟩ = false) := hc
    have HC' : Hid (∀ j, j < n + 1 → w.cell? ⟨g', j, none⟩ = some (.string (f j)) ∧ w.frozen? ⟨g', j, none⟩ = false) := hc'
    clear hc hc'
    go_enter Try.func20, Try.ntmps20
    go_wp2
    go_loopw [5] (fun i wr => ∃ k : Nat, k ≤ n + 1 ∧ i = .int .i64 k ∧ Below w.heap.size w wr) (fun i _ => n + 1 - (intOf i).toNat)
    case atStart => exact ⟨0, by omega, rfl, Below.refl _ _⟩
    case round =>
      obtain ⟨k, hk, rfl, hb⟩ := hrel
      by_cases hlt : k < n + 1
      · have c1 : wr.cell? ⟨g, k, none⟩ = some (.string (f k)) := by rw [(bcell hb).1 _ _ hg]; exact (HC.out k hlt).1
        have c2 : wr.cell? ⟨g', k, none⟩ = some (.string (f k)) := by rw [(bcell hb).1 _ _ hg']; exact (HC'.out k hlt).1
        have k0 : (0 : Int) ≤ k := by omega
        have k1 : (k : Int) < (n : Int) + 1 := by omega
        generalize f k = x at *
        go_wp2_with fail
        go_region_held3 (fun w' => w'.cell? ⟨g, k, none⟩ = some (.string x) ∧ w'.cell? ⟨g', k, none⟩ = some (.string x)) (go_keep) (fail)
        go_wp2
        go_roundw
        case rel => exact ⟨k + 1, by omega, by go_num, hb.trans (Below.drew (Below.refl _ _))⟩
        case measure => simp [intOf]; omega
      · go_wp2
        go_ret
        exact ⟨rfl, hb⟩

/-- the first k places marked from q on, the rest as they were -/
def marked (f : Nat → ByteArray) (q k j : Nat) : ByteArray := if j < k then markT (q + j) else f j
theorem marked_step (f : Nat → ByteArray) (q k j : Nat) (h : j ≠ k) : marked f q (k + 1) j = marked f q k j := by
  unfold marked
  by_cases h1 : j < k
  · rw [if_pos (by omega), if_pos h1]
  · rw [if_neg (by omega), if_neg h1]
theorem marked_at (f : Nat → ByteArray) (q k : Nat) : marked f q (k + 1) k = markT (q + k) := by
  unfold marked; rw [if_pos (by omega)]
theorem marked_all (f : Nat → ByteArray) (q n j : Nat) (h : j < n) : marked f q n j = markT (q + j) := by
  unfold marked; rw [if_pos h]

set_option maxRecDepth 10000 in
set_option maxHeartbeats 400000 in
theorem markStringS_any (a : Value) (n B q : Nat) (f : Nat → ByteArray) (w : World) (ha : SliceS w B a n f) (hn : n ≤ 1048576) (hq : 0 < q) (hq2 : q ≤ 1048576) :
    Calls Try.prog 21 #[a, .int .i64 (q : Int)] w fun e w' => e = .returned (.int .i64 ((q + n : Nat) : Int)) ∧ SliceS w' B a n (fun j => markT (q + j)) ∧ (∀ B', B' ≤ B → B' ≤ w.heap.size → Below B' w w') := by
  obtain ⟨p, cap, rfl, h1⟩ := ha
  cases n with
  | zero =>
    clear h1
    go_enter Try.func21, Try.ntmps21
    go_wp2
    go_loop [1, 5] (fun kk i => kk = .int .i64 (q : Int) ∧ i = .int .i64 0) (fun _ _ => 0)
    case atStart => exact ⟨rfl, rfl⟩
    case round =>
      obtain ⟨rfl, rfl⟩ := hrel
      go_wp2
      go_ret
      exact ⟨rfl, ⟨p, cap, rfl, fun h => absurd h (by omega)⟩, fun _ _ _ => Below.refl _ _⟩
  | succ n =>
    obtain ⟨g, rfl, hBg, hg, hc⟩ := h1 (by omega)
    clear h1
    have HC : Hid (∀ j, j < n + 1 → w.cell? ⟨g, j, none⟩ = some (.string (f j)) ∧ w.frozen? ⟨g, j, none⟩ = false) := hc
    clear hc
    have HM : Hid (∀ (m : Nat) (W : World), 0 < m → m ≤ 9223372036854775807 → Calls Try.prog 39 #[.int .i64 (m : Int)] W fun e w' => e = .returned (.string (markT m)) ∧ Below W.heap.size W w') := fun m W h1 h2 => markText_any m W h1 h2
    go_enter Try.func21, Try.ntmps21
    go_wp2
    go_loopw [1, 5] (fun kk i wr => ∃ k : Nat, k ≤ n + 1 ∧ i = .int .i64 k ∧ kk = .int .i64 ((q + k : Nat) : Int)  ∧ g < wr.heap.size ∧ w.heap.size ≤ wr.heap.size ∧ Hid (∀ j, j < n + 1 → wr.cell? ⟨g, j, none⟩ = some (.string (marked f q k j)) ∧ wr.frozen? ⟨g, j, none⟩ = false) ∧ Hid (∀ B', B' ≤ B → B' ≤ w.heap.size → Below B' w wr)) (fun _ i _ => n + 1 - (intOf i).toNat)
    case atStart => exact ⟨0, by omega, rfl, rfl, hg, Nat.le_refl _, HC, fun _ _ _ => Below.refl _ _⟩
    case round =>
      obtain ⟨k, hk, rfl, rfl, hgr, hwr, HR, HB⟩ := hrel
      by_cases hlt : k < n + 1
      · have k0 : (0 : Int) ≤ k := by omega
        have k1 : (k : Int) < (n : Int) + 1 := by omega
        have HN : Hid (∀ W, Calls Try.prog 39 #[.int .i64 ((q : Int) + (k : Int))] W fun e w' => e = .returned (.string (markT (q + k))) ∧ Below W.heap.size W w') := fun W => HM.out (q + k) W (by omega) (by omega)
        go_wp2_with fail
        refine (HN.out _).mono ?_
        rintro e w1 ⟨rfl, hb⟩
        have hs := hb.size
        have c1 : w1.cell? ⟨g, k, none⟩ = some (.string (marked f q k k)) := by rw [(bcell hb).1 _ _ hgr]; exact (HR.out k hlt).1
        have c2 : w1.frozen? ⟨g, k, none⟩ = false := by rw [(bcell hb).2 _ _ hgr]; exact (HR.out k hlt).2
        have HR1 : Hid (∀ j, j < n + 1 → w1.cell? ⟨g, j, none⟩ = some (.string (marked f q k j)) ∧ w1.frozen? ⟨g, j, none⟩ = false) := fun j hj => ⟨by rw [(bcell hb).1 _ _ hgr]; exact (HR.out j hj).1, by rw [(bcell hb).2 _ _ hgr]; exact (HR.out j hj).2⟩
        have HB1 : Hid (∀ B', B' ≤ B → B' ≤ w.heap.size → Below B' w w1) := fun B' h1 h2 => (HB.out B' h1 h2).trans (hb.mono (by omega))
        clear hb
        generalize HT : markT (q + k) = t at *
        have HT' : Hid (markT (q + k) = t) := HT
        clear HT
        generalize marked f q k k = x at *
        go_wp2
        go_roundw
        case rel =>
          refine ⟨k + 1, by omega, by go_num, by go_num, ?_, ?_, ?_, ?_⟩
          · simp [World.setCell]; omega
          · simp [World.setCell]; omega
          · intro j hj
            by_cases e : j = k
            · subst e
              rw [marked_at, HT'.out]
              exact ⟨World.cell?_setCell_same _ _ _ c1, by rw [World.frozen?_setCell]; exact c2⟩
            · rw [marked_step f q k j e, World.cell?_setCell_other _ _ _ _ (by intro h; injection h with _ h; exact e h.symm), World.frozen?_setCell]
              exact HR1.out j hj
          · intro B' h1 h2
            exact (HB1.out B' h1 h2).setCell (by simpa using Nat.le_trans h1 hBg) _
        case measure => simp [intOf]; omega
      · obtain rfl : k = n + 1 := by omega
        go_wp2
        go_ret
        exact ⟨rfl, ⟨_, cap, rfl, fun _ => ⟨g, rfl, hBg, hgr, fun j hj => by have h := HR.out j hj; rw [marked_all f q (n + 1) j hj] at h; exact h⟩⟩, HB.out⟩

set_option maxRecDepth 10000 in
set_option maxHeartbeats 400000 in
theorem heldStringS_any (a : Value) (n B q : Nat) (w : World) (ha : SliceS w B a n (fun j => markT (q + j))) (hn : n ≤ 1048576) (hq : 0 < q) (hq2 : q ≤ 1048576) :
    Calls Try.prog 22 #[a, .int .i64 (q : Int)] w fun e w' => e = .returned (.int .i64 ((q + n : Nat) : Int)) ∧ Below w.heap.size w w' := by
  obtain ⟨p, cap, rfl, h1⟩ := ha
  cases n with
  | zero =>
    clear h1
    go_enter Try.func22, Try.ntmps22
    go_wp2
    go_loop [1, 4, 5] (fun kk r i => kk = .int .i64 (q : Int) ∧ i = .int .i64 0) (fun _ _ _ => 0)
    case atStart => exact ⟨rfl, rfl⟩
    case round =>
      obtain ⟨rfl, rfl⟩ := hrel
      go_wp2
      go_ret
      exact ⟨rfl, Below.refl _ _⟩
  | succ n =>
    obtain ⟨g, rfl, hBg, hg, hc⟩ := h1 (by omega)
    clear h1
    have HC : Hid (∀ j, j < n + 1 → w.cell? ⟨g, j, none⟩ = some (.string (markT (q + j))) ∧ w.frozen? ⟨g, j, none⟩ = false) := hc
    clear hc
    have HM : Hid (∀ (m : Nat) (W : World), 0 < m → m ≤ 9223372036854775807 → Calls Try.prog 39 #[.int .i64 (m : Int)] W fun e w' => e = .returned (.string (markT m)) ∧ Below W.heap.size W w') := fun m W h1 h2 => markText_any m W h1 h2
    go_enter Try.func22, Try.ntmps22
    go_wp2
    go_loopw [1, 4, 5] (fun kk r i wr => ∃ k : Nat, k ≤ n + 1 ∧ i = .int .i64 k ∧ kk = .int .i64 ((q + k : Nat) : Int) ∧ Below w.heap.size w wr) (fun _ _ i _ => n + 1 - (intOf i).toNat)
    case atStart => exact ⟨0, by omega, rfl, rfl, Below.refl _ _⟩
    case round =>
      obtain ⟨k, hk, rfl, rfl, hb⟩ := hrel
      by_cases hlt : k < n + 1
      · have k0 : (0 : Int) ≤ k := by omega
        have k1 : (k : Int) < (n : Int) + 1 := by omega
        have HN : Hid (∀ W, Calls Try.prog 39 #[.int .i64 ((q : Int) + (k : Int))] W fun e w' => e = .returned (.string (markT (q + k))) ∧ Below W.heap.size W w') := fun W => HM.out (q + k) W (by omega) (by omega)
        have c1 : wr.cell? ⟨g, k, none⟩ = some (.string (markT (q + k))) := by rw [(bcell hb).1 _ _ hg]; exact (HC.out k hlt).1
        have hgr : g < wr.heap.size := Nat.lt_of_lt_of_le hg hb.size
        have HB : Hid (Below w.heap.size w wr) := hb
        have hs := hb.size
        clear hb
        generalize markT (q + k) = t at *
        go_wp2_with fail
        go_region_held3 (fun w' => w'.cell? ⟨g, k, none⟩ = some (.string t)) (go_keep)
          (first | (go_at_call 39; refine (HN.out _).mono ?_; rintro e w2 ⟨rfl, hb2⟩; have hd0 : w2.cell? ⟨g, k, none⟩ = some (.string t) := (hb2.cell (p := ⟨g, k, none⟩) (by simpa using hgr)).trans (by simpa using c1)))
        all_goals go_wp2
        all_goals go_roundw
        case rel => exact ⟨k + 1, by omega, by go_num, by go_num, HB.out.trans ((Below.drew (Below.refl _ _)).trans (hb2.mono (by simp; omega)))⟩
        case measure => simp [intOf]; omega
      · obtain rfl : k = n + 1 := by omega
        go_wp2
        go_ret
        exact ⟨rfl, hb⟩
end Go.Proofs.Ytimmoclemcnhnaa

/- 5 of this claim's texts, one behind the other. -/
import Derived.Test.YtfoekelhcmlagaaDoorPart2
import Derived.Test.YtfoekelhcmlagaaDoorPart1
import Derived.Deep.RegionHeld3
import Derived.Test.YtfoekelhcmlagaaDoorPart4
import Derived.Test.YtfoekelhcmlagaaDoorPart3
import Derived.Handed
import Derived.Lay
import Derived.MakeChecks
import Derived.Lib.LaidTab
import Derived.Stop.LaidErr
/- The laws' markCookieS and heldCookieS over slices of cookies. Written by cookiesmark.py. -/
namespace Go.Proofs.YtfoekelhcmlagaaDoor
open Go.RowKit

/-- the mark of a cell, of a cookie whose first number is z -/
def markZ (z o : Nat) : Value := if o = 0 then .string (markT (z + 0)) else if o = 1 then .string (markT (z + 1)) else if o = 2 then .string (markT (z + 2)) else if o = 3 then .bool (((z : Int) + 1 + 1 + 1) % 3 == 0) else if o = 4 then .string (markT (z + 4)) else if o = 5 then .bool (((z : Int) + 1 + 1 + 1 + 1 + 1) % 3 == 0) else if o = 6 then .int .i64 ((z : Int) + 1 + 1 + 1 + 1 + 1 + 1) else if o = 7 then .string (markT (z + 7)) else if o = 8 then .int .i64 ((z : Int) + 1 + 1 + 1 + 1 + 1 + 1 + 1 + 1) else .int .i64 ((z : Int) + 1 + 1 + 1 + 1 + 1 + 1 + 1 + 1 + 1)
def markCkC (q j o : Nat) : Value := markZ (q + j * 10) o
def markedC (f : Nat → Nat → Value) (q k j o : Nat) : Value := if j < k then markCkC q j o else f j o
theorem SliceR.at10 {w : World} {B n m g cap : Nat} {f : Nat → Nat → Value} (hs : SliceR w B 10 (.slice (some ⟨g, 0, none⟩) m cap) n f) (k : Nat) (hk : k < n) : ∀ o, o < 10 → w.cell? ⟨g, k * 10 + o, none⟩ = some (f k o) ∧ w.frozen? ⟨g, k * 10 + o, none⟩ = false := by
  obtain ⟨p', cap', e, hh⟩ := hs
  injection e with e1
  obtain ⟨g', e2, -, -, hc⟩ := hh (by omega)
  rw [e2] at e1
  injection e1 with e1
  injection e1 with e1
  subst e1
  exact hc k hk
set_option maxRecDepth 10000 in
set_option maxHeartbeats 8000000 in
theorem markCookieS_any (a : Value) (n B q : Nat) (f : Nat → Nat → Value) (w : World) (ha : SliceR w B 10 a n f) (hn : n ≤ 1048576) (hq : 0 < q) (hq2 : q ≤ 20971520) :
    Calls Tryd.prog 62 #[a, .int .i64 (q : Int)] w fun e w' => e = .returned (.int .i64 ((q + n * 10 : Nat) : Int)) ∧ SliceR w' B 10 a n (markCkC q) ∧ (∀ G, (0 < n → a.ownBlock = some G) → w.grownBy w' (some G)) := by
  have HA : Hid (SliceR w B 10 a n f) := ha
  obtain ⟨p, cap, rfl, h1⟩ := ha
  have HG : Hid (0 < n → ∃ g, p = some ⟨g, 0, none⟩ ∧ B ≤ g ∧ g < w.heap.size) := fun h => by
    obtain ⟨g, e, h2, h3, -⟩ := h1 h
    exact ⟨g, e, h2, h3⟩
  clear h1
  have HM : Hid (∀ (m : Nat) (W : World), 0 < m → m ≤ 9223372036854775807 → Calls Tryd.prog 100 #[.int .i64 (m : Int)] W fun e w' => e = .returned (.string (markT m)) ∧ Below W.heap.size W w') := fun m W h1 h2 => markText_any m W h1 h2
  go_enter Tryd.func62, Tryd.ntmps62
  go_wp2
  go_loopw [1, 5] (fun kk i wr => ∃ k : Nat, k ≤ n ∧ i = .int .i64 k ∧ kk = .int .i64 ((q + k * 10 : Nat) : Int) ∧ Hid (SliceR wr B 10 (.slice p n cap) n (markedC f q k)) ∧ Hid (∀ G, (0 < n → (Value.slice p n cap).ownBlock = some G) → w.grownBy wr (some G))) (fun _ i _ => n - (intOf i).toNat)
  case atStart => exact ⟨0, by omega, rfl, by go_num, HA, fun _ _ => ⟨rfl, rfl, rfl, Nat.le_refl _, fun _ _ _ => rfl⟩⟩
  case round =>
    obtain ⟨k, hk, rfl, rfl, HR, HB⟩ := hrel
    by_cases hlt : k < n
    · obtain ⟨g, rfl, hBg, hgw⟩ := HG.out (by omega)
      have k0 : (0 : Int) ≤ k := by omega
      have k1 : (k : Int) < n := by omega
      have B0 : Hid (w.grownBy wr (some g)) := HB.out g (fun _ => rfl)
      have hzb : q + k * 10 ≤ 50000000 := by omega
      have hz0 : 0 < q + k * 10 := by omega
      have HEnd : Hid (∀ w', SliceR w' B 10 (.slice (some ⟨g, 0, none⟩) n cap) n (fun j o => if j = k then markZ (q + k * 10) o else markedC f q k j o) → SliceR w' B 10 (.slice (some ⟨g, 0, none⟩) n cap) n (markedC f q (k + 1))) := fun w' h => SliceR.congr h (fun j hj o ho => by
        unfold markedC markCkC
        by_cases e : j = k
        · subst e; rw [if_pos rfl, if_pos (by omega)]
        · rw [if_neg e]
          by_cases h : j < k
          · rw [if_pos h, if_pos (by omega)]
          · rw [if_neg h, if_neg (by omega)])
      have hnx : ((q + k * 10 : Nat) : Int) + 10 = ((q + (k + 1) * 10 : Nat) : Int) := by omega
      have HNX : Hid (((q + k * 10 : Nat) : Int) + 10 = ((q + (k + 1) * 10 : Nat) : Int)) := hnx
      clear hnx
      generalize markedC f q k = fm at *
      generalize q + k * 10 = zn at *
      have HN0 : Hid (∀ W, Calls Tryd.prog 100 #[.int .i64 ((zn : Int))] W fun e w' => e = .returned (.string (markT (zn + 0))) ∧ Below W.heap.size W w') := fun W => by
        have h := HM.out (zn + 0) W (by omega) (by omega)
        have e : ((zn + 0 : Nat) : Int) = (zn : Int) := by omega
        rw [e] at h; exact h
      have HN1 : Hid (∀ W, Calls Tryd.prog 100 #[.int .i64 ((zn : Int) + 1)] W fun e w' => e = .returned (.string (markT (zn + 1))) ∧ Below W.heap.size W w') := fun W => by
        have h := HM.out (zn + 1) W (by omega) (by omega)
        have e : ((zn + 1 : Nat) : Int) = (zn : Int) + 1 := by omega
        rw [e] at h; exact h
      have HN2 : Hid (∀ W, Calls Tryd.prog 100 #[.int .i64 ((zn : Int) + 1 + 1)] W fun e w' => e = .returned (.string (markT (zn + 2))) ∧ Below W.heap.size W w') := fun W => by
        have h := HM.out (zn + 2) W (by omega) (by omega)
        have e : ((zn + 2 : Nat) : Int) = (zn : Int) + 1 + 1 := by omega
        rw [e] at h; exact h
      have HN4 : Hid (∀ W, Calls Tryd.prog 100 #[.int .i64 ((zn : Int) + 1 + 1 + 1 + 1)] W fun e w' => e = .returned (.string (markT (zn + 4))) ∧ Below W.heap.size W w') := fun W => by
        have h := HM.out (zn + 4) W (by omega) (by omega)
        have e : ((zn + 4 : Nat) : Int) = (zn : Int) + 1 + 1 + 1 + 1 := by omega
        rw [e] at h; exact h
      have HN7 : Hid (∀ W, Calls Tryd.prog 100 #[.int .i64 ((zn : Int) + 1 + 1 + 1 + 1 + 1 + 1 + 1)] W fun e w' => e = .returned (.string (markT (zn + 7))) ∧ Below W.heap.size W w') := fun W => by
        have h := HM.out (zn + 7) W (by omega) (by omega)
        have e : ((zn + 7 : Nat) : Int) = (zn : Int) + 1 + 1 + 1 + 1 + 1 + 1 + 1 := by omega
        rw [e] at h; exact h
      have X0 : Hid (SliceR wr B 10 (.slice (some ⟨g, 0, none⟩) n cap) n fm) := HR
      clear HM HR HB
      go_wp2_with fail
      refine (HN0.out _).mono ?_
      rintro e u1 ⟨rfl, hb1⟩
      have S1 : Hid (SliceR u1 B 10 (.slice (some ⟨g, 0, none⟩) n cap) n fm) := SliceR.below (X0.out) hb1
      have G1 : Hid (w.grownBy u1 (some g)) := grownG_below (B0.out) hb1
      clear hb1
      have hx0 := (SliceR.at10 S1.out k hlt 0 (by omega)).1
      have hf0 := (SliceR.at10 S1.out k hlt 0 (by omega)).2
      rw [Nat.add_zero] at hx0 hf0
      generalize fm k 0 = y0 at hx0
      go_wp2_with fail
      refine (HN1.out _).mono ?_
      rintro e u2 ⟨rfl, hb2⟩
      have S2 : Hid (SliceR u2 B 10 (.slice (some ⟨g, 0, none⟩) n cap) n (updR fm k 0 (.string (markT (zn + 0))))) := SliceR.below (SliceR.set (S1.out) k 0 hlt (by omega) (.string (markT (zn + 0)))) hb2
      have G2 : Hid (w.grownBy u2 (some g)) := grownG_below (grownG_set (G1.out) (k * 10 + 0) (.string (markT (zn + 0)))) hb2
      clear hb2 hx0 hf0
      have hx1 := (SliceR.at10 S2.out k hlt 1 (by omega)).1
      have hf1 := (SliceR.at10 S2.out k hlt 1 (by omega)).2
      generalize (updR fm k 0 (.string (markT (zn + 0)))) k 1 = y1 at hx1
      go_wp2_with fail
      refine (HN2.out _).mono ?_
      rintro e u3 ⟨rfl, hb3⟩
      have S3 : Hid (SliceR u3 B 10 (.slice (some ⟨g, 0, none⟩) n cap) n (updR (updR fm k 0 (.string (markT (zn + 0)))) k 1 (.string (markT (zn + 1))))) := SliceR.below (SliceR.set (S2.out) k 1 hlt (by omega) (.string (markT (zn + 1)))) hb3
      have G3 : Hid (w.grownBy u3 (some g)) := grownG_below (grownG_set (G2.out) (k * 10 + 1) (.string (markT (zn + 1)))) hb3
      clear hb3 hx1 hf1
      have hx2 := (SliceR.at10 S3.out k hlt 2 (by omega)).1
      have hf2 := (SliceR.at10 S3.out k hlt 2 (by omega)).2
      generalize (updR (updR fm k 0 (.string (markT (zn + 0)))) k 1 (.string (markT (zn + 1)))) k 2 = y2 at hx2
      have hx3 := (SliceR.at10 S3.out k hlt 3 (by omega)).1
      have hf3 := (SliceR.at10 S3.out k hlt 3 (by omega)).2
      generalize (updR (updR fm k 0 (.string (markT (zn + 0)))) k 1 (.string (markT (zn + 1)))) k 3 = y3 at hx3
      go_wp2_with fail
      refine (HN4.out _).mono ?_
      rintro e u4 ⟨rfl, hb4⟩
      have S4 : Hid (SliceR u4 B 10 (.slice (some ⟨g, 0, none⟩) n cap) n (updR (updR (updR (updR fm k 0 (.string (markT (zn + 0)))) k 1 (.string (markT (zn + 1)))) k 2 (.string (markT (zn + 2)))) k 3 (.bool (((zn : Int) + 1 + 1 + 1) % 3 == 0)))) := SliceR.below (SliceR.set (SliceR.set (S3.out) k 2 hlt (by omega) (.string (markT (zn + 2)))) k 3 hlt (by omega) (.bool (((zn : Int) + 1 + 1 + 1) % 3 == 0))) hb4
      have G4 : Hid (w.grownBy u4 (some g)) := grownG_below (grownG_set (grownG_set (G3.out) (k * 10 + 2) (.string (markT (zn + 2)))) (k * 10 + 3) (.bool (((zn : Int) + 1 + 1 + 1) % 3 == 0))) hb4
      clear hb4 hx2 hf2 hx3 hf3
      have hx4 := (SliceR.at10 S4.out k hlt 4 (by omega)).1
      have hf4 := (SliceR.at10 S4.out k hlt 4 (by omega)).2
      generalize (updR (updR (updR (updR fm k 0 (.string (markT (zn + 0)))) k 1 (.string (markT (zn + 1)))) k 2 (.string (markT (zn + 2)))) k 3 (.bool (((zn : Int) + 1 + 1 + 1) % 3 == 0))) k 4 = y4 at hx4
      have hx5 := (SliceR.at10 S4.out k hlt 5 (by omega)).1
      have hf5 := (SliceR.at10 S4.out k hlt 5 (by omega)).2
      generalize (updR (updR (updR (updR fm k 0 (.string (markT (zn + 0)))) k 1 (.string (markT (zn + 1)))) k 2 (.string (markT (zn + 2)))) k 3 (.bool (((zn : Int) + 1 + 1 + 1) % 3 == 0))) k 5 = y5 at hx5
      have hx6 := (SliceR.at10 S4.out k hlt 6 (by omega)).1
      have hf6 := (SliceR.at10 S4.out k hlt 6 (by omega)).2
      generalize (updR (updR (updR (updR fm k 0 (.string (markT (zn + 0)))) k 1 (.string (markT (zn + 1)))) k 2 (.string (markT (zn + 2)))) k 3 (.bool (((zn : Int) + 1 + 1 + 1) % 3 == 0))) k 6 = y6 at hx6
      go_wp2_with fail
      refine (HN7.out _).mono ?_
      rintro e u5 ⟨rfl, hb5⟩
      have S5 : Hid (SliceR u5 B 10 (.slice (some ⟨g, 0, none⟩) n cap) n (updR (updR (updR (updR (updR (updR (updR fm k 0 (.string (markT (zn + 0)))) k 1 (.string (markT (zn + 1)))) k 2 (.string (markT (zn + 2)))) k 3 (.bool (((zn : Int) + 1 + 1 + 1) % 3 == 0))) k 4 (.string (markT (zn + 4)))) k 5 (.bool (((zn : Int) + 1 + 1 + 1 + 1 + 1) % 3 == 0))) k 6 (.int .i64 ((zn : Int) + 1 + 1 + 1 + 1 + 1 + 1)))) := SliceR.below (SliceR.set (SliceR.set (SliceR.set (S4.out) k 4 hlt (by omega) (.string (markT (zn + 4)))) k 5 hlt (by omega) (.bool (((zn : Int) + 1 + 1 + 1 + 1 + 1) % 3 == 0))) k 6 hlt (by omega) (.int .i64 ((zn : Int) + 1 + 1 + 1 + 1 + 1 + 1))) hb5
      have G5 : Hid (w.grownBy u5 (some g)) := grownG_below (grownG_set (grownG_set (grownG_set (G4.out) (k * 10 + 4) (.string (markT (zn + 4)))) (k * 10 + 5) (.bool (((zn : Int) + 1 + 1 + 1 + 1 + 1) % 3 == 0))) (k * 10 + 6) (.int .i64 ((zn : Int) + 1 + 1 + 1 + 1 + 1 + 1))) hb5
      clear hb5 hx4 hf4 hx5 hf5 hx6 hf6
      have hx7 := (SliceR.at10 S5.out k hlt 7 (by omega)).1
      have hf7 := (SliceR.at10 S5.out k hlt 7 (by omega)).2
      generalize (updR (updR (updR (updR (updR (updR (updR fm k 0 (.string (markT (zn + 0)))) k 1 (.string (markT (zn + 1)))) k 2 (.string (markT (zn + 2)))) k 3 (.bool (((zn : Int) + 1 + 1 + 1) % 3 == 0))) k 4 (.string (markT (zn + 4)))) k 5 (.bool (((zn : Int) + 1 + 1 + 1 + 1 + 1) % 3 == 0))) k 6 (.int .i64 ((zn : Int) + 1 + 1 + 1 + 1 + 1 + 1))) k 7 = y7 at hx7
      have hx8 := (SliceR.at10 S5.out k hlt 8 (by omega)).1
      have hf8 := (SliceR.at10 S5.out k hlt 8 (by omega)).2
      generalize (updR (updR (updR (updR (updR (updR (updR fm k 0 (.string (markT (zn + 0)))) k 1 (.string (markT (zn + 1)))) k 2 (.string (markT (zn + 2)))) k 3 (.bool (((zn : Int) + 1 + 1 + 1) % 3 == 0))) k 4 (.string (markT (zn + 4)))) k 5 (.bool (((zn : Int) + 1 + 1 + 1 + 1 + 1) % 3 == 0))) k 6 (.int .i64 ((zn : Int) + 1 + 1 + 1 + 1 + 1 + 1))) k 8 = y8 at hx8
      have hx9 := (SliceR.at10 S5.out k hlt 9 (by omega)).1
      have hf9 := (SliceR.at10 S5.out k hlt 9 (by omega)).2
      generalize (updR (updR (updR (updR (updR (updR (updR fm k 0 (.string (markT (zn + 0)))) k 1 (.string (markT (zn + 1)))) k 2 (.string (markT (zn + 2)))) k 3 (.bool (((zn : Int) + 1 + 1 + 1) % 3 == 0))) k 4 (.string (markT (zn + 4)))) k 5 (.bool (((zn : Int) + 1 + 1 + 1 + 1 + 1) % 3 == 0))) k 6 (.int .i64 ((zn : Int) + 1 + 1 + 1 + 1 + 1 + 1))) k 9 = y9 at hx9
      go_wp2
      go_roundw
      case rel =>
        refine ⟨k + 1, by omega, by go_num, val_int (by have := HNX.out; omega), ?_, ?_⟩
        · refine HEnd.out _ (SliceR.congr (SliceR.set (SliceR.set (SliceR.set (S5.out) k 7 hlt (by omega) (.string (markT (zn + 7)))) k 8 hlt (by omega) (.int .i64 ((zn : Int) + 1 + 1 + 1 + 1 + 1 + 1 + 1 + 1))) k 9 hlt (by omega) (.int .i64 ((zn : Int) + 1 + 1 + 1 + 1 + 1 + 1 + 1 + 1 + 1))) (fun j hj o ho => ?_))
          by_cases e : j = k
          · subst e
            rw [if_pos rfl]
            match o, ho with
            | 0, _ => simp [updR, markZ]
            | 1, _ => simp [updR, markZ]
            | 2, _ => simp [updR, markZ]
            | 3, _ => simp [updR, markZ]
            | 4, _ => simp [updR, markZ]
            | 5, _ => simp [updR, markZ]
            | 6, _ => simp [updR, markZ]
            | 7, _ => simp [updR, markZ]
            | 8, _ => simp [updR, markZ]
            | 9, _ => simp [updR, markZ]
          · simp [updR, e]
        · intro G hG
          obtain rfl : g = G := Option.some.inj (hG (by omega))
          exact grownG_set (grownG_set (grownG_set (G5.out) (k * 10 + 7) (.string (markT (zn + 7)))) (k * 10 + 8) (.int .i64 ((zn : Int) + 1 + 1 + 1 + 1 + 1 + 1 + 1 + 1))) (k * 10 + 9) (.int .i64 ((zn : Int) + 1 + 1 + 1 + 1 + 1 + 1 + 1 + 1 + 1))
      case measure => simp [intOf]; omega
    · obtain rfl : k = n := by omega
      have HS : Hid (SliceR wr B 10 (.slice p k cap) k (markCkC q)) := SliceR.congr HR.out (fun j hj o ho => by unfold markedC; rw [if_pos hj])
      go_wp2
      go_ret
      exact ⟨rfl, HS.out, HB.out⟩
set_option maxRecDepth 10000 in
set_option maxHeartbeats 8000000 in
theorem heldCookieS_any (a : Value) (n B q : Nat) (w : World) (ha : SliceR w B 10 a n (markCkC q)) (hn : n ≤ 1048576) (hq : 0 < q) (hq2 : q ≤ 20971520) :
    Calls Tryd.prog 67 #[a, .int .i64 (q : Int)] w fun e w' => e = .returned (.int .i64 ((q + n * 10 : Nat) : Int)) ∧ Below w.heap.size w w' := by
  obtain ⟨p, cap, rfl, h1⟩ := ha
  have HG : Hid (0 < n → ∃ g, p = some ⟨g, 0, none⟩ ∧ B ≤ g ∧ g < w.heap.size ∧ ∀ j, j < n → ∀ o, o < 10 → w.cell? ⟨g, j * 10 + o, none⟩ = some (markCkC q j o) ∧ w.frozen? ⟨g, j * 10 + o, none⟩ = false) := h1
  clear h1
  have HM : Hid (∀ (m : Nat) (W : World), 0 < m → m ≤ 9223372036854775807 → Calls Tryd.prog 100 #[.int .i64 (m : Int)] W fun e w' => e = .returned (.string (markT m)) ∧ Below W.heap.size W w') := fun m W h1 h2 => markText_any m W h1 h2
  go_enter Tryd.func67, Tryd.ntmps67
  go_wp2
  go_loopw [1, 4, 5] (fun kk r i wr => ∃ k : Nat, k ≤ n ∧ i = .int .i64 k ∧ kk = .int .i64 ((q + k * 10 : Nat) : Int) ∧ Hid (Below w.heap.size w wr)) (fun _ _ i _ => n - (intOf i).toNat)
  case atStart => exact ⟨0, by omega, rfl, by go_num, Below.refl _ _⟩
  case round =>
    obtain ⟨k, hk, rfl, rfl, HB⟩ := hrel
    by_cases hlt : k < n
    · obtain ⟨g, rfl, -, hg, hc⟩ := HG.out (by omega)
      have k0 : (0 : Int) ≤ k := by omega
      have k1 : (k : Int) < n := by omega
      have hgr : g < wr.heap.size := Nat.lt_of_lt_of_le hg HB.out.size
      have hzb : q + k * 10 ≤ 50000000 := by omega
      have hz0 : 0 < q + k * 10 := by omega
      have hx : ∀ o, o < 10 → wr.cell? ⟨g, k * 10 + o, none⟩ = some (markZ (q + k * 10) o) := fun o ho => by rw [(bcell HB.out).1 _ _ hg]; exact (hc k hlt o ho).1
      have HNX : Hid (((q + k * 10 : Nat) : Int) + 10 = ((q + (k + 1) * 10 : Nat) : Int)) := by show _ = _; omega
      clear hc
      generalize q + k * 10 = zn at *
      have c0 : wr.cell? ⟨g, k * 10, none⟩ = some (.string (markT (zn + 0))) := hx 0 (by omega)
      have c1 : wr.cell? ⟨g, k * 10 + 1, none⟩ = some (.string (markT (zn + 1))) := hx 1 (by omega)
      have c2 : wr.cell? ⟨g, k * 10 + 2, none⟩ = some (.string (markT (zn + 2))) := hx 2 (by omega)
      have c3 : wr.cell? ⟨g, k * 10 + 3, none⟩ = some (.bool (((zn : Int) + 1 + 1 + 1) % 3 == 0)) := hx 3 (by omega)
      have c4 : wr.cell? ⟨g, k * 10 + 4, none⟩ = some (.string (markT (zn + 4))) := hx 4 (by omega)
      have c5 : wr.cell? ⟨g, k * 10 + 5, none⟩ = some (.bool (((zn : Int) + 1 + 1 + 1 + 1 + 1) % 3 == 0)) := hx 5 (by omega)
      have c6 : wr.cell? ⟨g, k * 10 + 6, none⟩ = some (.int .i64 ((zn : Int) + 1 + 1 + 1 + 1 + 1 + 1)) := hx 6 (by omega)
      have c7 : wr.cell? ⟨g, k * 10 + 7, none⟩ = some (.string (markT (zn + 7))) := hx 7 (by omega)
      have c8 : wr.cell? ⟨g, k * 10 + 8, none⟩ = some (.int .i64 ((zn : Int) + 1 + 1 + 1 + 1 + 1 + 1 + 1 + 1)) := hx 8 (by omega)
      have c9 : wr.cell? ⟨g, k * 10 + 9, none⟩ = some (.int .i64 ((zn : Int) + 1 + 1 + 1 + 1 + 1 + 1 + 1 + 1 + 1)) := hx 9 (by omega)
      have HN0 : Hid (∀ W, Calls Tryd.prog 100 #[.int .i64 ((zn : Int))] W fun e w' => e = .returned (.string (markT (zn + 0))) ∧ Below W.heap.size W w') := fun W => by
        have h := HM.out (zn + 0) W (by omega) (by omega)
        have e : ((zn + 0 : Nat) : Int) = (zn : Int) := by omega
        rw [e] at h; exact h
      have HN1 : Hid (∀ W, Calls Tryd.prog 100 #[.int .i64 ((zn : Int) + 1)] W fun e w' => e = .returned (.string (markT (zn + 1))) ∧ Below W.heap.size W w') := fun W => by
        have h := HM.out (zn + 1) W (by omega) (by omega)
        have e : ((zn + 1 : Nat) : Int) = (zn : Int) + 1 := by omega
        rw [e] at h; exact h
      have HN2 : Hid (∀ W, Calls Tryd.prog 100 #[.int .i64 ((zn : Int) + 1 + 1)] W fun e w' => e = .returned (.string (markT (zn + 2))) ∧ Below W.heap.size W w') := fun W => by
        have h := HM.out (zn + 2) W (by omega) (by omega)
        have e : ((zn + 2 : Nat) : Int) = (zn : Int) + 1 + 1 := by omega
        rw [e] at h; exact h
      have HN4 : Hid (∀ W, Calls Tryd.prog 100 #[.int .i64 ((zn : Int) + 1 + 1 + 1 + 1)] W fun e w' => e = .returned (.string (markT (zn + 4))) ∧ Below W.heap.size W w') := fun W => by
        have h := HM.out (zn + 4) W (by omega) (by omega)
        have e : ((zn + 4 : Nat) : Int) = (zn : Int) + 1 + 1 + 1 + 1 := by omega
        rw [e] at h; exact h
      have HN7 : Hid (∀ W, Calls Tryd.prog 100 #[.int .i64 ((zn : Int) + 1 + 1 + 1 + 1 + 1 + 1 + 1)] W fun e w' => e = .returned (.string (markT (zn + 7))) ∧ Below W.heap.size W w') := fun W => by
        have h := HM.out (zn + 7) W (by omega) (by omega)
        have e : ((zn + 7 : Nat) : Int) = (zn : Int) + 1 + 1 + 1 + 1 + 1 + 1 + 1 := by omega
        rw [e] at h; exact h
      generalize markT (zn + 0) = t0 at *
      generalize markT (zn + 1) = t1 at *
      generalize markT (zn + 2) = t2 at *
      generalize markT (zn + 4) = t4 at *
      generalize markT (zn + 7) = t7 at *
      clear hx HM
      go_wp2_with fail
      go_region_held3 (fun w' => w'.cell? ⟨g, k * 10, none⟩ = some (.string t0) ∧ w'.cell? ⟨g, k * 10 + 1, none⟩ = some (.string t1) ∧ w'.cell? ⟨g, k * 10 + 2, none⟩ = some (.string t2) ∧ w'.cell? ⟨g, k * 10 + 3, none⟩ = some (.bool (((zn : Int) + 1 + 1 + 1) % 3 == 0)) ∧ w'.cell? ⟨g, k * 10 + 4, none⟩ = some (.string t4) ∧ w'.cell? ⟨g, k * 10 + 5, none⟩ = some (.bool (((zn : Int) + 1 + 1 + 1 + 1 + 1) % 3 == 0)) ∧ w'.cell? ⟨g, k * 10 + 6, none⟩ = some (.int .i64 ((zn : Int) + 1 + 1 + 1 + 1 + 1 + 1)) ∧ w'.cell? ⟨g, k * 10 + 7, none⟩ = some (.string t7) ∧ w'.cell? ⟨g, k * 10 + 8, none⟩ = some (.int .i64 ((zn : Int) + 1 + 1 + 1 + 1 + 1 + 1 + 1 + 1)) ∧ w'.cell? ⟨g, k * 10 + 9, none⟩ = some (.int .i64 ((zn : Int) + 1 + 1 + 1 + 1 + 1 + 1 + 1 + 1 + 1))) (go_keep)
        (first | (go_at_call 100; refine (HN0.out _).mono ?_; rintro e u1 ⟨rfl, hb1⟩; have A1 : Below wr.heap.size wr u1 := (Below.drew (Below.refl _ _)).trans hb1; have g1 : g < u1.heap.size := Nat.lt_of_lt_of_le hgr A1.size; have E1 : Hid (Below w.heap.size w u1) := HB.out.trans (A1.mono HB.out.size); have d1_0 : u1.cell? ⟨g, k * 10, none⟩ = some (.string t0) := ((bcell A1).1 _ _ hgr).trans c0; have d1_1 : u1.cell? ⟨g, k * 10 + 1, none⟩ = some (.string t1) := ((bcell A1).1 _ _ hgr).trans c1; have d1_2 : u1.cell? ⟨g, k * 10 + 2, none⟩ = some (.string t2) := ((bcell A1).1 _ _ hgr).trans c2; have d1_3 : u1.cell? ⟨g, k * 10 + 3, none⟩ = some (.bool (((zn : Int) + 1 + 1 + 1) % 3 == 0)) := ((bcell A1).1 _ _ hgr).trans c3; have d1_4 : u1.cell? ⟨g, k * 10 + 4, none⟩ = some (.string t4) := ((bcell A1).1 _ _ hgr).trans c4; have d1_5 : u1.cell? ⟨g, k * 10 + 5, none⟩ = some (.bool (((zn : Int) + 1 + 1 + 1 + 1 + 1) % 3 == 0)) := ((bcell A1).1 _ _ hgr).trans c5; have d1_6 : u1.cell? ⟨g, k * 10 + 6, none⟩ = some (.int .i64 ((zn : Int) + 1 + 1 + 1 + 1 + 1 + 1)) := ((bcell A1).1 _ _ hgr).trans c6; have d1_7 : u1.cell? ⟨g, k * 10 + 7, none⟩ = some (.string t7) := ((bcell A1).1 _ _ hgr).trans c7; have d1_8 : u1.cell? ⟨g, k * 10 + 8, none⟩ = some (.int .i64 ((zn : Int) + 1 + 1 + 1 + 1 + 1 + 1 + 1 + 1)) := ((bcell A1).1 _ _ hgr).trans c8; have d1_9 : u1.cell? ⟨g, k * 10 + 9, none⟩ = some (.int .i64 ((zn : Int) + 1 + 1 + 1 + 1 + 1 + 1 + 1 + 1 + 1)) := ((bcell A1).1 _ _ hgr).trans c9))
      clear hb1 A1 c0 c1 c2 c3 c4 c5 c6 c7 c8 c9
      go_wp2_with fail
      go_region_held3 (fun w' => w'.cell? ⟨g, k * 10 + 1, none⟩ = some (.string t1) ∧ w'.cell? ⟨g, k * 10 + 2, none⟩ = some (.string t2) ∧ w'.cell? ⟨g, k * 10 + 3, none⟩ = some (.bool (((zn : Int) + 1 + 1 + 1) % 3 == 0)) ∧ w'.cell? ⟨g, k * 10 + 4, none⟩ = some (.string t4) ∧ w'.cell? ⟨g, k * 10 + 5, none⟩ = some (.bool (((zn : Int) + 1 + 1 + 1 + 1 + 1) % 3 == 0)) ∧ w'.cell? ⟨g, k * 10 + 6, none⟩ = some (.int .i64 ((zn : Int) + 1 + 1 + 1 + 1 + 1 + 1)) ∧ w'.cell? ⟨g, k * 10 + 7, none⟩ = some (.string t7) ∧ w'.cell? ⟨g, k * 10 + 8, none⟩ = some (.int .i64 ((zn : Int) + 1 + 1 + 1 + 1 + 1 + 1 + 1 + 1)) ∧ w'.cell? ⟨g, k * 10 + 9, none⟩ = some (.int .i64 ((zn : Int) + 1 + 1 + 1 + 1 + 1 + 1 + 1 + 1 + 1))) (go_keep)
        (first | (go_at_call 100; refine (HN1.out _).mono ?_; rintro e u2 ⟨rfl, hb2⟩; have A2 : Below u1.heap.size u1 u2 := (Below.drew (Below.refl _ _)).trans hb2; have g2 : g < u2.heap.size := Nat.lt_of_lt_of_le g1 A2.size; have E2 : Hid (Below w.heap.size w u2) := E1.out.trans (A2.mono E1.out.size); have d2_1 : u2.cell? ⟨g, k * 10 + 1, none⟩ = some (.string t1) := ((bcell A2).1 _ _ g1).trans d1_1; have d2_2 : u2.cell? ⟨g, k * 10 + 2, none⟩ = some (.string t2) := ((bcell A2).1 _ _ g1).trans d1_2; have d2_3 : u2.cell? ⟨g, k * 10 + 3, none⟩ = some (.bool (((zn : Int) + 1 + 1 + 1) % 3 == 0)) := ((bcell A2).1 _ _ g1).trans d1_3; have d2_4 : u2.cell? ⟨g, k * 10 + 4, none⟩ = some (.string t4) := ((bcell A2).1 _ _ g1).trans d1_4; have d2_5 : u2.cell? ⟨g, k * 10 + 5, none⟩ = some (.bool (((zn : Int) + 1 + 1 + 1 + 1 + 1) % 3 == 0)) := ((bcell A2).1 _ _ g1).trans d1_5; have d2_6 : u2.cell? ⟨g, k * 10 + 6, none⟩ = some (.int .i64 ((zn : Int) + 1 + 1 + 1 + 1 + 1 + 1)) := ((bcell A2).1 _ _ g1).trans d1_6; have d2_7 : u2.cell? ⟨g, k * 10 + 7, none⟩ = some (.string t7) := ((bcell A2).1 _ _ g1).trans d1_7; have d2_8 : u2.cell? ⟨g, k * 10 + 8, none⟩ = some (.int .i64 ((zn : Int) + 1 + 1 + 1 + 1 + 1 + 1 + 1 + 1)) := ((bcell A2).1 _ _ g1).trans d1_8; have d2_9 : u2.cell? ⟨g, k * 10 + 9, none⟩ = some (.int .i64 ((zn : Int) + 1 + 1 + 1 + 1 + 1 + 1 + 1 + 1 + 1)) := ((bcell A2).1 _ _ g1).trans d1_9))
      clear hb2 A2 d1_0 d1_1 d1_2 d1_3 d1_4 d1_5 d1_6 d1_7 d1_8 d1_9
      go_wp2_with fail
      go_region_held3 (fun w' => w'.cell? ⟨g, k * 10 + 2, none⟩ = some (.string t2) ∧ w'.cell? ⟨g, k * 10 + 3, none⟩ = some (.bool (((zn : Int) + 1 + 1 + 1) % 3 == 0)) ∧ w'.cell? ⟨g, k * 10 + 4, none⟩ = some (.string t4) ∧ w'.cell? ⟨g, k * 10 + 5, none⟩ = some (.bool (((zn : Int) + 1 + 1 + 1 + 1 + 1) % 3 == 0)) ∧ w'.cell? ⟨g, k * 10 + 6, none⟩ = some (.int .i64 ((zn : Int) + 1 + 1 + 1 + 1 + 1 + 1)) ∧ w'.cell? ⟨g, k * 10 + 7, none⟩ = some (.string t7) ∧ w'.cell? ⟨g, k * 10 + 8, none⟩ = some (.int .i64 ((zn : Int) + 1 + 1 + 1 + 1 + 1 + 1 + 1 + 1)) ∧ w'.cell? ⟨g, k * 10 + 9, none⟩ = some (.int .i64 ((zn : Int) + 1 + 1 + 1 + 1 + 1 + 1 + 1 + 1 + 1))) (go_keep)
        (first | (go_at_call 100; refine (HN2.out _).mono ?_; rintro e u3 ⟨rfl, hb3⟩; have A3 : Below u2.heap.size u2 u3 := (Below.drew (Below.refl _ _)).trans hb3; have g3 : g < u3.heap.size := Nat.lt_of_lt_of_le g2 A3.size; have E3 : Hid (Below w.heap.size w u3) := E2.out.trans (A3.mono E2.out.size); have d3_2 : u3.cell? ⟨g, k * 10 + 2, none⟩ = some (.string t2) := ((bcell A3).1 _ _ g2).trans d2_2; have d3_3 : u3.cell? ⟨g, k * 10 + 3, none⟩ = some (.bool (((zn : Int) + 1 + 1 + 1) % 3 == 0)) := ((bcell A3).1 _ _ g2).trans d2_3; have d3_4 : u3.cell? ⟨g, k * 10 + 4, none⟩ = some (.string t4) := ((bcell A3).1 _ _ g2).trans d2_4; have d3_5 : u3.cell? ⟨g, k * 10 + 5, none⟩ = some (.bool (((zn : Int) + 1 + 1 + 1 + 1 + 1) % 3 == 0)) := ((bcell A3).1 _ _ g2).trans d2_5; have d3_6 : u3.cell? ⟨g, k * 10 + 6, none⟩ = some (.int .i64 ((zn : Int) + 1 + 1 + 1 + 1 + 1 + 1)) := ((bcell A3).1 _ _ g2).trans d2_6; have d3_7 : u3.cell? ⟨g, k * 10 + 7, none⟩ = some (.string t7) := ((bcell A3).1 _ _ g2).trans d2_7; have d3_8 : u3.cell? ⟨g, k * 10 + 8, none⟩ = some (.int .i64 ((zn : Int) + 1 + 1 + 1 + 1 + 1 + 1 + 1 + 1)) := ((bcell A3).1 _ _ g2).trans d2_8; have d3_9 : u3.cell? ⟨g, k * 10 + 9, none⟩ = some (.int .i64 ((zn : Int) + 1 + 1 + 1 + 1 + 1 + 1 + 1 + 1 + 1)) := ((bcell A3).1 _ _ g2).trans d2_9))
      clear hb3 A3 d2_1 d2_2 d2_3 d2_4 d2_5 d2_6 d2_7 d2_8 d2_9
      go_wp2_with fail
      go_region_held3 (fun w' => w'.cell? ⟨g, k * 10 + 4, none⟩ = some (.string t4) ∧ w'.cell? ⟨g, k * 10 + 5, none⟩ = some (.bool (((zn : Int) + 1 + 1 + 1 + 1 + 1) % 3 == 0)) ∧ w'.cell? ⟨g, k * 10 + 6, none⟩ = some (.int .i64 ((zn : Int) + 1 + 1 + 1 + 1 + 1 + 1)) ∧ w'.cell? ⟨g, k * 10 + 7, none⟩ = some (.string t7) ∧ w'.cell? ⟨g, k * 10 + 8, none⟩ = some (.int .i64 ((zn : Int) + 1 + 1 + 1 + 1 + 1 + 1 + 1 + 1)) ∧ w'.cell? ⟨g, k * 10 + 9, none⟩ = some (.int .i64 ((zn : Int) + 1 + 1 + 1 + 1 + 1 + 1 + 1 + 1 + 1))) (go_keep)
        (first | (go_at_call 100; refine (HN4.out _).mono ?_; rintro e u4 ⟨rfl, hb4⟩; have A4 : Below u3.heap.size u3 u4 := (Below.drew (Below.refl _ _)).trans hb4; have g4 : g < u4.heap.size := Nat.lt_of_lt_of_le g3 A4.size; have E4 : Hid (Below w.heap.size w u4) := E3.out.trans (A4.mono E3.out.size); have d4_4 : u4.cell? ⟨g, k * 10 + 4, none⟩ = some (.string t4) := ((bcell A4).1 _ _ g3).trans d3_4; have d4_5 : u4.cell? ⟨g, k * 10 + 5, none⟩ = some (.bool (((zn : Int) + 1 + 1 + 1 + 1 + 1) % 3 == 0)) := ((bcell A4).1 _ _ g3).trans d3_5; have d4_6 : u4.cell? ⟨g, k * 10 + 6, none⟩ = some (.int .i64 ((zn : Int) + 1 + 1 + 1 + 1 + 1 + 1)) := ((bcell A4).1 _ _ g3).trans d3_6; have d4_7 : u4.cell? ⟨g, k * 10 + 7, none⟩ = some (.string t7) := ((bcell A4).1 _ _ g3).trans d3_7; have d4_8 : u4.cell? ⟨g, k * 10 + 8, none⟩ = some (.int .i64 ((zn : Int) + 1 + 1 + 1 + 1 + 1 + 1 + 1 + 1)) := ((bcell A4).1 _ _ g3).trans d3_8; have d4_9 : u4.cell? ⟨g, k * 10 + 9, none⟩ = some (.int .i64 ((zn : Int) + 1 + 1 + 1 + 1 + 1 + 1 + 1 + 1 + 1)) := ((bcell A4).1 _ _ g3).trans d3_9))
      clear hb4 A4 d3_2 d3_3 d3_4 d3_5 d3_6 d3_7 d3_8 d3_9
      go_wp2_with fail
      go_region_held3 (fun w' => w'.cell? ⟨g, k * 10 + 7, none⟩ = some (.string t7) ∧ w'.cell? ⟨g, k * 10 + 8, none⟩ = some (.int .i64 ((zn : Int) + 1 + 1 + 1 + 1 + 1 + 1 + 1 + 1)) ∧ w'.cell? ⟨g, k * 10 + 9, none⟩ = some (.int .i64 ((zn : Int) + 1 + 1 + 1 + 1 + 1 + 1 + 1 + 1 + 1))) (go_keep)
        (first | (go_at_call 100; refine (HN7.out _).mono ?_; rintro e u5 ⟨rfl, hb5⟩; have A5 : Below u4.heap.size u4 u5 := (Below.drew (Below.refl _ _)).trans hb5; have g5 : g < u5.heap.size := Nat.lt_of_lt_of_le g4 A5.size; have E5 : Hid (Below w.heap.size w u5) := E4.out.trans (A5.mono E4.out.size); have d5_7 : u5.cell? ⟨g, k * 10 + 7, none⟩ = some (.string t7) := ((bcell A5).1 _ _ g4).trans d4_7; have d5_8 : u5.cell? ⟨g, k * 10 + 8, none⟩ = some (.int .i64 ((zn : Int) + 1 + 1 + 1 + 1 + 1 + 1 + 1 + 1)) := ((bcell A5).1 _ _ g4).trans d4_8; have d5_9 : u5.cell? ⟨g, k * 10 + 9, none⟩ = some (.int .i64 ((zn : Int) + 1 + 1 + 1 + 1 + 1 + 1 + 1 + 1 + 1)) := ((bcell A5).1 _ _ g4).trans d4_9))
      clear hb5 A5 d4_4 d4_5 d4_6 d4_7 d4_8 d4_9
      go_wp2
      go_roundw
      case rel => exact ⟨k + 1, by omega, by go_num, val_int (by have := HNX.out; omega), E5⟩
      case measure => simp [intOf]; omega
    · obtain rfl : k = n := by omega
      go_wp2
      go_ret
      exact ⟨rfl, HB.out⟩
end Go.Proofs.YtfoekelhcmlagaaDoor

/- Slices of cookies while others are marked. -/
namespace Go.Proofs.YtfoekelhcmlagaaDoor
open Go.RowKit

theorem SliceR.place {w : World} {B sz n : Nat} {v : Value} {f : Nat → Nat → Value} (h : SliceR w B sz v n f) : 0 < n → ∃ g, v.ownBlock = some g ∧ B ≤ g ∧ g < w.heap.size := by
  obtain ⟨p, cap, rfl, h⟩ := h
  intro hn
  obtain ⟨g, rfl, hB, hg, -⟩ := h hn
  exact ⟨g, rfl, hB, hg⟩
theorem SliceR.keepG {w w' : World} {B sz n G : Nat} {v : Value} {f : Nat → Nat → Value} (h : SliceR w B sz v n f) (hg : w.grownBy w' (some G)) (hne : 0 < n → ∃ g, v.ownBlock = some g ∧ g ≠ G) : SliceR w' B sz v n f := by
  obtain ⟨p, cap, rfl, h⟩ := h
  refine ⟨p, cap, rfl, fun hn => ?_⟩
  obtain ⟨g, rfl, hB, hgw, hc⟩ := h hn
  obtain ⟨g', e, hn'⟩ := hne hn
  obtain rfl : g = g' := Option.some.inj e
  have hb : w'.heap[g]? = w.heap[g]? := hg.block g hgw (fun e => hn' (Option.some.inj e))
  refine ⟨g, rfl, hB, Nat.lt_of_lt_of_le hgw hg.size, fun j hj o ho => ⟨?_, ?_⟩⟩
  · rw [World.cell?_of_block (a := ⟨g, j * sz + o, none⟩) hb]; exact (hc j hj o ho).1
  · rw [World.frozen?_of_block (a := ⟨g, j * sz + o, none⟩) hb]; exact (hc j hj o ho).2
theorem SliceC.keepG {w w' : World} {B G : Nat} {v : Value} {L : List Ck} (h : SliceC w B v L) (hg : w.grownBy w' (some G)) (hne : 0 < L.length → ∃ g, v.ownBlock = some g ∧ g ≠ G) : SliceC w' B v L := ⟨h.1.keepG hg hne, h.2⟩
theorem markC_call (a : Value) (L : List Ck) (B : Nat) (w : World) (ha : SliceC w B a L) (hB : B ≤ w.heap.size) (hn : L.length ≤ 1048576) :
    Calls Tryd.prog 62 #[a, .int .i64 1] w fun e w' => e = .returned (.int .i64 ((1 + L.length * 10 : Nat) : Int)) ∧ SliceR w' B 10 a L.length (markCkC 1) ∧ ∃ G, B ≤ G ∧ (0 < L.length → a.ownBlock = some G) ∧ (¬ 0 < L.length → w.heap.size ≤ G) ∧ w.grownBy w' (some G) := by
  refine (markCookieS_any a L.length B 1 _ w ha.1 hn (by decide) (by decide)).mono ?_
  rintro e w' ⟨rfl, h2, h3⟩
  refine ⟨rfl, h2, ?_⟩
  by_cases h0 : 0 < L.length
  · obtain ⟨g, e, hBg, -⟩ := ha.1.place h0
    exact ⟨g, hBg, fun _ => e, fun h => absurd h0 h, h3 g (fun _ => e)⟩
  · exact ⟨w.heap.size, hB, fun h => absurd h h0, fun _ => Nat.le_refl _, h3 _ (fun h => absurd h h0)⟩
end Go.Proofs.YtfoekelhcmlagaaDoor

/- The law FnExactJarRight, walked. -/
namespace Go.Proofs.YtfoekelhcmlagaaDoor
open Go.RowKit

/-- the texts of cookies are no longer than what is asked -/
def szJ (L : List Ck) : Prop := ∀ i, i < L.length → (atC L i).na.size + (atC L i).va.size + (atC L i).ho.size + (atC L i).pa.size + (atC L i).pt.size ≤ 1048576
set_option maxRecDepth 10000 in
set_option maxHeartbeats 4000000 in
theorem lawJarRight_any (a : Option Addr) (cap : Nat) (L : List Ck) (w : World) (hG : MaxI w) (hr : CkRow w a L) (hn : L.length ≤ maxLen) :
    Calls Tryd.prog 9 #[.slice a L.length cap] w fun e w' => e = .returned (.bool true) ∧ Below w.heap.size w w' := by
  have HR : Hid (CkRow w a L) := hr
  have HG : Hid (MaxI w) := hG
  clear hr hG
  go_enter Tryd.func9, Tryd.ntmps9
  go_wp2_with fail
  refine (szCookieS_any a cap L 1048576 _ HR.out hn (by decide) (by decide)).mono ?_
  rintro e w0 ⟨⟨r, rfl, hr⟩, hb0⟩
  have B0 : Hid (Below w.heap.size w w0) := hb0
  clear hb0
  rcases hr with hr | ⟨r0, r1, hl, hf⟩
  · go_wp2
    go_ret
    exact ⟨rfl, B0.out⟩
  have q : decide (r < 0) = false := by rw [decide_eq_false_iff_not]; omega
  have HF : Hid (szJ L) := hf
  clear hf r0 r1
  go_wp2_with fail
  refine (toCookieS_any a cap L _ (HR.out.below B0.out) hl).mono ?_
  rintro e w1 ⟨v1, rfl, s1, hb1⟩
  have B1 : Hid (Below w.heap.size w w1) := B0.out.trans (hb1.mono B0.out.size)
  have KS : Hid (Calls Tryd.prog 52 #[v1] w1 fun e w' => e = .returned (.bool (jarB L)) ∧ Below w1.heap.size w1 w') := specJar_any v1 L _ w1 s1 hl (fun i hi => by have := HF.out i hi; omega)
  have KI : Hid (∀ (v : Value) (B : Nat) (W : World), Below w.heap.size w W → SliceC W B v L → Calls Tryd.prog 54 #[v] W fun e w' => e = .returned (.bool (jarB L)) ∧ Below W.heap.size W w') := fun v B W a b => jarRight_any v L B W (HG.out.on a) b hl (fun i hi => by have := HF.out i hi; omega)
  clear s1 hb1 HG HF
  generalize jarB L = d at *
  go_wp2_with fail
  refine KS.out.mono ?_
  rintro e w2 ⟨rfl, hb2⟩
  have B2 : Hid (Below w.heap.size w w2) := B1.out.trans (hb2.mono B1.out.size)
  clear hb2 KS
  go_wp2_with fail
  refine (toCookieS_any a cap L _ (HR.out.below B2.out) hl).mono ?_
  rintro e w4 ⟨v4, rfl, s4, hb4⟩
  have B4 : Hid (Below w.heap.size w w4) := B2.out.trans (hb4.mono B2.out.size)
  have S4 : Hid (SliceC w4 w2.heap.size v4 L) := s4
  clear hb4 s4
  go_wp2_with fail
  refine (KI.out v4 _ w4 B4.out S4.out).mono ?_
  rintro e w5 ⟨rfl, hb5⟩
  have B5 : Hid (Below w.heap.size w w5) := B4.out.trans (hb5.mono B4.out.size)
  have S5 : Hid (SliceC w5 w2.heap.size v4 L) := S4.out.below hb5
  clear hb5
  cases d
  all_goals
    go_wp2_with fail
    refine (toCookieS_any a cap L _ (HR.out.below B5.out) hl).mono ?_
    rintro e w7 ⟨v7, rfl, s7, hb7⟩
    have S7 := S5.out.below hb7
    have B7 : Hid (Below w.heap.size w w7) := B5.out.trans (hb7.mono B5.out.size)
    clear hb7
    go_wp2_with fail
    refine (eqCookieS_any v4 v7 L _ _ _ S7 s7 hl).mono ?_
    rintro e w8 ⟨rfl, hb8⟩
    go_wp2
    go_ret
    exact ⟨rfl, B7.out.trans (hb8.mono B7.out.size)⟩
end Go.Proofs.YtfoekelhcmlagaaDoor

/- The law FnExactJarOld, walked. -/
namespace Go.Proofs.YtfoekelhcmlagaaDoor
open Go.RowKit

set_option maxRecDepth 10000 in
set_option maxHeartbeats 4000000 in
theorem lawJarOld_any (a : Option Addr) (cap : Nat) (L : List Ck) (now : Int) (w : World) (hG : MaxI w) (hr : CkRow w a L) (hn : L.length ≤ maxLen) :
    Calls Tryd.prog 12 #[.slice a L.length cap, .int .i64 now] w fun e w' => e = .returned (.bool true) ∧ Below w.heap.size w w' := by
  have HR : Hid (CkRow w a L) := hr
  have HG : Hid (MaxI w) := hG
  clear hr hG
  go_enter Tryd.func12, Tryd.ntmps12
  go_wp2_with fail
  refine (szCookieS_any a cap L 1048576 _ HR.out hn (by decide) (by decide)).mono ?_
  rintro e w0 ⟨⟨r, rfl, hr⟩, hb0⟩
  have B0 : Hid (Below w.heap.size w w0) := hb0
  clear hb0
  rcases hr with hr | ⟨r0, r1, hl, hf⟩
  · go_wp2
    go_ret
    exact ⟨rfl, B0.out⟩
  have q : decide (r < 0) = false := by rw [decide_eq_false_iff_not]; omega
  have HF : Hid (szJ L) := hf
  clear hf r0 r1
  have KT : Hid (∀ W, Below w.heap.size w W → Calls Tryd.prog 53 #[.slice a L.length cap] W fun e w' => ∃ v, e = .returned v ∧ SliceC w' W.heap.size v L ∧ Below W.heap.size W w') := fun W hb => toCookieS_any a cap L W (HR.out.below hb) hl
  have KS : Hid (∀ (v : Value) (B : Nat) (W : World), SliceC W B v L → Calls Tryd.prog 65 #[v, .int .i64 now] W fun e w' => ∃ v', e = .returned v' ∧ SliceC w' W.heap.size v' (oldL L now) ∧ Below W.heap.size W w') := fun v B W s => specOld_any v L now B W s hl (fun i hi => by have := HF.out i hi; omega)
  have KI : Hid (∀ (v : Value) (B : Nat) (W : World), Below w.heap.size w W → SliceC W B v L → Calls Tryd.prog 66 #[v, .int .i64 now] W fun e w' => ∃ v', e = .returned v' ∧ SliceC w' W.heap.size v' (oldL L now) ∧ Below W.heap.size W w') := fun v B W a b => jarOld_any v L now B W (HG.out.on a) b hl (fun i hi => by have := HF.out i hi; omega)
  have hZ := oldL_len L now
  clear HG HF HR
  generalize oldL L now = Z at *
  go_wp2_with fail
  refine (KT.out _ B0.out).mono ?_
  rintro e w1 ⟨v1, rfl, s1, hb1⟩
  have B1 : Hid (Below w.heap.size w w1) := B0.out.trans (hb1.mono B0.out.size)
  have S1 : Hid (SliceC w1 w0.heap.size v1 L) := s1
  clear s1 hb1
  go_wp2_with fail
  refine (KS.out _ _ _ S1.out).mono ?_
  rintro e w2 ⟨vs, rfl, s2, hb2⟩
  have B2 : Hid (Below w.heap.size w w2) := B1.out.trans (hb2.mono B1.out.size)
  have S2 : Hid (SliceC w2 w1.heap.size vs Z) := s2
  have P2 : Hid (0 < Z.length → ∃ g, vs.ownBlock = some g ∧ w1.heap.size ≤ g ∧ g < w2.heap.size) := s2.1.place
  clear s2 hb2 S1 KS B1
  go_wp2_with fail
  refine (KT.out _ B2.out).mono ?_
  rintro e w3 ⟨vx, rfl, s3, hb3⟩
  have B3 : Hid (Below w.heap.size w w3) := B2.out.trans (hb3.mono B2.out.size)
  have S2_3 : Hid (SliceC w3 w1.heap.size vs Z) := S2.out.below hb3
  have S3 : Hid (SliceC w3 w2.heap.size vx L) := s3
  have P3 : Hid (0 < L.length → ∃ g, vx.ownBlock = some g ∧ w2.heap.size ≤ g ∧ g < w3.heap.size) := s3.1.place
  have z23 : w2.heap.size ≤ w3.heap.size := hb3.size
  clear s3 hb3 S2
  go_wp2_with fail
  refine (KI.out _ _ _ B3.out S3.out).mono ?_
  rintro e w4 ⟨vg, rfl, s4, hb4⟩
  have B4 : Hid (Below w.heap.size w w4) := B3.out.trans (hb4.mono B3.out.size)
  have S2_4 : Hid (SliceC w4 w1.heap.size vs Z) := S2_3.out.below hb4
  have S3_4 : Hid (SliceC w4 w2.heap.size vx L) := S3.out.below hb4
  have S4 : Hid (SliceC w4 w3.heap.size vg Z) := s4
  have P4 : Hid (0 < Z.length → ∃ g, vg.ownBlock = some g ∧ w3.heap.size ≤ g ∧ g < w4.heap.size) := s4.1.place
  have z34 : w3.heap.size ≤ w4.heap.size := hb4.size
  clear s4 hb4 S2_3 S3
  go_wp2_with fail
  refine (eqCookieS_any vg vs Z _ _ _ S4.out S2_4.out (by omega)).mono ?_
  rintro e w5 ⟨rfl, hb5⟩
  have B5 : Hid (Below w.heap.size w w5) := B4.out.trans (hb5.mono B4.out.size)
  have S2_5 : Hid (SliceC w5 w1.heap.size vs Z) := S2_4.out.below hb5
  have S3_5 : Hid (SliceC w5 w2.heap.size vx L) := S3_4.out.below hb5
  have S4_5 : Hid (SliceC w5 w3.heap.size vg Z) := S4.out.below hb5
  have z45 : w4.heap.size ≤ w5.heap.size := hb5.size
  clear hb5 S2_4 S3_4 S4
  go_wp2_with fail
  refine (KT.out _ B5.out).mono ?_
  rintro e w6 ⟨v6, rfl, s6, hb6⟩
  have B6 : Hid (Below w.heap.size w w6) := B5.out.trans (hb6.mono B5.out.size)
  have S2_6 : Hid (SliceC w6 w1.heap.size vs Z) := S2_5.out.below hb6
  have S3_6 : Hid (SliceC w6 w2.heap.size vx L) := S3_5.out.below hb6
  have S4_6 : Hid (SliceC w6 w3.heap.size vg Z) := S4_5.out.below hb6
  have S6 : Hid (SliceC w6 w5.heap.size v6 L) := s6
  have z56 : w5.heap.size ≤ w6.heap.size := hb6.size
  clear hb6 s6 S2_5 S3_5 S4_5
  go_wp2_with fail
  refine (eqCookieS_any vx v6 L _ _ _ S3_6.out S6.out hl).mono ?_
  rintro e w7 ⟨rfl, hb7⟩
  have B7 : Hid (Below w.heap.size w w7) := B6.out.trans (hb7.mono B6.out.size)
  have S2_7 : Hid (SliceC w7 w1.heap.size vs Z) := S2_6.out.below hb7
  have S3_7 : Hid (SliceC w7 w2.heap.size vx L) := S3_6.out.below hb7
  have S4_7 : Hid (SliceC w7 w3.heap.size vg Z) := S4_6.out.below hb7
  have z67 : w6.heap.size ≤ w7.heap.size := hb7.size
  clear hb7 S2_6 S3_6 S4_6 S6
  go_wp2_with fail
  refine (markC_call vx L w2.heap.size w7 S3_7.out (by omega) hl).mono ?_
  rintro e w8 ⟨rfl, -, G, hG1, hG2, hG3, hg8⟩
  have S2_8 : Hid (SliceC w8 w1.heap.size vs Z) := S2_7.out.keepG hg8 (fun h => by obtain ⟨g, e, h1, h2⟩ := P2.out h; exact ⟨g, e, by omega⟩)
  have S4_8 : Hid (SliceC w8 w3.heap.size vg Z) := S4_7.out.keepG hg8 (fun h => by
    obtain ⟨g, e, h1, h2⟩ := P4.out h
    refine ⟨g, e, ?_⟩
    by_cases h0 : 0 < L.length
    · obtain ⟨g', e', h1', h2'⟩ := P3.out h0
      have e2 := hG2 h0
      rw [e'] at e2
      have := Option.some.inj e2
      omega
    · have := hG3 h0; omega)
  have B8 : Hid (Below w.heap.size w w8) := B7.out.grown hg8 B7.out.size (fun j hj => by have := Option.some.inj hj; have := B2.out.size; omega)
  have z78 : w7.heap.size ≤ w8.heap.size := hg8.size
  have hm0 : decide ((((1 + L.length * 10 : Nat) : Int)) < 0) = false := by rw [decide_eq_false_iff_not]; omega
  clear hg8 hG1 hG2 hG3 S2_7 S3_7 S4_7 P3
  generalize ((1 + L.length * 10 : Nat) : Int) = mL at *
  go_wp2_with fail
  refine (eqCookieS_any vg vs Z _ _ _ S4_8.out S2_8.out (by omega)).mono ?_
  rintro e w9 ⟨rfl, hb9⟩
  have B9 : Hid (Below w.heap.size w w9) := B8.out.trans (hb9.mono B8.out.size)
  have S2_9 : Hid (SliceC w9 w1.heap.size vs Z) := S2_8.out.below hb9
  have S4_9 : Hid (SliceC w9 w3.heap.size vg Z) := S4_8.out.below hb9
  have z89 : w8.heap.size ≤ w9.heap.size := hb9.size
  clear hb9 S2_8 S4_8
  go_wp2_with fail
  refine (markC_call vg Z w3.heap.size w9 S4_9.out (by omega) (by omega)).mono ?_
  rintro e w10 ⟨rfl, s10, G, hG1, hG2, hG3, hg10⟩
  have S2_10 : Hid (SliceC w10 w1.heap.size vs Z) := S2_9.out.keepG hg10 (fun h => by obtain ⟨g, e, h1, h2⟩ := P2.out h; exact ⟨g, e, by omega⟩)
  have S10 : Hid (SliceR w10 w3.heap.size 10 vg Z.length (markCkC 1)) := s10
  have B10 : Hid (Below w.heap.size w w10) := B9.out.grown hg10 B9.out.size (fun j hj => by have := Option.some.inj hj; have := B2.out.size; omega)
  have KH : Hid (∀ W, Below w10.heap.size w10 W → Calls Tryd.prog 67 #[vg, .int .i64 1] W fun e w' => e = .returned (.int .i64 ((1 + Z.length * 10 : Nat) : Int)) ∧ Below W.heap.size W w') := fun W hb => heldCookieS_any vg Z.length _ 1 W (SliceR.below S10.out hb) (by omega) (by decide) (by decide)
  have hm1 : decide ((((1 + Z.length * 10 : Nat) : Int)) < 0) = false := by rw [decide_eq_false_iff_not]; omega
  clear hg10 hG1 hG2 hG3 S2_9 S4_9 s10 S10 P2 P4
  generalize ((1 + Z.length * 10 : Nat) : Int) = mZ at *
  go_wp2_with fail
  refine (KH.out _ (Below.refl _ _)).mono ?_
  rintro e w11 ⟨rfl, hb11⟩
  have B11 : Hid (Below w.heap.size w w11) := B10.out.trans (hb11.mono B10.out.size)
  have A11 : Hid (Below w10.heap.size w10 w11) := hb11
  have S2_11 : Hid (SliceC w11 w1.heap.size vs Z) := S2_10.out.below hb11
  clear hb11 S2_10
  go_wp2_with fail
  refine (KT.out _ B11.out).mono ?_
  rintro e w12 ⟨v12, rfl, s12, hb12⟩
  have B12 : Hid (Below w.heap.size w w12) := B11.out.trans (hb12.mono B11.out.size)
  have A12 : Hid (Below w10.heap.size w10 w12) := A11.out.trans (hb12.mono A11.out.size)
  have S2_12 : Hid (SliceC w12 w1.heap.size vs Z) := S2_11.out.below hb12
  have S12 : Hid (SliceC w12 w11.heap.size v12 L) := s12
  clear hb12 s12 S2_11
  go_wp2_with fail
  refine (KI.out _ _ _ B12.out S12.out).mono ?_
  rintro e w13 ⟨vh, rfl, s13, hb13⟩
  have B13 : Hid (Below w.heap.size w w13) := B12.out.trans (hb13.mono B12.out.size)
  have A13 : Hid (Below w10.heap.size w10 w13) := A12.out.trans (hb13.mono A12.out.size)
  have S2_13 : Hid (SliceC w13 w1.heap.size vs Z) := S2_12.out.below hb13
  have S13 : Hid (SliceC w13 w12.heap.size vh Z) := s13
  clear hb13 s13 S2_12 S12
  go_wp2_with fail
  refine (eqCookieS_any vh vs Z _ _ _ S13.out S2_13.out (by omega)).mono ?_
  rintro e w14 ⟨rfl, hb14⟩
  have B14 : Hid (Below w.heap.size w w14) := B13.out.trans (hb14.mono B13.out.size)
  have A14 : Hid (Below w10.heap.size w10 w14) := A13.out.trans (hb14.mono A13.out.size)
  clear hb14
  go_wp2_with fail
  refine (KH.out _ A14.out).mono ?_
  rintro e w15 ⟨rfl, hb15⟩
  go_wp2
  go_ret
  exact ⟨rfl, B14.out.trans (hb15.mono B14.out.size)⟩
end Go.Proofs.YtfoekelhcmlagaaDoor

/- The lifting of a law's walk to a row that lists package-level variables, the world's shape kept; what the shape and the list give a walk. -/
namespace Go.Proofs.YtfoekelhcmlagaaDoor
open Go.RowKit

theorem Ld.own : ownKnob Tryd.prog.godebug = none := by kernel_rfl
theorem Ld.laidOut : laidOutB Tryd.prog = true := by kernel_rfl
set_option maxRecDepth 10000 in
theorem lift_laid {H : Type} {enc : TypeId × Value → H} {os : Os} {f : FuncId} {fn : Func} {s : ChangeSpec} {X : World → Prop} (hX : ∀ (w w' : World), w.heap = w'.heap → X w → X w')
    (started : os.Started) (noInit : Tryd.prog.inits.idxOf? f = none) (hfn : Tryd.prog.funcs[f]? = some fn)
    (start : ∃ (w : World) (tape : Tape) (i : Input), w.os = os ∧ (w.forCall tape i).Shaped Tryd.prog ∧ i.vars = [] ∧ Input.okWide Tryd.prog (w.forCall tape i) .any w.heap.size f i ∧
      ((s.pre enc Tryd.prog fn [] false (w.forCall tape i).memory i.args ∧ X (w.forCall tape i).memory) ∧ sizedMet enc Tryd.prog fn (OpenSpec.ofChange s) false (w.forCall tape i).memory i.args) ∧ Assume.holds {} Tryd.prog (lone (Frame.enter Tryd.prog f i.args .normal) [] (w.forCall tape i)))
    (walk : ∀ (W : World) (base : Nat) (args : Array Value) (ds gs : List (DataW H)) (before : List MemPlace),
      (∀ (j : Nat) t v, fn.params[j]? = some t → args[j]? = some v → Value.okWide Tryd.prog W .any base t v) →
      DataW.Whole enc Tryd.prog fn.params.toList s.vars false W args.toList ds gs before → X W → W.ShapedOpen Tryd.prog →
      Calls Tryd.prog f args W fun e W' => ∃ v, e = .returned v ∧ s.post enc Tryd.prog fn false true false false W args v W') :
    ReturnsInHanded {} Tryd.checked os f .any (fun w args => (s.pre enc Tryd.prog fn [] false w args ∧ X w) ∧ sizedMet enc Tryd.prog fn (OpenSpec.ofChange s) false w args) (s.post enc Tryd.prog fn false true false false) := by
  refine returnsInHanded_of_calls (C := Tryd.checked) Ld.own started noInit start ?_
  intro w tape i _ hsh _ hok hpre _
  obtain ⟨_, _, _, fn2, hfn2, _, _, _, _, hval⟩ := hok
  obtain rfl : fn2 = fn := Option.some.inj (hfn2.symm.trans hfn)
  obtain ⟨⟨⟨ds, gs, before, hw, _⟩, hx⟩, _⟩ := hpre
  have hw2 := DataW.Whole.of_heap (w' := w.forCall tape i) (by rfl) hw
  refine (walk (w.forCall tape i) w.heap.size i.args ds gs before hval hw2 (hX _ _ (by rfl) hx) hsh).mono fun e W' ⟨v, he, hp⟩ => ?_
  subst he
  exact ChangeSpec.post_blind hp
set_option maxRecDepth 10000 in
theorem maxI_of_shape {W : World} (h : W.ShapedOpen Tryd.prog) : MaxI W := Tryd.lays146.s1_3 W h
end Go.Proofs.YtfoekelhcmlagaaDoor

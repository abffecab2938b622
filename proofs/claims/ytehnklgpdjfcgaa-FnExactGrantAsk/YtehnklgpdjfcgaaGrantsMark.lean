/- The laws' markGrantS and heldGrantS over slices of grants. Written by rowsmark.py. -/
import Derived.Test.YtehnklgpdjfcgaaGrantsIn
import Derived.Test.YtehnklgpdjfcgaaMarkS
import Derived.Deep.RegionHeld3
namespace Go.Proofs.Ytehnklgpdjfcgaa
open Go.RowKit

/-- the mark of a cell, of one whose first number is z -/
def markGrZ (z o : Nat) : Value := if o = 0 then .string (markT (z + 0)) else if o = 1 then .string (markT (z + 1)) else .int .i64 ((z : Int) + 1 + 1)
def markGrC (q j o : Nat) : Value := markGrZ (q + j * 3) o
def markedG (f : Nat → Nat → Value) (q k j o : Nat) : Value := if j < k then markGrC q j o else f j o
theorem SliceR.atGr {w : World} {B n m g cap : Nat} {f : Nat → Nat → Value} (hs : SliceR w B 3 (.slice (some ⟨g, 0, none⟩) m cap) n f) (k : Nat) (hk : k < n) : ∀ o, o < 3 → w.cell? ⟨g, k * 3 + o, none⟩ = some (f k o) ∧ w.frozen? ⟨g, k * 3 + o, none⟩ = false := by
  obtain ⟨p', cap', e, hh⟩ := hs
  injection e with e1
  obtain ⟨g', e2, -, -, hc⟩ := hh (by omega)
  rw [e2] at e1
  injection e1 with e1
  injection e1 with e1
  subst e1
  exact hc k hk
set_option maxRecDepth 10000 in
set_option maxHeartbeats 8000000 in
theorem markGrantS_any (a : Value) (n B q : Nat) (f : Nat → Nat → Value) (w : World) (ha : SliceR w B 3 a n f) (hn : n ≤ 1048576) (hq : 0 < q) (hq2 : q ≤ 20971520) :
    Calls Try.prog 13 #[a, .int .i64 (q : Int)] w fun e w' => e = .returned (.int .i64 ((q + n * 3 : Nat) : Int)) ∧ SliceR w' B 3 a n (markGrC q) ∧ (∀ G, (0 < n → a.ownBlock = some G) → w.grownBy w' (some G)) := by
  have HA : Hid (SliceR w B 3 a n f) := ha
  obtain ⟨p, cap, rfl, h1⟩ := ha
  have HG : Hid (0 < n → ∃ g, p = some ⟨g, 0, none⟩ ∧ B ≤ g ∧ g < w.heap.size) := fun h => by
    obtain ⟨g, e, h2, h3, -⟩ := h1 h
    exact ⟨g, e, h2, h3⟩
  clear h1
  have HM : Hid (∀ (m : Nat) (W : World), 0 < m → m ≤ 9223372036854775807 → Calls Try.prog 47 #[.int .i64 (m : Int)] W fun e w' => e = .returned (.string (markT m)) ∧ Below W.heap.size W w') := fun m W h1 h2 => markText_any m W h1 h2
  go_enter Try.func13, Try.ntmps13
  go_wp2
  go_loopw [1, 5] (fun kk i wr => ∃ k : Nat, k ≤ n ∧ i = .int .i64 k ∧ kk = .int .i64 ((q + k * 3 : Nat) : Int) ∧ Hid (SliceR wr B 3 (.slice p n cap) n (markedG f q k)) ∧ Hid (∀ G, (0 < n → (Value.slice p n cap).ownBlock = some G) → w.grownBy wr (some G))) (fun _ i _ => n - (intOf i).toNat)
  case atStart => exact ⟨0, by omega, rfl, by go_num, HA, fun _ _ => ⟨rfl, rfl, rfl, Nat.le_refl _, fun _ _ _ => rfl⟩⟩
  case round =>
    obtain ⟨k, hk, rfl, rfl, HR, HB⟩ := hrel
    by_cases hlt : k < n
    · obtain ⟨g, rfl, hBg, hgw⟩ := HG.out (by omega)
      have k0 : (0 : Int) ≤ k := by omega
      have k1 : (k : Int) < n := by omega
      have B0 : Hid (w.grownBy wr (some g)) := HB.out g (fun _ => rfl)
      have hzb : q + k * 3 ≤ 50000000 := by omega
      have hz0 : 0 < q + k * 3 := by omega
      have HEnd : Hid (∀ w', SliceR w' B 3 (.slice (some ⟨g, 0, none⟩) n cap) n (fun j o => if j = k then markGrZ (q + k * 3) o else markedG f q k j o) → SliceR w' B 3 (.slice (some ⟨g, 0, none⟩) n cap) n (markedG f q (k + 1))) := fun w' h => SliceR.congr h (fun j hj o ho => by
        unfold markedG markGrC
        by_cases e : j = k
        · subst e; rw [if_pos rfl, if_pos (by omega)]
        · rw [if_neg e]
          by_cases h : j < k
          · rw [if_pos h, if_pos (by omega)]
          · rw [if_neg h, if_neg (by omega)])
      have hnx : ((q + k * 3 : Nat) : Int) + 3 = ((q + (k + 1) * 3 : Nat) : Int) := by omega
      have HNX : Hid (((q + k * 3 : Nat) : Int) + 3 = ((q + (k + 1) * 3 : Nat) : Int)) := hnx
      clear hnx
      generalize markedG f q k = fm at *
      generalize q + k * 3 = zn at *
      have HN0 : Hid (∀ W, Calls Try.prog 47 #[.int .i64 ((zn : Int))] W fun e w' => e = .returned (.string (markT (zn + 0))) ∧ Below W.heap.size W w') := fun W => by
        have h := HM.out (zn + 0) W (by omega) (by omega)
        have e : ((zn + 0 : Nat) : Int) = (zn : Int) := by omega
        rw [e] at h; exact h
      have HN1 : Hid (∀ W, Calls Try.prog 47 #[.int .i64 ((zn : Int) + 1)] W fun e w' => e = .returned (.string (markT (zn + 1))) ∧ Below W.heap.size W w') := fun W => by
        have h := HM.out (zn + 1) W (by omega) (by omega)
        have e : ((zn + 1 : Nat) : Int) = (zn : Int) + 1 := by omega
        rw [e] at h; exact h
      have X0 : Hid (SliceR wr B 3 (.slice (some ⟨g, 0, none⟩) n cap) n fm) := HR
      clear HM HR HB
      go_wp2_with fail
      refine (HN0.out _).mono ?_
      rintro e u1 ⟨rfl, hb1⟩
      have S1 : Hid (SliceR u1 B 3 (.slice (some ⟨g, 0, none⟩) n cap) n fm) := SliceR.below (X0.out) hb1
      have G1 : Hid (w.grownBy u1 (some g)) := grownG_below (B0.out) hb1
      clear hb1
      have hx0 := (SliceR.atGr S1.out k hlt 0 (by omega)).1
      have hf0 := (SliceR.atGr S1.out k hlt 0 (by omega)).2
      rw [Nat.add_zero] at hx0 hf0
      generalize fm k 0 = y0 at hx0
      go_wp2_with fail
      refine (HN1.out _).mono ?_
      rintro e u2 ⟨rfl, hb2⟩
      have S2 : Hid (SliceR u2 B 3 (.slice (some ⟨g, 0, none⟩) n cap) n (updR fm k 0 (.string (markT (zn + 0))))) := SliceR.below (SliceR.set (S1.out) k 0 hlt (by omega) (.string (markT (zn + 0)))) hb2
      have G2 : Hid (w.grownBy u2 (some g)) := grownG_below (grownG_set (G1.out) (k * 3 + 0) (.string (markT (zn + 0)))) hb2
      clear hb2 hx0 hf0
      have hx1 := (SliceR.atGr S2.out k hlt 1 (by omega)).1
      have hf1 := (SliceR.atGr S2.out k hlt 1 (by omega)).2
      generalize (updR fm k 0 (.string (markT (zn + 0)))) k 1 = y1 at hx1
      have hx2 := (SliceR.atGr S2.out k hlt 2 (by omega)).1
      have hf2 := (SliceR.atGr S2.out k hlt 2 (by omega)).2
      generalize (updR fm k 0 (.string (markT (zn + 0)))) k 2 = y2 at hx2
      go_wp2
      go_roundw
      case rel =>
        refine ⟨k + 1, by omega, by go_num, val_int (by have := HNX.out; omega), ?_, ?_⟩
        · refine HEnd.out _ (SliceR.congr (SliceR.set (SliceR.set (S2.out) k 1 hlt (by omega) (.string (markT (zn + 1)))) k 2 hlt (by omega) (.int .i64 ((zn : Int) + 1 + 1))) (fun j hj o ho => ?_))
          by_cases e : j = k
          · subst e
            rw [if_pos rfl]
            match o, ho with
            | 0, _ => simp [updR, markGrZ]
            | 1, _ => simp [updR, markGrZ]
            | 2, _ => simp [updR, markGrZ]
          · simp [updR, e]
        · intro G hG
          obtain rfl : g = G := Option.some.inj (hG (by omega))
          exact grownG_set (grownG_set (G2.out) (k * 3 + 1) (.string (markT (zn + 1)))) (k * 3 + 2) (.int .i64 ((zn : Int) + 1 + 1))
      case measure => simp [intOf]; omega
    · obtain rfl : k = n := by omega
      have HS : Hid (SliceR wr B 3 (.slice p k cap) k (markGrC q)) := SliceR.congr HR.out (fun j hj o ho => by unfold markedG; rw [if_pos hj])
      go_wp2
      go_ret
      exact ⟨rfl, HS.out, HB.out⟩
set_option maxRecDepth 10000 in
set_option maxHeartbeats 8000000 in
theorem heldGrantS_any (a : Value) (n B q : Nat) (w : World) (ha : SliceR w B 3 a n (markGrC q)) (hn : n ≤ 1048576) (hq : 0 < q) (hq2 : q ≤ 20971520) :
    Calls Try.prog 14 #[a, .int .i64 (q : Int)] w fun e w' => e = .returned (.int .i64 ((q + n * 3 : Nat) : Int)) ∧ Below w.heap.size w w' := by
  obtain ⟨p, cap, rfl, h1⟩ := ha
  have HG : Hid (0 < n → ∃ g, p = some ⟨g, 0, none⟩ ∧ B ≤ g ∧ g < w.heap.size ∧ ∀ j, j < n → ∀ o, o < 3 → w.cell? ⟨g, j * 3 + o, none⟩ = some (markGrC q j o) ∧ w.frozen? ⟨g, j * 3 + o, none⟩ = false) := h1
  clear h1
  have HM : Hid (∀ (m : Nat) (W : World), 0 < m → m ≤ 9223372036854775807 → Calls Try.prog 47 #[.int .i64 (m : Int)] W fun e w' => e = .returned (.string (markT m)) ∧ Below W.heap.size W w') := fun m W h1 h2 => markText_any m W h1 h2
  go_enter Try.func14, Try.ntmps14
  go_wp2
  go_loopw [1, 4, 5] (fun kk r i wr => ∃ k : Nat, k ≤ n ∧ i = .int .i64 k ∧ kk = .int .i64 ((q + k * 3 : Nat) : Int) ∧ Hid (Below w.heap.size w wr)) (fun _ _ i _ => n - (intOf i).toNat)
  case atStart => exact ⟨0, by omega, rfl, by go_num, Below.refl _ _⟩
  case round =>
    obtain ⟨k, hk, rfl, rfl, HB⟩ := hrel
    by_cases hlt : k < n
    · obtain ⟨g, rfl, -, hg, hc⟩ := HG.out (by omega)
      have k0 : (0 : Int) ≤ k := by omega
      have k1 : (k : Int) < n := by omega
      have hgr : g < wr.heap.size := Nat.lt_of_lt_of_le hg HB.out.size
      have hzb : q + k * 3 ≤ 50000000 := by omega
      have hz0 : 0 < q + k * 3 := by omega
      have hx : ∀ o, o < 3 → wr.cell? ⟨g, k * 3 + o, none⟩ = some (markGrZ (q + k * 3) o) := fun o ho => by rw [(bcell HB.out).1 _ _ hg]; exact (hc k hlt o ho).1
      have HNX : Hid (((q + k * 3 : Nat) : Int) + 3 = ((q + (k + 1) * 3 : Nat) : Int)) := by show _ = _; omega
      clear hc
      generalize q + k * 3 = zn at *
      have c0 : wr.cell? ⟨g, k * 3, none⟩ = some (.string (markT (zn + 0))) := hx 0 (by omega)
      have c1 : wr.cell? ⟨g, k * 3 + 1, none⟩ = some (.string (markT (zn + 1))) := hx 1 (by omega)
      have c2 : wr.cell? ⟨g, k * 3 + 2, none⟩ = some (.int .i64 ((zn : Int) + 1 + 1)) := hx 2 (by omega)
      have HN0 : Hid (∀ W, Calls Try.prog 47 #[.int .i64 ((zn : Int))] W fun e w' => e = .returned (.string (markT (zn + 0))) ∧ Below W.heap.size W w') := fun W => by
        have h := HM.out (zn + 0) W (by omega) (by omega)
        have e : ((zn + 0 : Nat) : Int) = (zn : Int) := by omega
        rw [e] at h; exact h
      have HN1 : Hid (∀ W, Calls Try.prog 47 #[.int .i64 ((zn : Int) + 1)] W fun e w' => e = .returned (.string (markT (zn + 1))) ∧ Below W.heap.size W w') := fun W => by
        have h := HM.out (zn + 1) W (by omega) (by omega)
        have e : ((zn + 1 : Nat) : Int) = (zn : Int) + 1 := by omega
        rw [e] at h; exact h
      generalize markT (zn + 0) = t0 at *
      generalize markT (zn + 1) = t1 at *
      clear hx HM
      go_wp2_with fail
      go_region_held3 (fun w' => w'.cell? ⟨g, k * 3, none⟩ = some (.string t0) ∧ w'.cell? ⟨g, k * 3 + 1, none⟩ = some (.string t1) ∧ w'.cell? ⟨g, k * 3 + 2, none⟩ = some (.int .i64 ((zn : Int) + 1 + 1))) (go_keep)
        (first | (go_at_call 47; refine (HN0.out _).mono ?_; rintro e u1 ⟨rfl, hb1⟩; have A1 : Below wr.heap.size wr u1 := (Below.drew (Below.refl _ _)).trans hb1; have g1 : g < u1.heap.size := Nat.lt_of_lt_of_le hgr A1.size; have E1 : Hid (Below w.heap.size w u1) := HB.out.trans (A1.mono HB.out.size); have d1_0 : u1.cell? ⟨g, k * 3, none⟩ = some (.string t0) := ((bcell A1).1 _ _ hgr).trans c0; have d1_1 : u1.cell? ⟨g, k * 3 + 1, none⟩ = some (.string t1) := ((bcell A1).1 _ _ hgr).trans c1; have d1_2 : u1.cell? ⟨g, k * 3 + 2, none⟩ = some (.int .i64 ((zn : Int) + 1 + 1)) := ((bcell A1).1 _ _ hgr).trans c2))
      clear hb1 A1 c0 c1 c2
      go_wp2_with fail
      go_region_held3 (fun w' => w'.cell? ⟨g, k * 3 + 1, none⟩ = some (.string t1) ∧ w'.cell? ⟨g, k * 3 + 2, none⟩ = some (.int .i64 ((zn : Int) + 1 + 1))) (go_keep)
        (first | (go_at_call 47; refine (HN1.out _).mono ?_; rintro e u2 ⟨rfl, hb2⟩; have A2 : Below u1.heap.size u1 u2 := (Below.drew (Below.refl _ _)).trans hb2; have g2 : g < u2.heap.size := Nat.lt_of_lt_of_le g1 A2.size; have E2 : Hid (Below w.heap.size w u2) := E1.out.trans (A2.mono E1.out.size); have d2_1 : u2.cell? ⟨g, k * 3 + 1, none⟩ = some (.string t1) := ((bcell A2).1 _ _ g1).trans d1_1; have d2_2 : u2.cell? ⟨g, k * 3 + 2, none⟩ = some (.int .i64 ((zn : Int) + 1 + 1)) := ((bcell A2).1 _ _ g1).trans d1_2))
      clear hb2 A2 d1_0 d1_1 d1_2
      go_wp2
      go_roundw
      case rel => exact ⟨k + 1, by omega, by go_num, val_int (by have := HNX.out; omega), E2⟩
      case measure => simp [intOf]; omega
    · obtain rfl : k = n := by omega
      go_wp2
      go_ret
      exact ⟨rfl, HB.out⟩
end Go.Proofs.Ytehnklgpdjfcgaa

/- 5 of this claim's texts, one behind the other. -/
import Derived.Test.YtecaeolgheefmaaPart1
import Derived.Deep.RegionHeld3
import Derived.Test.YtecaeolgheefmaaPart4
import Derived.Deep.DeepCutAuto
import Derived.Test.YtecaeolgheefmaaPart5
import Derived.Test.YtecaeolgheefmaaPart6
/- The laws' markGrantS and heldGrantS over slices of grants. Written by rowsmark.py. -/
namespace Go.Proofs.Ytecaeolgheefmaa
open Go.RowKit

/-- the mark of a cell, of one whose first number is z -/
def markGrZ (z o : Nat) : Value := if o = 0 then .string (markT (z + 0)) else if o = 1 then .string (markT (z + 1)) else .int .i64 ((z : Int) + 1 + 1)
def markGrC (q j o : Nat) : Value := markGrZ (q + j * 3) o
def markedG (f : Nat → Nat → Value) (q k j o : Nat) : Value := if j < k then markGrC q j o else f j o
theorem SliceR.atGr {w : World} {B n m g cap : Nat} {f : Nat → Nat → Value} (hs : SliceR w B 3 (.slice (some ⟨g, 0, none⟩) m cap) n f) (k : Nat) (hk : k < n) : ∀ o, o < 3 → w.cell? ⟨g, k * 3 + o, none⟩ = some (f k o) ∧ w.frozen? ⟨g, k * 3 + o, none⟩ = false := by
  obtain ⟨p', cap', e, hh⟩ := hs
  injection e with e1
  obtain ⟨g', e2, -, -, hc⟩ := hh (by omega)
  rw [e2] at e1
  injection e1 with e1
  injection e1 with e1
  subst e1
  exact hc k hk
set_option maxRecDepth 10000 in
set_option maxHeartbeats 8000000 in
theorem markGrantS_any (a : Value) (n B q : Nat) (f : Nat → Nat → Value) (w : World) (ha : SliceR w B 3 a n f) (hn : n ≤ 1048576) (hq : 0 < q) (hq2 : q ≤ 20971520) :
    Calls Try.prog 33 #[a, .int .i64 (q : Int)] w fun e w' => e = .returned (.int .i64 ((q + n * 3 : Nat) : Int)) ∧ SliceR w' B 3 a n (markGrC q) ∧ (∀ G, (0 < n → a.ownBlock = some G) → w.grownBy w' (some G)) := by
  have HA : Hid (SliceR w B 3 a n f) := ha
  obtain ⟨p, cap, rfl, h1⟩ := ha
  have HG : Hid (0 < n → ∃ g, p = some ⟨g, 0, none⟩ ∧ B ≤ g ∧ g < w.heap.size) := fun h => by
    obtain ⟨g, e, h2, h3, -⟩ := h1 h
    exact ⟨g, e, h2, h3⟩
  clear h1
  have HM : Hid (∀ (m : Nat) (W : World), 0 < m → m ≤ 9223372036854775807 → Calls Try.prog 72 #[.int .i64 (m : Int)] W fun e w' => e = .returned (.string (markT m)) ∧ Below W.heap.size W w') := fun m W h1 h2 => markText_any m W h1 h2
  go_enter Try.func33, Try.ntmps33
  go_wp2
  go_loopw [1, 5] (fun kk i wr => ∃ k : Nat, k ≤ n ∧ i = .int .i64 k ∧ kk = .int .i64 ((q + k * 3 : Nat) : Int) ∧ Hid (SliceR wr B 3 (.slice p n cap) n (markedG f q k)) ∧ Hid (∀ G, (0 < n → (Value.slice p n cap).ownBlock = some G) → w.grownBy wr (some G))) (fun _ i _ => n - (intOf i).toNat)
  case atStart => exact ⟨0, by omega, rfl, by go_num, HA, fun _ _ => ⟨rfl, rfl, rfl, Nat.le_refl _, fun _ _ _ => rfl⟩⟩
  case round =>
    obtain ⟨k, hk, rfl, rfl, HR, HB⟩ := hrel
    by_cases hlt : k < n
    · obtain ⟨g, rfl, hBg, hgw⟩ := HG.out (by omega)
      have k0 : (0 : Int) ≤ k := by omega
      have k1 : (k : Int) < n := by omega
      have B0 : Hid (w.grownBy wr (some g)) := HB.out g (fun _ => rfl)
      have hzb : q + k * 3 ≤ 50000000 := by omega
      have hz0 : 0 < q + k * 3 := by omega
      have HEnd : Hid (∀ w', SliceR w' B 3 (.slice (some ⟨g, 0, none⟩) n cap) n (fun j o => if j = k then markGrZ (q + k * 3) o else markedG f q k j o) → SliceR w' B 3 (.slice (some ⟨g, 0, none⟩) n cap) n (markedG f q (k + 1))) := fun w' h => SliceR.congr h (fun j hj o ho => by
        unfold markedG markGrC
        by_cases e : j = k
        · subst e; rw [if_pos rfl, if_pos (by omega)]
        · rw [if_neg e]
          by_cases h : j < k
          · rw [if_pos h, if_pos (by omega)]
          · rw [if_neg h, if_neg (by omega)])
      have hnx : ((q + k * 3 : Nat) : Int) + 3 = ((q + (k + 1) * 3 : Nat) : Int) := by omega
      have HNX : Hid (((q + k * 3 : Nat) : Int) + 3 = ((q + (k + 1) * 3 : Nat) : Int)) := hnx
      clear hnx
      generalize markedG f q k = fm at *
      generalize q + k * 3 = zn at *
      have HN0 : Hid (∀ W, Calls Try.prog 72 #[.int .i64 ((zn : Int))] W fun e w' => e = .returned (.string (markT (zn + 0))) ∧ Below W.heap.size W w') := fun W => by
        have h := HM.out (zn + 0) W (by omega) (by omega)
        have e : ((zn + 0 : Nat) : Int) = (zn : Int) := by omega
        rw [e] at h; exact h
      have HN1 : Hid (∀ W, Calls Try.prog 72 #[.int .i64 ((zn : Int) + 1)] W fun e w' => e = .returned (.string (markT (zn + 1))) ∧ Below W.heap.size W w') := fun W => by
        have h := HM.out (zn + 1) W (by omega) (by omega)
        have e : ((zn + 1 : Nat) : Int) = (zn : Int) + 1 := by omega
        rw [e] at h; exact h
      have X0 : Hid (SliceR wr B 3 (.slice (some ⟨g, 0, none⟩) n cap) n fm) := HR
      clear HM HR HB
      go_wp2_with fail
      refine (HN0.out _).mono ?_
      rintro e u1 ⟨rfl, hb1⟩
      have S1 : Hid (SliceR u1 B 3 (.slice (some ⟨g, 0, none⟩) n cap) n fm) := SliceR.below (X0.out) hb1
      have G1 : Hid (w.grownBy u1 (some g)) := grownG_below (B0.out) hb1
      clear hb1
      have hx0 := (SliceR.atGr S1.out k hlt 0 (by omega)).1
      have hf0 := (SliceR.atGr S1.out k hlt 0 (by omega)).2
      rw [Nat.add_zero] at hx0 hf0
      generalize fm k 0 = y0 at hx0
      go_wp2_with fail
      refine (HN1.out _).mono ?_
      rintro e u2 ⟨rfl, hb2⟩
      have S2 : Hid (SliceR u2 B 3 (.slice (some ⟨g, 0, none⟩) n cap) n (updR fm k 0 (.string (markT (zn + 0))))) := SliceR.below (SliceR.set (S1.out) k 0 hlt (by omega) (.string (markT (zn + 0)))) hb2
      have G2 : Hid (w.grownBy u2 (some g)) := grownG_below (grownG_set (G1.out) (k * 3 + 0) (.string (markT (zn + 0)))) hb2
      clear hb2 hx0 hf0
      have hx1 := (SliceR.atGr S2.out k hlt 1 (by omega)).1
      have hf1 := (SliceR.atGr S2.out k hlt 1 (by omega)).2
      generalize (updR fm k 0 (.string (markT (zn + 0)))) k 1 = y1 at hx1
      have hx2 := (SliceR.atGr S2.out k hlt 2 (by omega)).1
      have hf2 := (SliceR.atGr S2.out k hlt 2 (by omega)).2
      generalize (updR fm k 0 (.string (markT (zn + 0)))) k 2 = y2 at hx2
      go_wp2
      go_roundw
      case rel =>
        refine ⟨k + 1, by omega, by go_num, val_int (by have := HNX.out; omega), ?_, ?_⟩
        · refine HEnd.out _ (SliceR.congr (SliceR.set (SliceR.set (S2.out) k 1 hlt (by omega) (.string (markT (zn + 1)))) k 2 hlt (by omega) (.int .i64 ((zn : Int) + 1 + 1))) (fun j hj o ho => ?_))
          by_cases e : j = k
          · subst e
            rw [if_pos rfl]
            match o, ho with
            | 0, _ => simp [updR, markGrZ]
            | 1, _ => simp [updR, markGrZ]
            | 2, _ => simp [updR, markGrZ]
          · simp [updR, e]
        · intro G hG
          obtain rfl : g = G := Option.some.inj (hG (by omega))
          exact grownG_set (grownG_set (G2.out) (k * 3 + 1) (.string (markT (zn + 1)))) (k * 3 + 2) (.int .i64 ((zn : Int) + 1 + 1))
      case measure => simp [intOf]; omega
    · obtain rfl : k = n := by omega
      have HS : Hid (SliceR wr B 3 (.slice p k cap) k (markGrC q)) := SliceR.congr HR.out (fun j hj o ho => by unfold markedG; rw [if_pos hj])
      go_wp2
      go_ret
      exact ⟨rfl, HS.out, HB.out⟩
set_option maxRecDepth 10000 in
set_option maxHeartbeats 8000000 in
theorem heldGrantS_any (a : Value) (n B q : Nat) (w : World) (ha : SliceR w B 3 a n (markGrC q)) (hn : n ≤ 1048576) (hq : 0 < q) (hq2 : q ≤ 20971520) :
    Calls Try.prog 36 #[a, .int .i64 (q : Int)] w fun e w' => e = .returned (.int .i64 ((q + n * 3 : Nat) : Int)) ∧ Below w.heap.size w w' := by
  obtain ⟨p, cap, rfl, h1⟩ := ha
  have HG : Hid (0 < n → ∃ g, p = some ⟨g, 0, none⟩ ∧ B ≤ g ∧ g < w.heap.size ∧ ∀ j, j < n → ∀ o, o < 3 → w.cell? ⟨g, j * 3 + o, none⟩ = some (markGrC q j o) ∧ w.frozen? ⟨g, j * 3 + o, none⟩ = false) := h1
  clear h1
  have HM : Hid (∀ (m : Nat) (W : World), 0 < m → m ≤ 9223372036854775807 → Calls Try.prog 72 #[.int .i64 (m : Int)] W fun e w' => e = .returned (.string (markT m)) ∧ Below W.heap.size W w') := fun m W h1 h2 => markText_any m W h1 h2
  go_enter Try.func36, Try.ntmps36
  go_wp2
  go_loopw [1, 4, 5] (fun kk r i wr => ∃ k : Nat, k ≤ n ∧ i = .int .i64 k ∧ kk = .int .i64 ((q + k * 3 : Nat) : Int) ∧ Hid (Below w.heap.size w wr)) (fun _ _ i _ => n - (intOf i).toNat)
  case atStart => exact ⟨0, by omega, rfl, by go_num, Below.refl _ _⟩
  case round =>
    obtain ⟨k, hk, rfl, rfl, HB⟩ := hrel
    by_cases hlt : k < n
    · obtain ⟨g, rfl, -, hg, hc⟩ := HG.out (by omega)
      have k0 : (0 : Int) ≤ k := by omega
      have k1 : (k : Int) < n := by omega
      have hgr : g < wr.heap.size := Nat.lt_of_lt_of_le hg HB.out.size
      have hzb : q + k * 3 ≤ 50000000 := by omega
      have hz0 : 0 < q + k * 3 := by omega
      have hx : ∀ o, o < 3 → wr.cell? ⟨g, k * 3 + o, none⟩ = some (markGrZ (q + k * 3) o) := fun o ho => by rw [(bcell HB.out).1 _ _ hg]; exact (hc k hlt o ho).1
      have HNX : Hid (((q + k * 3 : Nat) : Int) + 3 = ((q + (k + 1) * 3 : Nat) : Int)) := by show _ = _; omega
      clear hc
      generalize q + k * 3 = zn at *
      have c0 : wr.cell? ⟨g, k * 3, none⟩ = some (.string (markT (zn + 0))) := hx 0 (by omega)
      have c1 : wr.cell? ⟨g, k * 3 + 1, none⟩ = some (.string (markT (zn + 1))) := hx 1 (by omega)
      have c2 : wr.cell? ⟨g, k * 3 + 2, none⟩ = some (.int .i64 ((zn : Int) + 1 + 1)) := hx 2 (by omega)
      have HN0 : Hid (∀ W, Calls Try.prog 72 #[.int .i64 ((zn : Int))] W fun e w' => e = .returned (.string (markT (zn + 0))) ∧ Below W.heap.size W w') := fun W => by
        have h := HM.out (zn + 0) W (by omega) (by omega)
        have e : ((zn + 0 : Nat) : Int) = (zn : Int) := by omega
        rw [e] at h; exact h
      have HN1 : Hid (∀ W, Calls Try.prog 72 #[.int .i64 ((zn : Int) + 1)] W fun e w' => e = .returned (.string (markT (zn + 1))) ∧ Below W.heap.size W w') := fun W => by
        have h := HM.out (zn + 1) W (by omega) (by omega)
        have e : ((zn + 1 : Nat) : Int) = (zn : Int) + 1 := by omega
        rw [e] at h; exact h
      generalize markT (zn + 0) = t0 at *
      generalize markT (zn + 1) = t1 at *
      clear hx HM
      go_wp2_with fail
      go_region_held3 (fun w' => w'.cell? ⟨g, k * 3, none⟩ = some (.string t0) ∧ w'.cell? ⟨g, k * 3 + 1, none⟩ = some (.string t1) ∧ w'.cell? ⟨g, k * 3 + 2, none⟩ = some (.int .i64 ((zn : Int) + 1 + 1))) (go_keep)
        (first | (go_at_call 72; refine (HN0.out _).mono ?_; rintro e u1 ⟨rfl, hb1⟩; have A1 : Below wr.heap.size wr u1 := (Below.drew (Below.refl _ _)).trans hb1; have g1 : g < u1.heap.size := Nat.lt_of_lt_of_le hgr A1.size; have E1 : Hid (Below w.heap.size w u1) := HB.out.trans (A1.mono HB.out.size); have d1_0 : u1.cell? ⟨g, k * 3, none⟩ = some (.string t0) := ((bcell A1).1 _ _ hgr).trans c0; have d1_1 : u1.cell? ⟨g, k * 3 + 1, none⟩ = some (.string t1) := ((bcell A1).1 _ _ hgr).trans c1; have d1_2 : u1.cell? ⟨g, k * 3 + 2, none⟩ = some (.int .i64 ((zn : Int) + 1 + 1)) := ((bcell A1).1 _ _ hgr).trans c2))
      clear hb1 A1 c0 c1 c2
      go_wp2_with fail
      go_region_held3 (fun w' => w'.cell? ⟨g, k * 3 + 1, none⟩ = some (.string t1) ∧ w'.cell? ⟨g, k * 3 + 2, none⟩ = some (.int .i64 ((zn : Int) + 1 + 1))) (go_keep)
        (first | (go_at_call 72; refine (HN1.out _).mono ?_; rintro e u2 ⟨rfl, hb2⟩; have A2 : Below u1.heap.size u1 u2 := (Below.drew (Below.refl _ _)).trans hb2; have g2 : g < u2.heap.size := Nat.lt_of_lt_of_le g1 A2.size; have E2 : Hid (Below w.heap.size w u2) := E1.out.trans (A2.mono E1.out.size); have d2_1 : u2.cell? ⟨g, k * 3 + 1, none⟩ = some (.string t1) := ((bcell A2).1 _ _ g1).trans d1_1; have d2_2 : u2.cell? ⟨g, k * 3 + 2, none⟩ = some (.int .i64 ((zn : Int) + 1 + 1)) := ((bcell A2).1 _ _ g1).trans d1_2))
      clear hb2 A2 d1_0 d1_1 d1_2
      go_wp2
      go_roundw
      case rel => exact ⟨k + 1, by omega, by go_num, val_int (by have := HNX.out; omega), E2⟩
      case measure => simp [intOf]; omega
    · obtain rfl : k = n := by omega
      go_wp2
      go_ret
      exact ⟨rfl, HB.out⟩
end Go.Proofs.Ytecaeolgheefmaa

/- Slices of structs while others are marked. -/
namespace Go.Proofs.Ytecaeolgheefmaa
open Go.RowKit

theorem SliceR.place {w : World} {B sz n : Nat} {v : Value} {f : Nat → Nat → Value} (h : SliceR w B sz v n f) : 0 < n → ∃ g, v.ownBlock = some g ∧ B ≤ g ∧ g < w.heap.size := by
  obtain ⟨p, cap, rfl, h⟩ := h
  intro hn
  obtain ⟨g, rfl, hB, hg, -⟩ := h hn
  exact ⟨g, rfl, hB, hg⟩
theorem SliceR.keepG {w w' : World} {B sz n G : Nat} {v : Value} {f : Nat → Nat → Value} (h : SliceR w B sz v n f) (hg : w.grownBy w' (some G)) (hne : 0 < n → ∃ g, v.ownBlock = some g ∧ g ≠ G) : SliceR w' B sz v n f := by
  obtain ⟨p, cap, rfl, h⟩ := h
  refine ⟨p, cap, rfl, fun hn => ?_⟩
  obtain ⟨g, rfl, hB, hgw, hc⟩ := h hn
  obtain ⟨g', e, hn'⟩ := hne hn
  obtain rfl : g = g' := Option.some.inj e
  have hb : w'.heap[g]? = w.heap[g]? := hg.block g hgw (fun e => hn' (Option.some.inj e))
  refine ⟨g, rfl, hB, Nat.lt_of_lt_of_le hgw hg.size, fun j hj o ho => ⟨?_, ?_⟩⟩
  · rw [World.cell?_of_block (a := ⟨g, j * sz + o, none⟩) hb]; exact (hc j hj o ho).1
  · rw [World.frozen?_of_block (a := ⟨g, j * sz + o, none⟩) hb]; exact (hc j hj o ho).2
end Go.Proofs.Ytecaeolgheefmaa

/- Slices of grants while others are marked. -/
namespace Go.Proofs.Ytecaeolgheefmaa
open Go.RowKit

theorem SliceG.keepG {w w' : World} {B G : Nat} {v : Value} {L : List Gr} (h : SliceG w B v L) (hg : w.grownBy w' (some G)) (hne : 0 < L.length → ∃ g, v.ownBlock = some g ∧ g ≠ G) : SliceG w' B v L := ⟨h.1.keepG hg hne, h.2⟩
theorem markG_call (a : Value) (L : List Gr) (B : Nat) (w : World) (ha : SliceG w B a L) (hB : B ≤ w.heap.size) (hn : L.length ≤ 1048576) :
    Calls Try.prog 33 #[a, .int .i64 1] w fun e w' => e = .returned (.int .i64 ((1 + L.length * 3 : Nat) : Int)) ∧ SliceR w' B 3 a L.length (markGrC 1) ∧ ∃ G, B ≤ G ∧ (0 < L.length → a.ownBlock = some G) ∧ (¬ 0 < L.length → w.heap.size ≤ G) ∧ w.grownBy w' (some G) := by
  refine (markGrantS_any a L.length B 1 _ w ha.1 hn (by decide) (by decide)).mono ?_
  rintro e w' ⟨rfl, h2, h3⟩
  refine ⟨rfl, h2, ?_⟩
  by_cases h0 : 0 < L.length
  · obtain ⟨g, e, hBg, -⟩ := ha.1.place h0
    exact ⟨g, hBg, fun _ => e, fun h => absurd h0 h, h3 g (fun _ => e)⟩
  · exact ⟨w.heap.size, hB, fun h => absurd h h0, fun _ => Nat.le_refl _, h3 _ (fun h => absurd h h0)⟩
end Go.Proofs.Ytecaeolgheefmaa

/- The laws' eqGrantOut, markGrantOut, heldGrantOut; an answer in its box. -/
namespace Go.Proofs.Ytecaeolgheefmaa
open Go.RowKit

set_option maxRecDepth 10000 in
set_option maxHeartbeats 4000000 in
theorem eqGO_any (a b : Value) (Z : GO) (B B' : Nat) (w : World) (ha : SliceG w B a Z.ar) (hb : SliceG w B' b Z.ar) (hn : Z.ar.length ≤ 1048576) :
    Calls Try.prog 32 #[.agg #[a, .bool Z.us, .int .i64 Z.co], .agg #[b, .bool Z.us, .int .i64 Z.co]] w fun e w' => e = .returned (.bool true) ∧ Below w.heap.size w w' := by
  have KE : Hid (∀ W, Below w.heap.size w W → Calls Try.prog 31 #[a, b] W fun e w' => e = .returned (.bool true) ∧ Below W.heap.size W w') := fun W h => eqGrantS_any a b Z.ar B B' W (ha.below h) (hb.below h) hn
  obtain ⟨p, ca, hva⟩ : ∃ p ca, a = .slice p Z.ar.length ca := by obtain ⟨⟨p, cap, e, -⟩, -⟩ := ha; exact ⟨p, cap, e⟩
  obtain ⟨q, cb, hvb⟩ : ∃ q cb, b = .slice q Z.ar.length cb := by obtain ⟨⟨p, cap, e, -⟩, -⟩ := hb; exact ⟨p, cap, e⟩
  clear ha hb
  generalize Z.ar.length = m at *
  obtain ⟨za, zv, zc⟩ := Z
  dsimp only at *
  subst hva hvb
  obtain ⟨W0, hW⟩ : ∃ W0, W0 = (w.alloc (.cells #[.slice p m ca, .bool zv, .int .i64 zc] 27)).alloc (.cells #[.slice q m cb, .bool zv, .int .i64 zc] 27) := ⟨_, rfl⟩
  have hW0 : Hid (W0 = (w.alloc (.cells #[.slice p m ca, .bool zv, .int .i64 zc] 27)).alloc (.cells #[.slice q m cb, .bool zv, .int .i64 zc] 27)) := hW
  have B0 : Hid (Below w.heap.size w W0) := by
    show Below _ _ _
    rw [hW]; exact ((Below.refl _ _).alloc (Nat.le_refl _) _).alloc (by simp) _
  have c0 : W0.cell? ⟨w.heap.size, 0, none⟩ = some (.slice p m ca) := by rw [hW]; simp
  have c1 : W0.cell? ⟨w.heap.size, 1, none⟩ = some (.bool zv) := by rw [hW]; simp
  have c2 : W0.cell? ⟨w.heap.size, 2, none⟩ = some (.int .i64 zc) := by rw [hW]; simp
  have d0 : W0.cell? ⟨w.heap.size + 1, 0, none⟩ = some (.slice q m cb) := by rw [hW]; exact (World.cell?_alloc_at _ _ _ _ (by simp)).trans rfl
  have d1 : W0.cell? ⟨w.heap.size + 1, 1, none⟩ = some (.bool zv) := by rw [hW]; exact (World.cell?_alloc_at _ _ _ _ (by simp)).trans rfl
  have d2 : W0.cell? ⟨w.heap.size + 1, 2, none⟩ = some (.int .i64 zc) := by rw [hW]; exact (World.cell?_alloc_at _ _ _ _ (by simp)).trans rfl
  have z1 : w.heap.size + 1 < W0.heap.size := by rw [hW]; simp
  clear hW
  go_enter Try.func32, Try.ntmps32
  go_upto_region 1 with fail
  rw [← hW0.out]
  clear hW0
  generalize hbb : w.heap.size = b at *
  have z0 : b < W0.heap.size := by omega
  go_wp2_with fail
  refine (KE.out _ B0.out).mono ?_
  rintro e w1 ⟨rfl, hb1⟩
  have e1 : w1.cell? ⟨b, 1, none⟩ = some (.bool zv) := ((bcell hb1).1 _ _ z0).trans c1
  have e2 : w1.cell? ⟨b, 2, none⟩ = some (.int .i64 zc) := ((bcell hb1).1 _ _ z0).trans c2
  have f1 : w1.cell? ⟨b + 1, 1, none⟩ = some (.bool zv) := ((bcell hb1).1 _ _ z1).trans d1
  have f2 : w1.cell? ⟨b + 1, 2, none⟩ = some (.int .i64 zc) := ((bcell hb1).1 _ _ z1).trans d2
  have B1 : Hid (Below b w w1) := B0.out.trans (hb1.mono (by omega))
  clear hb1
  go_wp2
  go_ret
  exact ⟨rfl, by rw [hbb]; exact B1.out⟩
set_option maxRecDepth 10000 in
set_option maxHeartbeats 4000000 in
theorem markGO_call (a : Value) (zv : Bool) (zc : Int) (L : List Gr) (B : Nat) (w : World) (ha : SliceG w B a L) (hB : B ≤ w.heap.size) (hn : L.length ≤ 1048576) :
    Calls Try.prog 34 #[.agg #[a, .bool zv, .int .i64 zc], .int .i64 1] w fun e w' => e = .returned (.int .i64 ((1 + L.length * 3 : Nat) : Int)) ∧ SliceR w' B 3 a L.length (markGrC 1) ∧ ∃ G, B ≤ G ∧ (0 < L.length → a.ownBlock = some G) ∧ (¬ 0 < L.length → w.heap.size ≤ G) ∧ w.grownBy w' (some G) := by
  obtain ⟨p, ca, hva⟩ : ∃ p ca, a = .slice p L.length ca := by obtain ⟨⟨p, cap, e, -⟩, -⟩ := ha; exact ⟨p, cap, e⟩
  have KM : Hid (∀ W, Below w.heap.size w W → Calls Try.prog 33 #[a, .int .i64 1] W fun e w' => e = .returned (.int .i64 ((1 + L.length * 3 : Nat) : Int)) ∧ SliceR w' B 3 a L.length (markGrC 1) ∧ ∃ G, B ≤ G ∧ (0 < L.length → a.ownBlock = some G) ∧ (¬ 0 < L.length → W.heap.size ≤ G) ∧ W.grownBy w' (some G)) := fun W hb => markG_call a L B W (ha.below hb) (Nat.le_trans hB hb.size) hn
  clear ha
  have hq : Hid (((1 + L.length * 3 : Nat) : Int) = ((1 + L.length * 3 : Nat) : Int)) := rfl
  generalize hm : ((1 + L.length * 3 : Nat) : Int) = mq at *
  subst hva
  go_enter Try.func34, Try.ntmps34
  go_wp2_with fail
  refine (KM.out _ ((Below.refl _ _).alloc (Nat.le_refl _) _)).mono ?_
  rintro e w1 ⟨rfl, hr, G, h1, h2, h3, hg⟩
  have HF : Hid (SliceR w1 B 3 (.slice p L.length ca) L.length (markGrC 1) ∧ ∃ G, B ≤ G ∧ (0 < L.length → (Value.slice p L.length ca).ownBlock = some G) ∧ (¬ 0 < L.length → w.heap.size ≤ G) ∧ w.grownBy w1 (some G)) := ⟨hr, G, h1, h2, fun h => Nat.le_trans (by simp) (h3 h), (World.grownBy_alloc w _ (some G)).andThen hg (fun j hj => .inr hj)⟩
  clear hr h1 h2 h3 hg
  go_wp2
  go_ret
  exact ⟨rfl, HF.out⟩
set_option maxRecDepth 10000 in
set_option maxHeartbeats 4000000 in
theorem heldGO_any (a : Value) (zv : Bool) (zc : Int) (n B : Nat) (w : World) (ha : SliceR w B 3 a n (markGrC 1)) (hn : n ≤ 1048576) :
    Calls Try.prog 35 #[.agg #[a, .bool zv, .int .i64 zc], .int .i64 1] w fun e w' => e = .returned (.int .i64 ((1 + n * 3 : Nat) : Int)) ∧ Below w.heap.size w w' := by
  obtain ⟨p, ca, hva⟩ : ∃ p ca, a = .slice p n ca := by obtain ⟨p, cap, e, -⟩ := ha; exact ⟨p, cap, e⟩
  have KM : Hid (∀ W, Below w.heap.size w W → Calls Try.prog 36 #[a, .int .i64 1] W fun e w' => e = .returned (.int .i64 ((1 + n * 3 : Nat) : Int)) ∧ Below W.heap.size W w') := fun W hb => heldGrantS_any a n B 1 W (SliceR.below ha hb) hn (by decide) (by decide)
  clear ha
  have hm1 : decide ((((1 + n * 3 : Nat) : Int)) < 0) = false := by rw [decide_eq_false_iff_not]; omega
  generalize hm : ((1 + n * 3 : Nat) : Int) = mq at *
  subst hva
  go_enter Try.func35, Try.ntmps35
  go_wp2_with fail
  refine (KM.out _ ((Below.refl _ _).alloc (Nat.le_refl _) _)).mono ?_
  rintro e w1 ⟨rfl, hb⟩
  have HF : Hid (Below w.heap.size w w1) := ((Below.refl _ _).alloc (Nat.le_refl _) _).trans (hb.mono (by simp))
  clear hb
  go_wp2
  go_ret
  exact ⟨rfl, HF.out⟩
/-- an answer lies in its box -/
def InBoxG (W : World) (b : Nat) (s : Value) (Z : GO) : Prop := W.cell? ⟨b, 0, none⟩ = some s ∧ W.cell? ⟨b, 1, none⟩ = some (.bool Z.us) ∧ W.cell? ⟨b, 2, none⟩ = some (.int .i64 Z.co) ∧ b < W.heap.size
theorem InBoxG.below {W W' : World} {b : Nat} {s : Value} {Z : GO} (h : InBoxG W b s Z) (hb : Below W.heap.size W W') : InBoxG W' b s Z :=
  ⟨((bcell hb).1 _ _ h.2.2.2).trans h.1, ((bcell hb).1 _ _ h.2.2.2).trans h.2.1, ((bcell hb).1 _ _ h.2.2.2).trans h.2.2.1, Nat.lt_of_lt_of_le h.2.2.2 hb.size⟩
theorem InBoxG.grown {W W' : World} {b G : Nat} {s : Value} {Z : GO} (h : InBoxG W b s Z) (hg : W.grownBy W' (some G)) (hne : b ≠ G) : InBoxG W' b s Z := by
  have hb : W'.heap[b]? = W.heap[b]? := hg.block b h.2.2.2 (fun e => hne (Option.some.inj e))
  exact ⟨(World.cell?_of_block (a := ⟨b, 0, none⟩) hb).trans h.1, (World.cell?_of_block (a := ⟨b, 1, none⟩) hb).trans h.2.1, (World.cell?_of_block (a := ⟨b, 2, none⟩) hb).trans h.2.2.1, Nat.lt_of_lt_of_le h.2.2.2 hg.size⟩
theorem inBoxG_made (W : World) (s : Value) (Z : GO) (t : TypeId) : InBoxG (W.alloc (.cells #[s, .bool Z.us, .int .i64 Z.co] t)) W.heap.size s Z := ⟨by simp, by simp, by simp, by simp⟩
end Go.Proofs.Ytecaeolgheefmaa

/- The law FnExactGrantPut, walked. Written by lawgrantout.py. -/
namespace Go.Proofs.Ytecaeolgheefmaa
open Go.RowKit

set_option maxRecDepth 10000 in
set_option maxHeartbeats 8000000 in
theorem lawGrantPut_any (a : Option Addr) (cap : Nat) (L : List Gr) (tp si : ByteArray) (now : Int) (w : World) (hr : GrRow w a L) (hn : L.length ≤ maxLen) :
    Calls Try.prog 6 #[.slice a L.length cap, .string tp, .string si, .int .i64 now] w fun e w' => e = .returned (.bool true) ∧ Below w.heap.size w w' := by
  have HR : Hid (GrRow w a L) := hr
  clear hr
  by_cases htp : 1048576 < tp.size
  · go_enter Try.func6, Try.ntmps6
    go_wp2
    go_ret
    exact ⟨rfl, Below.refl _ _⟩
  have btp : tp.size ≤ 1048576 := by omega
  by_cases hsi : 1048576 < si.size
  · go_enter Try.func6, Try.ntmps6
    go_wp2
    go_ret
    exact ⟨rfl, Below.refl _ _⟩
  have bsi : si.size ≤ 1048576 := by omega
  go_enter Try.func6, Try.ntmps6
  go_wp2_with fail
  refine (szGrantS_any a cap L 1048576 _ HR.out hn (by decide) (by decide)).mono ?_
  rintro e w0 ⟨⟨r, rfl, hr⟩, hb0⟩
  have B0 : Hid (Below w.heap.size w w0) := hb0
  clear hb0
  rcases hr with hr | ⟨r0, r1, hl, hf⟩
  · go_wp2
    go_ret
    exact ⟨rfl, B0.out⟩
  have q : decide (r < 0) = false := by rw [decide_eq_false_iff_not]; omega
  clear hf r0 r1
  have KT : Hid (∀ W, Below w.heap.size w W → Calls Try.prog 30 #[.slice a L.length cap] W fun e w' => ∃ v, e = .returned v ∧ SliceG w' W.heap.size v L ∧ Below W.heap.size W w') := fun W hb => toGrantS_any a cap L W (HR.out.below hb) hl
  have KS : Hid (∀ (v : Value) (B : Nat) (W : World), SliceG W B v L → Calls Try.prog 18 #[v, .string tp, .string si, .int .i64 now] W fun e w' => ∃ v', e = .returned v' ∧ AnsG w' W.heap.size v' (putG L tp si now) ∧ Below W.heap.size W w') := fun v B W s => specGrantPut_any v L tp si now B W s hl btp bsi
  have KI : Hid (∀ (v : Value) (B : Nat) (W : World), Below w.heap.size w W → SliceG W B v L → Calls Try.prog 11 #[v, .string tp, .string si, .int .i64 now] W fun e w' => ∃ v', e = .returned v' ∧ AnsG w' W.heap.size v' (putG L tp si now) ∧ Below W.heap.size W w') := fun v B W _ b => grantPut_any v L tp si now B W b hl btp bsi
  have hZ : (putG L tp si now).ar.length ≤ 17 := Nat.le_trans (putG_len L tp si now) (by decide)
  clear HR
  generalize putG L tp si now = Z at *
  go_wp2_with fail
  refine (KT.out _ B0.out).mono ?_
  rintro e w1 ⟨v1, rfl, s1, hb1⟩
  have B1 : Hid (Below w.heap.size w w1) := B0.out.trans (hb1.mono B0.out.size)
  have S1 : Hid (SliceG w1 w0.heap.size v1 L) := s1
  clear s1 hb1
  go_wp2_with fail
  refine (KS.out _ _ _ S1.out).mono ?_
  rintro e w2 ⟨vs, rfl, ⟨ss, rfl, s2⟩, hb2⟩
  obtain ⟨pss, css, hvss⟩ : ∃ p c, ss = .slice p Z.ar.length c := by obtain ⟨⟨p, cap, e, -⟩, -⟩ := s2; exact ⟨p, cap, e⟩
  obtain ⟨W2, hW2⟩ : ∃ W, W = w2.alloc (.cells #[ss, .bool Z.us, .int .i64 Z.co] 27) := ⟨_, rfl⟩
  have HW2 : Hid (W2 = w2.alloc (.cells #[ss, .bool Z.us, .int .i64 Z.co] 27)) := hW2
  have AW2 : Below w2.heap.size w2 W2 := by rw [hW2]; exact (Below.refl _ _).alloc (Nat.le_refl _) _
  have Iss : Hid (InBoxG W2 w2.heap.size ss Z) := by show InBoxG _ _ _ _; rw [hW2]; exact inBoxG_made _ _ _ _
  have zW2 : w2.heap.size < W2.heap.size := by rw [hW2]; simp
  have B2 : Hid (Below w.heap.size w W2) := (B1.out.trans (hb2.mono B1.out.size)).trans (AW2.mono (Nat.le_trans B1.out.size hb2.size))
  have SS : Hid (SliceG W2 w1.heap.size ss Z.ar) := s2.below AW2
  have P2 : Hid (0 < Z.ar.length → ∃ g, ss.ownBlock = some g ∧ w1.heap.size ≤ g ∧ g < w2.heap.size) := s2.1.place
  have z12 : w1.heap.size ≤ w2.heap.size := hb2.size
  clear s2 hb2 S1 KS AW2 hW2
  have hvs := hvss
  clear hvss
  subst hvs
  go_upto_region 10 with fail
  rw [← HW2.out]
  clear HW2
  go_wp2_with fail
  refine (KT.out _ B2.out).mono ?_
  rintro e w3 ⟨vx, rfl, s3, hb3⟩
  have B3 : Hid (Below w.heap.size w w3) := B2.out.trans (hb3.mono B2.out.size)
  have SS_w3 : Hid (SliceG w3 w1.heap.size (.slice pss Z.ar.length css) Z.ar) := SS.out.below hb3
  clear SS
  have Iss_w3 : Hid (InBoxG w3 w2.heap.size (.slice pss Z.ar.length css) Z) := Iss.out.below hb3
  clear Iss
  have SX : Hid (SliceG w3 W2.heap.size vx L) := s3
  have P3 : Hid (0 < L.length → ∃ g, vx.ownBlock = some g ∧ W2.heap.size ≤ g ∧ g < w3.heap.size) := s3.1.place
  have z23 : W2.heap.size ≤ w3.heap.size := hb3.size
  clear s3 hb3
  go_wp2_with fail
  refine (KI.out _ _ _ B3.out SX.out).mono ?_
  rintro e w4 ⟨vg, rfl, ⟨sg, rfl, s4⟩, hb4⟩
  obtain ⟨psg, csg, hvsg⟩ : ∃ p c, sg = .slice p Z.ar.length c := by obtain ⟨⟨p, cap, e, -⟩, -⟩ := s4; exact ⟨p, cap, e⟩
  obtain ⟨W4, hW4⟩ : ∃ W, W = w4.alloc (.cells #[sg, .bool Z.us, .int .i64 Z.co] 27) := ⟨_, rfl⟩
  have HW4 : Hid (W4 = w4.alloc (.cells #[sg, .bool Z.us, .int .i64 Z.co] 27)) := hW4
  have AW4 : Below w4.heap.size w4 W4 := by rw [hW4]; exact (Below.refl _ _).alloc (Nat.le_refl _) _
  have Isg : Hid (InBoxG W4 w4.heap.size sg Z) := by show InBoxG _ _ _ _; rw [hW4]; exact inBoxG_made _ _ _ _
  have zW4 : w4.heap.size < W4.heap.size := by rw [hW4]; simp
  have A4 : Below w3.heap.size w3 W4 := hb4.trans (AW4.mono hb4.size)
  have B4 : Hid (Below w.heap.size w W4) := B3.out.trans (A4.mono B3.out.size)
  have SS_W4 : Hid (SliceG W4 w1.heap.size (.slice pss Z.ar.length css) Z.ar) := SS_w3.out.below A4
  clear SS_w3
  have Iss_W4 : Hid (InBoxG W4 w2.heap.size (.slice pss Z.ar.length css) Z) := Iss_w3.out.below A4
  clear Iss_w3
  have SX_W4 : Hid (SliceG W4 W2.heap.size vx L) := SX.out.below A4
  clear SX
  have SG : Hid (SliceG W4 w3.heap.size sg Z.ar) := s4.below AW4
  have P4 : Hid (0 < Z.ar.length → ∃ g, sg.ownBlock = some g ∧ w3.heap.size ≤ g ∧ g < w4.heap.size) := s4.1.place
  have z34 : w3.heap.size ≤ w4.heap.size := hb4.size
  clear s4 hb4 AW4 hW4 A4
  have hvg := hvsg
  clear hvsg
  subst hvg
  go_upto_region 12 with fail
  rw [← HW4.out]
  clear HW4
  obtain ⟨u0, u1, u2, u3⟩ := Iss_W4.out
  obtain ⟨y0, y1, y2, y3⟩ := Isg.out
  go_wp2_with fail
  refine (eqGO_any (.slice psg Z.ar.length csg) (.slice pss Z.ar.length css) Z _ _ _ SG.out SS_W4.out (by omega)).mono ?_
  rintro e w5 ⟨rfl, hbw5⟩
  have Bw5 : Hid (Below w.heap.size w w5) := B4.out.trans (hbw5.mono B4.out.size)
  clear u0 u1 u2 u3
  clear y0 y1 y2 y3
  have SS_w5 : Hid (SliceG w5 w1.heap.size (.slice pss Z.ar.length css) Z.ar) := SS_W4.out.below hbw5
  clear SS_W4
  have Iss_w5 : Hid (InBoxG w5 w2.heap.size (.slice pss Z.ar.length css) Z) := Iss_W4.out.below hbw5
  clear Iss_W4
  have SX_w5 : Hid (SliceG w5 W2.heap.size vx L) := SX_W4.out.below hbw5
  clear SX_W4
  have SG_w5 : Hid (SliceG w5 w3.heap.size (.slice psg Z.ar.length csg) Z.ar) := SG.out.below hbw5
  clear SG
  have Isg_w5 : Hid (InBoxG w5 w4.heap.size (.slice psg Z.ar.length csg) Z) := Isg.out.below hbw5
  clear Isg
  have z45 : W4.heap.size ≤ w5.heap.size := hbw5.size
  clear hbw5
  go_wp2_with fail
  refine (KT.out _ Bw5.out).mono ?_
  rintro e w6 ⟨v6, rfl, s6, hb6⟩
  have B6 : Hid (Below w.heap.size w w6) := Bw5.out.trans (hb6.mono Bw5.out.size)
  have SS_w6 : Hid (SliceG w6 w1.heap.size (.slice pss Z.ar.length css) Z.ar) := SS_w5.out.below hb6
  clear SS_w5
  have Iss_w6 : Hid (InBoxG w6 w2.heap.size (.slice pss Z.ar.length css) Z) := Iss_w5.out.below hb6
  clear Iss_w5
  have SX_w6 : Hid (SliceG w6 W2.heap.size vx L) := SX_w5.out.below hb6
  clear SX_w5
  have SG_w6 : Hid (SliceG w6 w3.heap.size (.slice psg Z.ar.length csg) Z.ar) := SG_w5.out.below hb6
  clear SG_w5
  have Isg_w6 : Hid (InBoxG w6 w4.heap.size (.slice psg Z.ar.length csg) Z) := Isg_w5.out.below hb6
  clear Isg_w5
  have S6 : Hid (SliceG w6 w5.heap.size v6 L) := s6
  have z56 : w5.heap.size ≤ w6.heap.size := hb6.size
  clear hb6 s6
  go_wp2_with fail
  refine (eqGrantS_any vx v6 L _ _ _ SX_w6.out S6.out hl).mono ?_
  rintro e w7 ⟨rfl, hb7⟩
  have B7 : Hid (Below w.heap.size w w7) := B6.out.trans (hb7.mono B6.out.size)
  have SS_w7 : Hid (SliceG w7 w1.heap.size (.slice pss Z.ar.length css) Z.ar) := SS_w6.out.below hb7
  clear SS_w6
  have Iss_w7 : Hid (InBoxG w7 w2.heap.size (.slice pss Z.ar.length css) Z) := Iss_w6.out.below hb7
  clear Iss_w6
  have SX_w7 : Hid (SliceG w7 W2.heap.size vx L) := SX_w6.out.below hb7
  clear SX_w6
  have SG_w7 : Hid (SliceG w7 w3.heap.size (.slice psg Z.ar.length csg) Z.ar) := SG_w6.out.below hb7
  clear SG_w6
  have Isg_w7 : Hid (InBoxG w7 w4.heap.size (.slice psg Z.ar.length csg) Z) := Isg_w6.out.below hb7
  clear Isg_w6
  have z67 : w6.heap.size ≤ w7.heap.size := hb7.size
  clear hb7 S6
  go_wp2_with fail
  refine (markG_call vx L W2.heap.size w7 SX_w7.out (by omega) hl).mono ?_
  rintro e w8 ⟨rfl, -, G, hG1, hG2, hG3, hg8⟩
  have hGs : w2.heap.size ≠ G := by omega
  have hGg : w4.heap.size ≠ G := by
    by_cases h0 : 0 < L.length
    · obtain ⟨g', e', h1', h2'⟩ := P3.out h0
      have e2 := hG2 h0
      rw [e'] at e2
      have := Option.some.inj e2
      omega
    · have := hG3 h0; omega
  have SS_w8 : Hid (SliceG w8 w1.heap.size (.slice pss Z.ar.length css) Z.ar) := SliceG.keepG SS_w7.out hg8 (fun h => by obtain ⟨g, e, h1, h2⟩ := P2.out h; exact ⟨g, e, by omega⟩)
  have SG_w8 : Hid (SliceG w8 w3.heap.size (.slice psg Z.ar.length csg) Z.ar) := SliceG.keepG SG_w7.out hg8 (fun h => by
    obtain ⟨g, e, h1, h2⟩ := P4.out h
    refine ⟨g, e, ?_⟩
    by_cases h0 : 0 < L.length
    · obtain ⟨g', e', h1', h2'⟩ := P3.out h0
      have e2 := hG2 h0
      rw [e'] at e2
      have := Option.some.inj e2
      omega
    · have := hG3 h0; omega)
  have Iss_w8 : Hid (InBoxG w8 w2.heap.size (.slice pss Z.ar.length css) Z) := Iss_w7.out.grown hg8 hGs
  have Isg_w8 : Hid (InBoxG w8 w4.heap.size (.slice psg Z.ar.length csg) Z) := Isg_w7.out.grown hg8 hGg
  have B8 : Hid (Below w.heap.size w w8) := B7.out.grown hg8 B7.out.size (fun j hj => by have := Option.some.inj hj; have := B2.out.size; omega)
  have z78 : w7.heap.size ≤ w8.heap.size := hg8.size
  have hm0 : decide ((((1 + L.length * 3 : Nat) : Int)) < 0) = false := by rw [decide_eq_false_iff_not]; omega
  clear hg8 hG1 hG2 hG3 hGs hGg P3 SS_w7 Iss_w7 SX_w7 SG_w7 Isg_w7
  generalize ((1 + L.length * 3 : Nat) : Int) = mL at *
  obtain ⟨u0, u1, u2, u3⟩ := Iss_w8.out
  obtain ⟨y0, y1, y2, y3⟩ := Isg_w8.out
  go_wp2_with fail
  refine (eqGO_any (.slice psg Z.ar.length csg) (.slice pss Z.ar.length css) Z _ _ _ SG_w8.out SS_w8.out (by omega)).mono ?_
  rintro e w9 ⟨rfl, hbw9⟩
  have Bw9 : Hid (Below w.heap.size w w9) := B8.out.trans (hbw9.mono B8.out.size)
  clear u0 u1 u2 u3
  clear y0 y1 y2 y3
  have SS_w9 : Hid (SliceG w9 w1.heap.size (.slice pss Z.ar.length css) Z.ar) := SS_w8.out.below hbw9
  clear SS_w8
  have Iss_w9 : Hid (InBoxG w9 w2.heap.size (.slice pss Z.ar.length css) Z) := Iss_w8.out.below hbw9
  clear Iss_w8
  have SG_w9 : Hid (SliceG w9 w3.heap.size (.slice psg Z.ar.length csg) Z.ar) := SG_w8.out.below hbw9
  clear SG_w8
  have Isg_w9 : Hid (InBoxG w9 w4.heap.size (.slice psg Z.ar.length csg) Z) := Isg_w8.out.below hbw9
  clear Isg_w8
  have z89 : w8.heap.size ≤ w9.heap.size := hbw9.size
  clear hbw9
  obtain ⟨y0, y1, y2, y3⟩ := Isg_w9.out
  go_wp2_with fail
  refine (markGO_call (.slice psg Z.ar.length csg) Z.us Z.co Z.ar w3.heap.size w9 SG_w9.out (by omega) (by omega)).mono ?_
  rintro e w10 ⟨rfl, s10, G, hG1, hG2, hG3, hg10⟩
  clear y0 y1 y2 y3
  have hGs : w2.heap.size ≠ G := by omega
  have hGg : w4.heap.size ≠ G := by
    by_cases h0 : 0 < Z.ar.length
    · obtain ⟨g', e', h1', h2'⟩ := P4.out h0
      have e2 := hG2 h0
      rw [e'] at e2
      have := Option.some.inj e2
      omega
    · have := hG3 h0; omega
  have SS_w10 : Hid (SliceG w10 w1.heap.size (.slice pss Z.ar.length css) Z.ar) := SliceG.keepG SS_w9.out hg10 (fun h => by obtain ⟨g, e, h1, h2⟩ := P2.out h; exact ⟨g, e, by omega⟩)
  have Iss_w10 : Hid (InBoxG w10 w2.heap.size (.slice pss Z.ar.length css) Z) := Iss_w9.out.grown hg10 hGs
  have Isg_w10 : Hid (InBoxG w10 w4.heap.size (.slice psg Z.ar.length csg) Z) := Isg_w9.out.grown hg10 hGg
  have S10 : Hid (SliceR w10 w3.heap.size 3 (.slice psg Z.ar.length csg) Z.ar.length (markGrC 1)) := s10
  have B10 : Hid (Below w.heap.size w w10) := Bw9.out.grown hg10 Bw9.out.size (fun j hj => by have := Option.some.inj hj; have := B2.out.size; omega)
  have KH : Hid (∀ W, Below w10.heap.size w10 W → Calls Try.prog 35 #[.agg #[.slice psg Z.ar.length csg, .bool Z.us, .int .i64 Z.co], .int .i64 1] W fun e w' => e = .returned (.int .i64 ((1 + Z.ar.length * 3 : Nat) : Int)) ∧ Below W.heap.size W w') := fun W hb => heldGO_any (.slice psg Z.ar.length csg) Z.us Z.co Z.ar.length _ W (SliceR.below S10.out hb) (by omega)
  have hm1 : decide ((((1 + Z.ar.length * 3 : Nat) : Int)) < 0) = false := by rw [decide_eq_false_iff_not]; omega
  clear hg10 hG1 hG2 hG3 hGs hGg s10 S10 P2 P4 SS_w9 Iss_w9 SG_w9 Isg_w9
  generalize ((1 + Z.ar.length * 3 : Nat) : Int) = mZ at *
  obtain ⟨y0, y1, y2, y3⟩ := Isg_w10.out
  go_wp2_with fail
  refine (KH.out _ (Below.refl _ _)).mono ?_
  rintro e w11 ⟨rfl, hb11⟩
  clear y0 y1 y2 y3
  have B11 : Hid (Below w.heap.size w w11) := B10.out.trans (hb11.mono B10.out.size)
  have A11 : Hid (Below w10.heap.size w10 w11) := hb11
  have SS_w11 : Hid (SliceG w11 w1.heap.size (.slice pss Z.ar.length css) Z.ar) := SS_w10.out.below hb11
  clear SS_w10
  have Iss_w11 : Hid (InBoxG w11 w2.heap.size (.slice pss Z.ar.length css) Z) := Iss_w10.out.below hb11
  clear Iss_w10
  have Isg_w11 : Hid (InBoxG w11 w4.heap.size (.slice psg Z.ar.length csg) Z) := Isg_w10.out.below hb11
  clear Isg_w10
  clear hb11
  go_wp2_with fail
  refine (KT.out _ B11.out).mono ?_
  rintro e w12 ⟨v12, rfl, s12, hb12⟩
  have B12 : Hid (Below w.heap.size w w12) := B11.out.trans (hb12.mono B11.out.size)
  have A12 : Hid (Below w10.heap.size w10 w12) := A11.out.trans (hb12.mono A11.out.size)
  have SS_w12 : Hid (SliceG w12 w1.heap.size (.slice pss Z.ar.length css) Z.ar) := SS_w11.out.below hb12
  clear SS_w11
  have Iss_w12 : Hid (InBoxG w12 w2.heap.size (.slice pss Z.ar.length css) Z) := Iss_w11.out.below hb12
  clear Iss_w11
  have Isg_w12 : Hid (InBoxG w12 w4.heap.size (.slice psg Z.ar.length csg) Z) := Isg_w11.out.below hb12
  clear Isg_w11
  have S12 : Hid (SliceG w12 w11.heap.size v12 L) := s12
  clear hb12 s12
  go_wp2_with fail
  refine (KI.out _ _ _ B12.out S12.out).mono ?_
  rintro e w13 ⟨vh, rfl, ⟨sh, rfl, s13⟩, hb13⟩
  obtain ⟨psh, csh, hvsh⟩ : ∃ p c, sh = .slice p Z.ar.length c := by obtain ⟨⟨p, cap, e, -⟩, -⟩ := s13; exact ⟨p, cap, e⟩
  obtain ⟨W13, hW13⟩ : ∃ W, W = w13.alloc (.cells #[sh, .bool Z.us, .int .i64 Z.co] 27) := ⟨_, rfl⟩
  have HW13 : Hid (W13 = w13.alloc (.cells #[sh, .bool Z.us, .int .i64 Z.co] 27)) := hW13
  have AW13 : Below w13.heap.size w13 W13 := by rw [hW13]; exact (Below.refl _ _).alloc (Nat.le_refl _) _
  have Ish : Hid (InBoxG W13 w13.heap.size sh Z) := by show InBoxG _ _ _ _; rw [hW13]; exact inBoxG_made _ _ _ _
  have zW13 : w13.heap.size < W13.heap.size := by rw [hW13]; simp
  have A13 : Below w12.heap.size w12 W13 := hb13.trans (AW13.mono hb13.size)
  have B13 : Hid (Below w.heap.size w W13) := B12.out.trans (A13.mono B12.out.size)
  have C13 : Hid (Below w10.heap.size w10 W13) := A12.out.trans (A13.mono A12.out.size)
  have SS_W13 : Hid (SliceG W13 w1.heap.size (.slice pss Z.ar.length css) Z.ar) := SS_w12.out.below A13
  clear SS_w12
  have Iss_W13 : Hid (InBoxG W13 w2.heap.size (.slice pss Z.ar.length css) Z) := Iss_w12.out.below A13
  clear Iss_w12
  have Isg_W13 : Hid (InBoxG W13 w4.heap.size (.slice psg Z.ar.length csg) Z) := Isg_w12.out.below A13
  clear Isg_w12
  have SH : Hid (SliceG W13 w12.heap.size sh Z.ar) := s13.below AW13
  clear s13 hb13 AW13 hW13 A13 S12
  have hvh := hvsh
  clear hvsh
  subst hvh
  go_upto_region 29 with fail
  rw [← HW13.out]
  clear HW13
  obtain ⟨x0, x1, x2, x3⟩ := Ish.out
  obtain ⟨u0, u1, u2, u3⟩ := Iss_W13.out
  go_wp2_with fail
  refine (eqGO_any (.slice psh Z.ar.length csh) (.slice pss Z.ar.length css) Z _ _ _ SH.out SS_W13.out (by omega)).mono ?_
  rintro e w14 ⟨rfl, hbw14⟩
  have Bw14 : Hid (Below w.heap.size w w14) := B13.out.trans (hbw14.mono B13.out.size)
  clear u0 u1 u2 u3
  clear x0 x1 x2 x3
  have SS_w14 : Hid (SliceG w14 w1.heap.size (.slice pss Z.ar.length css) Z.ar) := SS_W13.out.below hbw14
  clear SS_W13
  have Iss_w14 : Hid (InBoxG w14 w2.heap.size (.slice pss Z.ar.length css) Z) := Iss_W13.out.below hbw14
  clear Iss_W13
  have Isg_w14 : Hid (InBoxG w14 w4.heap.size (.slice psg Z.ar.length csg) Z) := Isg_W13.out.below hbw14
  clear Isg_W13
  have Ish_w14 : Hid (InBoxG w14 w13.heap.size (.slice psh Z.ar.length csh) Z) := Ish.out.below hbw14
  clear Ish
  have C14 : Hid (Below w10.heap.size w10 w14) := C13.out.trans (hbw14.mono C13.out.size)
  clear hbw14
  obtain ⟨y0, y1, y2, y3⟩ := Isg_w14.out
  go_wp2_with fail
  refine (KH.out _ C14.out).mono ?_
  rintro e w15 ⟨rfl, hb15⟩
  go_wp2
  go_ret
  exact ⟨rfl, Bw14.out.trans (hb15.mono Bw14.out.size)⟩
end Go.Proofs.Ytecaeolgheefmaa

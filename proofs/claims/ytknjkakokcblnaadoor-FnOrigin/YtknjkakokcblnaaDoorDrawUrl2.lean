/- The specification's drawn urls: their texts are short. -/
import Derived.Test.YtknjkakokcblnaaDoorDrawUrl
import Derived.Maps.AppendAt
namespace Go.Proofs.YtknjkakokcblnaaDoor
open Go.RowKit

/-- four cells in block b, none of them frozen -/
def U4 (w : World) (b : Nat) (v0 v1 v2 v3 : Value) : Prop := b < w.heap.size ∧ (w.cell? ⟨b, 0, none⟩ = some v0 ∧ w.cell? ⟨b, 1, none⟩ = some v1 ∧ w.cell? ⟨b, 2, none⟩ = some v2 ∧ w.cell? ⟨b, 3, none⟩ = some v3) ∧ ∀ o, w.frozen? ⟨b, o, none⟩ = false
theorem U4.kept {w w' : World} {b : Nat} {v0 v1 v2 v3 : Value} {r : Option Nat} (h : U4 w b v0 v1 v2 v3) (hg : w.grownBy w' r) (hne : some b ≠ r) : U4 w' b v0 v1 v2 v3 := by
  obtain ⟨hb, ⟨c0, c1, c2, c3⟩, hf⟩ := h
  have hs := hg.size
  refine ⟨by omega, ⟨hg.cell (a := ⟨b, 0, none⟩) c0 hne, hg.cell (a := ⟨b, 1, none⟩) c1 hne, hg.cell (a := ⟨b, 2, none⟩) c2 hne, hg.cell (a := ⟨b, 3, none⟩) c3 hne⟩, ?_⟩
  intro o
  rw [World.frozen?_of_block (w := w) (a := ⟨b, o, none⟩) (hg.block b hb hne)]
  exact hf o
theorem U4.made (w : World) (v0 v1 v2 v3 : Value) (t : TypeId) : U4 (w.alloc (.cells #[v0, v1, v2, v3] t)) w.heap.size v0 v1 v2 v3 := by
  refine ⟨by simp, ⟨by simp, by simp, by simp, by simp⟩, by simp⟩
theorem U4.alloc {w : World} {b : Nat} {v0 v1 v2 v3 : Value} (h : U4 w b v0 v1 v2 v3) (o : Obj) : U4 (w.alloc o) b v0 v1 v2 v3 := h.kept (World.grownBy_alloc w o none) (by simp)
/-- a cell of a block that the call has made is written -/
theorem grown_new {w w' : World} {r : Option Nat} {p : Addr} (h : w.grownBy w' r) (hp : w.heap.size ≤ p.block) (v : Value) : w.grownBy (w'.setCell p v) r :=
  ⟨h.os, h.tape, h.output, by have := h.size; simp [World.setCell]; omega, fun j hj hne => by
    rw [Below.heap_setCell _ _ _ _ (by omega)]; exact h.block j hj hne⟩
theorem SrcAt.setCell {w : World} {g : Nat} {p : Addr} (h : SrcAt w g) (hp : g < p.block) (v : Value) : SrcAt (w.setCell p v) g := by
  obtain ⟨hg, a, len, cap, k, mix, size, ⟨c0, c1, c2, c3⟩, hm, hf, hby⟩ := h
  have hne : p.block ≠ g := by omega
  refine ⟨by simpa [World.setCell] using hg, a, len, cap, k, mix, size, ⟨?_, ?_, ?_, ?_⟩, hm, ?_, ?_⟩
  · rw [World.cell?_setCell_far _ _ _ _ hne]; exact c0
  · rw [World.cell?_setCell_far _ _ _ _ hne]; exact c1
  · rw [World.cell?_setCell_far _ _ _ _ hne]; exact c2
  · rw [World.cell?_setCell_far _ _ _ _ hne]; exact c3
  · intro o; rw [World.frozen?_setCell]; exact hf o
  · intro i hi
    obtain ⟨x, z, e, hx, hc, hz⟩ := hby i hi
    refine ⟨x, z, e, hx, ?_, hz⟩
    rw [World.cell?_setCell_far _ _ _ _ (by rw [add_block]; omega)]
    exact hc
theorem U4.far {w : World} {b : Nat} {v0 v1 v2 v3 : Value} {p : Addr} (h : U4 w b v0 v1 v2 v3) (hp : p.block ≠ b) (v : Value) : U4 (w.setCell p v) b v0 v1 v2 v3 := by
  obtain ⟨hb, ⟨c0, c1, c2, c3⟩, hf⟩ := h
  refine ⟨by simpa [World.setCell] using hb, ⟨?_, ?_, ?_, ?_⟩, ?_⟩
  · rw [World.cell?_setCell_far _ _ _ _ hp]; exact c0
  · rw [World.cell?_setCell_far _ _ _ _ hp]; exact c1
  · rw [World.cell?_setCell_far _ _ _ _ hp]; exact c2
  · rw [World.cell?_setCell_far _ _ _ _ hp]; exact c3
  · intro o; rw [World.frozen?_setCell]; exact hf o
theorem U4.set0 {w : World} {b : Nat} {v0 v1 v2 v3 : Value} (h : U4 w b v0 v1 v2 v3) (v : Value) : U4 (w.setCell ⟨b, 0, none⟩ v) b v v1 v2 v3 := by
  obtain ⟨hb, ⟨c0, c1, c2, c3⟩, hf⟩ := h
  refine ⟨by simpa [World.setCell] using hb, ⟨?_, ?_, ?_, ?_⟩, ?_⟩
  · exact World.cell?_setCell_same _ _ _ c0
  · rw [World.cell?_setCell_other _ _ _ _ (by simp)]; exact c1
  · rw [World.cell?_setCell_other _ _ _ _ (by simp)]; exact c2
  · rw [World.cell?_setCell_other _ _ _ _ (by simp)]; exact c3
  · intro o; rw [World.frozen?_setCell]; exact hf o
theorem U4.set1 {w : World} {b : Nat} {v0 v1 v2 v3 : Value} (h : U4 w b v0 v1 v2 v3) (v : Value) : U4 (w.setCell ⟨b, 1, none⟩ v) b v0 v v2 v3 := by
  obtain ⟨hb, ⟨c0, c1, c2, c3⟩, hf⟩ := h
  refine ⟨by simpa [World.setCell] using hb, ⟨?_, ?_, ?_, ?_⟩, ?_⟩
  · rw [World.cell?_setCell_other _ _ _ _ (by simp)]; exact c0
  · exact World.cell?_setCell_same _ _ _ c1
  · rw [World.cell?_setCell_other _ _ _ _ (by simp)]; exact c2
  · rw [World.cell?_setCell_other _ _ _ _ (by simp)]; exact c3
  · intro o; rw [World.frozen?_setCell]; exact hf o
theorem U4.set2 {w : World} {b : Nat} {v0 v1 v2 v3 : Value} (h : U4 w b v0 v1 v2 v3) (v : Value) : U4 (w.setCell ⟨b, 2, none⟩ v) b v0 v1 v v3 := by
  obtain ⟨hb, ⟨c0, c1, c2, c3⟩, hf⟩ := h
  refine ⟨by simpa [World.setCell] using hb, ⟨?_, ?_, ?_, ?_⟩, ?_⟩
  · rw [World.cell?_setCell_other _ _ _ _ (by simp)]; exact c0
  · rw [World.cell?_setCell_other _ _ _ _ (by simp)]; exact c1
  · exact World.cell?_setCell_same _ _ _ c2
  · rw [World.cell?_setCell_other _ _ _ _ (by simp)]; exact c3
  · intro o; rw [World.frozen?_setCell]; exact hf o
theorem U4.set3 {w : World} {b : Nat} {v0 v1 v2 v3 : Value} (h : U4 w b v0 v1 v2 v3) (v : Value) : U4 (w.setCell ⟨b, 3, none⟩ v) b v0 v1 v2 v := by
  obtain ⟨hb, ⟨c0, c1, c2, c3⟩, hf⟩ := h
  refine ⟨by simpa [World.setCell] using hb, ⟨?_, ?_, ?_, ?_⟩, ?_⟩
  · rw [World.cell?_setCell_other _ _ _ _ (by simp)]; exact c0
  · rw [World.cell?_setCell_other _ _ _ _ (by simp)]; exact c1
  · rw [World.cell?_setCell_other _ _ _ _ (by simp)]; exact c2
  · exact World.cell?_setCell_same _ _ _ c3
  · intro o; rw [World.frozen?_setCell]; exact hf o

set_option maxRecDepth 10000 in
set_option maxHeartbeats 1000000 in
theorem srcUrl_any (g : Nat) (w : World) (hs : SrcAt w g) :
    Calls Tryd.prog 48 #[.pointer (some ⟨g, 0, none⟩)] w fun e w' => (∃ (sc ho pa : ByteArray) (po : Int), e = .returned (urlV sc ho pa po) ∧ sc.size ≤ 20 ∧ ho.size ≤ 20 ∧ pa.size ≤ 20) ∧ SrcAt w' g ∧ w.grownBy w' (some g) := by
  have hg := hs.1
  have HS : Hid (SrcAt w g) := hs
  clear hs
  go_enter Tryd.func48, Tryd.ntmps48
  go_wp2_with fail
  refine (srcPick_short g (w.heap.size + 1) 1 3 20 _ ((HS.out.alloc _).alloc _) (short_made_at _ _ (by simp) _ _ _ _ (by rfl)) (by omega) (by decide)).mono ?_
  rintro e w1 ⟨⟨sc, rfl, hsc⟩, s1, g1⟩
  have R1 : U4 w1 w.heap.size (.string ⟨#[]⟩) (.string ⟨#[]⟩) (.int .i64 0) (.string ⟨#[]⟩) := ((U4.made w _ _ _ _ _).alloc _).kept g1 (by simp; omega)
  have G1 : Hid (w.grownBy w1 (some g)) := (World.grownBy_alloc _ _ _).trans ((World.grownBy_alloc _ _ _).trans g1)
  have RR1 : Hid (U4 w1 w.heap.size (.string ⟨#[]⟩) (.string ⟨#[]⟩) (.int .i64 0) (.string ⟨#[]⟩)) := R1
  clear g1 R1
  go_wp2_with fail
  refine (srcHost_any g _ s1).mono ?_
  rintro e w2 ⟨⟨ho, rfl, hho⟩, s2, g2⟩
  have RR2 : Hid (U4 w2 w.heap.size (.string ⟨#[]⟩) (.string ⟨#[]⟩) (.int .i64 0) (.string ⟨#[]⟩)) := RR1.out.kept g2 (by simp; omega)
  have G2 : Hid (w.grownBy w2 (some g)) := G1.out.trans g2
  clear g2 s1 RR1 G1
  go_wp2_with fail
  refine (srcPick_short g w2.heap.size 1 3 20 _ (s2.alloc _) (short_made_at _ _ rfl _ _ _ _ (by rfl)) (by have := s2.1; omega) (by decide)).mono ?_
  rintro e w3 ⟨⟨pa, rfl, hpa⟩, s3, g3⟩
  have RR3 : Hid (U4 w3 w.heap.size (.string ⟨#[]⟩) (.string ⟨#[]⟩) (.int .i64 0) (.string ⟨#[]⟩)) := (RR2.out.alloc _).kept g3 (by simp; omega)
  have G3 : Hid (w.grownBy w3 (some g)) := G2.out.trans ((World.grownBy_alloc _ _ _).trans g3)
  have hu3 : w.heap.size < w3.heap.size := RR3.out.1
  clear g3 s2 RR2 G2
  go_wp2_with fail
  refine (specUsual_any sc _).mono ?_
  rintro e w' ⟨rfl, rfl⟩
  generalize usualP sc = po
  go_wp2_with fail
  refine (srcOne_any g 8 _ (s3.alloc _) (by decide)).mono ?_
  rintro e w4 ⟨⟨bA, rfl⟩, s4, g4⟩
  have hug : g < w3.heap.size := s3.1
  have UU : Hid (U4 w4 w3.heap.size (.string sc) (.string ho) (.int .i64 po) (.string pa)) := (U4.made w3 _ _ _ _ _).kept g4 (by simp; omega)
  have RR : Hid (U4 w4 w.heap.size (.string ⟨#[]⟩) (.string ⟨#[]⟩) (.int .i64 0) (.string ⟨#[]⟩)) := (RR3.out.alloc _).kept g4 (by simp; omega)
  have GG : Hid (w.grownBy w4 (some g)) := G3.out.trans ((World.grownBy_alloc _ _ _).trans g4)
  clear g4 s3 RR3 G3
  generalize w3.heap.size = u at *
  cases bA with
  | true =>
    obtain ⟨hbu, ⟨b0, b1, b2, b3⟩, hbf⟩ := UU.out
    go_wp2_with fail
    refine (srcN_any g 5 _ (s4.alloc _) (by decide)).mono ?_
    rintro e w5 ⟨r, rfl, r0, r1, _, s5, g5⟩
    have r2 := r1 (by decide)
    obtain ⟨j, rfl⟩ : ∃ j : Nat, r = j := ⟨r.toNat, by omega⟩
    have hne5 : (some w4.heap.size : Option Nat) ≠ some g := by have := s4.1; simp; omega
    obtain ⟨po', hv⟩ : ∃ v : Int, w5.cell? ⟨w4.heap.size, j, none⟩ = some (.int .i64 v) := by
      rcases j with _ | _ | _ | _ | _ | j
      · exact ⟨_, g5.cell (a := ⟨w4.heap.size, 0, none⟩) (v := .int .i64 0) (by simp) hne5⟩
      · exact ⟨_, g5.cell (a := ⟨w4.heap.size, 1, none⟩) (v := .int .i64 1) (by simp) hne5⟩
      · exact ⟨_, g5.cell (a := ⟨w4.heap.size, 2, none⟩) (v := .int .i64 8080) (by simp) hne5⟩
      · exact ⟨_, g5.cell (a := ⟨w4.heap.size, 3, none⟩) (v := .int .i64 65535) (by simp) hne5⟩
      · exact ⟨_, g5.cell (a := ⟨w4.heap.size, 4, none⟩) (v := .int .i64 65536) (by simp) hne5⟩
      · omega
    have UU5 : Hid (U4 w5 u (.string sc) (.string ho) (.int .i64 po) (.string pa)) := (UU.out.alloc _).kept g5 (by simp; omega)
    have RR5 : Hid (U4 w5 w.heap.size (.string ⟨#[]⟩) (.string ⟨#[]⟩) (.int .i64 0) (.string ⟨#[]⟩)) := (RR.out.alloc _).kept g5 (by simp; omega)
    have G5 : Hid (w.grownBy w5 (some g)) := GG.out.trans ((World.grownBy_alloc _ _ _).trans g5)
    clear b0 b1 b2 b3 hbf hbu g5 s4 UU RR GG r1
    obtain ⟨hbu, ⟨b0, b1, b2, b3⟩, hbf⟩ := UU5.out
    go_wp2_with fail
    refine (srcOne_any g 20 _ (s5.setCell (p := ⟨u, 2, none⟩) hug _) (by decide)).mono ?_
    rintro e w6 ⟨⟨bB, rfl⟩, s6, g6⟩
    have UU : Hid (U4 w6 u (.string sc) (.string ho) (.int .i64 po') (.string pa)) := (UU5.out.set2 _).kept g6 (by simp; omega)
    have RR : Hid (U4 w6 w.heap.size (.string ⟨#[]⟩) (.string ⟨#[]⟩) (.int .i64 0) (.string ⟨#[]⟩)) := (RR5.out.far (p := ⟨u, 2, none⟩) (by show u ≠ _; omega) _).kept g6 (by simp; omega)
    have GG : Hid (w.grownBy w6 (some g)) := (grown_new (p := ⟨u, 2, none⟩) G5.out (by show _ ≤ u; omega) _).trans g6
    clear b0 b1 b2 b3 hbf hbu g6 s5 UU5 RR5 G5 hv r0 r2 hne5
    cases bB with
    | true =>
      obtain ⟨hbu, ⟨b0, b1, b2, b3⟩, hbf⟩ := UU.out
      go_wp2_with fail
      refine (srcPick_short g w6.heap.size 2 4 20 _ (s6.alloc _) (short_made_at _ _ rfl _ _ _ _ (by rfl)) (by have := s6.1; omega) (by decide)).mono ?_
      rintro e w7 ⟨⟨pa', rfl, hpa'⟩, s7, g7⟩
      have UU7 : Hid (U4 w7 u (.string sc) (.string ho) (.int .i64 po') (.string pa)) := (UU.out.alloc _).kept g7 (by simp; omega)
      have RR7 : Hid (U4 w7 w.heap.size (.string ⟨#[]⟩) (.string ⟨#[]⟩) (.int .i64 0) (.string ⟨#[]⟩)) := (RR.out.alloc _).kept g7 (by simp; omega)
      have G7 : Hid (w.grownBy w7 (some g)) := GG.out.trans ((World.grownBy_alloc _ _ _).trans g7)
      clear b0 b1 b2 b3 hbf hbu g7 s6 UU RR GG
      obtain ⟨hbu, ⟨b0, b1, b2, b3⟩, hbf⟩ := UU7.out
      go_wp2_with fail
      refine (srcOne_any g 25 _ (s7.setCell (p := ⟨u, 3, none⟩) hug _) (by decide)).mono ?_
      rintro e w8 ⟨⟨bC, rfl⟩, s8, g8⟩
      have UU : Hid (U4 w8 u (.string sc) (.string ho) (.int .i64 po') (.string pa')) := (UU7.out.set3 _).kept g8 (by simp; omega)
      have RR : Hid (U4 w8 w.heap.size (.string ⟨#[]⟩) (.string ⟨#[]⟩) (.int .i64 0) (.string ⟨#[]⟩)) := (RR7.out.far (p := ⟨u, 3, none⟩) (by show u ≠ _; omega) _).kept g8 (by simp; omega)
      have GG : Hid (w.grownBy w8 (some g)) := (grown_new (p := ⟨u, 3, none⟩) G7.out (by show _ ≤ u; omega) _).trans g8
      clear b0 b1 b2 b3 hbf hbu g8 s7 UU7 RR7 G7
      cases bC with
      | true =>
        obtain ⟨hbr, ⟨d0, d1, d2, d3⟩, hdf⟩ := RR.out
        obtain ⟨hbu, ⟨b0, b1, b2, b3⟩, hbf⟩ := UU.out
        go_wp2
        have FR := (((((RR.out.far (p := ⟨u, 0, none⟩) (by show u ≠ _; omega) (.string ⟨#[102, 116, 112]⟩)).set0 (.string ⟨#[102, 116, 112]⟩)).set1 (.string ho)).set2 (.int .i64 po')).set3 (.string pa'))
        have FS := (((((s8.setCell (p := ⟨u, 0, none⟩) hug (.string ⟨#[102, 116, 112]⟩)).setCell (p := ⟨w.heap.size, 0, none⟩) hg (.string ⟨#[102, 116, 112]⟩)).setCell (p := ⟨w.heap.size, 1, none⟩) hg (.string ho)).setCell (p := ⟨w.heap.size, 2, none⟩) hg (.int .i64 po')).setCell (p := ⟨w.heap.size, 3, none⟩) hg (.string pa'))
        have FG := (grown_new (p := ⟨w.heap.size, 3, none⟩) (grown_new (p := ⟨w.heap.size, 2, none⟩) (grown_new (p := ⟨w.heap.size, 1, none⟩) (grown_new (p := ⟨w.heap.size, 0, none⟩) (grown_new (p := ⟨u, 0, none⟩) GG.out (by show _ ≤ u; omega) (.string ⟨#[102, 116, 112]⟩)) (Nat.le_refl _) (.string ⟨#[102, 116, 112]⟩)) (Nat.le_refl _) (.string ho)) (Nat.le_refl _) (.int .i64 po')) (Nat.le_refl _) (.string pa'))
        generalize (((((w8.setCell ⟨u, 0, none⟩ (.string ⟨#[102, 116, 112]⟩)).setCell ⟨w.heap.size, 0, none⟩ (.string ⟨#[102, 116, 112]⟩)).setCell ⟨w.heap.size, 1, none⟩ (.string ho)).setCell ⟨w.heap.size, 2, none⟩ (.int .i64 po')).setCell ⟨w.heap.size, 3, none⟩ (.string pa')) = W at *
        obtain ⟨hz, ⟨f0, f1, f2, f3⟩, _⟩ := FR
        exact bodyPost_ret (v := urlV ⟨#[102, 116, 112]⟩ ho pa' po') (by simp [urlV, results, Tryd.results48, go_sem, f0, f1, f2, f3]) rfl ⟨⟨_, _, _, _, rfl, (by decide), hho, hpa'⟩, FS, FG⟩
      | false =>
        obtain ⟨hbr, ⟨d0, d1, d2, d3⟩, hdf⟩ := RR.out
        obtain ⟨hbu, ⟨b0, b1, b2, b3⟩, hbf⟩ := UU.out
        go_wp2
        have FR := ((((RR.out.set0 (.string sc)).set1 (.string ho)).set2 (.int .i64 po')).set3 (.string pa'))
        have FS := ((((s8.setCell (p := ⟨w.heap.size, 0, none⟩) hg (.string sc)).setCell (p := ⟨w.heap.size, 1, none⟩) hg (.string ho)).setCell (p := ⟨w.heap.size, 2, none⟩) hg (.int .i64 po')).setCell (p := ⟨w.heap.size, 3, none⟩) hg (.string pa'))
        have FG := (grown_new (p := ⟨w.heap.size, 3, none⟩) (grown_new (p := ⟨w.heap.size, 2, none⟩) (grown_new (p := ⟨w.heap.size, 1, none⟩) (grown_new (p := ⟨w.heap.size, 0, none⟩) GG.out (Nat.le_refl _) (.string sc)) (Nat.le_refl _) (.string ho)) (Nat.le_refl _) (.int .i64 po')) (Nat.le_refl _) (.string pa'))
        generalize ((((w8.setCell ⟨w.heap.size, 0, none⟩ (.string sc)).setCell ⟨w.heap.size, 1, none⟩ (.string ho)).setCell ⟨w.heap.size, 2, none⟩ (.int .i64 po')).setCell ⟨w.heap.size, 3, none⟩ (.string pa')) = W at *
        obtain ⟨hz, ⟨f0, f1, f2, f3⟩, _⟩ := FR
        exact bodyPost_ret (v := urlV sc ho pa' po') (by simp [urlV, results, Tryd.results48, go_sem, f0, f1, f2, f3]) rfl ⟨⟨_, _, _, _, rfl, hsc, hho, hpa'⟩, FS, FG⟩
    | false =>
      go_wp2_with fail
      refine (srcOne_any g 25 _ s6 (by decide)).mono ?_
      rintro e w8 ⟨⟨bC, rfl⟩, s8, g8⟩
      have UU8 : Hid (U4 w8 u (.string sc) (.string ho) (.int .i64 po') (.string pa)) := UU.out.kept g8 (by simp; omega)
      have RR8 : Hid (U4 w8 w.heap.size (.string ⟨#[]⟩) (.string ⟨#[]⟩) (.int .i64 0) (.string ⟨#[]⟩)) := RR.out.kept g8 (by simp; omega)
      have GG8 : Hid (w.grownBy w8 (some g)) := GG.out.trans g8
      clear UU RR GG g8 s6
      have UU := UU8
      have RR := RR8
      have GG := GG8
      clear UU8 RR8 GG8
      cases bC with
      | true =>
        obtain ⟨hbr, ⟨d0, d1, d2, d3⟩, hdf⟩ := RR.out
        obtain ⟨hbu, ⟨b0, b1, b2, b3⟩, hbf⟩ := UU.out
        go_wp2
        have FR := (((((RR.out.far (p := ⟨u, 0, none⟩) (by show u ≠ _; omega) (.string ⟨#[102, 116, 112]⟩)).set0 (.string ⟨#[102, 116, 112]⟩)).set1 (.string ho)).set2 (.int .i64 po')).set3 (.string pa))
        have FS := (((((s8.setCell (p := ⟨u, 0, none⟩) hug (.string ⟨#[102, 116, 112]⟩)).setCell (p := ⟨w.heap.size, 0, none⟩) hg (.string ⟨#[102, 116, 112]⟩)).setCell (p := ⟨w.heap.size, 1, none⟩) hg (.string ho)).setCell (p := ⟨w.heap.size, 2, none⟩) hg (.int .i64 po')).setCell (p := ⟨w.heap.size, 3, none⟩) hg (.string pa))
        have FG := (grown_new (p := ⟨w.heap.size, 3, none⟩) (grown_new (p := ⟨w.heap.size, 2, none⟩) (grown_new (p := ⟨w.heap.size, 1, none⟩) (grown_new (p := ⟨w.heap.size, 0, none⟩) (grown_new (p := ⟨u, 0, none⟩) GG.out (by show _ ≤ u; omega) (.string ⟨#[102, 116, 112]⟩)) (Nat.le_refl _) (.string ⟨#[102, 116, 112]⟩)) (Nat.le_refl _) (.string ho)) (Nat.le_refl _) (.int .i64 po')) (Nat.le_refl _) (.string pa))
        generalize (((((w8.setCell ⟨u, 0, none⟩ (.string ⟨#[102, 116, 112]⟩)).setCell ⟨w.heap.size, 0, none⟩ (.string ⟨#[102, 116, 112]⟩)).setCell ⟨w.heap.size, 1, none⟩ (.string ho)).setCell ⟨w.heap.size, 2, none⟩ (.int .i64 po')).setCell ⟨w.heap.size, 3, none⟩ (.string pa)) = W at *
        obtain ⟨hz, ⟨f0, f1, f2, f3⟩, _⟩ := FR
        exact bodyPost_ret (v := urlV ⟨#[102, 116, 112]⟩ ho pa po') (by simp [urlV, results, Tryd.results48, go_sem, f0, f1, f2, f3]) rfl ⟨⟨_, _, _, _, rfl, (by decide), hho, hpa⟩, FS, FG⟩
      | false =>
        obtain ⟨hbr, ⟨d0, d1, d2, d3⟩, hdf⟩ := RR.out
        obtain ⟨hbu, ⟨b0, b1, b2, b3⟩, hbf⟩ := UU.out
        go_wp2
        have FR := ((((RR.out.set0 (.string sc)).set1 (.string ho)).set2 (.int .i64 po')).set3 (.string pa))
        have FS := ((((s8.setCell (p := ⟨w.heap.size, 0, none⟩) hg (.string sc)).setCell (p := ⟨w.heap.size, 1, none⟩) hg (.string ho)).setCell (p := ⟨w.heap.size, 2, none⟩) hg (.int .i64 po')).setCell (p := ⟨w.heap.size, 3, none⟩) hg (.string pa))
        have FG := (grown_new (p := ⟨w.heap.size, 3, none⟩) (grown_new (p := ⟨w.heap.size, 2, none⟩) (grown_new (p := ⟨w.heap.size, 1, none⟩) (grown_new (p := ⟨w.heap.size, 0, none⟩) GG.out (Nat.le_refl _) (.string sc)) (Nat.le_refl _) (.string ho)) (Nat.le_refl _) (.int .i64 po')) (Nat.le_refl _) (.string pa))
        generalize ((((w8.setCell ⟨w.heap.size, 0, none⟩ (.string sc)).setCell ⟨w.heap.size, 1, none⟩ (.string ho)).setCell ⟨w.heap.size, 2, none⟩ (.int .i64 po')).setCell ⟨w.heap.size, 3, none⟩ (.string pa)) = W at *
        obtain ⟨hz, ⟨f0, f1, f2, f3⟩, _⟩ := FR
        exact bodyPost_ret (v := urlV sc ho pa po') (by simp [urlV, results, Tryd.results48, go_sem, f0, f1, f2, f3]) rfl ⟨⟨_, _, _, _, rfl, hsc, hho, hpa⟩, FS, FG⟩
  | false =>
    go_wp2_with fail
    refine (srcOne_any g 20 _ s4 (by decide)).mono ?_
    rintro e w6 ⟨⟨bB, rfl⟩, s6, g6⟩
    have UU6 : Hid (U4 w6 u (.string sc) (.string ho) (.int .i64 po) (.string pa)) := UU.out.kept g6 (by simp; omega)
    have RR6 : Hid (U4 w6 w.heap.size (.string ⟨#[]⟩) (.string ⟨#[]⟩) (.int .i64 0) (.string ⟨#[]⟩)) := RR.out.kept g6 (by simp; omega)
    have GG6 : Hid (w.grownBy w6 (some g)) := GG.out.trans g6
    clear UU RR GG g6 s4
    have UU := UU6
    have RR := RR6
    have GG := GG6
    clear UU6 RR6 GG6
    cases bB with
    | true =>
      obtain ⟨hbu, ⟨b0, b1, b2, b3⟩, hbf⟩ := UU.out
      go_wp2_with fail
      refine (srcPick_short g w6.heap.size 2 4 20 _ (s6.alloc _) (short_made_at _ _ rfl _ _ _ _ (by rfl)) (by have := s6.1; omega) (by decide)).mono ?_
      rintro e w7 ⟨⟨pa', rfl, hpa'⟩, s7, g7⟩
      have UU7 : Hid (U4 w7 u (.string sc) (.string ho) (.int .i64 po) (.string pa)) := (UU.out.alloc _).kept g7 (by simp; omega)
      have RR7 : Hid (U4 w7 w.heap.size (.string ⟨#[]⟩) (.string ⟨#[]⟩) (.int .i64 0) (.string ⟨#[]⟩)) := (RR.out.alloc _).kept g7 (by simp; omega)
      have G7 : Hid (w.grownBy w7 (some g)) := GG.out.trans ((World.grownBy_alloc _ _ _).trans g7)
      clear b0 b1 b2 b3 hbf hbu g7 s6 UU RR GG
      obtain ⟨hbu, ⟨b0, b1, b2, b3⟩, hbf⟩ := UU7.out
      go_wp2_with fail
      refine (srcOne_any g 25 _ (s7.setCell (p := ⟨u, 3, none⟩) hug _) (by decide)).mono ?_
      rintro e w8 ⟨⟨bC, rfl⟩, s8, g8⟩
      have UU : Hid (U4 w8 u (.string sc) (.string ho) (.int .i64 po) (.string pa')) := (UU7.out.set3 _).kept g8 (by simp; omega)
      have RR : Hid (U4 w8 w.heap.size (.string ⟨#[]⟩) (.string ⟨#[]⟩) (.int .i64 0) (.string ⟨#[]⟩)) := (RR7.out.far (p := ⟨u, 3, none⟩) (by show u ≠ _; omega) _).kept g8 (by simp; omega)
      have GG : Hid (w.grownBy w8 (some g)) := (grown_new (p := ⟨u, 3, none⟩) G7.out (by show _ ≤ u; omega) _).trans g8
      clear b0 b1 b2 b3 hbf hbu g8 s7 UU7 RR7 G7
      cases bC with
      | true =>
        obtain ⟨hbr, ⟨d0, d1, d2, d3⟩, hdf⟩ := RR.out
        obtain ⟨hbu, ⟨b0, b1, b2, b3⟩, hbf⟩ := UU.out
        go_wp2
        have FR := (((((RR.out.far (p := ⟨u, 0, none⟩) (by show u ≠ _; omega) (.string ⟨#[102, 116, 112]⟩)).set0 (.string ⟨#[102, 116, 112]⟩)).set1 (.string ho)).set2 (.int .i64 po)).set3 (.string pa'))
        have FS := (((((s8.setCell (p := ⟨u, 0, none⟩) hug (.string ⟨#[102, 116, 112]⟩)).setCell (p := ⟨w.heap.size, 0, none⟩) hg (.string ⟨#[102, 116, 112]⟩)).setCell (p := ⟨w.heap.size, 1, none⟩) hg (.string ho)).setCell (p := ⟨w.heap.size, 2, none⟩) hg (.int .i64 po)).setCell (p := ⟨w.heap.size, 3, none⟩) hg (.string pa'))
        have FG := (grown_new (p := ⟨w.heap.size, 3, none⟩) (grown_new (p := ⟨w.heap.size, 2, none⟩) (grown_new (p := ⟨w.heap.size, 1, none⟩) (grown_new (p := ⟨w.heap.size, 0, none⟩) (grown_new (p := ⟨u, 0, none⟩) GG.out (by show _ ≤ u; omega) (.string ⟨#[102, 116, 112]⟩)) (Nat.le_refl _) (.string ⟨#[102, 116, 112]⟩)) (Nat.le_refl _) (.string ho)) (Nat.le_refl _) (.int .i64 po)) (Nat.le_refl _) (.string pa'))
        generalize (((((w8.setCell ⟨u, 0, none⟩ (.string ⟨#[102, 116, 112]⟩)).setCell ⟨w.heap.size, 0, none⟩ (.string ⟨#[102, 116, 112]⟩)).setCell ⟨w.heap.size, 1, none⟩ (.string ho)).setCell ⟨w.heap.size, 2, none⟩ (.int .i64 po)).setCell ⟨w.heap.size, 3, none⟩ (.string pa')) = W at *
        obtain ⟨hz, ⟨f0, f1, f2, f3⟩, _⟩ := FR
        exact bodyPost_ret (v := urlV ⟨#[102, 116, 112]⟩ ho pa' po) (by simp [urlV, results, Tryd.results48, go_sem, f0, f1, f2, f3]) rfl ⟨⟨_, _, _, _, rfl, (by decide), hho, hpa'⟩, FS, FG⟩
      | false =>
        obtain ⟨hbr, ⟨d0, d1, d2, d3⟩, hdf⟩ := RR.out
        obtain ⟨hbu, ⟨b0, b1, b2, b3⟩, hbf⟩ := UU.out
        go_wp2
        have FR := ((((RR.out.set0 (.string sc)).set1 (.string ho)).set2 (.int .i64 po)).set3 (.string pa'))
        have FS := ((((s8.setCell (p := ⟨w.heap.size, 0, none⟩) hg (.string sc)).setCell (p := ⟨w.heap.size, 1, none⟩) hg (.string ho)).setCell (p := ⟨w.heap.size, 2, none⟩) hg (.int .i64 po)).setCell (p := ⟨w.heap.size, 3, none⟩) hg (.string pa'))
        have FG := (grown_new (p := ⟨w.heap.size, 3, none⟩) (grown_new (p := ⟨w.heap.size, 2, none⟩) (grown_new (p := ⟨w.heap.size, 1, none⟩) (grown_new (p := ⟨w.heap.size, 0, none⟩) GG.out (Nat.le_refl _) (.string sc)) (Nat.le_refl _) (.string ho)) (Nat.le_refl _) (.int .i64 po)) (Nat.le_refl _) (.string pa'))
        generalize ((((w8.setCell ⟨w.heap.size, 0, none⟩ (.string sc)).setCell ⟨w.heap.size, 1, none⟩ (.string ho)).setCell ⟨w.heap.size, 2, none⟩ (.int .i64 po)).setCell ⟨w.heap.size, 3, none⟩ (.string pa')) = W at *
        obtain ⟨hz, ⟨f0, f1, f2, f3⟩, _⟩ := FR
        exact bodyPost_ret (v := urlV sc ho pa' po) (by simp [urlV, results, Tryd.results48, go_sem, f0, f1, f2, f3]) rfl ⟨⟨_, _, _, _, rfl, hsc, hho, hpa'⟩, FS, FG⟩
    | false =>
      go_wp2_with fail
      refine (srcOne_any g 25 _ s6 (by decide)).mono ?_
      rintro e w8 ⟨⟨bC, rfl⟩, s8, g8⟩
      have UU8 : Hid (U4 w8 u (.string sc) (.string ho) (.int .i64 po) (.string pa)) := UU.out.kept g8 (by simp; omega)
      have RR8 : Hid (U4 w8 w.heap.size (.string ⟨#[]⟩) (.string ⟨#[]⟩) (.int .i64 0) (.string ⟨#[]⟩)) := RR.out.kept g8 (by simp; omega)
      have GG8 : Hid (w.grownBy w8 (some g)) := GG.out.trans g8
      clear UU RR GG g8 s6
      have UU := UU8
      have RR := RR8
      have GG := GG8
      clear UU8 RR8 GG8
      cases bC with
      | true =>
        obtain ⟨hbr, ⟨d0, d1, d2, d3⟩, hdf⟩ := RR.out
        obtain ⟨hbu, ⟨b0, b1, b2, b3⟩, hbf⟩ := UU.out
        go_wp2
        have FR := (((((RR.out.far (p := ⟨u, 0, none⟩) (by show u ≠ _; omega) (.string ⟨#[102, 116, 112]⟩)).set0 (.string ⟨#[102, 116, 112]⟩)).set1 (.string ho)).set2 (.int .i64 po)).set3 (.string pa))
        have FS := (((((s8.setCell (p := ⟨u, 0, none⟩) hug (.string ⟨#[102, 116, 112]⟩)).setCell (p := ⟨w.heap.size, 0, none⟩) hg (.string ⟨#[102, 116, 112]⟩)).setCell (p := ⟨w.heap.size, 1, none⟩) hg (.string ho)).setCell (p := ⟨w.heap.size, 2, none⟩) hg (.int .i64 po)).setCell (p := ⟨w.heap.size, 3, none⟩) hg (.string pa))
        have FG := (grown_new (p := ⟨w.heap.size, 3, none⟩) (grown_new (p := ⟨w.heap.size, 2, none⟩) (grown_new (p := ⟨w.heap.size, 1, none⟩) (grown_new (p := ⟨w.heap.size, 0, none⟩) (grown_new (p := ⟨u, 0, none⟩) GG.out (by show _ ≤ u; omega) (.string ⟨#[102, 116, 112]⟩)) (Nat.le_refl _) (.string ⟨#[102, 116, 112]⟩)) (Nat.le_refl _) (.string ho)) (Nat.le_refl _) (.int .i64 po)) (Nat.le_refl _) (.string pa))
        generalize (((((w8.setCell ⟨u, 0, none⟩ (.string ⟨#[102, 116, 112]⟩)).setCell ⟨w.heap.size, 0, none⟩ (.string ⟨#[102, 116, 112]⟩)).setCell ⟨w.heap.size, 1, none⟩ (.string ho)).setCell ⟨w.heap.size, 2, none⟩ (.int .i64 po)).setCell ⟨w.heap.size, 3, none⟩ (.string pa)) = W at *
        obtain ⟨hz, ⟨f0, f1, f2, f3⟩, _⟩ := FR
        exact bodyPost_ret (v := urlV ⟨#[102, 116, 112]⟩ ho pa po) (by simp [urlV, results, Tryd.results48, go_sem, f0, f1, f2, f3]) rfl ⟨⟨_, _, _, _, rfl, (by decide), hho, hpa⟩, FS, FG⟩
      | false =>
        obtain ⟨hbr, ⟨d0, d1, d2, d3⟩, hdf⟩ := RR.out
        obtain ⟨hbu, ⟨b0, b1, b2, b3⟩, hbf⟩ := UU.out
        go_wp2
        have FR := ((((RR.out.set0 (.string sc)).set1 (.string ho)).set2 (.int .i64 po)).set3 (.string pa))
        have FS := ((((s8.setCell (p := ⟨w.heap.size, 0, none⟩) hg (.string sc)).setCell (p := ⟨w.heap.size, 1, none⟩) hg (.string ho)).setCell (p := ⟨w.heap.size, 2, none⟩) hg (.int .i64 po)).setCell (p := ⟨w.heap.size, 3, none⟩) hg (.string pa))
        have FG := (grown_new (p := ⟨w.heap.size, 3, none⟩) (grown_new (p := ⟨w.heap.size, 2, none⟩) (grown_new (p := ⟨w.heap.size, 1, none⟩) (grown_new (p := ⟨w.heap.size, 0, none⟩) GG.out (Nat.le_refl _) (.string sc)) (Nat.le_refl _) (.string ho)) (Nat.le_refl _) (.int .i64 po)) (Nat.le_refl _) (.string pa))
        generalize ((((w8.setCell ⟨w.heap.size, 0, none⟩ (.string sc)).setCell ⟨w.heap.size, 1, none⟩ (.string ho)).setCell ⟨w.heap.size, 2, none⟩ (.int .i64 po)).setCell ⟨w.heap.size, 3, none⟩ (.string pa)) = W at *
        obtain ⟨hz, ⟨f0, f1, f2, f3⟩, _⟩ := FR
        exact bodyPost_ret (v := urlV sc ho pa po) (by simp [urlV, results, Tryd.results48, go_sem, f0, f1, f2, f3]) rfl ⟨⟨_, _, _, _, rfl, hsc, hho, hpa⟩, FS, FG⟩
end Go.Proofs.YtknjkakokcblnaaDoor

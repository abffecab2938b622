/- The specification's drawn origins: their texts are short. -/
import Derived.Test.YtknjkakokcblnaaDoorDrawUrl3
import Derived.Test.YtknjkakokcblnaaDoorSpecOrigin2
import Derived.Deep.RegionHeld3
namespace Go.Proofs.YtknjkakokcblnaaDoor
open Go.RowKit

theorem grown_below {w w' : World} {r : Option Nat} (hb : Below w.heap.size w w') : w.grownBy w' r := ⟨hb.os, hb.tape, hb.output, hb.size, fun j hj _ => hb.block j hj⟩
theorem U4.below {w w' : World} {b : Nat} {v0 v1 v2 v3 : Value} (h : U4 w b v0 v1 v2 v3) (hb : Below w.heap.size w w') : U4 w' b v0 v1 v2 v3 := h.kept (grown_below (r := none) hb) (by simp)
theorem originOf_form (sc ho pa : ByteArray) (po : Int) (h1 : sc.size ≤ 20) (h2 : ho.size ≤ 20) : ∃ x y z, (if urlB sc ho pa po = true then originV sc ho po 0 else originV ⟨#[]⟩ ⟨#[]⟩ 0 0) = originV x y z 0 ∧ x.size ≤ 20 ∧ y.size ≤ 20 := by
  split
  · exact ⟨_, _, _, rfl, h1, h2⟩
  · exact ⟨_, _, _, rfl, by decide, by decide⟩

set_option maxRecDepth 10000 in
set_option maxHeartbeats 2000000 in
theorem srcSome_any (g : Nat) (w : World) (hs : SrcAt w g) :
    Calls Tryd.prog 64 #[.pointer (some ⟨g, 0, none⟩)] w fun e w' => (∃ (sc ho : ByteArray) (po no : Int), e = .returned (originV sc ho po no) ∧ sc.size ≤ 20 ∧ ho.size ≤ 20) ∧ SrcAt w' g ∧ w.grownBy w' (some g) := by
  have hg := hs.1
  have HS : Hid (SrcAt w g) := hs
  clear hs
  go_enter Tryd.func64, Tryd.ntmps64
  go_wp2_with fail
  refine (srcOne_any g 3 _ (HS.out.alloc _) (by decide)).mono ?_
  rintro e w1 ⟨⟨bA, rfl⟩, s1, g1⟩
  have RR1 : Hid (U4 w1 w.heap.size (.string ⟨#[]⟩) (.string ⟨#[]⟩) (.int .i64 0) (.int .i64 0)) := (U4.made w _ _ _ _ _).kept g1 (by simp; omega)
  have G1 : Hid (w.grownBy w1 (some g)) := (World.grownBy_alloc _ _ _).trans g1
  have hz1 : w.heap.size < w1.heap.size := RR1.out.1
  clear g1
  cases bA with
  | true =>
    go_wp2_with fail
    refine (srcN_any g 5 _ (s1.alloc _) (by decide)).mono ?_
    rintro e w2 ⟨r, rfl, r0, r1, _, s2, g2⟩
    have r2 := r1 (by decide)
    obtain ⟨j, rfl⟩ : ∃ j : Nat, r = j := ⟨r.toNat, by omega⟩
    have hne : (some w1.heap.size : Option Nat) ≠ some g := by have := s1.1; simp; omega
    obtain ⟨no, hv⟩ : ∃ v : Int, w2.cell? ⟨w1.heap.size, j, none⟩ = some (.int .i64 v) := by
      rcases j with _ | _ | _ | _ | _ | j
      · exact ⟨_, g2.cell (a := ⟨w1.heap.size, 0, none⟩) (v := .int .i64 (-1)) (by simp) hne⟩
      · exact ⟨_, g2.cell (a := ⟨w1.heap.size, 1, none⟩) (v := .int .i64 1) (by simp) hne⟩
      · exact ⟨_, g2.cell (a := ⟨w1.heap.size, 2, none⟩) (v := .int .i64 2) (by simp) hne⟩
      · exact ⟨_, g2.cell (a := ⟨w1.heap.size, 3, none⟩) (v := .int .i64 1000000) (by simp) hne⟩
      · exact ⟨_, g2.cell (a := ⟨w1.heap.size, 4, none⟩) (v := .int .i64 1000001) (by simp) hne⟩
      · omega
    have RR2 : Hid (U4 w2 w.heap.size (.string ⟨#[]⟩) (.string ⟨#[]⟩) (.int .i64 0) (.int .i64 0)) := (RR1.out.alloc _).kept g2 (by simp; omega)
    have G2 : Hid (w.grownBy w2 (some g)) := G1.out.trans ((World.grownBy_alloc _ _ _).trans g2)
    obtain ⟨hbr, ⟨d0, d1, d2, d3⟩, hdf⟩ := RR2.out
    clear g2 s1 RR1 G1 r1
    go_wp2
    have FR := ((((RR2.out).set0 (.string ⟨#[]⟩)).set1 (.string ⟨#[]⟩)).set2 (.int .i64 0)).set3 (.int .i64 no)
    have FS := ((((s2).setCell (p := ⟨w.heap.size, 0, none⟩) hg (.string ⟨#[]⟩)).setCell (p := ⟨w.heap.size, 1, none⟩) hg (.string ⟨#[]⟩)).setCell (p := ⟨w.heap.size, 2, none⟩) hg (.int .i64 0)).setCell (p := ⟨w.heap.size, 3, none⟩) hg (.int .i64 no)
    have FG := grown_new (p := ⟨w.heap.size, 3, none⟩) (grown_new (p := ⟨w.heap.size, 2, none⟩) (grown_new (p := ⟨w.heap.size, 1, none⟩) (grown_new (p := ⟨w.heap.size, 0, none⟩) (G2.out) (Nat.le_refl _) (.string ⟨#[]⟩)) (Nat.le_refl _) (.string ⟨#[]⟩)) (Nat.le_refl _) (.int .i64 0)) (Nat.le_refl _) (.int .i64 no)
    generalize ((((w2).setCell ⟨w.heap.size, 0, none⟩ (.string ⟨#[]⟩)).setCell ⟨w.heap.size, 1, none⟩ (.string ⟨#[]⟩)).setCell ⟨w.heap.size, 2, none⟩ (.int .i64 0)).setCell ⟨w.heap.size, 3, none⟩ (.int .i64 no) = W at *
    obtain ⟨hz, ⟨f0, f1, f2, f3⟩, _⟩ := FR
    exact bodyPost_ret (v := originV ⟨#[]⟩ ⟨#[]⟩ 0 no) (by simp [originV, results, Tryd.results64, go_sem, f0, f1, f2, f3]) rfl ⟨⟨_, _, _, _, rfl, by decide, by decide⟩, FS, FG⟩
  | false =>
    go_wp2_with fail
    refine (srcUrl_any g _ s1).mono ?_
    rintro e w2 ⟨⟨sc, ho, pa, po, rfl, hsc, hho, hpa⟩, s2, g2⟩
    have RR2 : Hid (U4 w2 w.heap.size (.string ⟨#[]⟩) (.string ⟨#[]⟩) (.int .i64 0) (.int .i64 0)) := RR1.out.kept g2 (by simp; omega)
    have G2 : Hid (w.grownBy w2 (some g)) := G1.out.trans g2
    clear g2 s1 RR1 G1
    go_wp2_with fail
    refine (specOriginOf_any sc ho pa po _).mono ?_
    rintro e w3 ⟨rfl, hb3⟩
    obtain ⟨x, y, z, ev, hx, hy⟩ := originOf_form sc ho pa po hsc hho
    rw [ev]
    unfold originV
    clear ev
    have s3 : SrcAt w3 g := s2.below hb3
    have RR3 : Hid (U4 w3 w.heap.size (.string ⟨#[]⟩) (.string ⟨#[]⟩) (.int .i64 0) (.int .i64 0)) := RR2.out.below hb3
    have G3 : Hid (w.grownBy w3 (some g)) := G2.out.trans (grown_below hb3)
    have hz3 : w.heap.size < w3.heap.size := RR3.out.1
    have hg3 : g < w3.heap.size := s3.1
    clear hb3 s2 RR2 G2
    go_wp2_with fail
    refine (srcOne_any g 12 _ (s3.alloc _) (by decide)).mono ?_
    rintro e w4 ⟨⟨bB, rfl⟩, s4, g4⟩
    have UU : Hid (U4 w4 w3.heap.size (.string x) (.string y) (.int .i64 z) (.int .i64 0)) := (U4.made w3 _ _ _ _ _).kept g4 (by simp; omega)
    have RR : Hid (U4 w4 w.heap.size (.string ⟨#[]⟩) (.string ⟨#[]⟩) (.int .i64 0) (.int .i64 0)) := (RR3.out.alloc _).kept g4 (by simp; omega)
    have GG : Hid (w.grownBy w4 (some g)) := G3.out.trans ((World.grownBy_alloc _ _ _).trans g4)
    clear g4 s3 RR3 G3
    generalize w3.heap.size = u at *
    obtain ⟨hbr, ⟨d0, d1, d2, d3⟩, hdf⟩ := RR.out
    obtain ⟨hbu, ⟨b0, b1, b2, b3⟩, hbf⟩ := UU.out
    cases bB with
    | true =>
      go_wp2
      have FR := ((((RR.out.far (p := ⟨u, 3, none⟩) (by show u ≠ _; omega) (.int .i64 5)).set0 (.string x)).set1 (.string y)).set2 (.int .i64 z)).set3 (.int .i64 5)
      have FS := ((((s4.setCell (p := ⟨u, 3, none⟩) hg3 (.int .i64 5)).setCell (p := ⟨w.heap.size, 0, none⟩) hg (.string x)).setCell (p := ⟨w.heap.size, 1, none⟩) hg (.string y)).setCell (p := ⟨w.heap.size, 2, none⟩) hg (.int .i64 z)).setCell (p := ⟨w.heap.size, 3, none⟩) hg (.int .i64 5)
      have FG := grown_new (p := ⟨w.heap.size, 3, none⟩) (grown_new (p := ⟨w.heap.size, 2, none⟩) (grown_new (p := ⟨w.heap.size, 1, none⟩) (grown_new (p := ⟨w.heap.size, 0, none⟩) (grown_new (p := ⟨u, 3, none⟩) GG.out (by show _ ≤ u; omega) (.int .i64 5)) (Nat.le_refl _) (.string x)) (Nat.le_refl _) (.string y)) (Nat.le_refl _) (.int .i64 z)) (Nat.le_refl _) (.int .i64 5)
      generalize ((((w4.setCell ⟨u, 3, none⟩ (.int .i64 5)).setCell ⟨w.heap.size, 0, none⟩ (.string x)).setCell ⟨w.heap.size, 1, none⟩ (.string y)).setCell ⟨w.heap.size, 2, none⟩ (.int .i64 z)).setCell ⟨w.heap.size, 3, none⟩ (.int .i64 5) = W at *
      obtain ⟨hz, ⟨f0, f1, f2, f3⟩, _⟩ := FR
      exact bodyPost_ret (v := originV x y z 5) (by simp [originV, results, Tryd.results64, go_sem, f0, f1, f2, f3]) rfl ⟨⟨_, _, _, _, rfl, hx, hy⟩, FS, FG⟩
    | false =>
      go_wp2
      have FR := ((((RR.out).set0 (.string x)).set1 (.string y)).set2 (.int .i64 z)).set3 (.int .i64 0)
      have FS := ((((s4).setCell (p := ⟨w.heap.size, 0, none⟩) hg (.string x)).setCell (p := ⟨w.heap.size, 1, none⟩) hg (.string y)).setCell (p := ⟨w.heap.size, 2, none⟩) hg (.int .i64 z)).setCell (p := ⟨w.heap.size, 3, none⟩) hg (.int .i64 0)
      have FG := grown_new (p := ⟨w.heap.size, 3, none⟩) (grown_new (p := ⟨w.heap.size, 2, none⟩) (grown_new (p := ⟨w.heap.size, 1, none⟩) (grown_new (p := ⟨w.heap.size, 0, none⟩) (GG.out) (Nat.le_refl _) (.string x)) (Nat.le_refl _) (.string y)) (Nat.le_refl _) (.int .i64 z)) (Nat.le_refl _) (.int .i64 0)
      generalize ((((w4).setCell ⟨w.heap.size, 0, none⟩ (.string x)).setCell ⟨w.heap.size, 1, none⟩ (.string y)).setCell ⟨w.heap.size, 2, none⟩ (.int .i64 z)).setCell ⟨w.heap.size, 3, none⟩ (.int .i64 0) = W at *
      obtain ⟨hz, ⟨f0, f1, f2, f3⟩, _⟩ := FR
      exact bodyPost_ret (v := originV x y z 0) (by simp [originV, results, Tryd.results64, go_sem, f0, f1, f2, f3]) rfl ⟨⟨_, _, _, _, rfl, hx, hy⟩, FS, FG⟩

set_option maxRecDepth 10000 in
set_option maxHeartbeats 2000000 in
theorem drawOriginSame_any (a : Option Addr) (len cap : Nat) (w : World) (hr : CodeRow w a len) (hl : len ≤ 1048576) :
    Calls Tryd.prog 28 #[.slice a len cap] w fun e w' => (∃ (sc ho : ByteArray) (po no : Int) (sc2 ho2 : ByteArray) (po2 no2 : Int), e = .returned (.tuple #[originV sc ho po no, originV sc2 ho2 po2 no2]) ∧ sc.size ≤ 20 ∧ ho.size ≤ 20 ∧ sc2.size ≤ 20 ∧ ho2.size ≤ 20) ∧ Below w.heap.size w w' := by
  have HR : Hid (CodeRow w a len) := hr
  clear hr
  go_enter Tryd.func28, Tryd.ntmps28
  go_wp2_with fail
  refine (source_any a len cap _ (HR.out.below (((Below.refl _ _).alloc (Nat.le_refl _) _).alloc (by simp) _)) hl).mono ?_
  rintro e w1 ⟨rfl, s1, hb1⟩
  have s1' : SrcAt w1 (w.heap.size + 2) := by simpa using s1
  have RA1 : Hid (U4 w1 w.heap.size (.string ⟨#[]⟩) (.string ⟨#[]⟩) (.int .i64 0) (.int .i64 0)) := ((U4.made w _ _ _ _ _).alloc _).below hb1
  have RB0 : U4 w1 (w.heap.size + 1) (.string ⟨#[]⟩) (.string ⟨#[]⟩) (.int .i64 0) (.int .i64 0) := by
    have := (U4.made (w.alloc (.cells #[.string ⟨#[]⟩, .string ⟨#[]⟩, .int .i64 0, .int .i64 0] 47)) (.string ⟨#[]⟩) (.string ⟨#[]⟩) (.int .i64 0) (.int .i64 0) 47).below hb1
    simpa using this
  have RB1 : Hid (U4 w1 (w.heap.size + 1) (.string ⟨#[]⟩) (.string ⟨#[]⟩) (.int .i64 0) (.int .i64 0)) := RB0
  have HB1 : Hid (Below w.heap.size w w1) := (((Below.refl _ _).alloc (Nat.le_refl _) _).alloc (by simp) _).trans (hb1.mono (by simp; omega))
  have hz1 : w.heap.size + 2 < w1.heap.size := s1'.1
  clear s1 hb1 RB0
  go_wp2_with fail
  have s1'' : SrcAt w1 (w.heap.size + 1 + 1) := s1'
  refine (srcSome_any _ _ s1'').mono ?_
  rintro e w2 ⟨⟨sc, ho, po, no, rfl, hsc, hho⟩, s2, g2⟩
  have RA2 : Hid (U4 w2 w.heap.size (.string ⟨#[]⟩) (.string ⟨#[]⟩) (.int .i64 0) (.int .i64 0)) := RA1.out.kept g2 (by simp; omega)
  have RB2 : Hid (U4 w2 (w.heap.size + 1) (.string ⟨#[]⟩) (.string ⟨#[]⟩) (.int .i64 0) (.int .i64 0)) := RB1.out.kept g2 (by simp)
  have HB2 : Hid (Below w.heap.size w w2) := below_grown HB1.out g2 (by omega) (by omega)
  have hz2 : w.heap.size + 2 < w2.heap.size := s2.1
  clear g2 RA1 RB1 HB1 s1' s1''
  unfold originV
  go_wp2_with fail
  refine (srcOne_any _ 2 _ (s2.alloc _) (by decide)).mono ?_
  rintro e w3 ⟨⟨bA, rfl⟩, s3, g3⟩
  have UU : Hid (U4 w3 w2.heap.size (.string sc) (.string ho) (.int .i64 po) (.int .i64 no)) := (U4.made w2 _ _ _ _ _).kept g3 (by simp; omega)
  have RA : Hid (U4 w3 w.heap.size (.string ⟨#[]⟩) (.string ⟨#[]⟩) (.int .i64 0) (.int .i64 0)) := (RA2.out.alloc _).kept g3 (by simp; omega)
  have RB : Hid (U4 w3 (w.heap.size + 1) (.string ⟨#[]⟩) (.string ⟨#[]⟩) (.int .i64 0) (.int .i64 0)) := (RB2.out.alloc _).kept g3 (by simp)
  have HB : Hid (Below w.heap.size w w3) := below_grown (HB2.out.alloc (by omega) _) g3 (by simp; omega) (by omega)
  have hz3 : w2.heap.size < w3.heap.size := UU.out.1
  clear g3 s2 RA2 RB2 HB2
  generalize w2.heap.size = u at *
  obtain ⟨hba, ⟨a0, a1, a2, a3⟩, haf⟩ := RA.out
  obtain ⟨hbb, ⟨b0, b1, b2, b3⟩, hbf⟩ := RB.out
  obtain ⟨hbu, ⟨u0, u1, u2, u3⟩, huf⟩ := UU.out
  have HSo : Hid (∀ W, SrcAt W (w.heap.size + 1 + 1) → Calls Tryd.prog 64 #[.pointer (some ⟨w.heap.size + 1 + 1, 0, none⟩)] W fun e w' => (∃ (sc ho : ByteArray) (po no : Int), e = .returned (.agg #[.string sc, .string ho, .int .i64 po, .int .i64 no]) ∧ sc.size ≤ 20 ∧ ho.size ≤ 20) ∧ SrcAt w' (w.heap.size + 1 + 1) ∧ W.grownBy w' (some (w.heap.size + 1 + 1))) := fun W h => srcSome_any _ W h
  cases bA with
  | true =>
    clear HSo
    go_wp2_with fail
    go_region
    have FA := ((((((((RA.out).set0 (.string sc)).set1 (.string ho)).set2 (.int .i64 po)).set3 (.int .i64 no)).far (p := ⟨w.heap.size + 1, 0, none⟩) (by simp) (.string sc)).far (p := ⟨w.heap.size + 1, 1, none⟩) (by simp) (.string ho)).far (p := ⟨w.heap.size + 1, 2, none⟩) (by simp) (.int .i64 po)).far (p := ⟨w.heap.size + 1, 3, none⟩) (by simp) (.int .i64 no)
    have FB := ((((((((RB.out).far (p := ⟨w.heap.size, 0, none⟩) (by simp) (.string sc)).far (p := ⟨w.heap.size, 1, none⟩) (by simp) (.string ho)).far (p := ⟨w.heap.size, 2, none⟩) (by simp) (.int .i64 po)).far (p := ⟨w.heap.size, 3, none⟩) (by simp) (.int .i64 no)).set0 (.string sc)).set1 (.string ho)).set2 (.int .i64 po)).set3 (.int .i64 no)
    have FH := Below.setCell (Below.setCell (Below.setCell (Below.setCell (Below.setCell (Below.setCell (Below.setCell (Below.setCell (HB.out) (p := ⟨w.heap.size, 0, none⟩) (Nat.le_refl _) (.string sc)) (p := ⟨w.heap.size, 1, none⟩) (Nat.le_refl _) (.string ho)) (p := ⟨w.heap.size, 2, none⟩) (Nat.le_refl _) (.int .i64 po)) (p := ⟨w.heap.size, 3, none⟩) (Nat.le_refl _) (.int .i64 no)) (p := ⟨w.heap.size + 1, 0, none⟩) (Nat.le_succ _) (.string sc)) (p := ⟨w.heap.size + 1, 1, none⟩) (Nat.le_succ _) (.string ho)) (p := ⟨w.heap.size + 1, 2, none⟩) (Nat.le_succ _) (.int .i64 po)) (p := ⟨w.heap.size + 1, 3, none⟩) (Nat.le_succ _) (.int .i64 no)
    generalize ((((((((w3).setCell ⟨w.heap.size, 0, none⟩ (.string sc)).setCell ⟨w.heap.size, 1, none⟩ (.string ho)).setCell ⟨w.heap.size, 2, none⟩ (.int .i64 po)).setCell ⟨w.heap.size, 3, none⟩ (.int .i64 no)).setCell ⟨w.heap.size + 1, 0, none⟩ (.string sc)).setCell ⟨w.heap.size + 1, 1, none⟩ (.string ho)).setCell ⟨w.heap.size + 1, 2, none⟩ (.int .i64 po)).setCell ⟨w.heap.size + 1, 3, none⟩ (.int .i64 no) = W at *
    obtain ⟨hy, ⟨f0, f1, f2, f3⟩, _⟩ := FA
    obtain ⟨hx, ⟨h0, h1, h2, h3⟩, _⟩ := FB
    go_wp2
    exact bodyPost_ret (v := .tuple #[originV sc ho po no, originV sc ho po no]) (by simp [originV, results, Tryd.results28, go_sem, f0, f1, f2, f3, h0, h1, h2, h3]) rfl ⟨⟨_, _, _, _, _, _, _, _, rfl, hsc, hho, hsc, hho⟩, FH.drew⟩
  | false =>
    have ne1 : ¬ w.heap.size = u := by omega
    have ne2 : ¬ w.heap.size + 1 = u := by omega
    go_wp2_with fail
    go_region_held3 (fun w' => w'.cell? ⟨u, 0, none⟩ = some (.string sc) ∧ w'.cell? ⟨u, 1, none⟩ = some (.string ho) ∧ w'.cell? ⟨u, 2, none⟩ = some (.int .i64 po) ∧ w'.cell? ⟨u, 3, none⟩ = some (.int .i64 no)) (go_keep)
      (first | (go_at_call 64; refine (HSo.out _ s3.drew).mono ?_; rintro e w4 ⟨⟨sc2, ho2, po2, no2, rfl, hsc2, hho2⟩, s4, g4⟩; have U4A : Hid (U4 w4 u (.string sc) (.string ho) (.int .i64 po) (.int .i64 no)) := (UU.out.below ((Below.refl _ _).drew)).kept g4 (by simp; omega); obtain ⟨hbu4, ⟨k0, k1, k2, k3⟩, kf⟩ := U4A.out; have RA4 : Hid (U4 w4 w.heap.size (.string ⟨#[]⟩) (.string ⟨#[]⟩) (.int .i64 0) (.int .i64 0)) := (RA.out.below ((Below.refl _ _).drew)).kept g4 (by simp; omega); have RB4 : Hid (U4 w4 (w.heap.size + 1) (.string ⟨#[]⟩) (.string ⟨#[]⟩) (.int .i64 0) (.int .i64 0)) := (RB.out.below ((Below.refl _ _).drew)).kept g4 (by simp); have HB4 : Hid (Below w.heap.size w w4) := below_grown HB.out.drew g4 (by simp; omega) (by omega); obtain ⟨hba4, ⟨m0, m1, m2, m3⟩, maf⟩ := RA4.out; obtain ⟨hbb4, ⟨n0, n1, n2, n3⟩, nbf⟩ := RB4.out))
    have FA := ((((((((RA4.out).set0 (.string sc)).set1 (.string ho)).set2 (.int .i64 po)).set3 (.int .i64 no)).far (p := ⟨w.heap.size + 1, 0, none⟩) (by simp) (.string sc2)).far (p := ⟨w.heap.size + 1, 1, none⟩) (by simp) (.string ho2)).far (p := ⟨w.heap.size + 1, 2, none⟩) (by simp) (.int .i64 po2)).far (p := ⟨w.heap.size + 1, 3, none⟩) (by simp) (.int .i64 no2)
    have FB := ((((((((RB4.out).far (p := ⟨w.heap.size, 0, none⟩) (by simp) (.string sc)).far (p := ⟨w.heap.size, 1, none⟩) (by simp) (.string ho)).far (p := ⟨w.heap.size, 2, none⟩) (by simp) (.int .i64 po)).far (p := ⟨w.heap.size, 3, none⟩) (by simp) (.int .i64 no)).set0 (.string sc2)).set1 (.string ho2)).set2 (.int .i64 po2)).set3 (.int .i64 no2)
    have FH := Below.setCell (Below.setCell (Below.setCell (Below.setCell (Below.setCell (Below.setCell (Below.setCell (Below.setCell (HB4.out) (p := ⟨w.heap.size, 0, none⟩) (Nat.le_refl _) (.string sc)) (p := ⟨w.heap.size, 1, none⟩) (Nat.le_refl _) (.string ho)) (p := ⟨w.heap.size, 2, none⟩) (Nat.le_refl _) (.int .i64 po)) (p := ⟨w.heap.size, 3, none⟩) (Nat.le_refl _) (.int .i64 no)) (p := ⟨w.heap.size + 1, 0, none⟩) (Nat.le_succ _) (.string sc2)) (p := ⟨w.heap.size + 1, 1, none⟩) (Nat.le_succ _) (.string ho2)) (p := ⟨w.heap.size + 1, 2, none⟩) (Nat.le_succ _) (.int .i64 po2)) (p := ⟨w.heap.size + 1, 3, none⟩) (Nat.le_succ _) (.int .i64 no2)
    generalize ((((((((w4).setCell ⟨w.heap.size, 0, none⟩ (.string sc)).setCell ⟨w.heap.size, 1, none⟩ (.string ho)).setCell ⟨w.heap.size, 2, none⟩ (.int .i64 po)).setCell ⟨w.heap.size, 3, none⟩ (.int .i64 no)).setCell ⟨w.heap.size + 1, 0, none⟩ (.string sc2)).setCell ⟨w.heap.size + 1, 1, none⟩ (.string ho2)).setCell ⟨w.heap.size + 1, 2, none⟩ (.int .i64 po2)).setCell ⟨w.heap.size + 1, 3, none⟩ (.int .i64 no2) = W at *
    obtain ⟨hy, ⟨f0, f1, f2, f3⟩, _⟩ := FA
    obtain ⟨hx, ⟨h0, h1, h2, h3⟩, _⟩ := FB
    go_wp2
    exact bodyPost_ret (v := .tuple #[originV sc ho po no, originV sc2 ho2 po2 no2]) (by simp [originV, results, Tryd.results28, go_sem, f0, f1, f2, f3, h0, h1, h2, h3]) rfl ⟨⟨_, _, _, _, _, _, _, _, rfl, hsc, hho, hsc2, hho2⟩, FH⟩
end Go.Proofs.YtknjkakokcblnaaDoor

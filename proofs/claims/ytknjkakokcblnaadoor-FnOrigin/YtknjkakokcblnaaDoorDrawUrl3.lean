/- The specification's draws over urls: a drawn url, a drawn text, a drawn host: all short. -/
import Derived.Test.YtknjkakokcblnaaDoorDrawUrl2
import Derived.Test.YtknjkakokcblnaaDoorDrawSpoil
namespace Go.Proofs.YtknjkakokcblnaaDoor
open Go.RowKit

theorem CodeRow.below {w w' : World} {a : Option Addr} {len : Nat} (h : CodeRow w a len) (hb : Below w.heap.size w w') : CodeRow w' a len := by
  intro i hi
  obtain ⟨x, z, e, hx, hc, hz⟩ := h i hi
  exact ⟨x, z, e, Nat.lt_of_lt_of_le hx hb.size, by rw [hb.cell (p := x.add i) (by rw [add_block]; exact hx)]; exact hc, hz⟩
/-- a draw's world: nothing that was there is turned -/
theorem below_grown {w w1 w2 : World} {B g : Nat} (h : Below B w w1) (hg : w1.grownBy w2 (some g)) (hB : B ≤ w1.heap.size) (hBg : B ≤ g) : Below B w w2 := h.grown hg hB (fun k e => by injection e with e; omega)

theorem SrcAt.below {w w' : World} {g : Nat} (h : SrcAt w g) (hb : Below w.heap.size w w') : SrcAt w' g := by
  obtain ⟨hg, a, len, cap, k, mix, size, ⟨c0, c1, c2, c3⟩, hm, hf, hby⟩ := h
  refine ⟨Nat.lt_of_lt_of_le hg hb.size, a, len, cap, k, mix, size, ⟨?_, ?_, ?_, ?_⟩, hm, ?_, ?_⟩
  · rw [(bcell hb).1 _ _ hg]; exact c0
  · rw [(bcell hb).1 _ _ hg]; exact c1
  · rw [(bcell hb).1 _ _ hg]; exact c2
  · rw [(bcell hb).1 _ _ hg]; exact c3
  · intro o; rw [(bcell hb).2 _ _ hg]; exact hf o
  · intro i hi
    obtain ⟨x, z, e, hx, hc, hz⟩ := hby i hi
    exact ⟨x, z, e, hx, by rw [hb.cell (p := x.add i) (by rw [add_block]; omega)]; exact hc, hz⟩

set_option maxRecDepth 10000 in
set_option maxHeartbeats 1000000 in
theorem drawLabelsOf_any (a : Option Addr) (len cap : Nat) (w : World) (hr : CodeRow w a len) (hl : len ≤ 1048576) :
    Calls Tryd.prog 18 #[.slice a len cap] w fun e w' => (∃ t : ByteArray, e = .returned (.string t) ∧ t.size ≤ 20) ∧ Below w.heap.size w w' := by
  have H1 : Hid (Calls Tryd.prog 38 #[.slice a len cap] w fun e w' => e = .returned (.pointer (some ⟨w.heap.size, 0, none⟩)) ∧ SrcAt w' w.heap.size ∧ Below w.heap.size w w') := source_any a len cap w hr hl
  clear hr
  go_enter Tryd.func18, Tryd.ntmps18
  go_wp2_with fail
  refine H1.out.mono ?_
  rintro e w1 ⟨rfl, s1, hb1⟩
  go_wp2_with fail
  refine (srcHost_any _ _ s1).mono ?_
  rintro e w2 ⟨⟨t, rfl, ht⟩, _, g2⟩
  go_wp2
  go_ret
  exact ⟨⟨t, rfl, ht⟩, below_grown hb1 g2 hb1.size (Nat.le_refl _)⟩

set_option maxRecDepth 10000 in
set_option maxHeartbeats 1000000 in
theorem drawUrlRead_any (a : Option Addr) (len cap : Nat) (w : World) (hr : CodeRow w a len) (hl : len ≤ 1048576) :
    Calls Tryd.prog 16 #[.slice a len cap] w fun e w' => (∃ t : ByteArray, e = .returned (.string t) ∧ t.size ≤ 1000) ∧ Below w.heap.size w w' := by
  have H1 : Hid (Calls Tryd.prog 38 #[.slice a len cap] w fun e w' => e = .returned (.pointer (some ⟨w.heap.size, 0, none⟩)) ∧ SrcAt w' w.heap.size ∧ Below w.heap.size w w') := source_any a len cap w hr hl
  clear hr
  go_enter Tryd.func16, Tryd.ntmps16
  go_wp2_with fail
  refine H1.out.mono ?_
  rintro e w1 ⟨rfl, s1, hb1⟩
  go_wp2_with fail
  refine (srcUrl_any _ _ s1).mono ?_
  rintro e w2 ⟨⟨sc, ho, pa, po, rfl, hsc, hho, hpa⟩, s2, g2⟩
  go_wp2_with fail
  refine (specUrlText_any sc ho pa po _).mono ?_
  rintro e w3 ⟨rfl, hb3⟩
  have ht : (urlT sc ho pa po).size ≤ 300 := by
    unfold urlT
    split
    · rename_i h
      obtain ⟨p1, p2, p3, p4, p5⟩ := urlB_parts h
      have := placeT_size p1 p2 p3 p4
      rw [ByteArray.size_append]; omega
    · exact Nat.zero_le _
  generalize urlT sc ho pa po = t at *
  have HB3 : Hid (Below w.heap.size w w3) := (below_grown hb1 g2 hb1.size (Nat.le_refl _)).trans (hb3.mono (Nat.le_trans hb1.size g2.size))
  have s3 := s2.below hb3
  have hz3 : w.heap.size < w3.heap.size := s3.1
  clear hb3 g2 s2 s1 hb1 hsc hho hpa
  go_wp2_with fail
  refine (srcN_any _ 4 _ s3 (by decide)).mono ?_
  rintro e w4 ⟨r, rfl, r0, r1, _, s4, g4⟩
  have HB4 : Hid (Below w.heap.size w w4) := below_grown HB3.out g4 (Nat.le_of_lt hz3) (Nat.le_refl _)
  have hz4 : w.heap.size < w4.heap.size := s4.1
  clear g4 s3 HB3 r1
  by_cases c0 : r = 0
  · subst c0
    go_wp2_with fail
    refine (spoil_any _ t _ s4 (by omega)).mono ?_
    rintro e w5 ⟨⟨x, rfl, hx⟩, s5, g5⟩
    go_wp2
    go_ret
    exact ⟨⟨x, rfl, by omega⟩, below_grown HB4.out g5 (Nat.le_of_lt hz4) (Nat.le_refl _)⟩
  by_cases c1 : r = 1
  · subst c1
    go_wp2_with fail
    refine (srcPick_short w.heap.size w4.heap.size 6 8 20 _ (s4.alloc _) (short_made_at _ _ rfl _ _ _ _ (by rfl)) (by omega) (by decide)).mono ?_
    rintro e w5 ⟨⟨x, rfl, hx⟩, s5, g5⟩
    go_wp2
    go_ret
    exact ⟨⟨x, rfl, by omega⟩, below_grown (HB4.out.alloc (Nat.le_of_lt hz4) _) g5 (by simp; omega) (Nat.le_refl _)⟩
  · have q0 : (r == 0) = false := by rw [beq_eq_false_iff_ne]; exact c0
    have q1 : (r == 1) = false := by rw [beq_eq_false_iff_ne]; exact c1
    go_wp2
    go_ret
    exact ⟨⟨t, rfl, by omega⟩, HB4.out⟩

set_option maxRecDepth 10000 in
set_option maxHeartbeats 1000000 in
theorem drawUrlText_any (a : Option Addr) (len cap : Nat) (w : World) (hr : CodeRow w a len) (hl : len ≤ 1048576) :
    Calls Tryd.prog 14 #[.slice a len cap] w fun e w' => (∃ (sc ho pa : ByteArray) (po : Int), e = .returned (urlV sc ho pa po) ∧ sc.size ≤ 20 ∧ ho.size ≤ 20 ∧ pa.size ≤ 20) ∧ Below w.heap.size w w' := by
  have HR : Hid (CodeRow w a len) := hr
  clear hr
  go_enter Tryd.func14, Tryd.ntmps14
  go_wp2_with fail
  refine (source_any a len cap _ (HR.out.below ((Below.refl _ _).alloc (Nat.le_refl _) _)) hl).mono ?_
  rintro e w1 ⟨rfl, s1, hb1⟩
  have s1' : SrcAt w1 (w.heap.size + 1) := by simpa using s1
  have RR : Hid (U4 w1 w.heap.size (.string ⟨#[]⟩) (.string ⟨#[]⟩) (.int .i64 0) (.string ⟨#[]⟩)) := by
    obtain ⟨hb, ⟨c0, c1, c2, c3⟩, hf⟩ := U4.made w (.string ⟨#[]⟩) (.string ⟨#[]⟩) (.int .i64 0) (.string ⟨#[]⟩) 35
    exact ⟨Nat.lt_of_lt_of_le hb hb1.size, ⟨by rw [(bcell hb1).1 _ _ hb]; exact c0, by rw [(bcell hb1).1 _ _ hb]; exact c1, by rw [(bcell hb1).1 _ _ hb]; exact c2, by rw [(bcell hb1).1 _ _ hb]; exact c3⟩, fun o => by rw [(bcell hb1).2 _ _ hb]; exact hf o⟩
  have HB1 : Hid (Below w.heap.size w w1) := ((Below.refl _ _).alloc (Nat.le_refl _) _).trans (hb1.mono (by simp))
  have hz1 : w.heap.size < w1.heap.size := RR.out.1
  clear s1 hb1
  go_wp2_with fail
  refine (srcUrl_any _ _ s1').mono ?_
  rintro e w2 ⟨⟨sc, ho, pa, po, rfl, hsc, hho, hpa⟩, s2, g2⟩
  have RR2 : Hid (U4 w2 w.heap.size (.string ⟨#[]⟩) (.string ⟨#[]⟩) (.int .i64 0) (.string ⟨#[]⟩)) := RR.out.kept g2 (by simp)
  have HB2 : Hid (Below w.heap.size w w2) := below_grown HB1.out g2 (Nat.le_of_lt hz1) (Nat.le_succ _)
  obtain ⟨hbr, ⟨d0, d1, d2, d3⟩, hdf⟩ := RR2.out
  clear g2 RR HB1 s2 s1'
  unfold urlV
  go_wp2
  have FR := (((RR2.out.set0 (.string sc)).set1 (.string ho)).set2 (.int .i64 po)).set3 (.string pa)
  have FB := Below.setCell (Below.setCell (Below.setCell (Below.setCell HB2.out (p := ⟨w.heap.size, 0, none⟩) (Nat.le_refl _) (.string sc)) (p := ⟨w.heap.size, 1, none⟩) (Nat.le_refl _) (.string ho)) (p := ⟨w.heap.size, 2, none⟩) (Nat.le_refl _) (.int .i64 po)) (p := ⟨w.heap.size, 3, none⟩) (Nat.le_refl _) (.string pa)
  generalize ((((w2.setCell ⟨w.heap.size, 0, none⟩ (.string sc)).setCell ⟨w.heap.size, 1, none⟩ (.string ho)).setCell ⟨w.heap.size, 2, none⟩ (.int .i64 po)).setCell ⟨w.heap.size, 3, none⟩ (.string pa)) = W at *
  obtain ⟨hz, ⟨f0, f1, f2, f3⟩, _⟩ := FR
  exact bodyPost_ret (v := urlV sc ho pa po) (by simp [urlV, results, Tryd.results14, go_sem, f0, f1, f2, f3]) rfl ⟨⟨_, _, _, _, rfl, hsc, hho, hpa⟩, FB⟩

set_option maxRecDepth 10000 in
set_option maxHeartbeats 1000000 in
theorem drawOriginOf_any (a : Option Addr) (len cap : Nat) (w : World) (hr : CodeRow w a len) (hl : len ≤ 1048576) :
    Calls Tryd.prog 29 #[.slice a len cap] w fun e w' => (∃ (sc ho pa : ByteArray) (po : Int), e = .returned (urlV sc ho pa po) ∧ sc.size ≤ 20 ∧ ho.size ≤ 20 ∧ pa.size ≤ 20) ∧ Below w.heap.size w w' := by
  have HR : Hid (CodeRow w a len) := hr
  clear hr
  go_enter Tryd.func29, Tryd.ntmps29
  go_wp2_with fail
  refine (source_any a len cap _ (HR.out.below ((Below.refl _ _).alloc (Nat.le_refl _) _)) hl).mono ?_
  rintro e w1 ⟨rfl, s1, hb1⟩
  have s1' : SrcAt w1 (w.heap.size + 1) := by simpa using s1
  have RR : Hid (U4 w1 w.heap.size (.string ⟨#[]⟩) (.string ⟨#[]⟩) (.int .i64 0) (.string ⟨#[]⟩)) := by
    obtain ⟨hb, ⟨c0, c1, c2, c3⟩, hf⟩ := U4.made w (.string ⟨#[]⟩) (.string ⟨#[]⟩) (.int .i64 0) (.string ⟨#[]⟩) 35
    exact ⟨Nat.lt_of_lt_of_le hb hb1.size, ⟨by rw [(bcell hb1).1 _ _ hb]; exact c0, by rw [(bcell hb1).1 _ _ hb]; exact c1, by rw [(bcell hb1).1 _ _ hb]; exact c2, by rw [(bcell hb1).1 _ _ hb]; exact c3⟩, fun o => by rw [(bcell hb1).2 _ _ hb]; exact hf o⟩
  have HB1 : Hid (Below w.heap.size w w1) := ((Below.refl _ _).alloc (Nat.le_refl _) _).trans (hb1.mono (by simp))
  have hz1 : w.heap.size < w1.heap.size := RR.out.1
  clear s1 hb1
  go_wp2_with fail
  refine (srcUrl_any _ _ s1').mono ?_
  rintro e w2 ⟨⟨sc, ho, pa, po, rfl, hsc, hho, hpa⟩, s2, g2⟩
  have RR2 : Hid (U4 w2 w.heap.size (.string ⟨#[]⟩) (.string ⟨#[]⟩) (.int .i64 0) (.string ⟨#[]⟩)) := RR.out.kept g2 (by simp)
  have HB2 : Hid (Below w.heap.size w w2) := below_grown HB1.out g2 (Nat.le_of_lt hz1) (Nat.le_succ _)
  obtain ⟨hbr, ⟨d0, d1, d2, d3⟩, hdf⟩ := RR2.out
  clear g2 RR HB1 s2 s1'
  unfold urlV
  go_wp2
  have FR := (((RR2.out.set0 (.string sc)).set1 (.string ho)).set2 (.int .i64 po)).set3 (.string pa)
  have FB := Below.setCell (Below.setCell (Below.setCell (Below.setCell HB2.out (p := ⟨w.heap.size, 0, none⟩) (Nat.le_refl _) (.string sc)) (p := ⟨w.heap.size, 1, none⟩) (Nat.le_refl _) (.string ho)) (p := ⟨w.heap.size, 2, none⟩) (Nat.le_refl _) (.int .i64 po)) (p := ⟨w.heap.size, 3, none⟩) (Nat.le_refl _) (.string pa)
  generalize ((((w2.setCell ⟨w.heap.size, 0, none⟩ (.string sc)).setCell ⟨w.heap.size, 1, none⟩ (.string ho)).setCell ⟨w.heap.size, 2, none⟩ (.int .i64 po)).setCell ⟨w.heap.size, 3, none⟩ (.string pa)) = W at *
  obtain ⟨hz, ⟨f0, f1, f2, f3⟩, _⟩ := FR
  exact bodyPost_ret (v := urlV sc ho pa po) (by simp [urlV, results, Tryd.results29, go_sem, f0, f1, f2, f3]) rfl ⟨⟨_, _, _, _, rfl, hsc, hho, hpa⟩, FB⟩
end Go.Proofs.YtknjkakokcblnaaDoor

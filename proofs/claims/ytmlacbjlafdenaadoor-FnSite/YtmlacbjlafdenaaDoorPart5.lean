/- 1 of this claim's texts, one behind the other. -/
import Derived.Test.YtmlacbjlafdenaaDoorPart3
import Derived.Test.YtmlacbjlafdenaaDoorPart4
/- The law FnSite, walked. -/
namespace Go.Proofs.YtmlacbjlafdenaaDoor
open Go.RowKit

set_option maxRecDepth 10000 in
set_option maxHeartbeats 16000000 in
theorem lawFnSite_any (a : Option Addr) (len cap : Nat) (a' : Option Addr) (len' cap' : Nat) (w : World) (hG : MaxI w) (hr : len ≤ 1048576 → CodeRow w a len) (hr' : len' ≤ 1048576 → CodeRow w a' len') :
    Calls Tryd.prog 6 #[.slice a len cap, .slice a' len' cap'] w fun e w' => e = .returned (.bool true) ∧ Below w.heap.size w w' := by
  by_cases h1 : 1048576 < len
  · clear hr hr'
    go_enter Tryd.func6, Tryd.ntmps6
    go_wp2
    go_ret
    exact ⟨rfl, Below.refl _ _⟩
  have q1 : decide (1048576 < (len : Int)) = false := by rw [decide_eq_false_iff_not]; omega
  by_cases h2 : 1048576 < len'
  · clear hr hr'
    go_enter Tryd.func6, Tryd.ntmps6
    go_wp2
    go_ret
    exact ⟨rfl, Below.refl _ _⟩
  have q2 : decide (1048576 < (len' : Int)) = false := by rw [decide_eq_false_iff_not]; omega
  have R1 : Hid (CodeRow w a len) := hr (by omega)
  have R2 : Hid (CodeRow w a' len') := hr' (by omega)
  have HG : Hid (MaxI w) := hG
  have l1 : len ≤ 1048576 := by omega
  have l2 : len' ≤ 1048576 := by omega
  clear hr hr' hG
  go_enter Tryd.func6, Tryd.ntmps6
  go_wp2_with fail
  refine (drawSameSite_any a len cap _ R1.out l1).mono ?_
  rintro e w1 ⟨⟨v, n, f, sc, ho, pa, po, sc2, ho2, pa2, po2, rfl, sl1, fw, ⟨hsc, hho, hpa⟩, hsc2, hho2, hpa2⟩, hb1⟩
  have z1 := hb1.size
  have FW : Hid (Few n f) := fw
  have SL1 : Hid (SliceS w1 w.heap.size v n f) := sl1
  unfold urlV
  have B1 : Hid (∀ o o', Below w.heap.size w ((w1.alloc o).alloc o')) := fun o o' => (hb1.alloc z1 _).alloc (by simp; omega) _
  clear sl1 fw
  go_wp2_with fail
  refine (drawSiteOf_any a' len' cap' _ (R2.out.below (B1.out _ _)) l2).mono ?_
  rintro e w2 ⟨⟨v', n', f', sc3, ho3, pa3, po3, rfl, -, -, hsc3, hho3, hpa3⟩, hb2⟩
  unfold urlV
  have e20 : w2.cell? ⟨w1.heap.size, 0, none⟩ = some (.string sc) := by rw [(bcell hb2).1 _ _ (by simp <;> omega)]; simp
  have e21 : w2.cell? ⟨w1.heap.size, 1, none⟩ = some (.string ho) := by rw [(bcell hb2).1 _ _ (by simp <;> omega)]; simp
  have e22 : w2.cell? ⟨w1.heap.size, 2, none⟩ = some (.int .i64 po) := by rw [(bcell hb2).1 _ _ (by simp <;> omega)]; simp
  have e23 : w2.cell? ⟨w1.heap.size, 3, none⟩ = some (.string pa) := by rw [(bcell hb2).1 _ _ (by simp <;> omega)]; simp
  have e24 : w2.cell? ⟨w1.heap.size + 1, 0, none⟩ = some (.string sc2) := by rw [(bcell hb2).1 _ _ (by simp <;> omega)]; simp
  have e25 : w2.cell? ⟨w1.heap.size + 1, 1, none⟩ = some (.string ho2) := by rw [(bcell hb2).1 _ _ (by simp <;> omega)]; simp
  have e26 : w2.cell? ⟨w1.heap.size + 1, 2, none⟩ = some (.int .i64 po2) := by rw [(bcell hb2).1 _ _ (by simp <;> omega)]; simp
  have e27 : w2.cell? ⟨w1.heap.size + 1, 3, none⟩ = some (.string pa2) := by rw [(bcell hb2).1 _ _ (by simp <;> omega)]; simp
  have Bw2 : Hid (Below w.heap.size w w2) := (B1.out _ _).trans (hb2.mono (by simp; omega))
  have SL2 : Hid (SliceS w2 0 v n f) := ((slice_low SL1.out (Nat.zero_le _)).below (((Below.refl _ _).alloc (Nat.le_refl _) _).alloc (by simp) _)).below hb2
  have z2 : w1.heap.size + 2 ≤ w2.heap.size := by have := hb2.size; simpa using this
  have zA : w1.heap.size < w2.heap.size := by omega
  have zB : w1.heap.size + 1 < w2.heap.size := by omega
  clear hb2 SL1 B1
  go_wp2_with fail
  have p00 : (w2.alloc (.cells #[.string sc3, .string ho3, .int .i64 po3, .string pa3] 35)).cell? ⟨w1.heap.size, 0, none⟩ = some (.string sc) := by rw [World.cell?_alloc_lt _ _ _ (by show (w1.heap.size) < w2.heap.size; omega)]; exact e20
  have p01 : (w2.alloc (.cells #[.string sc3, .string ho3, .int .i64 po3, .string pa3] 35)).cell? ⟨w1.heap.size, 1, none⟩ = some (.string ho) := by rw [World.cell?_alloc_lt _ _ _ (by show (w1.heap.size) < w2.heap.size; omega)]; exact e21
  have p02 : (w2.alloc (.cells #[.string sc3, .string ho3, .int .i64 po3, .string pa3] 35)).cell? ⟨w1.heap.size, 2, none⟩ = some (.int .i64 po) := by rw [World.cell?_alloc_lt _ _ _ (by show (w1.heap.size) < w2.heap.size; omega)]; exact e22
  have p03 : (w2.alloc (.cells #[.string sc3, .string ho3, .int .i64 po3, .string pa3] 35)).cell? ⟨w1.heap.size, 3, none⟩ = some (.string pa) := by rw [World.cell?_alloc_lt _ _ _ (by show (w1.heap.size) < w2.heap.size; omega)]; exact e23
  have p04 : (w2.alloc (.cells #[.string sc3, .string ho3, .int .i64 po3, .string pa3] 35)).cell? ⟨w1.heap.size + 1, 0, none⟩ = some (.string sc2) := by rw [World.cell?_alloc_lt _ _ _ (by show (w1.heap.size + 1) < w2.heap.size; omega)]; exact e24
  have p05 : (w2.alloc (.cells #[.string sc3, .string ho3, .int .i64 po3, .string pa3] 35)).cell? ⟨w1.heap.size + 1, 1, none⟩ = some (.string ho2) := by rw [World.cell?_alloc_lt _ _ _ (by show (w1.heap.size + 1) < w2.heap.size; omega)]; exact e25
  have p06 : (w2.alloc (.cells #[.string sc3, .string ho3, .int .i64 po3, .string pa3] 35)).cell? ⟨w1.heap.size + 1, 2, none⟩ = some (.int .i64 po2) := by rw [World.cell?_alloc_lt _ _ _ (by show (w1.heap.size + 1) < w2.heap.size; omega)]; exact e26
  have p07 : (w2.alloc (.cells #[.string sc3, .string ho3, .int .i64 po3, .string pa3] 35)).cell? ⟨w1.heap.size + 1, 3, none⟩ = some (.string pa2) := by rw [World.cell?_alloc_lt _ _ _ (by show (w1.heap.size + 1) < w2.heap.size; omega)]; exact e27
  have p08 : (w2.alloc (.cells #[.string sc3, .string ho3, .int .i64 po3, .string pa3] 35)).cell? ⟨w2.heap.size, 0, none⟩ = some (.string sc3) := by simp
  have p09 : (w2.alloc (.cells #[.string sc3, .string ho3, .int .i64 po3, .string pa3] 35)).cell? ⟨w2.heap.size, 1, none⟩ = some (.string ho3) := by simp
  have p010 : (w2.alloc (.cells #[.string sc3, .string ho3, .int .i64 po3, .string pa3] 35)).cell? ⟨w2.heap.size, 2, none⟩ = some (.int .i64 po3) := by simp
  have p011 : (w2.alloc (.cells #[.string sc3, .string ho3, .int .i64 po3, .string pa3] 35)).cell? ⟨w2.heap.size, 3, none⟩ = some (.string pa3) := by simp
  have BW : Hid (Below w.heap.size w (w2.alloc (.cells #[.string sc3, .string ho3, .int .i64 po3, .string pa3] 35))) := Bw2.out.alloc Bw2.out.size _
  have SLb : Hid (SliceS (w2.alloc (.cells #[.string sc3, .string ho3, .int .i64 po3, .string pa3] 35)) 0 v n f) := slice_new SL2.out _
  have z0 : w2.heap.size + 1 ≤ (w2.alloc (.cells #[.string sc3, .string ho3, .int .i64 po3, .string pa3] 35)).heap.size := by simp
  have HGb : Hid (MaxI (w2.alloc (.cells #[.string sc3, .string ho3, .int .i64 po3, .string pa3] 35))) := HG.out.on BW.out
  clear e20 e21 e22 e23 e24 e25 e26 e27 SL2 Bw2 HG
  generalize (w2.alloc (.cells #[.string sc3, .string ho3, .int .i64 po3, .string pa3] 35)) = wb at *
  have hn : n ≤ 1048576 := by have := FW.out.1; omega
  have hfz : ∀ i, i < n → (f i).size ≤ 1048576 := fun i hi => by have := FW.out.2 i hi; omega
  have Bb : Hid (Below wb.heap.size wb wb) := Below.refl _ _
  have KAB : Hid (∀ W, Below wb.heap.size wb W → Calls Tryd.prog 41 #[v, .agg #[.string sc, .string ho, .int .i64 po, .string pa], .agg #[.string sc2, .string ho2, .int .i64 po2, .string pa2]] W fun e w' => e = .returned (.bool (sameS n f sc ho pa po sc2 ho2 pa2 po2)) ∧ Below W.heap.size W w') := fun W c => sameSite_any v n 0 f sc ho pa po sc2 ho2 pa2 po2 W (HGb.out.on c) (SLb.out.below c) hn hfz (by omega) (by omega)
  have TAB : Hid (∀ W, Below wb.heap.size wb W → Calls Tryd.prog 42 #[v, .agg #[.string sc, .string ho, .int .i64 po, .string pa], .agg #[.string sc2, .string ho2, .int .i64 po2, .string pa2]] W fun e w' => e = .returned (.bool (sameS n f sc ho pa po sc2 ho2 pa2 po2)) ∧ Below W.heap.size W w') := fun W c => specSame_any v n 0 f sc ho pa po sc2 ho2 pa2 po2 W (SLb.out.below c) hn hfz
  have KBA : Hid (∀ W, Below wb.heap.size wb W → Calls Tryd.prog 41 #[v, .agg #[.string sc2, .string ho2, .int .i64 po2, .string pa2], .agg #[.string sc, .string ho, .int .i64 po, .string pa]] W fun e w' => e = .returned (.bool (sameS n f sc ho pa po sc2 ho2 pa2 po2)) ∧ Below W.heap.size W w') := fun W c => by rw [← sameS_sym]; exact sameSite_any v n 0 f sc2 ho2 pa2 po2 sc ho pa po W (HGb.out.on c) (SLb.out.below c) hn hfz (by omega) (by omega)
  have KC : Hid (∀ W, Below wb.heap.size wb W → Calls Tryd.prog 43 #[v, .agg #[.string sc3, .string ho3, .int .i64 po3, .string pa3]] W fun e w' => e = .returned (.string (siteOf n f sc3 ho3 pa3 po3)) ∧ Below W.heap.size W w') := fun W c => siteOf_any v n 0 f sc3 ho3 pa3 po3 W (HGb.out.on c) (SLb.out.below c) hn hfz (by omega)
  have TC : Hid (∀ W, Below wb.heap.size wb W → Calls Tryd.prog 44 #[v, .agg #[.string sc3, .string ho3, .int .i64 po3, .string pa3]] W fun e w' => e = .returned (.string (siteOf n f sc3 ho3 pa3 po3)) ∧ Below W.heap.size W w') := fun W c => specSiteOf_any v n 0 f sc3 ho3 pa3 po3 W (SLb.out.below c) hn hfz
  have KBC : Hid (∀ W, Below wb.heap.size wb W → Calls Tryd.prog 41 #[v, .agg #[.string sc2, .string ho2, .int .i64 po2, .string pa2], .agg #[.string sc3, .string ho3, .int .i64 po3, .string pa3]] W fun e w' => e = .returned (.bool (sameS n f sc2 ho2 pa2 po2 sc3 ho3 pa3 po3)) ∧ Below W.heap.size W w') := fun W c => sameSite_any v n 0 f sc2 ho2 pa2 po2 sc3 ho3 pa3 po3 W (HGb.out.on c) (SLb.out.below c) hn hfz (by omega) (by omega)
  have KAC : Hid (∀ W, Below wb.heap.size wb W → Calls Tryd.prog 41 #[v, .agg #[.string sc, .string ho, .int .i64 po, .string pa], .agg #[.string sc3, .string ho3, .int .i64 po3, .string pa3]] W fun e w' => e = .returned (.bool (sameS n f sc ho pa po sc3 ho3 pa3 po3)) ∧ Below W.heap.size W w') := fun W c => sameSite_any v n 0 f sc ho pa po sc3 ho3 pa3 po3 W (HGb.out.on c) (SLb.out.below c) hn hfz (by omega) (by omega)
  have TR : Hid (∀ W, Below wb.heap.size wb W → Calls Tryd.prog 45 #[v] W fun e w' => e = .returned (.bool (rulesB n f)) ∧ Below W.heap.size W w') := fun W c => specRules_any v n 0 f W (SLb.out.below c) hn hfz
  have TU : Hid (∀ W, Below wb.heap.size wb W → Calls Tryd.prog 22 #[.agg #[.string sc, .string ho, .int .i64 po, .string pa]] W fun e w' => e = .returned (.bool (urlB sc ho pa po)) ∧ Below W.heap.size W w') := fun W c => specUrlRight_any sc ho pa po W
  have HT : Hid (sameS n f sc ho pa po sc2 ho2 pa2 po2 = true → sameS n f sc2 ho2 pa2 po2 sc3 ho3 pa3 po3 = true → sameS n f sc ho pa po sc3 ho3 pa3 po3 = true) := fun x y => sameS_trans x y
  generalize siteOf n f sc3 ho3 pa3 po3 = T3 at *
  generalize hs : sameS n f sc ho pa po sc2 ho2 pa2 po2 = s at *
  generalize sameS n f sc2 ho2 pa2 po2 sc3 ho3 pa3 po3 = t at *
  generalize sameS n f sc ho pa po sc3 ho3 pa3 po3 = u at *
  refine (KAB.out _ Bb.out).mono ?_
  rintro e w3 ⟨rfl, hb3⟩
  have T3 := Cells.below (L := [(⟨w1.heap.size, 0, none⟩, .string sc), (⟨w1.heap.size, 1, none⟩, .string ho), (⟨w1.heap.size, 2, none⟩, .int .i64 po), (⟨w1.heap.size, 3, none⟩, .string pa), (⟨w1.heap.size + 1, 0, none⟩, .string sc2), (⟨w1.heap.size + 1, 1, none⟩, .string ho2), (⟨w1.heap.size + 1, 2, none⟩, .int .i64 po2), (⟨w1.heap.size + 1, 3, none⟩, .string pa2), (⟨w2.heap.size, 0, none⟩, .string sc3), (⟨w2.heap.size, 1, none⟩, .string ho3), (⟨w2.heap.size, 2, none⟩, .int .i64 po3), (⟨w2.heap.size, 3, none⟩, .string pa3)]) (by simp only [Cells]; go_keep) hb3
  simp only [Cells] at T3
  obtain ⟨p30, p31, p32, p33, p34, p35, p36, p37, p38, p39, p310, p311, -⟩ := T3
  have z3 : w2.heap.size + 1 ≤ w3.heap.size := Nat.le_trans z0 hb3.size
  have B3 : Hid (Below wb.heap.size wb w3) := hb3
  clear hb3 z0 KAB p00 p01 p02 p03 p04 p05 p06 p07 p08 p09 p010 p011
  go_wp2_with fail
  rename_i K hK
  have tail : ∀ (u13 u14 u15 u16 u17 u18 u19 u20 u21 u22 u23 u24 u25 u26 u27 u28 u29 u30 u31 u32 u33 u34 u35 u36 u37 u38 u39 u40 u41 u42 u43 u44 u45 u46 u47 u48 u49 u50 u51 u52 u53 u54 u55 u56 u57 u58 u59 u60 u61 u62 u63 u64 u65 u66 u67 u68 u69 u70 u71 u72 u73 : Value) (W : World), W.cell? ⟨w1.heap.size, 0, none⟩ = some (.string sc) → W.cell? ⟨w1.heap.size, 1, none⟩ = some (.string ho) → W.cell? ⟨w1.heap.size, 2, none⟩ = some (.int .i64 po) → W.cell? ⟨w1.heap.size, 3, none⟩ = some (.string pa) → W.cell? ⟨w1.heap.size + 1, 0, none⟩ = some (.string sc2) → W.cell? ⟨w1.heap.size + 1, 1, none⟩ = some (.string ho2) → W.cell? ⟨w1.heap.size + 1, 2, none⟩ = some (.int .i64 po2) → W.cell? ⟨w1.heap.size + 1, 3, none⟩ = some (.string pa2) → W.cell? ⟨w2.heap.size, 0, none⟩ = some (.string sc3) → W.cell? ⟨w2.heap.size, 1, none⟩ = some (.string ho3) → W.cell? ⟨w2.heap.size, 2, none⟩ = some (.int .i64 po3) → W.cell? ⟨w2.heap.size, 3, none⟩ = some (.string pa3) → w2.heap.size + 1 ≤ W.heap.size → Hid (Below wb.heap.size wb W) → K { tmps := #[.slice a len cap, .slice a' len' cap', undef, undef, .bool false, v, .pointer (some ⟨w1.heap.size, 0, none⟩), .pointer (some ⟨w1.heap.size + 1, 0, none⟩), v', .pointer (some ⟨w2.heap.size, 0, none⟩), .bool s, undef, undef, u13, u14, u15, u16, u17, u18, u19, u20, u21, u22, u23, u24, u25, u26, u27, u28, u29, u30, u31, u32, u33, u34, u35, u36, u37, u38, u39, u40, u41, u42, u43, u44, u45, u46, u47, u48, u49, u50, u51, u52, u53, u54, u55, u56, u57, u58, u59, u60, u61, u62, u63, u64, u65, u66, u67, u68, u69, u70, u71, u72, u73, .bool false, undef, undef, undef, undef, undef, undef, undef, undef, undef, undef, undef, undef, undef, undef, undef, undef, undef, undef, undef, undef, undef, undef, undef, undef, undef, undef, undef, undef, undef, undef, undef, undef, undef, undef, undef, undef, undef, undef, undef, undef, undef, undef, undef, undef, undef, undef, undef, undef, undef, undef, undef, undef, undef, undef, undef, undef, undef, undef, undef, undef, undef], defers := [] } W := by
    intro u13 u14 u15 u16 u17 u18 u19 u20 u21 u22 u23 u24 u25 u26 u27 u28 u29 u30 u31 u32 u33 u34 u35 u36 u37 u38 u39 u40 u41 u42 u43 u44 u45 u46 u47 u48 u49 u50 u51 u52 u53 u54 u55 u56 u57 u58 u59 u60 u61 u62 u63 u64 u65 u66 u67 u68 u69 u70 u71 u72 u73 w4 p40 p41 p42 p43 p44 p45 p46 p47 p48 p49 p410 p411 z4 B4
    refine hK _ _ ?_
    clear hK TAB KBA KC TC KBC KAC HT
    generalize hrb : rulesB n f = rb at *
    generalize hub : urlB sc ho pa po = ub at *
    go_wp2_with fail
    refine (TR.out _ B4.out).mono ?_
    rintro e w5 ⟨rfl, hb5⟩
    have T5 := Cells.below (L := [(⟨w1.heap.size, 0, none⟩, .string sc), (⟨w1.heap.size, 1, none⟩, .string ho), (⟨w1.heap.size, 2, none⟩, .int .i64 po), (⟨w1.heap.size, 3, none⟩, .string pa)]) (by simp only [Cells]; go_keep) hb5
    simp only [Cells] at T5
    obtain ⟨p50, p51, p52, p53, -⟩ := T5
    have z5 : w2.heap.size + 1 ≤ w5.heap.size := Nat.le_trans z4 hb5.size
    have B5 : Hid (Below wb.heap.size wb w5) := B4.out.trans (hb5.mono B4.out.size)
    clear hb5 z4 TR p40 p41 p42 p43 p44 p45 p46 p47 p48 p49 p410 p411
    cases rb with
    | false =>
      go_wp2
      go_ret
      exact ⟨rfl, BW.out.trans (B5.out.mono BW.out.size)⟩
    | true =>
      go_wp2_with fail
      refine (TU.out _ B5.out).mono ?_
      rintro e w6 ⟨rfl, hb6⟩
      have T6 := Cells.below (L := [(⟨w1.heap.size, 0, none⟩, .string sc), (⟨w1.heap.size, 1, none⟩, .string ho), (⟨w1.heap.size, 2, none⟩, .int .i64 po), (⟨w1.heap.size, 3, none⟩, .string pa)]) (by simp only [Cells]; go_keep) hb6
      simp only [Cells] at T6
      obtain ⟨p60, p61, p62, p63, -⟩ := T6
      have z6 : w2.heap.size + 1 ≤ w6.heap.size := Nat.le_trans z5 hb6.size
      have B6 : Hid (Below wb.heap.size wb w6) := B5.out.trans (hb6.mono B5.out.size)
      clear hb6 z5 TU p50 p51 p52 p53
      cases ub with
      | false =>
        go_wp2
        go_ret
        exact ⟨rfl, BW.out.trans (B6.out.mono BW.out.size)⟩
      | true =>
        obtain ⟨h5, h100, po1, po2', hp40⟩ := urlB_parts hub
        have hmod : po.tmod 65535 = po % 65535 := Int.tmod_eq_emod_of_nonneg (by omega)
        have m0 : 0 ≤ po % 65535 := Int.emod_nonneg _ (by decide)
        have m1 : po % 65535 < 65535 := Int.emod_lt_of_pos _ (by decide)
        have zA6 : w1.heap.size < w6.heap.size := by omega
        have hs4 : (⟨#[119, 119, 119, 46]⟩ : ByteArray).size = 4 := rfl
        go_wp2_with fail
        clear z3 B3 p30 p31 p32 p33 p34 p35 p36 p37 p38 p39 p310 p311
        generalize hhS : (⟨#[119, 119, 119, 46]⟩ ++ ho : ByteArray) = hS at *
        generalize hpP : 1 + po % 65535 = pP at *
        have hzS : hS.size ≤ 104 := by rw [← hhS, ByteArray.size_append, hs4]; omega
        have uP : urlB sc ho pa pP = true := urlB_port hub (by omega) (by omega)
        have KAA : Hid (∀ W, Below wb.heap.size wb W → Calls Tryd.prog 41 #[v, .agg #[.string sc, .string ho, .int .i64 po, .string pa], .agg #[.string sc, .string ho, .int .i64 po, .string pa]] W fun e w' => e = .returned (.bool true) ∧ Below W.heap.size W w') := fun W c => by have e : sameS n f sc ho pa po sc ho pa po = true := sameS_yes hrb hub hub rfl; rw [← e]; exact sameSite_any v n 0 f sc ho pa po sc ho pa po W (HGb.out.on c) (SLb.out.below c) hn hfz (by omega) (by omega)
        have KAP : Hid (∀ W, Below wb.heap.size wb W → Calls Tryd.prog 41 #[v, .agg #[.string sc, .string ho, .int .i64 po, .string pa], .agg #[.string sc, .string ho, .int .i64 pP, .string pa]] W fun e w' => e = .returned (.bool true) ∧ Below W.heap.size W w') := fun W c => by have e : sameS n f sc ho pa po sc ho pa pP = true := sameS_yes hrb hub uP rfl; rw [← e]; exact sameSite_any v n 0 f sc ho pa po sc ho pa pP W (HGb.out.on c) (SLb.out.below c) hn hfz (by omega) (by omega)
        have TUS : Hid (∀ W, Below wb.heap.size wb W → Calls Tryd.prog 22 #[.agg #[.string sc, .string hS, .int .i64 po, .string pa]] W fun e w' => e = .returned (.bool (urlB sc hS pa po)) ∧ Below W.heap.size W w') := fun W c => specUrlRight_any sc hS pa po W
        have TSA : Hid (∀ W, Below wb.heap.size wb W → Calls Tryd.prog 46 #[v, .string ho] W fun e w' => e = .returned (.agg #[.string (sufS n f ho), .string (sufD n f ho)]) ∧ Below W.heap.size W w') := fun W c => specSuffix_right v n 0 f ho W (SLb.out.below c) hn hfz hrb (hostB_url hub)
        have TSB : Hid (∀ W, Below wb.heap.size wb W → Calls Tryd.prog 46 #[v, .string hS] W fun e w' => e = .returned (.agg #[.string (sufOf n f hS).1, .string (sufOf n f hS).2]) ∧ Below W.heap.size W w') := fun W c => specSuffix_any v n 0 f hS W (SLb.out.below c) hn hfz
        have KAS : Hid (∀ W, Below wb.heap.size wb W → Calls Tryd.prog 41 #[v, .agg #[.string sc, .string ho, .int .i64 po, .string pa], .agg #[.string sc, .string hS, .int .i64 po, .string pa]] W fun e w' => e = .returned (.bool (sameS n f sc ho pa po sc hS pa po)) ∧ Below W.heap.size W w') := fun W c => sameSite_any v n 0 f sc ho pa po sc hS pa po W (HGb.out.on c) (SLb.out.below c) hn hfz (by omega) (by omega)
        have HX : Hid (urlB sc hS pa po = true → (sufD n f ho).toList.isEmpty = false → ((sufS n f ho).toList == (sufOf n f hS).1.toList) = true → sameS n f sc ho pa po sc hS pa po = true) := fun x y z => by
          have hh := hostB_url x
          have e : sufOf n f hS = (sufS n f hS, sufD n f hS) := by rw [sufOf, if_pos ⟨hrb, hh⟩]
          rw [e] at z
          have eS : hS = subH ho := hhS.symm
          refine sameS_yes hrb hub x ?_
          rw [eS] at hh z ⊢
          exact site_sub (hostB_url hub) hh y z
        generalize urlB sc hS pa po = us at *
        generalize sameS n f sc ho pa po sc hS pa po = rr at *
        generalize sufS n f ho = S1 at *
        generalize sufD n f ho = D1 at *
        generalize (sufOf n f hS).1 = S2 at *
        generalize (sufOf n f hS).2 = D2 at *
        have hfd : ∀ (a b : ByteArray) (W : World), Sem.run Tryd.prog (Instr.field 62 (.agg #[.string a, .string b]) 1) W = .ok (.string b) W := field_domain
        have hfs : ∀ (a b : ByteArray) (W : World), Sem.run Tryd.prog (Instr.field 62 (.agg #[.string a, .string b]) 0) W = .ok (.string a) W := field_suffix
        clear hrb hub uP hfz hmod
        have p70 : ((w6.alloc (.cells #[.string sc, .string hS, .int .i64 po, .string pa] 35)).alloc (.cells #[.string sc, .string ho, .int .i64 pP, .string pa] 35)).cell? ⟨w1.heap.size, 0, none⟩ = some (.string sc) := by rw [World.cell?_alloc_lt _ _ _ (by show (w1.heap.size) < _; simp; omega), World.cell?_alloc_lt _ _ _ (by show (w1.heap.size) < _; omega)]; exact p60
        have p71 : ((w6.alloc (.cells #[.string sc, .string hS, .int .i64 po, .string pa] 35)).alloc (.cells #[.string sc, .string ho, .int .i64 pP, .string pa] 35)).cell? ⟨w1.heap.size, 1, none⟩ = some (.string ho) := by rw [World.cell?_alloc_lt _ _ _ (by show (w1.heap.size) < _; simp; omega), World.cell?_alloc_lt _ _ _ (by show (w1.heap.size) < _; omega)]; exact p61
        have p72 : ((w6.alloc (.cells #[.string sc, .string hS, .int .i64 po, .string pa] 35)).alloc (.cells #[.string sc, .string ho, .int .i64 pP, .string pa] 35)).cell? ⟨w1.heap.size, 2, none⟩ = some (.int .i64 po) := by rw [World.cell?_alloc_lt _ _ _ (by show (w1.heap.size) < _; simp; omega), World.cell?_alloc_lt _ _ _ (by show (w1.heap.size) < _; omega)]; exact p62
        have p73 : ((w6.alloc (.cells #[.string sc, .string hS, .int .i64 po, .string pa] 35)).alloc (.cells #[.string sc, .string ho, .int .i64 pP, .string pa] 35)).cell? ⟨w1.heap.size, 3, none⟩ = some (.string pa) := by rw [World.cell?_alloc_lt _ _ _ (by show (w1.heap.size) < _; simp; omega), World.cell?_alloc_lt _ _ _ (by show (w1.heap.size) < _; omega)]; exact p63
        have p74 : ((w6.alloc (.cells #[.string sc, .string hS, .int .i64 po, .string pa] 35)).alloc (.cells #[.string sc, .string ho, .int .i64 pP, .string pa] 35)).cell? ⟨w6.heap.size, 0, none⟩ = some (.string sc) := by rw [World.cell?_alloc_lt _ _ _ (by show (w6.heap.size) < _; simp)]; simp
        have p75 : ((w6.alloc (.cells #[.string sc, .string hS, .int .i64 po, .string pa] 35)).alloc (.cells #[.string sc, .string ho, .int .i64 pP, .string pa] 35)).cell? ⟨w6.heap.size, 1, none⟩ = some (.string hS) := by rw [World.cell?_alloc_lt _ _ _ (by show (w6.heap.size) < _; simp)]; simp
        have p76 : ((w6.alloc (.cells #[.string sc, .string hS, .int .i64 po, .string pa] 35)).alloc (.cells #[.string sc, .string ho, .int .i64 pP, .string pa] 35)).cell? ⟨w6.heap.size, 2, none⟩ = some (.int .i64 po) := by rw [World.cell?_alloc_lt _ _ _ (by show (w6.heap.size) < _; simp)]; simp
        have p77 : ((w6.alloc (.cells #[.string sc, .string hS, .int .i64 po, .string pa] 35)).alloc (.cells #[.string sc, .string ho, .int .i64 pP, .string pa] 35)).cell? ⟨w6.heap.size, 3, none⟩ = some (.string pa) := by rw [World.cell?_alloc_lt _ _ _ (by show (w6.heap.size) < _; simp)]; simp
        have p78 : ((w6.alloc (.cells #[.string sc, .string hS, .int .i64 po, .string pa] 35)).alloc (.cells #[.string sc, .string ho, .int .i64 pP, .string pa] 35)).cell? ⟨w6.heap.size + 1, 0, none⟩ = some (.string sc) := by simp
        have p79 : ((w6.alloc (.cells #[.string sc, .string hS, .int .i64 po, .string pa] 35)).alloc (.cells #[.string sc, .string ho, .int .i64 pP, .string pa] 35)).cell? ⟨w6.heap.size + 1, 1, none⟩ = some (.string ho) := by simp
        have p710 : ((w6.alloc (.cells #[.string sc, .string hS, .int .i64 po, .string pa] 35)).alloc (.cells #[.string sc, .string ho, .int .i64 pP, .string pa] 35)).cell? ⟨w6.heap.size + 1, 2, none⟩ = some (.int .i64 pP) := by simp
        have p711 : ((w6.alloc (.cells #[.string sc, .string hS, .int .i64 po, .string pa] 35)).alloc (.cells #[.string sc, .string ho, .int .i64 pP, .string pa] 35)).cell? ⟨w6.heap.size + 1, 3, none⟩ = some (.string pa) := by simp
        have z7 : w6.heap.size + 2 ≤ ((w6.alloc (.cells #[.string sc, .string hS, .int .i64 po, .string pa] 35)).alloc (.cells #[.string sc, .string ho, .int .i64 pP, .string pa] 35)).heap.size := by simp
        have B7 : Hid (Below wb.heap.size wb ((w6.alloc (.cells #[.string sc, .string hS, .int .i64 po, .string pa] 35)).alloc (.cells #[.string sc, .string ho, .int .i64 pP, .string pa] 35))) := (B6.out.alloc B6.out.size _).alloc (by have := B6.out.size; simp; omega) _
        clear p60 p61 p62 p63
        generalize ((w6.alloc (.cells #[.string sc, .string hS, .int .i64 po, .string pa] 35)).alloc (.cells #[.string sc, .string ho, .int .i64 pP, .string pa] 35)) = w7 at *
        cases us with
        | false =>
          refine wp_region_held_drew (S := (fun w' => w6.heap.size + 2 ≤ w'.heap.size ∧ w'.cell? ⟨w1.heap.size, 0, none⟩ = some (.string sc) ∧ w'.cell? ⟨w1.heap.size, 1, none⟩ = some (.string ho) ∧ w'.cell? ⟨w1.heap.size, 2, none⟩ = some (.int .i64 po) ∧ w'.cell? ⟨w1.heap.size, 3, none⟩ = some (.string pa) ∧ w'.cell? ⟨w6.heap.size, 0, none⟩ = some (.string sc) ∧ w'.cell? ⟨w6.heap.size, 1, none⟩ = some (.string hS) ∧ w'.cell? ⟨w6.heap.size, 2, none⟩ = some (.int .i64 po) ∧ w'.cell? ⟨w6.heap.size, 3, none⟩ = some (.string pa) ∧ w'.cell? ⟨w6.heap.size + 1, 0, none⟩ = some (.string sc) ∧ w'.cell? ⟨w6.heap.size + 1, 1, none⟩ = some (.string ho) ∧ w'.cell? ⟨w6.heap.size + 1, 2, none⟩ = some (.int .i64 pP) ∧ w'.cell? ⟨w6.heap.size + 1, 3, none⟩ = some (.string pa))) (by kernel_rfl) ?_ (fun hH0 => ?_)
          · (try dsimp only)
            go_keep
          refine wpAnyH_take (i := 0) (oi := { dst := some 94, op := Op.move (Operand.tmp 5), type := 43, pos := "laws.go:156", after := #[], guard := none }) (v := ?va0) rfl (by kernel_rfl) (by kernel_rfl) (by kernel_rfl) (fun _ _ _ h => h) (Or.inl ⟨by rfl, ?hya0⟩) (by assumption) ?resta0
          case hya0 =>
            intro w hSw
            (try dsimp only at hSw)
            go_simp
            try with_reducible rfl
          try simp only [Act.put, List.setIfInBounds_toArray, List.set_cons_zero, List.set_cons_succ]
          refine wpAnyH_take (i := 1) (oi := { dst := some 95, op := Op.load 35 (Operand.tmp 6), type := 35, pos := "laws.go:156", after := #[], guard := none }) (v := ?va1) rfl (by kernel_rfl) (by kernel_rfl) (by kernel_rfl) (fun _ _ _ h => h) (Or.inl ⟨by rfl, ?hya1⟩) (by assumption) ?resta1
          case hya1 =>
            intro w hSw
            (try dsimp only at hSw)
            go_simp
            try with_reducible rfl
          try simp only [Act.put, List.setIfInBounds_toArray, List.set_cons_zero, List.set_cons_succ]
          refine wpAnyH_take (i := 2) (oi := { dst := some 96, op := Op.load 35 (Operand.tmp 6), type := 35, pos := "laws.go:156", after := #[], guard := none }) (v := ?va2) rfl (by kernel_rfl) (by kernel_rfl) (by kernel_rfl) (fun _ _ _ h => h) (Or.inl ⟨by rfl, ?hya2⟩) (by assumption) ?resta2
          case hya2 =>
            intro w hSw
            (try dsimp only at hSw)
            go_simp
            try with_reducible rfl
          try simp only [Act.put, List.setIfInBounds_toArray, List.set_cons_zero, List.set_cons_succ]
          refine wpAnyH_ready (rs := [3]) (by kernel_rfl) (by simp) ?_
          refine AllReadyH.cons (o := { dst := some 97, op := Op.call { callee := Callee.value (Operand.func 41), args := #[Operand.tmp 94, Operand.tmp 95, Operand.tmp 96], argTypes := #[43, 35, 35] }, type := 4, pos := "laws.go:156", after := #[{ on := 0, ground := Ground.data }, { on := 1, ground := Ground.data }, { on := 2, ground := Ground.data }], guard := none }) rfl (fun K hK => ?_) AllReadyH.nil
          go_simp
          (go_at_call 41; refine (KAA.out _ (B7.out.trans (Below.drew (Below.refl _ _)))).mono ?_; rintro e w8 ⟨rfl, hb8⟩; have T8 := Cells.below (L := [(⟨w1.heap.size, 0, none⟩, .string sc), (⟨w1.heap.size, 1, none⟩, .string ho), (⟨w1.heap.size, 2, none⟩, .int .i64 po), (⟨w1.heap.size, 3, none⟩, .string pa), (⟨w6.heap.size, 0, none⟩, .string sc), (⟨w6.heap.size, 1, none⟩, .string hS), (⟨w6.heap.size, 2, none⟩, .int .i64 po), (⟨w6.heap.size, 3, none⟩, .string pa), (⟨w6.heap.size + 1, 0, none⟩, .string sc), (⟨w6.heap.size + 1, 1, none⟩, .string ho), (⟨w6.heap.size + 1, 2, none⟩, .int .i64 pP), (⟨w6.heap.size + 1, 3, none⟩, .string pa)]) (by simp only [Cells]; go_keep) hb8; simp only [Cells] at T8; obtain ⟨p80, p81, p82, p83, p84, p85, p86, p87, p88, p89, p810, p811, -⟩ := T8; have z8 : w6.heap.size + 2 ≤ w8.heap.size := Nat.le_trans z7 hb8.size; have B8 : Hid (Below wb.heap.size wb w8) := (B7.out.trans (Below.drew (Below.refl _ _))).trans (hb8.mono (by have := B7.out.size; simpa using this)))
          try (go_wp2_with fail)
          refine hK.out _ _ ?_ (fun hH1 => ?_)
          · (try dsimp only)
            go_keep
          clear hK K hH0
          try simp only [Act.put, List.setIfInBounds_toArray, List.set_cons_zero, List.set_cons_succ]
          refine wpAnyH_take (i := 4) (oi := { dst := some 98, op := Op.move (Operand.tmp 97), type := 4, pos := "laws.go:156", after := #[{ on := 3, ground := Ground.data }, { on := 3, ground := Ground.chain }], guard := none }) (v := ?va4) rfl (by kernel_rfl) (by kernel_rfl) (by kernel_rfl) (fun _ _ _ h => h) (Or.inl ⟨by rfl, ?hya4⟩) (by assumption) ?resta4
          case hya4 =>
            intro w hSw
            (try dsimp only at hSw)
            go_simp
            try with_reducible rfl
          try simp only [Act.put, List.setIfInBounds_toArray, List.set_cons_zero, List.set_cons_succ]
          refine wpAnyH_take (i := 5) (oi := { dst := some 99, op := Op.move (Operand.tmp 5), type := 43, pos := "laws.go:156", after := #[{ on := 4, ground := Ground.guard }], guard := some (4, true) }) (v := ?va5) rfl (by kernel_rfl) (by kernel_rfl) (by kernel_rfl) (fun _ _ _ h => h) (Or.inl ⟨by rfl, ?hya5⟩) (by assumption) ?resta5
          case hya5 =>
            intro w hSw
            (try dsimp only at hSw)
            go_simp
            try with_reducible rfl
          try simp only [Act.put, List.setIfInBounds_toArray, List.set_cons_zero, List.set_cons_succ]
          refine wpAnyH_take (i := 6) (oi := { dst := some 100, op := Op.load 35 (Operand.tmp 6), type := 35, pos := "laws.go:156", after := #[{ on := 4, ground := Ground.guard }], guard := some (4, true) }) (v := ?va6) rfl (by kernel_rfl) (by kernel_rfl) (by kernel_rfl) (fun _ _ _ h => h) (Or.inl ⟨by rfl, ?hya6⟩) (by assumption) ?resta6
          case hya6 =>
            intro w hSw
            (try dsimp only at hSw)
            go_simp
            try with_reducible rfl
          try simp only [Act.put, List.setIfInBounds_toArray, List.set_cons_zero, List.set_cons_succ]
          refine wpAnyH_take (i := 7) (oi := { dst := some 101, op := Op.load 35 (Operand.tmp 12), type := 35, pos := "laws.go:156", after := #[{ on := 4, ground := Ground.guard }], guard := some (4, true) }) (v := ?va7) rfl (by kernel_rfl) (by kernel_rfl) (by kernel_rfl) (fun _ _ _ h => h) (Or.inl ⟨by rfl, ?hya7⟩) (by assumption) ?resta7
          case hya7 =>
            intro w hSw
            (try dsimp only at hSw)
            go_simp
            try with_reducible rfl
          try simp only [Act.put, List.setIfInBounds_toArray, List.set_cons_zero, List.set_cons_succ]
          refine wpAnyH_ready (rs := [8]) (by kernel_rfl) (by simp) ?_
          refine AllReadyH.cons (o := { dst := some 102, op := Op.call { callee := Callee.value (Operand.func 41), args := #[Operand.tmp 99, Operand.tmp 100, Operand.tmp 101], argTypes := #[43, 35, 35] }, type := 4, pos := "laws.go:156", after := #[{ on := 5, ground := Ground.data }, { on := 6, ground := Ground.data }, { on := 7, ground := Ground.data }, { on := 4, ground := Ground.chain }, { on := 4, ground := Ground.guard }], guard := some (4, true) }) rfl (fun K hK => ?_) AllReadyH.nil
          go_simp
          (go_at_call 41; refine (KAP.out _ B8.out).mono ?_; rintro e w9 ⟨rfl, hb9⟩; have T9 := Cells.below (L := [(⟨w1.heap.size, 0, none⟩, .string sc), (⟨w1.heap.size, 1, none⟩, .string ho), (⟨w1.heap.size, 2, none⟩, .int .i64 po), (⟨w1.heap.size, 3, none⟩, .string pa), (⟨w6.heap.size, 0, none⟩, .string sc), (⟨w6.heap.size, 1, none⟩, .string hS), (⟨w6.heap.size, 2, none⟩, .int .i64 po), (⟨w6.heap.size, 3, none⟩, .string pa), (⟨w6.heap.size + 1, 0, none⟩, .string sc), (⟨w6.heap.size + 1, 1, none⟩, .string ho), (⟨w6.heap.size + 1, 2, none⟩, .int .i64 pP), (⟨w6.heap.size + 1, 3, none⟩, .string pa)]) (by simp only [Cells]; go_keep) hb9; simp only [Cells] at T9; obtain ⟨p90, p91, p92, p93, p94, p95, p96, p97, p98, p99, p910, p911, -⟩ := T9; have z9 : w6.heap.size + 2 ≤ w9.heap.size := Nat.le_trans z8 hb9.size; have B9 : Hid (Below wb.heap.size wb w9) := B8.out.trans (hb9.mono B8.out.size); clear p80 p81 p82 p83 p84 p85 p86 p87 p88 p89 p810 p811 z8 hb8)
          try (go_wp2_with fail)
          refine hK.out _ _ ?_ (fun hH2 => ?_)
          · (try dsimp only)
            go_keep
          clear hK K hH1
          try simp only [Act.put, List.setIfInBounds_toArray, List.set_cons_zero, List.set_cons_succ]
          refine wpAnyH_take (i := 9) (oi := { dst := some 103, op := Op.pick (Operand.tmp 98) (Operand.tmp 102) (Operand.const (Value.bool false)), type := 4, pos := "laws.go:156", after := #[{ on := 4, ground := Ground.data }, { on := 8, ground := Ground.data }], guard := none }) (v := ?va9) rfl (by kernel_rfl) (by kernel_rfl) (by kernel_rfl) (fun _ _ _ h => h) (Or.inl ⟨by rfl, ?hya9⟩) (by assumption) ?resta9
          case hya9 =>
            intro w hSw
            (try dsimp only at hSw)
            go_simp
            try with_reducible rfl
          try simp only [Act.put, List.setIfInBounds_toArray, List.set_cons_zero, List.set_cons_succ]
          refine wpAnyH_take (i := 10) (oi := { dst := some 104, op := Op.move (Operand.tmp 103), type := 4, pos := "laws.go:156", after := #[{ on := 9, ground := Ground.data }, { on := 8, ground := Ground.chain }], guard := none }) (v := ?va10) rfl (by kernel_rfl) (by kernel_rfl) (by kernel_rfl) (fun _ _ _ h => h) (Or.inl ⟨by rfl, ?hya10⟩) (by assumption) ?resta10
          case hya10 =>
            intro w hSw
            (try dsimp only at hSw)
            go_simp
            try with_reducible rfl
          try simp only [Act.put, List.setIfInBounds_toArray, List.set_cons_zero, List.set_cons_succ]
          refine wpAnyH_take (i := 11) (oi := { dst := some 105, op := Op.load 35 (Operand.tmp 11), type := 35, pos := "laws.go:156", after := #[{ on := 10, ground := Ground.guard }], guard := some (10, true) }) (v := ?va11) rfl (by kernel_rfl) (by kernel_rfl) (by kernel_rfl) (fun _ _ _ h => h) (Or.inl ⟨by rfl, ?hya11⟩) (by assumption) ?resta11
          case hya11 =>
            intro w hSw
            (try dsimp only at hSw)
            go_simp
            try with_reducible rfl
          try simp only [Act.put, List.setIfInBounds_toArray, List.set_cons_zero, List.set_cons_succ]
          refine wpAnyH_ready (rs := [12]) (by kernel_rfl) (by simp) ?_
          refine AllReadyH.cons (o := { dst := some 106, op := Op.call { callee := Callee.value (Operand.func 22), args := #[Operand.tmp 105], argTypes := #[35] }, type := 4, pos := "laws.go:156", after := #[{ on := 11, ground := Ground.data }, { on := 10, ground := Ground.chain }, { on := 10, ground := Ground.guard }], guard := some (10, true) }) rfl (fun K hK => ?_) AllReadyH.nil
          go_simp
          (go_at_call 22; refine (TUS.out _ B9.out).mono ?_; rintro e w10 ⟨rfl, hb10⟩; have T10 := Cells.below (L := [(⟨w1.heap.size, 0, none⟩, .string sc), (⟨w1.heap.size, 1, none⟩, .string ho), (⟨w1.heap.size, 2, none⟩, .int .i64 po), (⟨w1.heap.size, 3, none⟩, .string pa), (⟨w6.heap.size, 0, none⟩, .string sc), (⟨w6.heap.size, 1, none⟩, .string hS), (⟨w6.heap.size, 2, none⟩, .int .i64 po), (⟨w6.heap.size, 3, none⟩, .string pa), (⟨w6.heap.size + 1, 0, none⟩, .string sc), (⟨w6.heap.size + 1, 1, none⟩, .string ho), (⟨w6.heap.size + 1, 2, none⟩, .int .i64 pP), (⟨w6.heap.size + 1, 3, none⟩, .string pa)]) (by simp only [Cells]; go_keep) hb10; simp only [Cells] at T10; obtain ⟨p100, p101, p102, p103, p104, p105, p106, p107, p108, p109, p1010, p1011, -⟩ := T10; have z10 : w6.heap.size + 2 ≤ w10.heap.size := Nat.le_trans z9 hb10.size; have B10 : Hid (Below wb.heap.size wb w10) := B9.out.trans (hb10.mono B9.out.size); clear p90 p91 p92 p93 p94 p95 p96 p97 p98 p99 p910 p911 z9 hb9)
          try (go_wp2_with fail)
          refine hK.out _ _ ?_ (fun hH3 => ?_)
          · (try dsimp only)
            go_keep
          clear hK K hH2
          try simp only [Act.put, List.setIfInBounds_toArray, List.set_cons_zero, List.set_cons_succ]
          refine wpAnyH_take (i := 13) (oi := { dst := some 107, op := Op.unOp UnOp.not 4 (Operand.tmp 106), type := 4, pos := "laws.go:156", after := #[{ on := 12, ground := Ground.data }, { on := 10, ground := Ground.guard }], guard := some (10, true) }) (v := ?va13) rfl (by kernel_rfl) (by kernel_rfl) (by kernel_rfl) (fun _ _ _ h => h) (Or.inl ⟨by rfl, ?hya13⟩) (by assumption) ?resta13
          case hya13 =>
            intro w hSw
            (try dsimp only at hSw)
            go_simp
            try with_reducible rfl
          try simp only [Act.put, List.setIfInBounds_toArray, List.set_cons_zero, List.set_cons_succ]
          refine wpAnyH_take (i := 14) (oi := { dst := some 108, op := Op.move (Operand.tmp 107), type := 4, pos := "laws.go:156", after := #[{ on := 13, ground := Ground.data }, { on := 12, ground := Ground.chain }, { on := 10, ground := Ground.guard }], guard := some (10, true) }) (v := ?va14) rfl (by kernel_rfl) (by kernel_rfl) (by kernel_rfl) (fun _ _ _ h => h) (Or.inl ⟨by rfl, ?hya14⟩) (by assumption) ?resta14
          case hya14 =>
            intro w hSw
            (try dsimp only at hSw)
            go_simp
            try with_reducible rfl
          try simp only [Act.put, List.setIfInBounds_toArray, List.set_cons_zero, List.set_cons_succ]
          refine wpAnyH_take (i := 15) (oi := { dst := some 109, op := Op.move (Operand.tmp 5), type := 43, pos := "laws.go:156", after := #[{ on := 14, ground := Ground.guard }], guard := some (14, false) }) (v := undef) rfl (by kernel_rfl) (by kernel_rfl) (by kernel_rfl) (fun _ _ _ h => h) (Or.inr ⟨by rfl, rfl⟩) (by assumption) ?_
          try simp only [Act.put, List.setIfInBounds_toArray, List.set_cons_zero, List.set_cons_succ]
          refine wpAnyH_take (i := 16) (oi := { dst := some 110, op := Op.fieldAddr 35 (Operand.tmp 6) 1, type := 0, pos := "laws.go:156", after := #[{ on := 14, ground := Ground.guard }], guard := some (14, false) }) (v := undef) rfl (by kernel_rfl) (by kernel_rfl) (by kernel_rfl) (fun _ _ _ h => h) (Or.inr ⟨by rfl, rfl⟩) (by assumption) ?_
          try simp only [Act.put, List.setIfInBounds_toArray, List.set_cons_zero, List.set_cons_succ]
          refine wpAnyH_take (i := 17) (oi := { dst := some 111, op := Op.load 9 (Operand.tmp 110), type := 9, pos := "laws.go:156", after := #[{ on := 16, ground := Ground.data }, { on := 14, ground := Ground.guard }], guard := some (14, false) }) (v := undef) rfl (by kernel_rfl) (by kernel_rfl) (by kernel_rfl) (fun _ _ _ h => h) (Or.inr ⟨by rfl, rfl⟩) (by assumption) ?_
          try simp only [Act.put, List.setIfInBounds_toArray, List.set_cons_zero, List.set_cons_succ]
          refine wpAnyH_take (i := 18) (oi := { dst := some 112, op := Op.call { callee := Callee.value (Operand.func 46), args := #[Operand.tmp 109, Operand.tmp 111], argTypes := #[43, 9] }, type := 62, pos := "laws.go:156", after := #[{ on := 15, ground := Ground.data }, { on := 17, ground := Ground.data }, { on := 14, ground := Ground.chain }, { on := 14, ground := Ground.guard }], guard := some (14, false) }) (v := undef) rfl (by kernel_rfl) (by kernel_rfl) (by kernel_rfl) (fun _ _ _ h => h) (Or.inr ⟨by rfl, rfl⟩) (by assumption) ?_
          try simp only [Act.put, List.setIfInBounds_toArray, List.set_cons_zero, List.set_cons_succ]
          refine wpAnyH_take (i := 19) (oi := { dst := some 113, op := Op.field 62 (Operand.tmp 112) 1, type := 9, pos := "laws.go:156", after := #[{ on := 18, ground := Ground.data }, { on := 14, ground := Ground.guard }], guard := some (14, false) }) (v := undef) rfl (by kernel_rfl) (by kernel_rfl) (by kernel_rfl) (fun _ _ _ h => h) (Or.inr ⟨by rfl, rfl⟩) (by assumption) ?_
          try simp only [Act.put, List.setIfInBounds_toArray, List.set_cons_zero, List.set_cons_succ]
          refine wpAnyH_take (i := 20) (oi := { dst := some 114, op := Op.binOp BinOp.eql 9 (Operand.tmp 113) (Operand.const (Value.string { data := #[] })) 9, type := 4, pos := "laws.go:156", after := #[{ on := 19, ground := Ground.data }, { on := 14, ground := Ground.guard }], guard := some (14, false) }) (v := undef) rfl (by kernel_rfl) (by kernel_rfl) (by kernel_rfl) (fun _ _ _ h => h) (Or.inr ⟨by rfl, rfl⟩) (by assumption) ?_
          try simp only [Act.put, List.setIfInBounds_toArray, List.set_cons_zero, List.set_cons_succ]
          refine wpAnyH_take (i := 21) (oi := { dst := some 115, op := Op.pick (Operand.tmp 108) (Operand.const (Value.bool true)) (Operand.tmp 114), type := 4, pos := "laws.go:156", after := #[{ on := 14, ground := Ground.data }, { on := 20, ground := Ground.data }, { on := 10, ground := Ground.guard }], guard := some (10, true) }) (v := ?va21) rfl (by kernel_rfl) (by kernel_rfl) (by kernel_rfl) (fun _ _ _ h => h) (Or.inl ⟨by rfl, ?hya21⟩) (by assumption) ?resta21
          case hya21 =>
            intro w hSw
            (try dsimp only at hSw)
            go_simp
            try with_reducible rfl
          try simp only [Act.put, List.setIfInBounds_toArray, List.set_cons_zero, List.set_cons_succ]
          refine wpAnyH_take (i := 22) (oi := { dst := some 116, op := Op.move (Operand.tmp 115), type := 4, pos := "laws.go:156", after := #[{ on := 21, ground := Ground.data }, { on := 18, ground := Ground.chain }, { on := 10, ground := Ground.guard }], guard := some (10, true) }) (v := ?va22) rfl (by kernel_rfl) (by kernel_rfl) (by kernel_rfl) (fun _ _ _ h => h) (Or.inl ⟨by rfl, ?hya22⟩) (by assumption) ?resta22
          case hya22 =>
            intro w hSw
            (try dsimp only at hSw)
            go_simp
            try with_reducible rfl
          try simp only [Act.put, List.setIfInBounds_toArray, List.set_cons_zero, List.set_cons_succ]
          refine wpAnyH_take (i := 23) (oi := { dst := some 117, op := Op.move (Operand.tmp 5), type := 43, pos := "laws.go:156", after := #[{ on := 22, ground := Ground.guard }], guard := some (22, false) }) (v := undef) rfl (by kernel_rfl) (by kernel_rfl) (by kernel_rfl) (fun _ _ _ h => h) (Or.inr ⟨by rfl, rfl⟩) (by assumption) ?_
          try simp only [Act.put, List.setIfInBounds_toArray, List.set_cons_zero, List.set_cons_succ]
          refine wpAnyH_take (i := 24) (oi := { dst := some 118, op := Op.fieldAddr 35 (Operand.tmp 6) 1, type := 0, pos := "laws.go:156", after := #[{ on := 22, ground := Ground.guard }], guard := some (22, false) }) (v := undef) rfl (by kernel_rfl) (by kernel_rfl) (by kernel_rfl) (fun _ _ _ h => h) (Or.inr ⟨by rfl, rfl⟩) (by assumption) ?_
          try simp only [Act.put, List.setIfInBounds_toArray, List.set_cons_zero, List.set_cons_succ]
          refine wpAnyH_take (i := 25) (oi := { dst := some 119, op := Op.load 9 (Operand.tmp 118), type := 9, pos := "laws.go:156", after := #[{ on := 24, ground := Ground.data }, { on := 22, ground := Ground.guard }], guard := some (22, false) }) (v := undef) rfl (by kernel_rfl) (by kernel_rfl) (by kernel_rfl) (fun _ _ _ h => h) (Or.inr ⟨by rfl, rfl⟩) (by assumption) ?_
          try simp only [Act.put, List.setIfInBounds_toArray, List.set_cons_zero, List.set_cons_succ]
          refine wpAnyH_take (i := 26) (oi := { dst := some 120, op := Op.call { callee := Callee.value (Operand.func 46), args := #[Operand.tmp 117, Operand.tmp 119], argTypes := #[43, 9] }, type := 62, pos := "laws.go:156", after := #[{ on := 23, ground := Ground.data }, { on := 25, ground := Ground.data }, { on := 22, ground := Ground.chain }, { on := 22, ground := Ground.guard }], guard := some (22, false) }) (v := undef) rfl (by kernel_rfl) (by kernel_rfl) (by kernel_rfl) (fun _ _ _ h => h) (Or.inr ⟨by rfl, rfl⟩) (by assumption) ?_
          try simp only [Act.put, List.setIfInBounds_toArray, List.set_cons_zero, List.set_cons_succ]
          refine wpAnyH_take (i := 27) (oi := { dst := some 121, op := Op.field 62 (Operand.tmp 120) 0, type := 9, pos := "laws.go:156", after := #[{ on := 26, ground := Ground.data }, { on := 22, ground := Ground.guard }], guard := some (22, false) }) (v := undef) rfl (by kernel_rfl) (by kernel_rfl) (by kernel_rfl) (fun _ _ _ h => h) (Or.inr ⟨by rfl, rfl⟩) (by assumption) ?_
          try simp only [Act.put, List.setIfInBounds_toArray, List.set_cons_zero, List.set_cons_succ]
          refine wpAnyH_take (i := 28) (oi := { dst := some 122, op := Op.move (Operand.tmp 5), type := 43, pos := "laws.go:156", after := #[{ on := 22, ground := Ground.guard }], guard := some (22, false) }) (v := undef) rfl (by kernel_rfl) (by kernel_rfl) (by kernel_rfl) (fun _ _ _ h => h) (Or.inr ⟨by rfl, rfl⟩) (by assumption) ?_
          try simp only [Act.put, List.setIfInBounds_toArray, List.set_cons_zero, List.set_cons_succ]
          refine wpAnyH_take (i := 29) (oi := { dst := some 123, op := Op.fieldAddr 35 (Operand.tmp 11) 1, type := 0, pos := "laws.go:156", after := #[{ on := 22, ground := Ground.guard }], guard := some (22, false) }) (v := undef) rfl (by kernel_rfl) (by kernel_rfl) (by kernel_rfl) (fun _ _ _ h => h) (Or.inr ⟨by rfl, rfl⟩) (by assumption) ?_
          try simp only [Act.put, List.setIfInBounds_toArray, List.set_cons_zero, List.set_cons_succ]
          refine wpAnyH_take (i := 30) (oi := { dst := some 124, op := Op.load 9 (Operand.tmp 123), type := 9, pos := "laws.go:156", after := #[{ on := 29, ground := Ground.data }, { on := 22, ground := Ground.guard }], guard := some (22, false) }) (v := undef) rfl (by kernel_rfl) (by kernel_rfl) (by kernel_rfl) (fun _ _ _ h => h) (Or.inr ⟨by rfl, rfl⟩) (by assumption) ?_
          try simp only [Act.put, List.setIfInBounds_toArray, List.set_cons_zero, List.set_cons_succ]
          refine wpAnyH_take (i := 31) (oi := { dst := some 125, op := Op.call { callee := Callee.value (Operand.func 46), args := #[Operand.tmp 122, Operand.tmp 124], argTypes := #[43, 9] }, type := 62, pos := "laws.go:156", after := #[{ on := 28, ground := Ground.data }, { on := 30, ground := Ground.data }, { on := 26, ground := Ground.chain }, { on := 22, ground := Ground.guard }], guard := some (22, false) }) (v := undef) rfl (by kernel_rfl) (by kernel_rfl) (by kernel_rfl) (fun _ _ _ h => h) (Or.inr ⟨by rfl, rfl⟩) (by assumption) ?_
          try simp only [Act.put, List.setIfInBounds_toArray, List.set_cons_zero, List.set_cons_succ]
          refine wpAnyH_take (i := 32) (oi := { dst := some 126, op := Op.field 62 (Operand.tmp 125) 0, type := 9, pos := "laws.go:156", after := #[{ on := 31, ground := Ground.data }, { on := 22, ground := Ground.guard }], guard := some (22, false) }) (v := undef) rfl (by kernel_rfl) (by kernel_rfl) (by kernel_rfl) (fun _ _ _ h => h) (Or.inr ⟨by rfl, rfl⟩) (by assumption) ?_
          try simp only [Act.put, List.setIfInBounds_toArray, List.set_cons_zero, List.set_cons_succ]
          refine wpAnyH_take (i := 33) (oi := { dst := some 127, op := Op.binOp BinOp.neq 9 (Operand.tmp 121) (Operand.tmp 126) 9, type := 4, pos := "laws.go:156", after := #[{ on := 27, ground := Ground.data }, { on := 32, ground := Ground.data }, { on := 22, ground := Ground.guard }], guard := some (22, false) }) (v := undef) rfl (by kernel_rfl) (by kernel_rfl) (by kernel_rfl) (fun _ _ _ h => h) (Or.inr ⟨by rfl, rfl⟩) (by assumption) ?_
          try simp only [Act.put, List.setIfInBounds_toArray, List.set_cons_zero, List.set_cons_succ]
          refine wpAnyH_take (i := 34) (oi := { dst := some 128, op := Op.pick (Operand.tmp 116) (Operand.const (Value.bool true)) (Operand.tmp 127), type := 4, pos := "laws.go:156", after := #[{ on := 22, ground := Ground.data }, { on := 33, ground := Ground.data }, { on := 10, ground := Ground.guard }], guard := some (10, true) }) (v := ?va34) rfl (by kernel_rfl) (by kernel_rfl) (by kernel_rfl) (fun _ _ _ h => h) (Or.inl ⟨by rfl, ?hya34⟩) (by assumption) ?resta34
          case hya34 =>
            intro w hSw
            (try dsimp only at hSw)
            go_simp
            try with_reducible rfl
          try simp only [Act.put, List.setIfInBounds_toArray, List.set_cons_zero, List.set_cons_succ]
          refine wpAnyH_take (i := 35) (oi := { dst := some 129, op := Op.move (Operand.tmp 128), type := 4, pos := "laws.go:156", after := #[{ on := 34, ground := Ground.data }, { on := 31, ground := Ground.chain }, { on := 10, ground := Ground.guard }], guard := some (10, true) }) (v := ?va35) rfl (by kernel_rfl) (by kernel_rfl) (by kernel_rfl) (fun _ _ _ h => h) (Or.inl ⟨by rfl, ?hya35⟩) (by assumption) ?resta35
          case hya35 =>
            intro w hSw
            (try dsimp only at hSw)
            go_simp
            try with_reducible rfl
          try simp only [Act.put, List.setIfInBounds_toArray, List.set_cons_zero, List.set_cons_succ]
          refine wpAnyH_take (i := 36) (oi := { dst := some 130, op := Op.move (Operand.tmp 5), type := 43, pos := "laws.go:156", after := #[{ on := 35, ground := Ground.guard }], guard := some (35, false) }) (v := undef) rfl (by kernel_rfl) (by kernel_rfl) (by kernel_rfl) (fun _ _ _ h => h) (Or.inr ⟨by rfl, rfl⟩) (by assumption) ?_
          try simp only [Act.put, List.setIfInBounds_toArray, List.set_cons_zero, List.set_cons_succ]
          refine wpAnyH_take (i := 37) (oi := { dst := some 131, op := Op.load 35 (Operand.tmp 6), type := 35, pos := "laws.go:156", after := #[{ on := 35, ground := Ground.guard }], guard := some (35, false) }) (v := undef) rfl (by kernel_rfl) (by kernel_rfl) (by kernel_rfl) (fun _ _ _ h => h) (Or.inr ⟨by rfl, rfl⟩) (by assumption) ?_
          try simp only [Act.put, List.setIfInBounds_toArray, List.set_cons_zero, List.set_cons_succ]
          refine wpAnyH_take (i := 38) (oi := { dst := some 132, op := Op.load 35 (Operand.tmp 11), type := 35, pos := "laws.go:156", after := #[{ on := 35, ground := Ground.guard }], guard := some (35, false) }) (v := undef) rfl (by kernel_rfl) (by kernel_rfl) (by kernel_rfl) (fun _ _ _ h => h) (Or.inr ⟨by rfl, rfl⟩) (by assumption) ?_
          try simp only [Act.put, List.setIfInBounds_toArray, List.set_cons_zero, List.set_cons_succ]
          refine wpAnyH_take (i := 39) (oi := { dst := some 133, op := Op.call { callee := Callee.value (Operand.func 41), args := #[Operand.tmp 130, Operand.tmp 131, Operand.tmp 132], argTypes := #[43, 35, 35] }, type := 4, pos := "laws.go:156", after := #[{ on := 36, ground := Ground.data }, { on := 37, ground := Ground.data }, { on := 38, ground := Ground.data }, { on := 35, ground := Ground.chain }, { on := 35, ground := Ground.guard }], guard := some (35, false) }) (v := undef) rfl (by kernel_rfl) (by kernel_rfl) (by kernel_rfl) (fun _ _ _ h => h) (Or.inr ⟨by rfl, rfl⟩) (by assumption) ?_
          try simp only [Act.put, List.setIfInBounds_toArray, List.set_cons_zero, List.set_cons_succ]
          refine wpAnyH_take (i := 40) (oi := { dst := some 134, op := Op.pick (Operand.tmp 129) (Operand.const (Value.bool true)) (Operand.tmp 133), type := 4, pos := "laws.go:156", after := #[{ on := 35, ground := Ground.data }, { on := 39, ground := Ground.data }, { on := 10, ground := Ground.guard }], guard := some (10, true) }) (v := ?va40) rfl (by kernel_rfl) (by kernel_rfl) (by kernel_rfl) (fun _ _ _ h => h) (Or.inl ⟨by rfl, ?hya40⟩) (by assumption) ?resta40
          case hya40 =>
            intro w hSw
            (try dsimp only at hSw)
            go_simp
            try with_reducible rfl
          try simp only [Act.put, List.setIfInBounds_toArray, List.set_cons_zero, List.set_cons_succ]
          refine wpAnyH_take (i := 41) (oi := { dst := some 135, op := Op.pick (Operand.tmp 104) (Operand.tmp 134) (Operand.const (Value.bool false)), type := 4, pos := "laws.go:156", after := #[{ on := 10, ground := Ground.data }, { on := 40, ground := Ground.data }], guard := none }) (v := ?va41) rfl (by kernel_rfl) (by kernel_rfl) (by kernel_rfl) (fun _ _ _ h => h) (Or.inl ⟨by rfl, ?hya41⟩) (by assumption) ?resta41
          case hya41 =>
            intro w hSw
            (try dsimp only at hSw)
            go_simp
            try with_reducible rfl
          try simp only [Act.put, List.setIfInBounds_toArray, List.set_cons_zero, List.set_cons_succ]
          refine wpAnyH_take (i := 42) (oi := { dst := some 4, op := Op.assign (Operand.tmp 135), type := 4, pos := "laws.go:156", after := #[{ on := 41, ground := Ground.data }, { on := 39, ground := Ground.chain }, { on := 0, ground := Ground.phase }, { on := 1, ground := Ground.phase }, { on := 2, ground := Ground.phase }, { on := 3, ground := Ground.phase }, { on := 4, ground := Ground.phase }, { on := 5, ground := Ground.phase }, { on := 6, ground := Ground.phase }, { on := 7, ground := Ground.phase }, { on := 8, ground := Ground.phase }, { on := 9, ground := Ground.phase }, { on := 10, ground := Ground.phase }, { on := 11, ground := Ground.phase }, { on := 12, ground := Ground.phase }, { on := 13, ground := Ground.phase }, { on := 14, ground := Ground.phase }, { on := 15, ground := Ground.phase }, { on := 16, ground := Ground.phase }, { on := 17, ground := Ground.phase }, { on := 18, ground := Ground.phase }, { on := 19, ground := Ground.phase }, { on := 20, ground := Ground.phase }, { on := 21, ground := Ground.phase }, { on := 22, ground := Ground.phase }, { on := 23, ground := Ground.phase }, { on := 24, ground := Ground.phase }, { on := 25, ground := Ground.phase }, { on := 26, ground := Ground.phase }, { on := 27, ground := Ground.phase }, { on := 28, ground := Ground.phase }, { on := 29, ground := Ground.phase }, { on := 30, ground := Ground.phase }, { on := 31, ground := Ground.phase }, { on := 32, ground := Ground.phase }, { on := 33, ground := Ground.phase }, { on := 34, ground := Ground.phase }, { on := 35, ground := Ground.phase }, { on := 36, ground := Ground.phase }, { on := 37, ground := Ground.phase }, { on := 38, ground := Ground.phase }, { on := 39, ground := Ground.phase }, { on := 40, ground := Ground.phase }, { on := 41, ground := Ground.phase }], guard := none }) (v := ?va42) rfl (by kernel_rfl) (by kernel_rfl) (by kernel_rfl) (fun _ _ _ h => h) (Or.inl ⟨by rfl, ?hya42⟩) (by assumption) ?resta42
          case hya42 =>
            intro w hSw
            (try dsimp only at hSw)
            go_simp
            try with_reducible rfl
          try simp only [Act.put, List.setIfInBounds_toArray, List.set_cons_zero, List.set_cons_succ]
          refine wpAnyH_done (by kernel_rfl) ?_ _
          go_wp2
          go_ret
          exact ⟨rfl, BW.out.trans (B10.out.mono BW.out.size)⟩
        | true =>
          cases hD1 : D1.toList.isEmpty with
          | true =>
            refine wp_region_held_drew (S := (fun w' => w6.heap.size + 2 ≤ w'.heap.size ∧ w'.cell? ⟨w1.heap.size, 0, none⟩ = some (.string sc) ∧ w'.cell? ⟨w1.heap.size, 1, none⟩ = some (.string ho) ∧ w'.cell? ⟨w1.heap.size, 2, none⟩ = some (.int .i64 po) ∧ w'.cell? ⟨w1.heap.size, 3, none⟩ = some (.string pa) ∧ w'.cell? ⟨w6.heap.size, 0, none⟩ = some (.string sc) ∧ w'.cell? ⟨w6.heap.size, 1, none⟩ = some (.string hS) ∧ w'.cell? ⟨w6.heap.size, 2, none⟩ = some (.int .i64 po) ∧ w'.cell? ⟨w6.heap.size, 3, none⟩ = some (.string pa) ∧ w'.cell? ⟨w6.heap.size + 1, 0, none⟩ = some (.string sc) ∧ w'.cell? ⟨w6.heap.size + 1, 1, none⟩ = some (.string ho) ∧ w'.cell? ⟨w6.heap.size + 1, 2, none⟩ = some (.int .i64 pP) ∧ w'.cell? ⟨w6.heap.size + 1, 3, none⟩ = some (.string pa))) (by kernel_rfl) ?_ (fun hH0 => ?_)
            · (try dsimp only)
              go_keep
            refine wpAnyH_take (i := 0) (oi := { dst := some 94, op := Op.move (Operand.tmp 5), type := 43, pos := "laws.go:156", after := #[], guard := none }) (v := ?vb0) rfl (by kernel_rfl) (by kernel_rfl) (by kernel_rfl) (fun _ _ _ h => h) (Or.inl ⟨by rfl, ?hyb0⟩) (by assumption) ?restb0
            case hyb0 =>
              intro w hSw
              (try dsimp only at hSw)
              go_simp
              try with_reducible rfl
            try simp only [Act.put, List.setIfInBounds_toArray, List.set_cons_zero, List.set_cons_succ]
            refine wpAnyH_take (i := 1) (oi := { dst := some 95, op := Op.load 35 (Operand.tmp 6), type := 35, pos := "laws.go:156", after := #[], guard := none }) (v := ?vb1) rfl (by kernel_rfl) (by kernel_rfl) (by kernel_rfl) (fun _ _ _ h => h) (Or.inl ⟨by rfl, ?hyb1⟩) (by assumption) ?restb1
            case hyb1 =>
              intro w hSw
              (try dsimp only at hSw)
              go_simp
              try with_reducible rfl
            try simp only [Act.put, List.setIfInBounds_toArray, List.set_cons_zero, List.set_cons_succ]
            refine wpAnyH_take (i := 2) (oi := { dst := some 96, op := Op.load 35 (Operand.tmp 6), type := 35, pos := "laws.go:156", after := #[], guard := none }) (v := ?vb2) rfl (by kernel_rfl) (by kernel_rfl) (by kernel_rfl) (fun _ _ _ h => h) (Or.inl ⟨by rfl, ?hyb2⟩) (by assumption) ?restb2
            case hyb2 =>
              intro w hSw
              (try dsimp only at hSw)
              go_simp
              try with_reducible rfl
            try simp only [Act.put, List.setIfInBounds_toArray, List.set_cons_zero, List.set_cons_succ]
            refine wpAnyH_ready (rs := [3]) (by kernel_rfl) (by simp) ?_
            refine AllReadyH.cons (o := { dst := some 97, op := Op.call { callee := Callee.value (Operand.func 41), args := #[Operand.tmp 94, Operand.tmp 95, Operand.tmp 96], argTypes := #[43, 35, 35] }, type := 4, pos := "laws.go:156", after := #[{ on := 0, ground := Ground.data }, { on := 1, ground := Ground.data }, { on := 2, ground := Ground.data }], guard := none }) rfl (fun K hK => ?_) AllReadyH.nil
            go_simp
            (go_at_call 41; refine (KAA.out _ (B7.out.trans (Below.drew (Below.refl _ _)))).mono ?_; rintro e w8 ⟨rfl, hb8⟩; have T8 := Cells.below (L := [(⟨w1.heap.size, 0, none⟩, .string sc), (⟨w1.heap.size, 1, none⟩, .string ho), (⟨w1.heap.size, 2, none⟩, .int .i64 po), (⟨w1.heap.size, 3, none⟩, .string pa), (⟨w6.heap.size, 0, none⟩, .string sc), (⟨w6.heap.size, 1, none⟩, .string hS), (⟨w6.heap.size, 2, none⟩, .int .i64 po), (⟨w6.heap.size, 3, none⟩, .string pa), (⟨w6.heap.size + 1, 0, none⟩, .string sc), (⟨w6.heap.size + 1, 1, none⟩, .string ho), (⟨w6.heap.size + 1, 2, none⟩, .int .i64 pP), (⟨w6.heap.size + 1, 3, none⟩, .string pa)]) (by simp only [Cells]; go_keep) hb8; simp only [Cells] at T8; obtain ⟨p80, p81, p82, p83, p84, p85, p86, p87, p88, p89, p810, p811, -⟩ := T8; have z8 : w6.heap.size + 2 ≤ w8.heap.size := Nat.le_trans z7 hb8.size; have B8 : Hid (Below wb.heap.size wb w8) := (B7.out.trans (Below.drew (Below.refl _ _))).trans (hb8.mono (by have := B7.out.size; simpa using this)))
            try (go_wp2_with fail)
            refine hK.out _ _ ?_ (fun hH1 => ?_)
            · (try dsimp only)
              go_keep
            clear hK K hH0
            try simp only [Act.put, List.setIfInBounds_toArray, List.set_cons_zero, List.set_cons_succ]
            refine wpAnyH_take (i := 4) (oi := { dst := some 98, op := Op.move (Operand.tmp 97), type := 4, pos := "laws.go:156", after := #[{ on := 3, ground := Ground.data }, { on := 3, ground := Ground.chain }], guard := none }) (v := ?vb4) rfl (by kernel_rfl) (by kernel_rfl) (by kernel_rfl) (fun _ _ _ h => h) (Or.inl ⟨by rfl, ?hyb4⟩) (by assumption) ?restb4
            case hyb4 =>
              intro w hSw
              (try dsimp only at hSw)
              go_simp
              try with_reducible rfl
            try simp only [Act.put, List.setIfInBounds_toArray, List.set_cons_zero, List.set_cons_succ]
            refine wpAnyH_take (i := 5) (oi := { dst := some 99, op := Op.move (Operand.tmp 5), type := 43, pos := "laws.go:156", after := #[{ on := 4, ground := Ground.guard }], guard := some (4, true) }) (v := ?vb5) rfl (by kernel_rfl) (by kernel_rfl) (by kernel_rfl) (fun _ _ _ h => h) (Or.inl ⟨by rfl, ?hyb5⟩) (by assumption) ?restb5
            case hyb5 =>
              intro w hSw
              (try dsimp only at hSw)
              go_simp
              try with_reducible rfl
            try simp only [Act.put, List.setIfInBounds_toArray, List.set_cons_zero, List.set_cons_succ]
            refine wpAnyH_take (i := 6) (oi := { dst := some 100, op := Op.load 35 (Operand.tmp 6), type := 35, pos := "laws.go:156", after := #[{ on := 4, ground := Ground.guard }], guard := some (4, true) }) (v := ?vb6) rfl (by kernel_rfl) (by kernel_rfl) (by kernel_rfl) (fun _ _ _ h => h) (Or.inl ⟨by rfl, ?hyb6⟩) (by assumption) ?restb6
            case hyb6 =>
              intro w hSw
              (try dsimp only at hSw)
              go_simp
              try with_reducible rfl
            try simp only [Act.put, List.setIfInBounds_toArray, List.set_cons_zero, List.set_cons_succ]
            refine wpAnyH_take (i := 7) (oi := { dst := some 101, op := Op.load 35 (Operand.tmp 12), type := 35, pos := "laws.go:156", after := #[{ on := 4, ground := Ground.guard }], guard := some (4, true) }) (v := ?vb7) rfl (by kernel_rfl) (by kernel_rfl) (by kernel_rfl) (fun _ _ _ h => h) (Or.inl ⟨by rfl, ?hyb7⟩) (by assumption) ?restb7
            case hyb7 =>
              intro w hSw
              (try dsimp only at hSw)
              go_simp
              try with_reducible rfl
            try simp only [Act.put, List.setIfInBounds_toArray, List.set_cons_zero, List.set_cons_succ]
            refine wpAnyH_ready (rs := [8]) (by kernel_rfl) (by simp) ?_
            refine AllReadyH.cons (o := { dst := some 102, op := Op.call { callee := Callee.value (Operand.func 41), args := #[Operand.tmp 99, Operand.tmp 100, Operand.tmp 101], argTypes := #[43, 35, 35] }, type := 4, pos := "laws.go:156", after := #[{ on := 5, ground := Ground.data }, { on := 6, ground := Ground.data }, { on := 7, ground := Ground.data }, { on := 4, ground := Ground.chain }, { on := 4, ground := Ground.guard }], guard := some (4, true) }) rfl (fun K hK => ?_) AllReadyH.nil
            go_simp
            (go_at_call 41; refine (KAP.out _ B8.out).mono ?_; rintro e w9 ⟨rfl, hb9⟩; have T9 := Cells.below (L := [(⟨w1.heap.size, 0, none⟩, .string sc), (⟨w1.heap.size, 1, none⟩, .string ho), (⟨w1.heap.size, 2, none⟩, .int .i64 po), (⟨w1.heap.size, 3, none⟩, .string pa), (⟨w6.heap.size, 0, none⟩, .string sc), (⟨w6.heap.size, 1, none⟩, .string hS), (⟨w6.heap.size, 2, none⟩, .int .i64 po), (⟨w6.heap.size, 3, none⟩, .string pa), (⟨w6.heap.size + 1, 0, none⟩, .string sc), (⟨w6.heap.size + 1, 1, none⟩, .string ho), (⟨w6.heap.size + 1, 2, none⟩, .int .i64 pP), (⟨w6.heap.size + 1, 3, none⟩, .string pa)]) (by simp only [Cells]; go_keep) hb9; simp only [Cells] at T9; obtain ⟨p90, p91, p92, p93, p94, p95, p96, p97, p98, p99, p910, p911, -⟩ := T9; have z9 : w6.heap.size + 2 ≤ w9.heap.size := Nat.le_trans z8 hb9.size; have B9 : Hid (Below wb.heap.size wb w9) := B8.out.trans (hb9.mono B8.out.size); clear p80 p81 p82 p83 p84 p85 p86 p87 p88 p89 p810 p811 z8 hb8)
            try (go_wp2_with fail)
            refine hK.out _ _ ?_ (fun hH2 => ?_)
            · (try dsimp only)
              go_keep
            clear hK K hH1
            try simp only [Act.put, List.setIfInBounds_toArray, List.set_cons_zero, List.set_cons_succ]
            refine wpAnyH_take (i := 9) (oi := { dst := some 103, op := Op.pick (Operand.tmp 98) (Operand.tmp 102) (Operand.const (Value.bool false)), type := 4, pos := "laws.go:156", after := #[{ on := 4, ground := Ground.data }, { on := 8, ground := Ground.data }], guard := none }) (v := ?vb9) rfl (by kernel_rfl) (by kernel_rfl) (by kernel_rfl) (fun _ _ _ h => h) (Or.inl ⟨by rfl, ?hyb9⟩) (by assumption) ?restb9
            case hyb9 =>
              intro w hSw
              (try dsimp only at hSw)
              go_simp
              try with_reducible rfl
            try simp only [Act.put, List.setIfInBounds_toArray, List.set_cons_zero, List.set_cons_succ]
            refine wpAnyH_take (i := 10) (oi := { dst := some 104, op := Op.move (Operand.tmp 103), type := 4, pos := "laws.go:156", after := #[{ on := 9, ground := Ground.data }, { on := 8, ground := Ground.chain }], guard := none }) (v := ?vb10) rfl (by kernel_rfl) (by kernel_rfl) (by kernel_rfl) (fun _ _ _ h => h) (Or.inl ⟨by rfl, ?hyb10⟩) (by assumption) ?restb10
            case hyb10 =>
              intro w hSw
              (try dsimp only at hSw)
              go_simp
              try with_reducible rfl
            try simp only [Act.put, List.setIfInBounds_toArray, List.set_cons_zero, List.set_cons_succ]
            refine wpAnyH_take (i := 11) (oi := { dst := some 105, op := Op.load 35 (Operand.tmp 11), type := 35, pos := "laws.go:156", after := #[{ on := 10, ground := Ground.guard }], guard := some (10, true) }) (v := ?vb11) rfl (by kernel_rfl) (by kernel_rfl) (by kernel_rfl) (fun _ _ _ h => h) (Or.inl ⟨by rfl, ?hyb11⟩) (by assumption) ?restb11
            case hyb11 =>
              intro w hSw
              (try dsimp only at hSw)
              go_simp
              try with_reducible rfl
            try simp only [Act.put, List.setIfInBounds_toArray, List.set_cons_zero, List.set_cons_succ]
            refine wpAnyH_ready (rs := [12]) (by kernel_rfl) (by simp) ?_
            refine AllReadyH.cons (o := { dst := some 106, op := Op.call { callee := Callee.value (Operand.func 22), args := #[Operand.tmp 105], argTypes := #[35] }, type := 4, pos := "laws.go:156", after := #[{ on := 11, ground := Ground.data }, { on := 10, ground := Ground.chain }, { on := 10, ground := Ground.guard }], guard := some (10, true) }) rfl (fun K hK => ?_) AllReadyH.nil
            go_simp
            (go_at_call 22; refine (TUS.out _ B9.out).mono ?_; rintro e w10 ⟨rfl, hb10⟩; have T10 := Cells.below (L := [(⟨w1.heap.size, 0, none⟩, .string sc), (⟨w1.heap.size, 1, none⟩, .string ho), (⟨w1.heap.size, 2, none⟩, .int .i64 po), (⟨w1.heap.size, 3, none⟩, .string pa), (⟨w6.heap.size, 0, none⟩, .string sc), (⟨w6.heap.size, 1, none⟩, .string hS), (⟨w6.heap.size, 2, none⟩, .int .i64 po), (⟨w6.heap.size, 3, none⟩, .string pa), (⟨w6.heap.size + 1, 0, none⟩, .string sc), (⟨w6.heap.size + 1, 1, none⟩, .string ho), (⟨w6.heap.size + 1, 2, none⟩, .int .i64 pP), (⟨w6.heap.size + 1, 3, none⟩, .string pa)]) (by simp only [Cells]; go_keep) hb10; simp only [Cells] at T10; obtain ⟨p100, p101, p102, p103, p104, p105, p106, p107, p108, p109, p1010, p1011, -⟩ := T10; have z10 : w6.heap.size + 2 ≤ w10.heap.size := Nat.le_trans z9 hb10.size; have B10 : Hid (Below wb.heap.size wb w10) := B9.out.trans (hb10.mono B9.out.size); clear p90 p91 p92 p93 p94 p95 p96 p97 p98 p99 p910 p911 z9 hb9)
            try (go_wp2_with fail)
            refine hK.out _ _ ?_ (fun hH3 => ?_)
            · (try dsimp only)
              go_keep
            clear hK K hH2
            try simp only [Act.put, List.setIfInBounds_toArray, List.set_cons_zero, List.set_cons_succ]
            refine wpAnyH_take (i := 13) (oi := { dst := some 107, op := Op.unOp UnOp.not 4 (Operand.tmp 106), type := 4, pos := "laws.go:156", after := #[{ on := 12, ground := Ground.data }, { on := 10, ground := Ground.guard }], guard := some (10, true) }) (v := ?vb13) rfl (by kernel_rfl) (by kernel_rfl) (by kernel_rfl) (fun _ _ _ h => h) (Or.inl ⟨by rfl, ?hyb13⟩) (by assumption) ?restb13
            case hyb13 =>
              intro w hSw
              (try dsimp only at hSw)
              go_simp
              try with_reducible rfl
            try simp only [Act.put, List.setIfInBounds_toArray, List.set_cons_zero, List.set_cons_succ]
            refine wpAnyH_take (i := 14) (oi := { dst := some 108, op := Op.move (Operand.tmp 107), type := 4, pos := "laws.go:156", after := #[{ on := 13, ground := Ground.data }, { on := 12, ground := Ground.chain }, { on := 10, ground := Ground.guard }], guard := some (10, true) }) (v := ?vb14) rfl (by kernel_rfl) (by kernel_rfl) (by kernel_rfl) (fun _ _ _ h => h) (Or.inl ⟨by rfl, ?hyb14⟩) (by assumption) ?restb14
            case hyb14 =>
              intro w hSw
              (try dsimp only at hSw)
              go_simp
              try with_reducible rfl
            try simp only [Act.put, List.setIfInBounds_toArray, List.set_cons_zero, List.set_cons_succ]
            refine wpAnyH_take (i := 15) (oi := { dst := some 109, op := Op.move (Operand.tmp 5), type := 43, pos := "laws.go:156", after := #[{ on := 14, ground := Ground.guard }], guard := some (14, false) }) (v := ?vb15) rfl (by kernel_rfl) (by kernel_rfl) (by kernel_rfl) (fun _ _ _ h => h) (Or.inl ⟨by rfl, ?hyb15⟩) (by assumption) ?restb15
            case hyb15 =>
              intro w hSw
              (try dsimp only at hSw)
              go_simp
              try with_reducible rfl
            try simp only [Act.put, List.setIfInBounds_toArray, List.set_cons_zero, List.set_cons_succ]
            refine wpAnyH_take (i := 16) (oi := { dst := some 110, op := Op.fieldAddr 35 (Operand.tmp 6) 1, type := 0, pos := "laws.go:156", after := #[{ on := 14, ground := Ground.guard }], guard := some (14, false) }) (v := ?vb16) rfl (by kernel_rfl) (by kernel_rfl) (by kernel_rfl) (fun _ _ _ h => h) (Or.inl ⟨by rfl, ?hyb16⟩) (by assumption) ?restb16
            case hyb16 =>
              intro w hSw
              (try dsimp only at hSw)
              go_simp
              try with_reducible rfl
            try simp only [Act.put, List.setIfInBounds_toArray, List.set_cons_zero, List.set_cons_succ]
            refine wpAnyH_take (i := 17) (oi := { dst := some 111, op := Op.load 9 (Operand.tmp 110), type := 9, pos := "laws.go:156", after := #[{ on := 16, ground := Ground.data }, { on := 14, ground := Ground.guard }], guard := some (14, false) }) (v := ?vb17) rfl (by kernel_rfl) (by kernel_rfl) (by kernel_rfl) (fun _ _ _ h => h) (Or.inl ⟨by rfl, ?hyb17⟩) (by assumption) ?restb17
            case hyb17 =>
              intro w hSw
              (try dsimp only at hSw)
              go_simp
              try with_reducible rfl
            try simp only [Act.put, List.setIfInBounds_toArray, List.set_cons_zero, List.set_cons_succ]
            refine wpAnyH_ready (rs := [18]) (by kernel_rfl) (by simp) ?_
            refine AllReadyH.cons (o := { dst := some 112, op := Op.call { callee := Callee.value (Operand.func 46), args := #[Operand.tmp 109, Operand.tmp 111], argTypes := #[43, 9] }, type := 62, pos := "laws.go:156", after := #[{ on := 15, ground := Ground.data }, { on := 17, ground := Ground.data }, { on := 14, ground := Ground.chain }, { on := 14, ground := Ground.guard }], guard := some (14, false) }) rfl (fun K hK => ?_) AllReadyH.nil
            go_simp
            (go_at_call 46; refine (TSA.out _ B10.out).mono ?_; rintro e w11 ⟨rfl, hb11⟩; have T11 := Cells.below (L := [(⟨w1.heap.size, 0, none⟩, .string sc), (⟨w1.heap.size, 1, none⟩, .string ho), (⟨w1.heap.size, 2, none⟩, .int .i64 po), (⟨w1.heap.size, 3, none⟩, .string pa), (⟨w6.heap.size, 0, none⟩, .string sc), (⟨w6.heap.size, 1, none⟩, .string hS), (⟨w6.heap.size, 2, none⟩, .int .i64 po), (⟨w6.heap.size, 3, none⟩, .string pa), (⟨w6.heap.size + 1, 0, none⟩, .string sc), (⟨w6.heap.size + 1, 1, none⟩, .string ho), (⟨w6.heap.size + 1, 2, none⟩, .int .i64 pP), (⟨w6.heap.size + 1, 3, none⟩, .string pa)]) (by simp only [Cells]; go_keep) hb11; simp only [Cells] at T11; obtain ⟨p110, p111, p112, p113, p114, p115, p116, p117, p118, p119, p1110, p1111, -⟩ := T11; have z11 : w6.heap.size + 2 ≤ w11.heap.size := Nat.le_trans z10 hb11.size; have B11 : Hid (Below wb.heap.size wb w11) := B10.out.trans (hb11.mono B10.out.size); clear p100 p101 p102 p103 p104 p105 p106 p107 p108 p109 p1010 p1011 z10 hb10)
            try (go_wp2_with fail)
            refine hK.out _ _ ?_ (fun hH4 => ?_)
            · (try dsimp only)
              go_keep
            clear hK K hH3
            try simp only [Act.put, List.setIfInBounds_toArray, List.set_cons_zero, List.set_cons_succ]
            refine wpAnyH_take (i := 19) (oi := { dst := some 113, op := Op.field 62 (Operand.tmp 112) 1, type := 9, pos := "laws.go:156", after := #[{ on := 18, ground := Ground.data }, { on := 14, ground := Ground.guard }], guard := some (14, false) }) (v := ?vb19) rfl (by kernel_rfl) (by kernel_rfl) (by kernel_rfl) (fun _ _ _ h => h) (Or.inl ⟨by rfl, ?hyb19⟩) (by assumption) ?restb19
            case hyb19 =>
              intro w hSw
              (try dsimp only at hSw)
              go_simp
              try with_reducible rfl
            try simp only [Act.put, List.setIfInBounds_toArray, List.set_cons_zero, List.set_cons_succ]
            refine wpAnyH_take (i := 20) (oi := { dst := some 114, op := Op.binOp BinOp.eql 9 (Operand.tmp 113) (Operand.const (Value.string { data := #[] })) 9, type := 4, pos := "laws.go:156", after := #[{ on := 19, ground := Ground.data }, { on := 14, ground := Ground.guard }], guard := some (14, false) }) (v := ?vb20) rfl (by kernel_rfl) (by kernel_rfl) (by kernel_rfl) (fun _ _ _ h => h) (Or.inl ⟨by rfl, ?hyb20⟩) (by assumption) ?restb20
            case hyb20 =>
              intro w hSw
              (try dsimp only at hSw)
              go_simp
              try with_reducible rfl
            try simp only [Act.put, List.setIfInBounds_toArray, List.set_cons_zero, List.set_cons_succ]
            refine wpAnyH_take (i := 21) (oi := { dst := some 115, op := Op.pick (Operand.tmp 108) (Operand.const (Value.bool true)) (Operand.tmp 114), type := 4, pos := "laws.go:156", after := #[{ on := 14, ground := Ground.data }, { on := 20, ground := Ground.data }, { on := 10, ground := Ground.guard }], guard := some (10, true) }) (v := ?vb21) rfl (by kernel_rfl) (by kernel_rfl) (by kernel_rfl) (fun _ _ _ h => h) (Or.inl ⟨by rfl, ?hyb21⟩) (by assumption) ?restb21
            case hyb21 =>
              intro w hSw
              (try dsimp only at hSw)
              go_simp
              try with_reducible rfl
            try simp only [Act.put, List.setIfInBounds_toArray, List.set_cons_zero, List.set_cons_succ]
            refine wpAnyH_take (i := 22) (oi := { dst := some 116, op := Op.move (Operand.tmp 115), type := 4, pos := "laws.go:156", after := #[{ on := 21, ground := Ground.data }, { on := 18, ground := Ground.chain }, { on := 10, ground := Ground.guard }], guard := some (10, true) }) (v := ?vb22) rfl (by kernel_rfl) (by kernel_rfl) (by kernel_rfl) (fun _ _ _ h => h) (Or.inl ⟨by rfl, ?hyb22⟩) (by assumption) ?restb22
            case hyb22 =>
              intro w hSw
              (try dsimp only at hSw)
              go_simp
              try with_reducible rfl
            try simp only [Act.put, List.setIfInBounds_toArray, List.set_cons_zero, List.set_cons_succ]
            refine wpAnyH_take (i := 23) (oi := { dst := some 117, op := Op.move (Operand.tmp 5), type := 43, pos := "laws.go:156", after := #[{ on := 22, ground := Ground.guard }], guard := some (22, false) }) (v := undef) rfl (by kernel_rfl) (by kernel_rfl) (by kernel_rfl) (fun _ _ _ h => h) (Or.inr ⟨by rfl, rfl⟩) (by assumption) ?_
            try simp only [Act.put, List.setIfInBounds_toArray, List.set_cons_zero, List.set_cons_succ]
            refine wpAnyH_take (i := 24) (oi := { dst := some 118, op := Op.fieldAddr 35 (Operand.tmp 6) 1, type := 0, pos := "laws.go:156", after := #[{ on := 22, ground := Ground.guard }], guard := some (22, false) }) (v := undef) rfl (by kernel_rfl) (by kernel_rfl) (by kernel_rfl) (fun _ _ _ h => h) (Or.inr ⟨by rfl, rfl⟩) (by assumption) ?_
            try simp only [Act.put, List.setIfInBounds_toArray, List.set_cons_zero, List.set_cons_succ]
            refine wpAnyH_take (i := 25) (oi := { dst := some 119, op := Op.load 9 (Operand.tmp 118), type := 9, pos := "laws.go:156", after := #[{ on := 24, ground := Ground.data }, { on := 22, ground := Ground.guard }], guard := some (22, false) }) (v := undef) rfl (by kernel_rfl) (by kernel_rfl) (by kernel_rfl) (fun _ _ _ h => h) (Or.inr ⟨by rfl, rfl⟩) (by assumption) ?_
            try simp only [Act.put, List.setIfInBounds_toArray, List.set_cons_zero, List.set_cons_succ]
            refine wpAnyH_take (i := 26) (oi := { dst := some 120, op := Op.call { callee := Callee.value (Operand.func 46), args := #[Operand.tmp 117, Operand.tmp 119], argTypes := #[43, 9] }, type := 62, pos := "laws.go:156", after := #[{ on := 23, ground := Ground.data }, { on := 25, ground := Ground.data }, { on := 22, ground := Ground.chain }, { on := 22, ground := Ground.guard }], guard := some (22, false) }) (v := undef) rfl (by kernel_rfl) (by kernel_rfl) (by kernel_rfl) (fun _ _ _ h => h) (Or.inr ⟨by rfl, rfl⟩) (by assumption) ?_
            try simp only [Act.put, List.setIfInBounds_toArray, List.set_cons_zero, List.set_cons_succ]
            refine wpAnyH_take (i := 27) (oi := { dst := some 121, op := Op.field 62 (Operand.tmp 120) 0, type := 9, pos := "laws.go:156", after := #[{ on := 26, ground := Ground.data }, { on := 22, ground := Ground.guard }], guard := some (22, false) }) (v := undef) rfl (by kernel_rfl) (by kernel_rfl) (by kernel_rfl) (fun _ _ _ h => h) (Or.inr ⟨by rfl, rfl⟩) (by assumption) ?_
            try simp only [Act.put, List.setIfInBounds_toArray, List.set_cons_zero, List.set_cons_succ]
            refine wpAnyH_take (i := 28) (oi := { dst := some 122, op := Op.move (Operand.tmp 5), type := 43, pos := "laws.go:156", after := #[{ on := 22, ground := Ground.guard }], guard := some (22, false) }) (v := undef) rfl (by kernel_rfl) (by kernel_rfl) (by kernel_rfl) (fun _ _ _ h => h) (Or.inr ⟨by rfl, rfl⟩) (by assumption) ?_
            try simp only [Act.put, List.setIfInBounds_toArray, List.set_cons_zero, List.set_cons_succ]
            refine wpAnyH_take (i := 29) (oi := { dst := some 123, op := Op.fieldAddr 35 (Operand.tmp 11) 1, type := 0, pos := "laws.go:156", after := #[{ on := 22, ground := Ground.guard }], guard := some (22, false) }) (v := undef) rfl (by kernel_rfl) (by kernel_rfl) (by kernel_rfl) (fun _ _ _ h => h) (Or.inr ⟨by rfl, rfl⟩) (by assumption) ?_
            try simp only [Act.put, List.setIfInBounds_toArray, List.set_cons_zero, List.set_cons_succ]
            refine wpAnyH_take (i := 30) (oi := { dst := some 124, op := Op.load 9 (Operand.tmp 123), type := 9, pos := "laws.go:156", after := #[{ on := 29, ground := Ground.data }, { on := 22, ground := Ground.guard }], guard := some (22, false) }) (v := undef) rfl (by kernel_rfl) (by kernel_rfl) (by kernel_rfl) (fun _ _ _ h => h) (Or.inr ⟨by rfl, rfl⟩) (by assumption) ?_
            try simp only [Act.put, List.setIfInBounds_toArray, List.set_cons_zero, List.set_cons_succ]
            refine wpAnyH_take (i := 31) (oi := { dst := some 125, op := Op.call { callee := Callee.value (Operand.func 46), args := #[Operand.tmp 122, Operand.tmp 124], argTypes := #[43, 9] }, type := 62, pos := "laws.go:156", after := #[{ on := 28, ground := Ground.data }, { on := 30, ground := Ground.data }, { on := 26, ground := Ground.chain }, { on := 22, ground := Ground.guard }], guard := some (22, false) }) (v := undef) rfl (by kernel_rfl) (by kernel_rfl) (by kernel_rfl) (fun _ _ _ h => h) (Or.inr ⟨by rfl, rfl⟩) (by assumption) ?_
            try simp only [Act.put, List.setIfInBounds_toArray, List.set_cons_zero, List.set_cons_succ]
            refine wpAnyH_take (i := 32) (oi := { dst := some 126, op := Op.field 62 (Operand.tmp 125) 0, type := 9, pos := "laws.go:156", after := #[{ on := 31, ground := Ground.data }, { on := 22, ground := Ground.guard }], guard := some (22, false) }) (v := undef) rfl (by kernel_rfl) (by kernel_rfl) (by kernel_rfl) (fun _ _ _ h => h) (Or.inr ⟨by rfl, rfl⟩) (by assumption) ?_
            try simp only [Act.put, List.setIfInBounds_toArray, List.set_cons_zero, List.set_cons_succ]
            refine wpAnyH_take (i := 33) (oi := { dst := some 127, op := Op.binOp BinOp.neq 9 (Operand.tmp 121) (Operand.tmp 126) 9, type := 4, pos := "laws.go:156", after := #[{ on := 27, ground := Ground.data }, { on := 32, ground := Ground.data }, { on := 22, ground := Ground.guard }], guard := some (22, false) }) (v := undef) rfl (by kernel_rfl) (by kernel_rfl) (by kernel_rfl) (fun _ _ _ h => h) (Or.inr ⟨by rfl, rfl⟩) (by assumption) ?_
            try simp only [Act.put, List.setIfInBounds_toArray, List.set_cons_zero, List.set_cons_succ]
            refine wpAnyH_take (i := 34) (oi := { dst := some 128, op := Op.pick (Operand.tmp 116) (Operand.const (Value.bool true)) (Operand.tmp 127), type := 4, pos := "laws.go:156", after := #[{ on := 22, ground := Ground.data }, { on := 33, ground := Ground.data }, { on := 10, ground := Ground.guard }], guard := some (10, true) }) (v := ?vb34) rfl (by kernel_rfl) (by kernel_rfl) (by kernel_rfl) (fun _ _ _ h => h) (Or.inl ⟨by rfl, ?hyb34⟩) (by assumption) ?restb34
            case hyb34 =>
              intro w hSw
              (try dsimp only at hSw)
              go_simp
              try with_reducible rfl
            try simp only [Act.put, List.setIfInBounds_toArray, List.set_cons_zero, List.set_cons_succ]
            refine wpAnyH_take (i := 35) (oi := { dst := some 129, op := Op.move (Operand.tmp 128), type := 4, pos := "laws.go:156", after := #[{ on := 34, ground := Ground.data }, { on := 31, ground := Ground.chain }, { on := 10, ground := Ground.guard }], guard := some (10, true) }) (v := ?vb35) rfl (by kernel_rfl) (by kernel_rfl) (by kernel_rfl) (fun _ _ _ h => h) (Or.inl ⟨by rfl, ?hyb35⟩) (by assumption) ?restb35
            case hyb35 =>
              intro w hSw
              (try dsimp only at hSw)
              go_simp
              try with_reducible rfl
            try simp only [Act.put, List.setIfInBounds_toArray, List.set_cons_zero, List.set_cons_succ]
            refine wpAnyH_take (i := 36) (oi := { dst := some 130, op := Op.move (Operand.tmp 5), type := 43, pos := "laws.go:156", after := #[{ on := 35, ground := Ground.guard }], guard := some (35, false) }) (v := undef) rfl (by kernel_rfl) (by kernel_rfl) (by kernel_rfl) (fun _ _ _ h => h) (Or.inr ⟨by rfl, rfl⟩) (by assumption) ?_
            try simp only [Act.put, List.setIfInBounds_toArray, List.set_cons_zero, List.set_cons_succ]
            refine wpAnyH_take (i := 37) (oi := { dst := some 131, op := Op.load 35 (Operand.tmp 6), type := 35, pos := "laws.go:156", after := #[{ on := 35, ground := Ground.guard }], guard := some (35, false) }) (v := undef) rfl (by kernel_rfl) (by kernel_rfl) (by kernel_rfl) (fun _ _ _ h => h) (Or.inr ⟨by rfl, rfl⟩) (by assumption) ?_
            try simp only [Act.put, List.setIfInBounds_toArray, List.set_cons_zero, List.set_cons_succ]
            refine wpAnyH_take (i := 38) (oi := { dst := some 132, op := Op.load 35 (Operand.tmp 11), type := 35, pos := "laws.go:156", after := #[{ on := 35, ground := Ground.guard }], guard := some (35, false) }) (v := undef) rfl (by kernel_rfl) (by kernel_rfl) (by kernel_rfl) (fun _ _ _ h => h) (Or.inr ⟨by rfl, rfl⟩) (by assumption) ?_
            try simp only [Act.put, List.setIfInBounds_toArray, List.set_cons_zero, List.set_cons_succ]
            refine wpAnyH_take (i := 39) (oi := { dst := some 133, op := Op.call { callee := Callee.value (Operand.func 41), args := #[Operand.tmp 130, Operand.tmp 131, Operand.tmp 132], argTypes := #[43, 35, 35] }, type := 4, pos := "laws.go:156", after := #[{ on := 36, ground := Ground.data }, { on := 37, ground := Ground.data }, { on := 38, ground := Ground.data }, { on := 35, ground := Ground.chain }, { on := 35, ground := Ground.guard }], guard := some (35, false) }) (v := undef) rfl (by kernel_rfl) (by kernel_rfl) (by kernel_rfl) (fun _ _ _ h => h) (Or.inr ⟨by rfl, rfl⟩) (by assumption) ?_
            try simp only [Act.put, List.setIfInBounds_toArray, List.set_cons_zero, List.set_cons_succ]
            refine wpAnyH_take (i := 40) (oi := { dst := some 134, op := Op.pick (Operand.tmp 129) (Operand.const (Value.bool true)) (Operand.tmp 133), type := 4, pos := "laws.go:156", after := #[{ on := 35, ground := Ground.data }, { on := 39, ground := Ground.data }, { on := 10, ground := Ground.guard }], guard := some (10, true) }) (v := ?vb40) rfl (by kernel_rfl) (by kernel_rfl) (by kernel_rfl) (fun _ _ _ h => h) (Or.inl ⟨by rfl, ?hyb40⟩) (by assumption) ?restb40
            case hyb40 =>
              intro w hSw
              (try dsimp only at hSw)
              go_simp
              try with_reducible rfl
            try simp only [Act.put, List.setIfInBounds_toArray, List.set_cons_zero, List.set_cons_succ]
            refine wpAnyH_take (i := 41) (oi := { dst := some 135, op := Op.pick (Operand.tmp 104) (Operand.tmp 134) (Operand.const (Value.bool false)), type := 4, pos := "laws.go:156", after := #[{ on := 10, ground := Ground.data }, { on := 40, ground := Ground.data }], guard := none }) (v := ?vb41) rfl (by kernel_rfl) (by kernel_rfl) (by kernel_rfl) (fun _ _ _ h => h) (Or.inl ⟨by rfl, ?hyb41⟩) (by assumption) ?restb41
            case hyb41 =>
              intro w hSw
              (try dsimp only at hSw)
              go_simp
              try with_reducible rfl
            try simp only [Act.put, List.setIfInBounds_toArray, List.set_cons_zero, List.set_cons_succ]
            refine wpAnyH_take (i := 42) (oi := { dst := some 4, op := Op.assign (Operand.tmp 135), type := 4, pos := "laws.go:156", after := #[{ on := 41, ground := Ground.data }, { on := 39, ground := Ground.chain }, { on := 0, ground := Ground.phase }, { on := 1, ground := Ground.phase }, { on := 2, ground := Ground.phase }, { on := 3, ground := Ground.phase }, { on := 4, ground := Ground.phase }, { on := 5, ground := Ground.phase }, { on := 6, ground := Ground.phase }, { on := 7, ground := Ground.phase }, { on := 8, ground := Ground.phase }, { on := 9, ground := Ground.phase }, { on := 10, ground := Ground.phase }, { on := 11, ground := Ground.phase }, { on := 12, ground := Ground.phase }, { on := 13, ground := Ground.phase }, { on := 14, ground := Ground.phase }, { on := 15, ground := Ground.phase }, { on := 16, ground := Ground.phase }, { on := 17, ground := Ground.phase }, { on := 18, ground := Ground.phase }, { on := 19, ground := Ground.phase }, { on := 20, ground := Ground.phase }, { on := 21, ground := Ground.phase }, { on := 22, ground := Ground.phase }, { on := 23, ground := Ground.phase }, { on := 24, ground := Ground.phase }, { on := 25, ground := Ground.phase }, { on := 26, ground := Ground.phase }, { on := 27, ground := Ground.phase }, { on := 28, ground := Ground.phase }, { on := 29, ground := Ground.phase }, { on := 30, ground := Ground.phase }, { on := 31, ground := Ground.phase }, { on := 32, ground := Ground.phase }, { on := 33, ground := Ground.phase }, { on := 34, ground := Ground.phase }, { on := 35, ground := Ground.phase }, { on := 36, ground := Ground.phase }, { on := 37, ground := Ground.phase }, { on := 38, ground := Ground.phase }, { on := 39, ground := Ground.phase }, { on := 40, ground := Ground.phase }, { on := 41, ground := Ground.phase }], guard := none }) (v := ?vb42) rfl (by kernel_rfl) (by kernel_rfl) (by kernel_rfl) (fun _ _ _ h => h) (Or.inl ⟨by rfl, ?hyb42⟩) (by assumption) ?restb42
            case hyb42 =>
              intro w hSw
              (try dsimp only at hSw)
              go_simp
              try with_reducible rfl
            try simp only [Act.put, List.setIfInBounds_toArray, List.set_cons_zero, List.set_cons_succ]
            refine wpAnyH_done (by kernel_rfl) ?_ _
            go_wp2
            go_ret
            exact ⟨rfl, BW.out.trans (B11.out.mono BW.out.size)⟩
          | false =>
            cases hSS : (S1.toList == S2.toList) with
            | false =>
              refine wp_region_held_drew (S := (fun w' => w6.heap.size + 2 ≤ w'.heap.size ∧ w'.cell? ⟨w1.heap.size, 0, none⟩ = some (.string sc) ∧ w'.cell? ⟨w1.heap.size, 1, none⟩ = some (.string ho) ∧ w'.cell? ⟨w1.heap.size, 2, none⟩ = some (.int .i64 po) ∧ w'.cell? ⟨w1.heap.size, 3, none⟩ = some (.string pa) ∧ w'.cell? ⟨w6.heap.size, 0, none⟩ = some (.string sc) ∧ w'.cell? ⟨w6.heap.size, 1, none⟩ = some (.string hS) ∧ w'.cell? ⟨w6.heap.size, 2, none⟩ = some (.int .i64 po) ∧ w'.cell? ⟨w6.heap.size, 3, none⟩ = some (.string pa) ∧ w'.cell? ⟨w6.heap.size + 1, 0, none⟩ = some (.string sc) ∧ w'.cell? ⟨w6.heap.size + 1, 1, none⟩ = some (.string ho) ∧ w'.cell? ⟨w6.heap.size + 1, 2, none⟩ = some (.int .i64 pP) ∧ w'.cell? ⟨w6.heap.size + 1, 3, none⟩ = some (.string pa))) (by kernel_rfl) ?_ (fun hH0 => ?_)
              · (try dsimp only)
                go_keep
              refine wpAnyH_take (i := 0) (oi := { dst := some 94, op := Op.move (Operand.tmp 5), type := 43, pos := "laws.go:156", after := #[], guard := none }) (v := ?vc0) rfl (by kernel_rfl) (by kernel_rfl) (by kernel_rfl) (fun _ _ _ h => h) (Or.inl ⟨by rfl, ?hyc0⟩) (by assumption) ?restc0
              case hyc0 =>
                intro w hSw
                (try dsimp only at hSw)
                go_simp
                try with_reducible rfl
              try simp only [Act.put, List.setIfInBounds_toArray, List.set_cons_zero, List.set_cons_succ]
              refine wpAnyH_take (i := 1) (oi := { dst := some 95, op := Op.load 35 (Operand.tmp 6), type := 35, pos := "laws.go:156", after := #[], guard := none }) (v := ?vc1) rfl (by kernel_rfl) (by kernel_rfl) (by kernel_rfl) (fun _ _ _ h => h) (Or.inl ⟨by rfl, ?hyc1⟩) (by assumption) ?restc1
              case hyc1 =>
                intro w hSw
                (try dsimp only at hSw)
                go_simp
                try with_reducible rfl
              try simp only [Act.put, List.setIfInBounds_toArray, List.set_cons_zero, List.set_cons_succ]
              refine wpAnyH_take (i := 2) (oi := { dst := some 96, op := Op.load 35 (Operand.tmp 6), type := 35, pos := "laws.go:156", after := #[], guard := none }) (v := ?vc2) rfl (by kernel_rfl) (by kernel_rfl) (by kernel_rfl) (fun _ _ _ h => h) (Or.inl ⟨by rfl, ?hyc2⟩) (by assumption) ?restc2
              case hyc2 =>
                intro w hSw
                (try dsimp only at hSw)
                go_simp
                try with_reducible rfl
              try simp only [Act.put, List.setIfInBounds_toArray, List.set_cons_zero, List.set_cons_succ]
              refine wpAnyH_ready (rs := [3]) (by kernel_rfl) (by simp) ?_
              refine AllReadyH.cons (o := { dst := some 97, op := Op.call { callee := Callee.value (Operand.func 41), args := #[Operand.tmp 94, Operand.tmp 95, Operand.tmp 96], argTypes := #[43, 35, 35] }, type := 4, pos := "laws.go:156", after := #[{ on := 0, ground := Ground.data }, { on := 1, ground := Ground.data }, { on := 2, ground := Ground.data }], guard := none }) rfl (fun K hK => ?_) AllReadyH.nil
              go_simp
              (go_at_call 41; refine (KAA.out _ (B7.out.trans (Below.drew (Below.refl _ _)))).mono ?_; rintro e w8 ⟨rfl, hb8⟩; have T8 := Cells.below (L := [(⟨w1.heap.size, 0, none⟩, .string sc), (⟨w1.heap.size, 1, none⟩, .string ho), (⟨w1.heap.size, 2, none⟩, .int .i64 po), (⟨w1.heap.size, 3, none⟩, .string pa), (⟨w6.heap.size, 0, none⟩, .string sc), (⟨w6.heap.size, 1, none⟩, .string hS), (⟨w6.heap.size, 2, none⟩, .int .i64 po), (⟨w6.heap.size, 3, none⟩, .string pa), (⟨w6.heap.size + 1, 0, none⟩, .string sc), (⟨w6.heap.size + 1, 1, none⟩, .string ho), (⟨w6.heap.size + 1, 2, none⟩, .int .i64 pP), (⟨w6.heap.size + 1, 3, none⟩, .string pa)]) (by simp only [Cells]; go_keep) hb8; simp only [Cells] at T8; obtain ⟨p80, p81, p82, p83, p84, p85, p86, p87, p88, p89, p810, p811, -⟩ := T8; have z8 : w6.heap.size + 2 ≤ w8.heap.size := Nat.le_trans z7 hb8.size; have B8 : Hid (Below wb.heap.size wb w8) := (B7.out.trans (Below.drew (Below.refl _ _))).trans (hb8.mono (by have := B7.out.size; simpa using this)))
              try (go_wp2_with fail)
              refine hK.out _ _ ?_ (fun hH1 => ?_)
              · (try dsimp only)
                go_keep
              clear hK K hH0
              try simp only [Act.put, List.setIfInBounds_toArray, List.set_cons_zero, List.set_cons_succ]
              refine wpAnyH_take (i := 4) (oi := { dst := some 98, op := Op.move (Operand.tmp 97), type := 4, pos := "laws.go:156", after := #[{ on := 3, ground := Ground.data }, { on := 3, ground := Ground.chain }], guard := none }) (v := ?vc4) rfl (by kernel_rfl) (by kernel_rfl) (by kernel_rfl) (fun _ _ _ h => h) (Or.inl ⟨by rfl, ?hyc4⟩) (by assumption) ?restc4
              case hyc4 =>
                intro w hSw
                (try dsimp only at hSw)
                go_simp
                try with_reducible rfl
              try simp only [Act.put, List.setIfInBounds_toArray, List.set_cons_zero, List.set_cons_succ]
              refine wpAnyH_take (i := 5) (oi := { dst := some 99, op := Op.move (Operand.tmp 5), type := 43, pos := "laws.go:156", after := #[{ on := 4, ground := Ground.guard }], guard := some (4, true) }) (v := ?vc5) rfl (by kernel_rfl) (by kernel_rfl) (by kernel_rfl) (fun _ _ _ h => h) (Or.inl ⟨by rfl, ?hyc5⟩) (by assumption) ?restc5
              case hyc5 =>
                intro w hSw
                (try dsimp only at hSw)
                go_simp
                try with_reducible rfl
              try simp only [Act.put, List.setIfInBounds_toArray, List.set_cons_zero, List.set_cons_succ]
              refine wpAnyH_take (i := 6) (oi := { dst := some 100, op := Op.load 35 (Operand.tmp 6), type := 35, pos := "laws.go:156", after := #[{ on := 4, ground := Ground.guard }], guard := some (4, true) }) (v := ?vc6) rfl (by kernel_rfl) (by kernel_rfl) (by kernel_rfl) (fun _ _ _ h => h) (Or.inl ⟨by rfl, ?hyc6⟩) (by assumption) ?restc6
              case hyc6 =>
                intro w hSw
                (try dsimp only at hSw)
                go_simp
                try with_reducible rfl
              try simp only [Act.put, List.setIfInBounds_toArray, List.set_cons_zero, List.set_cons_succ]
              refine wpAnyH_take (i := 7) (oi := { dst := some 101, op := Op.load 35 (Operand.tmp 12), type := 35, pos := "laws.go:156", after := #[{ on := 4, ground := Ground.guard }], guard := some (4, true) }) (v := ?vc7) rfl (by kernel_rfl) (by kernel_rfl) (by kernel_rfl) (fun _ _ _ h => h) (Or.inl ⟨by rfl, ?hyc7⟩) (by assumption) ?restc7
              case hyc7 =>
                intro w hSw
                (try dsimp only at hSw)
                go_simp
                try with_reducible rfl
              try simp only [Act.put, List.setIfInBounds_toArray, List.set_cons_zero, List.set_cons_succ]
              refine wpAnyH_ready (rs := [8]) (by kernel_rfl) (by simp) ?_
              refine AllReadyH.cons (o := { dst := some 102, op := Op.call { callee := Callee.value (Operand.func 41), args := #[Operand.tmp 99, Operand.tmp 100, Operand.tmp 101], argTypes := #[43, 35, 35] }, type := 4, pos := "laws.go:156", after := #[{ on := 5, ground := Ground.data }, { on := 6, ground := Ground.data }, { on := 7, ground := Ground.data }, { on := 4, ground := Ground.chain }, { on := 4, ground := Ground.guard }], guard := some (4, true) }) rfl (fun K hK => ?_) AllReadyH.nil
              go_simp
              (go_at_call 41; refine (KAP.out _ B8.out).mono ?_; rintro e w9 ⟨rfl, hb9⟩; have T9 := Cells.below (L := [(⟨w1.heap.size, 0, none⟩, .string sc), (⟨w1.heap.size, 1, none⟩, .string ho), (⟨w1.heap.size, 2, none⟩, .int .i64 po), (⟨w1.heap.size, 3, none⟩, .string pa), (⟨w6.heap.size, 0, none⟩, .string sc), (⟨w6.heap.size, 1, none⟩, .string hS), (⟨w6.heap.size, 2, none⟩, .int .i64 po), (⟨w6.heap.size, 3, none⟩, .string pa), (⟨w6.heap.size + 1, 0, none⟩, .string sc), (⟨w6.heap.size + 1, 1, none⟩, .string ho), (⟨w6.heap.size + 1, 2, none⟩, .int .i64 pP), (⟨w6.heap.size + 1, 3, none⟩, .string pa)]) (by simp only [Cells]; go_keep) hb9; simp only [Cells] at T9; obtain ⟨p90, p91, p92, p93, p94, p95, p96, p97, p98, p99, p910, p911, -⟩ := T9; have z9 : w6.heap.size + 2 ≤ w9.heap.size := Nat.le_trans z8 hb9.size; have B9 : Hid (Below wb.heap.size wb w9) := B8.out.trans (hb9.mono B8.out.size); clear p80 p81 p82 p83 p84 p85 p86 p87 p88 p89 p810 p811 z8 hb8)
              try (go_wp2_with fail)
              refine hK.out _ _ ?_ (fun hH2 => ?_)
              · (try dsimp only)
                go_keep
              clear hK K hH1
              try simp only [Act.put, List.setIfInBounds_toArray, List.set_cons_zero, List.set_cons_succ]
              refine wpAnyH_take (i := 9) (oi := { dst := some 103, op := Op.pick (Operand.tmp 98) (Operand.tmp 102) (Operand.const (Value.bool false)), type := 4, pos := "laws.go:156", after := #[{ on := 4, ground := Ground.data }, { on := 8, ground := Ground.data }], guard := none }) (v := ?vc9) rfl (by kernel_rfl) (by kernel_rfl) (by kernel_rfl) (fun _ _ _ h => h) (Or.inl ⟨by rfl, ?hyc9⟩) (by assumption) ?restc9
              case hyc9 =>
                intro w hSw
                (try dsimp only at hSw)
                go_simp
                try with_reducible rfl
              try simp only [Act.put, List.setIfInBounds_toArray, List.set_cons_zero, List.set_cons_succ]
              refine wpAnyH_take (i := 10) (oi := { dst := some 104, op := Op.move (Operand.tmp 103), type := 4, pos := "laws.go:156", after := #[{ on := 9, ground := Ground.data }, { on := 8, ground := Ground.chain }], guard := none }) (v := ?vc10) rfl (by kernel_rfl) (by kernel_rfl) (by kernel_rfl) (fun _ _ _ h => h) (Or.inl ⟨by rfl, ?hyc10⟩) (by assumption) ?restc10
              case hyc10 =>
                intro w hSw
                (try dsimp only at hSw)
                go_simp
                try with_reducible rfl
              try simp only [Act.put, List.setIfInBounds_toArray, List.set_cons_zero, List.set_cons_succ]
              refine wpAnyH_take (i := 11) (oi := { dst := some 105, op := Op.load 35 (Operand.tmp 11), type := 35, pos := "laws.go:156", after := #[{ on := 10, ground := Ground.guard }], guard := some (10, true) }) (v := ?vc11) rfl (by kernel_rfl) (by kernel_rfl) (by kernel_rfl) (fun _ _ _ h => h) (Or.inl ⟨by rfl, ?hyc11⟩) (by assumption) ?restc11
              case hyc11 =>
                intro w hSw
                (try dsimp only at hSw)
                go_simp
                try with_reducible rfl
              try simp only [Act.put, List.setIfInBounds_toArray, List.set_cons_zero, List.set_cons_succ]
              refine wpAnyH_ready (rs := [12]) (by kernel_rfl) (by simp) ?_
              refine AllReadyH.cons (o := { dst := some 106, op := Op.call { callee := Callee.value (Operand.func 22), args := #[Operand.tmp 105], argTypes := #[35] }, type := 4, pos := "laws.go:156", after := #[{ on := 11, ground := Ground.data }, { on := 10, ground := Ground.chain }, { on := 10, ground := Ground.guard }], guard := some (10, true) }) rfl (fun K hK => ?_) AllReadyH.nil
              go_simp
              (go_at_call 22; refine (TUS.out _ B9.out).mono ?_; rintro e w10 ⟨rfl, hb10⟩; have T10 := Cells.below (L := [(⟨w1.heap.size, 0, none⟩, .string sc), (⟨w1.heap.size, 1, none⟩, .string ho), (⟨w1.heap.size, 2, none⟩, .int .i64 po), (⟨w1.heap.size, 3, none⟩, .string pa), (⟨w6.heap.size, 0, none⟩, .string sc), (⟨w6.heap.size, 1, none⟩, .string hS), (⟨w6.heap.size, 2, none⟩, .int .i64 po), (⟨w6.heap.size, 3, none⟩, .string pa), (⟨w6.heap.size + 1, 0, none⟩, .string sc), (⟨w6.heap.size + 1, 1, none⟩, .string ho), (⟨w6.heap.size + 1, 2, none⟩, .int .i64 pP), (⟨w6.heap.size + 1, 3, none⟩, .string pa)]) (by simp only [Cells]; go_keep) hb10; simp only [Cells] at T10; obtain ⟨p100, p101, p102, p103, p104, p105, p106, p107, p108, p109, p1010, p1011, -⟩ := T10; have z10 : w6.heap.size + 2 ≤ w10.heap.size := Nat.le_trans z9 hb10.size; have B10 : Hid (Below wb.heap.size wb w10) := B9.out.trans (hb10.mono B9.out.size); clear p90 p91 p92 p93 p94 p95 p96 p97 p98 p99 p910 p911 z9 hb9)
              try (go_wp2_with fail)
              refine hK.out _ _ ?_ (fun hH3 => ?_)
              · (try dsimp only)
                go_keep
              clear hK K hH2
              try simp only [Act.put, List.setIfInBounds_toArray, List.set_cons_zero, List.set_cons_succ]
              refine wpAnyH_take (i := 13) (oi := { dst := some 107, op := Op.unOp UnOp.not 4 (Operand.tmp 106), type := 4, pos := "laws.go:156", after := #[{ on := 12, ground := Ground.data }, { on := 10, ground := Ground.guard }], guard := some (10, true) }) (v := ?vc13) rfl (by kernel_rfl) (by kernel_rfl) (by kernel_rfl) (fun _ _ _ h => h) (Or.inl ⟨by rfl, ?hyc13⟩) (by assumption) ?restc13
              case hyc13 =>
                intro w hSw
                (try dsimp only at hSw)
                go_simp
                try with_reducible rfl
              try simp only [Act.put, List.setIfInBounds_toArray, List.set_cons_zero, List.set_cons_succ]
              refine wpAnyH_take (i := 14) (oi := { dst := some 108, op := Op.move (Operand.tmp 107), type := 4, pos := "laws.go:156", after := #[{ on := 13, ground := Ground.data }, { on := 12, ground := Ground.chain }, { on := 10, ground := Ground.guard }], guard := some (10, true) }) (v := ?vc14) rfl (by kernel_rfl) (by kernel_rfl) (by kernel_rfl) (fun _ _ _ h => h) (Or.inl ⟨by rfl, ?hyc14⟩) (by assumption) ?restc14
              case hyc14 =>
                intro w hSw
                (try dsimp only at hSw)
                go_simp
                try with_reducible rfl
              try simp only [Act.put, List.setIfInBounds_toArray, List.set_cons_zero, List.set_cons_succ]
              refine wpAnyH_take (i := 15) (oi := { dst := some 109, op := Op.move (Operand.tmp 5), type := 43, pos := "laws.go:156", after := #[{ on := 14, ground := Ground.guard }], guard := some (14, false) }) (v := ?vc15) rfl (by kernel_rfl) (by kernel_rfl) (by kernel_rfl) (fun _ _ _ h => h) (Or.inl ⟨by rfl, ?hyc15⟩) (by assumption) ?restc15
              case hyc15 =>
                intro w hSw
                (try dsimp only at hSw)
                go_simp
                try with_reducible rfl
              try simp only [Act.put, List.setIfInBounds_toArray, List.set_cons_zero, List.set_cons_succ]
              refine wpAnyH_take (i := 16) (oi := { dst := some 110, op := Op.fieldAddr 35 (Operand.tmp 6) 1, type := 0, pos := "laws.go:156", after := #[{ on := 14, ground := Ground.guard }], guard := some (14, false) }) (v := ?vc16) rfl (by kernel_rfl) (by kernel_rfl) (by kernel_rfl) (fun _ _ _ h => h) (Or.inl ⟨by rfl, ?hyc16⟩) (by assumption) ?restc16
              case hyc16 =>
                intro w hSw
                (try dsimp only at hSw)
                go_simp
                try with_reducible rfl
              try simp only [Act.put, List.setIfInBounds_toArray, List.set_cons_zero, List.set_cons_succ]
              refine wpAnyH_take (i := 17) (oi := { dst := some 111, op := Op.load 9 (Operand.tmp 110), type := 9, pos := "laws.go:156", after := #[{ on := 16, ground := Ground.data }, { on := 14, ground := Ground.guard }], guard := some (14, false) }) (v := ?vc17) rfl (by kernel_rfl) (by kernel_rfl) (by kernel_rfl) (fun _ _ _ h => h) (Or.inl ⟨by rfl, ?hyc17⟩) (by assumption) ?restc17
              case hyc17 =>
                intro w hSw
                (try dsimp only at hSw)
                go_simp
                try with_reducible rfl
              try simp only [Act.put, List.setIfInBounds_toArray, List.set_cons_zero, List.set_cons_succ]
              refine wpAnyH_ready (rs := [18]) (by kernel_rfl) (by simp) ?_
              refine AllReadyH.cons (o := { dst := some 112, op := Op.call { callee := Callee.value (Operand.func 46), args := #[Operand.tmp 109, Operand.tmp 111], argTypes := #[43, 9] }, type := 62, pos := "laws.go:156", after := #[{ on := 15, ground := Ground.data }, { on := 17, ground := Ground.data }, { on := 14, ground := Ground.chain }, { on := 14, ground := Ground.guard }], guard := some (14, false) }) rfl (fun K hK => ?_) AllReadyH.nil
              go_simp
              (go_at_call 46; refine (TSA.out _ B10.out).mono ?_; rintro e w11 ⟨rfl, hb11⟩; have T11 := Cells.below (L := [(⟨w1.heap.size, 0, none⟩, .string sc), (⟨w1.heap.size, 1, none⟩, .string ho), (⟨w1.heap.size, 2, none⟩, .int .i64 po), (⟨w1.heap.size, 3, none⟩, .string pa), (⟨w6.heap.size, 0, none⟩, .string sc), (⟨w6.heap.size, 1, none⟩, .string hS), (⟨w6.heap.size, 2, none⟩, .int .i64 po), (⟨w6.heap.size, 3, none⟩, .string pa), (⟨w6.heap.size + 1, 0, none⟩, .string sc), (⟨w6.heap.size + 1, 1, none⟩, .string ho), (⟨w6.heap.size + 1, 2, none⟩, .int .i64 pP), (⟨w6.heap.size + 1, 3, none⟩, .string pa)]) (by simp only [Cells]; go_keep) hb11; simp only [Cells] at T11; obtain ⟨p110, p111, p112, p113, p114, p115, p116, p117, p118, p119, p1110, p1111, -⟩ := T11; have z11 : w6.heap.size + 2 ≤ w11.heap.size := Nat.le_trans z10 hb11.size; have B11 : Hid (Below wb.heap.size wb w11) := B10.out.trans (hb11.mono B10.out.size); clear p100 p101 p102 p103 p104 p105 p106 p107 p108 p109 p1010 p1011 z10 hb10)
              try (go_wp2_with fail)
              refine hK.out _ _ ?_ (fun hH4 => ?_)
              · (try dsimp only)
                go_keep
              clear hK K hH3
              try simp only [Act.put, List.setIfInBounds_toArray, List.set_cons_zero, List.set_cons_succ]
              refine wpAnyH_take (i := 19) (oi := { dst := some 113, op := Op.field 62 (Operand.tmp 112) 1, type := 9, pos := "laws.go:156", after := #[{ on := 18, ground := Ground.data }, { on := 14, ground := Ground.guard }], guard := some (14, false) }) (v := ?vc19) rfl (by kernel_rfl) (by kernel_rfl) (by kernel_rfl) (fun _ _ _ h => h) (Or.inl ⟨by rfl, ?hyc19⟩) (by assumption) ?restc19
              case hyc19 =>
                intro w hSw
                (try dsimp only at hSw)
                go_simp
                try with_reducible rfl
              try simp only [Act.put, List.setIfInBounds_toArray, List.set_cons_zero, List.set_cons_succ]
              refine wpAnyH_take (i := 20) (oi := { dst := some 114, op := Op.binOp BinOp.eql 9 (Operand.tmp 113) (Operand.const (Value.string { data := #[] })) 9, type := 4, pos := "laws.go:156", after := #[{ on := 19, ground := Ground.data }, { on := 14, ground := Ground.guard }], guard := some (14, false) }) (v := ?vc20) rfl (by kernel_rfl) (by kernel_rfl) (by kernel_rfl) (fun _ _ _ h => h) (Or.inl ⟨by rfl, ?hyc20⟩) (by assumption) ?restc20
              case hyc20 =>
                intro w hSw
                (try dsimp only at hSw)
                go_simp
                try with_reducible rfl
              try simp only [Act.put, List.setIfInBounds_toArray, List.set_cons_zero, List.set_cons_succ]
              refine wpAnyH_take (i := 21) (oi := { dst := some 115, op := Op.pick (Operand.tmp 108) (Operand.const (Value.bool true)) (Operand.tmp 114), type := 4, pos := "laws.go:156", after := #[{ on := 14, ground := Ground.data }, { on := 20, ground := Ground.data }, { on := 10, ground := Ground.guard }], guard := some (10, true) }) (v := ?vc21) rfl (by kernel_rfl) (by kernel_rfl) (by kernel_rfl) (fun _ _ _ h => h) (Or.inl ⟨by rfl, ?hyc21⟩) (by assumption) ?restc21
              case hyc21 =>
                intro w hSw
                (try dsimp only at hSw)
                go_simp
                try with_reducible rfl
              try simp only [Act.put, List.setIfInBounds_toArray, List.set_cons_zero, List.set_cons_succ]
              refine wpAnyH_take (i := 22) (oi := { dst := some 116, op := Op.move (Operand.tmp 115), type := 4, pos := "laws.go:156", after := #[{ on := 21, ground := Ground.data }, { on := 18, ground := Ground.chain }, { on := 10, ground := Ground.guard }], guard := some (10, true) }) (v := ?vc22) rfl (by kernel_rfl) (by kernel_rfl) (by kernel_rfl) (fun _ _ _ h => h) (Or.inl ⟨by rfl, ?hyc22⟩) (by assumption) ?restc22
              case hyc22 =>
                intro w hSw
                (try dsimp only at hSw)
                go_simp
                try with_reducible rfl
              try simp only [Act.put, List.setIfInBounds_toArray, List.set_cons_zero, List.set_cons_succ]
              refine wpAnyH_take (i := 23) (oi := { dst := some 117, op := Op.move (Operand.tmp 5), type := 43, pos := "laws.go:156", after := #[{ on := 22, ground := Ground.guard }], guard := some (22, false) }) (v := ?vc23) rfl (by kernel_rfl) (by kernel_rfl) (by kernel_rfl) (fun _ _ _ h => h) (Or.inl ⟨by rfl, ?hyc23⟩) (by assumption) ?restc23
              case hyc23 =>
                intro w hSw
                (try dsimp only at hSw)
                go_simp
                try with_reducible rfl
              try simp only [Act.put, List.setIfInBounds_toArray, List.set_cons_zero, List.set_cons_succ]
              refine wpAnyH_take (i := 24) (oi := { dst := some 118, op := Op.fieldAddr 35 (Operand.tmp 6) 1, type := 0, pos := "laws.go:156", after := #[{ on := 22, ground := Ground.guard }], guard := some (22, false) }) (v := ?vc24) rfl (by kernel_rfl) (by kernel_rfl) (by kernel_rfl) (fun _ _ _ h => h) (Or.inl ⟨by rfl, ?hyc24⟩) (by assumption) ?restc24
              case hyc24 =>
                intro w hSw
                (try dsimp only at hSw)
                go_simp
                try with_reducible rfl
              try simp only [Act.put, List.setIfInBounds_toArray, List.set_cons_zero, List.set_cons_succ]
              refine wpAnyH_take (i := 25) (oi := { dst := some 119, op := Op.load 9 (Operand.tmp 118), type := 9, pos := "laws.go:156", after := #[{ on := 24, ground := Ground.data }, { on := 22, ground := Ground.guard }], guard := some (22, false) }) (v := ?vc25) rfl (by kernel_rfl) (by kernel_rfl) (by kernel_rfl) (fun _ _ _ h => h) (Or.inl ⟨by rfl, ?hyc25⟩) (by assumption) ?restc25
              case hyc25 =>
                intro w hSw
                (try dsimp only at hSw)
                go_simp
                try with_reducible rfl
              try simp only [Act.put, List.setIfInBounds_toArray, List.set_cons_zero, List.set_cons_succ]
              refine wpAnyH_take (i := 28) (oi := { dst := some 122, op := Op.move (Operand.tmp 5), type := 43, pos := "laws.go:156", after := #[{ on := 22, ground := Ground.guard }], guard := some (22, false) }) (v := ?vc28) rfl (by kernel_rfl) (by kernel_rfl) (by kernel_rfl) (fun _ _ _ h => h) (Or.inl ⟨by rfl, ?hyc28⟩) (by assumption) ?restc28
              case hyc28 =>
                intro w hSw
                (try dsimp only at hSw)
                go_simp
                try with_reducible rfl
              try simp only [Act.put, List.setIfInBounds_toArray, List.set_cons_zero, List.set_cons_succ]
              refine wpAnyH_take (i := 29) (oi := { dst := some 123, op := Op.fieldAddr 35 (Operand.tmp 11) 1, type := 0, pos := "laws.go:156", after := #[{ on := 22, ground := Ground.guard }], guard := some (22, false) }) (v := ?vc29) rfl (by kernel_rfl) (by kernel_rfl) (by kernel_rfl) (fun _ _ _ h => h) (Or.inl ⟨by rfl, ?hyc29⟩) (by assumption) ?restc29
              case hyc29 =>
                intro w hSw
                (try dsimp only at hSw)
                go_simp
                try with_reducible rfl
              try simp only [Act.put, List.setIfInBounds_toArray, List.set_cons_zero, List.set_cons_succ]
              refine wpAnyH_take (i := 30) (oi := { dst := some 124, op := Op.load 9 (Operand.tmp 123), type := 9, pos := "laws.go:156", after := #[{ on := 29, ground := Ground.data }, { on := 22, ground := Ground.guard }], guard := some (22, false) }) (v := ?vc30) rfl (by kernel_rfl) (by kernel_rfl) (by kernel_rfl) (fun _ _ _ h => h) (Or.inl ⟨by rfl, ?hyc30⟩) (by assumption) ?restc30
              case hyc30 =>
                intro w hSw
                (try dsimp only at hSw)
                go_simp
                try with_reducible rfl
              try simp only [Act.put, List.setIfInBounds_toArray, List.set_cons_zero, List.set_cons_succ]
              refine wpAnyH_ready (rs := [26]) (by kernel_rfl) (by simp) ?_
              refine AllReadyH.cons (o := { dst := some 120, op := Op.call { callee := Callee.value (Operand.func 46), args := #[Operand.tmp 117, Operand.tmp 119], argTypes := #[43, 9] }, type := 62, pos := "laws.go:156", after := #[{ on := 23, ground := Ground.data }, { on := 25, ground := Ground.data }, { on := 22, ground := Ground.chain }, { on := 22, ground := Ground.guard }], guard := some (22, false) }) rfl (fun K hK => ?_) AllReadyH.nil
              go_simp
              (go_at_call 46; refine (TSA.out _ B11.out).mono ?_; rintro e w12 ⟨rfl, hb12⟩; have T12 := Cells.below (L := [(⟨w1.heap.size, 0, none⟩, .string sc), (⟨w1.heap.size, 1, none⟩, .string ho), (⟨w1.heap.size, 2, none⟩, .int .i64 po), (⟨w1.heap.size, 3, none⟩, .string pa), (⟨w6.heap.size, 0, none⟩, .string sc), (⟨w6.heap.size, 1, none⟩, .string hS), (⟨w6.heap.size, 2, none⟩, .int .i64 po), (⟨w6.heap.size, 3, none⟩, .string pa), (⟨w6.heap.size + 1, 0, none⟩, .string sc), (⟨w6.heap.size + 1, 1, none⟩, .string ho), (⟨w6.heap.size + 1, 2, none⟩, .int .i64 pP), (⟨w6.heap.size + 1, 3, none⟩, .string pa)]) (by simp only [Cells]; go_keep) hb12; simp only [Cells] at T12; obtain ⟨p120, p121, p122, p123, p124, p125, p126, p127, p128, p129, p1210, p1211, -⟩ := T12; have z12 : w6.heap.size + 2 ≤ w12.heap.size := Nat.le_trans z11 hb12.size; have B12 : Hid (Below wb.heap.size wb w12) := B11.out.trans (hb12.mono B11.out.size); clear p110 p111 p112 p113 p114 p115 p116 p117 p118 p119 p1110 p1111 z11 hb11)
              try (go_wp2_with fail)
              refine hK.out _ _ ?_ (fun hH5 => ?_)
              · (try dsimp only)
                go_keep
              clear hK K hH4
              try simp only [Act.put, List.setIfInBounds_toArray, List.set_cons_zero, List.set_cons_succ]
              refine wpAnyH_take (i := 27) (oi := { dst := some 121, op := Op.field 62 (Operand.tmp 120) 0, type := 9, pos := "laws.go:156", after := #[{ on := 26, ground := Ground.data }, { on := 22, ground := Ground.guard }], guard := some (22, false) }) (v := ?vc27) rfl (by kernel_rfl) (by kernel_rfl) (by kernel_rfl) (fun _ _ _ h => h) (Or.inl ⟨by rfl, ?hyc27⟩) (by assumption) ?restc27
              case hyc27 =>
                intro w hSw
                (try dsimp only at hSw)
                go_simp
                try with_reducible rfl
              try simp only [Act.put, List.setIfInBounds_toArray, List.set_cons_zero, List.set_cons_succ]
              refine wpAnyH_ready (rs := [31]) (by kernel_rfl) (by simp) ?_
              refine AllReadyH.cons (o := { dst := some 125, op := Op.call { callee := Callee.value (Operand.func 46), args := #[Operand.tmp 122, Operand.tmp 124], argTypes := #[43, 9] }, type := 62, pos := "laws.go:156", after := #[{ on := 28, ground := Ground.data }, { on := 30, ground := Ground.data }, { on := 26, ground := Ground.chain }, { on := 22, ground := Ground.guard }], guard := some (22, false) }) rfl (fun K hK => ?_) AllReadyH.nil
              go_simp
              (go_at_call 46; refine (TSB.out _ B12.out).mono ?_; rintro e w13 ⟨rfl, hb13⟩; have T13 := Cells.below (L := [(⟨w1.heap.size, 0, none⟩, .string sc), (⟨w1.heap.size, 1, none⟩, .string ho), (⟨w1.heap.size, 2, none⟩, .int .i64 po), (⟨w1.heap.size, 3, none⟩, .string pa), (⟨w6.heap.size, 0, none⟩, .string sc), (⟨w6.heap.size, 1, none⟩, .string hS), (⟨w6.heap.size, 2, none⟩, .int .i64 po), (⟨w6.heap.size, 3, none⟩, .string pa), (⟨w6.heap.size + 1, 0, none⟩, .string sc), (⟨w6.heap.size + 1, 1, none⟩, .string ho), (⟨w6.heap.size + 1, 2, none⟩, .int .i64 pP), (⟨w6.heap.size + 1, 3, none⟩, .string pa)]) (by simp only [Cells]; go_keep) hb13; simp only [Cells] at T13; obtain ⟨p130, p131, p132, p133, p134, p135, p136, p137, p138, p139, p1310, p1311, -⟩ := T13; have z13 : w6.heap.size + 2 ≤ w13.heap.size := Nat.le_trans z12 hb13.size; have B13 : Hid (Below wb.heap.size wb w13) := B12.out.trans (hb13.mono B12.out.size); clear p120 p121 p122 p123 p124 p125 p126 p127 p128 p129 p1210 p1211 z12 hb12)
              try (go_wp2_with fail)
              refine hK.out _ _ ?_ (fun hH6 => ?_)
              · (try dsimp only)
                go_keep
              clear hK K hH5
              try simp only [Act.put, List.setIfInBounds_toArray, List.set_cons_zero, List.set_cons_succ]
              refine wpAnyH_take (i := 32) (oi := { dst := some 126, op := Op.field 62 (Operand.tmp 125) 0, type := 9, pos := "laws.go:156", after := #[{ on := 31, ground := Ground.data }, { on := 22, ground := Ground.guard }], guard := some (22, false) }) (v := ?vc32) rfl (by kernel_rfl) (by kernel_rfl) (by kernel_rfl) (fun _ _ _ h => h) (Or.inl ⟨by rfl, ?hyc32⟩) (by assumption) ?restc32
              case hyc32 =>
                intro w hSw
                (try dsimp only at hSw)
                go_simp
                try with_reducible rfl
              try simp only [Act.put, List.setIfInBounds_toArray, List.set_cons_zero, List.set_cons_succ]
              refine wpAnyH_take (i := 33) (oi := { dst := some 127, op := Op.binOp BinOp.neq 9 (Operand.tmp 121) (Operand.tmp 126) 9, type := 4, pos := "laws.go:156", after := #[{ on := 27, ground := Ground.data }, { on := 32, ground := Ground.data }, { on := 22, ground := Ground.guard }], guard := some (22, false) }) (v := ?vc33) rfl (by kernel_rfl) (by kernel_rfl) (by kernel_rfl) (fun _ _ _ h => h) (Or.inl ⟨by rfl, ?hyc33⟩) (by assumption) ?restc33
              case hyc33 =>
                intro w hSw
                (try dsimp only at hSw)
                go_simp
                try with_reducible rfl
              try simp only [Act.put, List.setIfInBounds_toArray, List.set_cons_zero, List.set_cons_succ]
              refine wpAnyH_take (i := 34) (oi := { dst := some 128, op := Op.pick (Operand.tmp 116) (Operand.const (Value.bool true)) (Operand.tmp 127), type := 4, pos := "laws.go:156", after := #[{ on := 22, ground := Ground.data }, { on := 33, ground := Ground.data }, { on := 10, ground := Ground.guard }], guard := some (10, true) }) (v := ?vc34) rfl (by kernel_rfl) (by kernel_rfl) (by kernel_rfl) (fun _ _ _ h => h) (Or.inl ⟨by rfl, ?hyc34⟩) (by assumption) ?restc34
              case hyc34 =>
                intro w hSw
                (try dsimp only at hSw)
                go_simp
                try with_reducible rfl
              try simp only [Act.put, List.setIfInBounds_toArray, List.set_cons_zero, List.set_cons_succ]
              refine wpAnyH_take (i := 35) (oi := { dst := some 129, op := Op.move (Operand.tmp 128), type := 4, pos := "laws.go:156", after := #[{ on := 34, ground := Ground.data }, { on := 31, ground := Ground.chain }, { on := 10, ground := Ground.guard }], guard := some (10, true) }) (v := ?vc35) rfl (by kernel_rfl) (by kernel_rfl) (by kernel_rfl) (fun _ _ _ h => h) (Or.inl ⟨by rfl, ?hyc35⟩) (by assumption) ?restc35
              case hyc35 =>
                intro w hSw
                (try dsimp only at hSw)
                go_simp
                try with_reducible rfl
              try simp only [Act.put, List.setIfInBounds_toArray, List.set_cons_zero, List.set_cons_succ]
              refine wpAnyH_take (i := 36) (oi := { dst := some 130, op := Op.move (Operand.tmp 5), type := 43, pos := "laws.go:156", after := #[{ on := 35, ground := Ground.guard }], guard := some (35, false) }) (v := undef) rfl (by kernel_rfl) (by kernel_rfl) (by kernel_rfl) (fun _ _ _ h => h) (Or.inr ⟨by rfl, rfl⟩) (by assumption) ?_
              try simp only [Act.put, List.setIfInBounds_toArray, List.set_cons_zero, List.set_cons_succ]
              refine wpAnyH_take (i := 37) (oi := { dst := some 131, op := Op.load 35 (Operand.tmp 6), type := 35, pos := "laws.go:156", after := #[{ on := 35, ground := Ground.guard }], guard := some (35, false) }) (v := undef) rfl (by kernel_rfl) (by kernel_rfl) (by kernel_rfl) (fun _ _ _ h => h) (Or.inr ⟨by rfl, rfl⟩) (by assumption) ?_
              try simp only [Act.put, List.setIfInBounds_toArray, List.set_cons_zero, List.set_cons_succ]
              refine wpAnyH_take (i := 38) (oi := { dst := some 132, op := Op.load 35 (Operand.tmp 11), type := 35, pos := "laws.go:156", after := #[{ on := 35, ground := Ground.guard }], guard := some (35, false) }) (v := undef) rfl (by kernel_rfl) (by kernel_rfl) (by kernel_rfl) (fun _ _ _ h => h) (Or.inr ⟨by rfl, rfl⟩) (by assumption) ?_
              try simp only [Act.put, List.setIfInBounds_toArray, List.set_cons_zero, List.set_cons_succ]
              refine wpAnyH_take (i := 39) (oi := { dst := some 133, op := Op.call { callee := Callee.value (Operand.func 41), args := #[Operand.tmp 130, Operand.tmp 131, Operand.tmp 132], argTypes := #[43, 35, 35] }, type := 4, pos := "laws.go:156", after := #[{ on := 36, ground := Ground.data }, { on := 37, ground := Ground.data }, { on := 38, ground := Ground.data }, { on := 35, ground := Ground.chain }, { on := 35, ground := Ground.guard }], guard := some (35, false) }) (v := undef) rfl (by kernel_rfl) (by kernel_rfl) (by kernel_rfl) (fun _ _ _ h => h) (Or.inr ⟨by rfl, rfl⟩) (by assumption) ?_
              try simp only [Act.put, List.setIfInBounds_toArray, List.set_cons_zero, List.set_cons_succ]
              refine wpAnyH_take (i := 40) (oi := { dst := some 134, op := Op.pick (Operand.tmp 129) (Operand.const (Value.bool true)) (Operand.tmp 133), type := 4, pos := "laws.go:156", after := #[{ on := 35, ground := Ground.data }, { on := 39, ground := Ground.data }, { on := 10, ground := Ground.guard }], guard := some (10, true) }) (v := ?vc40) rfl (by kernel_rfl) (by kernel_rfl) (by kernel_rfl) (fun _ _ _ h => h) (Or.inl ⟨by rfl, ?hyc40⟩) (by assumption) ?restc40
              case hyc40 =>
                intro w hSw
                (try dsimp only at hSw)
                go_simp
                try with_reducible rfl
              try simp only [Act.put, List.setIfInBounds_toArray, List.set_cons_zero, List.set_cons_succ]
              refine wpAnyH_take (i := 41) (oi := { dst := some 135, op := Op.pick (Operand.tmp 104) (Operand.tmp 134) (Operand.const (Value.bool false)), type := 4, pos := "laws.go:156", after := #[{ on := 10, ground := Ground.data }, { on := 40, ground := Ground.data }], guard := none }) (v := ?vc41) rfl (by kernel_rfl) (by kernel_rfl) (by kernel_rfl) (fun _ _ _ h => h) (Or.inl ⟨by rfl, ?hyc41⟩) (by assumption) ?restc41
              case hyc41 =>
                intro w hSw
                (try dsimp only at hSw)
                go_simp
                try with_reducible rfl
              try simp only [Act.put, List.setIfInBounds_toArray, List.set_cons_zero, List.set_cons_succ]
              refine wpAnyH_take (i := 42) (oi := { dst := some 4, op := Op.assign (Operand.tmp 135), type := 4, pos := "laws.go:156", after := #[{ on := 41, ground := Ground.data }, { on := 39, ground := Ground.chain }, { on := 0, ground := Ground.phase }, { on := 1, ground := Ground.phase }, { on := 2, ground := Ground.phase }, { on := 3, ground := Ground.phase }, { on := 4, ground := Ground.phase }, { on := 5, ground := Ground.phase }, { on := 6, ground := Ground.phase }, { on := 7, ground := Ground.phase }, { on := 8, ground := Ground.phase }, { on := 9, ground := Ground.phase }, { on := 10, ground := Ground.phase }, { on := 11, ground := Ground.phase }, { on := 12, ground := Ground.phase }, { on := 13, ground := Ground.phase }, { on := 14, ground := Ground.phase }, { on := 15, ground := Ground.phase }, { on := 16, ground := Ground.phase }, { on := 17, ground := Ground.phase }, { on := 18, ground := Ground.phase }, { on := 19, ground := Ground.phase }, { on := 20, ground := Ground.phase }, { on := 21, ground := Ground.phase }, { on := 22, ground := Ground.phase }, { on := 23, ground := Ground.phase }, { on := 24, ground := Ground.phase }, { on := 25, ground := Ground.phase }, { on := 26, ground := Ground.phase }, { on := 27, ground := Ground.phase }, { on := 28, ground := Ground.phase }, { on := 29, ground := Ground.phase }, { on := 30, ground := Ground.phase }, { on := 31, ground := Ground.phase }, { on := 32, ground := Ground.phase }, { on := 33, ground := Ground.phase }, { on := 34, ground := Ground.phase }, { on := 35, ground := Ground.phase }, { on := 36, ground := Ground.phase }, { on := 37, ground := Ground.phase }, { on := 38, ground := Ground.phase }, { on := 39, ground := Ground.phase }, { on := 40, ground := Ground.phase }, { on := 41, ground := Ground.phase }], guard := none }) (v := ?vc42) rfl (by kernel_rfl) (by kernel_rfl) (by kernel_rfl) (fun _ _ _ h => h) (Or.inl ⟨by rfl, ?hyc42⟩) (by assumption) ?restc42
              case hyc42 =>
                intro w hSw
                (try dsimp only at hSw)
                go_simp
                try with_reducible rfl
              try simp only [Act.put, List.setIfInBounds_toArray, List.set_cons_zero, List.set_cons_succ]
              refine wpAnyH_done (by kernel_rfl) ?_ _
              go_wp2
              go_ret
              exact ⟨rfl, BW.out.trans (B13.out.mono BW.out.size)⟩
            | true =>
              obtain rfl : rr = true := HX.out rfl hD1 hSS
              refine wp_region_held_drew (S := (fun w' => w6.heap.size + 2 ≤ w'.heap.size ∧ w'.cell? ⟨w1.heap.size, 0, none⟩ = some (.string sc) ∧ w'.cell? ⟨w1.heap.size, 1, none⟩ = some (.string ho) ∧ w'.cell? ⟨w1.heap.size, 2, none⟩ = some (.int .i64 po) ∧ w'.cell? ⟨w1.heap.size, 3, none⟩ = some (.string pa) ∧ w'.cell? ⟨w6.heap.size, 0, none⟩ = some (.string sc) ∧ w'.cell? ⟨w6.heap.size, 1, none⟩ = some (.string hS) ∧ w'.cell? ⟨w6.heap.size, 2, none⟩ = some (.int .i64 po) ∧ w'.cell? ⟨w6.heap.size, 3, none⟩ = some (.string pa) ∧ w'.cell? ⟨w6.heap.size + 1, 0, none⟩ = some (.string sc) ∧ w'.cell? ⟨w6.heap.size + 1, 1, none⟩ = some (.string ho) ∧ w'.cell? ⟨w6.heap.size + 1, 2, none⟩ = some (.int .i64 pP) ∧ w'.cell? ⟨w6.heap.size + 1, 3, none⟩ = some (.string pa))) (by kernel_rfl) ?_ (fun hH0 => ?_)
              · (try dsimp only)
                go_keep
              refine wpAnyH_take (i := 0) (oi := { dst := some 94, op := Op.move (Operand.tmp 5), type := 43, pos := "laws.go:156", after := #[], guard := none }) (v := ?vd0) rfl (by kernel_rfl) (by kernel_rfl) (by kernel_rfl) (fun _ _ _ h => h) (Or.inl ⟨by rfl, ?hyd0⟩) (by assumption) ?restd0
              case hyd0 =>
                intro w hSw
                (try dsimp only at hSw)
                go_simp
                try with_reducible rfl
              try simp only [Act.put, List.setIfInBounds_toArray, List.set_cons_zero, List.set_cons_succ]
              refine wpAnyH_take (i := 1) (oi := { dst := some 95, op := Op.load 35 (Operand.tmp 6), type := 35, pos := "laws.go:156", after := #[], guard := none }) (v := ?vd1) rfl (by kernel_rfl) (by kernel_rfl) (by kernel_rfl) (fun _ _ _ h => h) (Or.inl ⟨by rfl, ?hyd1⟩) (by assumption) ?restd1
              case hyd1 =>
                intro w hSw
                (try dsimp only at hSw)
                go_simp
                try with_reducible rfl
              try simp only [Act.put, List.setIfInBounds_toArray, List.set_cons_zero, List.set_cons_succ]
              refine wpAnyH_take (i := 2) (oi := { dst := some 96, op := Op.load 35 (Operand.tmp 6), type := 35, pos := "laws.go:156", after := #[], guard := none }) (v := ?vd2) rfl (by kernel_rfl) (by kernel_rfl) (by kernel_rfl) (fun _ _ _ h => h) (Or.inl ⟨by rfl, ?hyd2⟩) (by assumption) ?restd2
              case hyd2 =>
                intro w hSw
                (try dsimp only at hSw)
                go_simp
                try with_reducible rfl
              try simp only [Act.put, List.setIfInBounds_toArray, List.set_cons_zero, List.set_cons_succ]
              refine wpAnyH_ready (rs := [3]) (by kernel_rfl) (by simp) ?_
              refine AllReadyH.cons (o := { dst := some 97, op := Op.call { callee := Callee.value (Operand.func 41), args := #[Operand.tmp 94, Operand.tmp 95, Operand.tmp 96], argTypes := #[43, 35, 35] }, type := 4, pos := "laws.go:156", after := #[{ on := 0, ground := Ground.data }, { on := 1, ground := Ground.data }, { on := 2, ground := Ground.data }], guard := none }) rfl (fun K hK => ?_) AllReadyH.nil
              go_simp
              (go_at_call 41; refine (KAA.out _ (B7.out.trans (Below.drew (Below.refl _ _)))).mono ?_; rintro e w8 ⟨rfl, hb8⟩; have T8 := Cells.below (L := [(⟨w1.heap.size, 0, none⟩, .string sc), (⟨w1.heap.size, 1, none⟩, .string ho), (⟨w1.heap.size, 2, none⟩, .int .i64 po), (⟨w1.heap.size, 3, none⟩, .string pa), (⟨w6.heap.size, 0, none⟩, .string sc), (⟨w6.heap.size, 1, none⟩, .string hS), (⟨w6.heap.size, 2, none⟩, .int .i64 po), (⟨w6.heap.size, 3, none⟩, .string pa), (⟨w6.heap.size + 1, 0, none⟩, .string sc), (⟨w6.heap.size + 1, 1, none⟩, .string ho), (⟨w6.heap.size + 1, 2, none⟩, .int .i64 pP), (⟨w6.heap.size + 1, 3, none⟩, .string pa)]) (by simp only [Cells]; go_keep) hb8; simp only [Cells] at T8; obtain ⟨p80, p81, p82, p83, p84, p85, p86, p87, p88, p89, p810, p811, -⟩ := T8; have z8 : w6.heap.size + 2 ≤ w8.heap.size := Nat.le_trans z7 hb8.size; have B8 : Hid (Below wb.heap.size wb w8) := (B7.out.trans (Below.drew (Below.refl _ _))).trans (hb8.mono (by have := B7.out.size; simpa using this)))
              try (go_wp2_with fail)
              refine hK.out _ _ ?_ (fun hH1 => ?_)
              · (try dsimp only)
                go_keep
              clear hK K hH0
              try simp only [Act.put, List.setIfInBounds_toArray, List.set_cons_zero, List.set_cons_succ]
              refine wpAnyH_take (i := 4) (oi := { dst := some 98, op := Op.move (Operand.tmp 97), type := 4, pos := "laws.go:156", after := #[{ on := 3, ground := Ground.data }, { on := 3, ground := Ground.chain }], guard := none }) (v := ?vd4) rfl (by kernel_rfl) (by kernel_rfl) (by kernel_rfl) (fun _ _ _ h => h) (Or.inl ⟨by rfl, ?hyd4⟩) (by assumption) ?restd4
              case hyd4 =>
                intro w hSw
                (try dsimp only at hSw)
                go_simp
                try with_reducible rfl
              try simp only [Act.put, List.setIfInBounds_toArray, List.set_cons_zero, List.set_cons_succ]
              refine wpAnyH_take (i := 5) (oi := { dst := some 99, op := Op.move (Operand.tmp 5), type := 43, pos := "laws.go:156", after := #[{ on := 4, ground := Ground.guard }], guard := some (4, true) }) (v := ?vd5) rfl (by kernel_rfl) (by kernel_rfl) (by kernel_rfl) (fun _ _ _ h => h) (Or.inl ⟨by rfl, ?hyd5⟩) (by assumption) ?restd5
              case hyd5 =>
                intro w hSw
                (try dsimp only at hSw)
                go_simp
                try with_reducible rfl
              try simp only [Act.put, List.setIfInBounds_toArray, List.set_cons_zero, List.set_cons_succ]
              refine wpAnyH_take (i := 6) (oi := { dst := some 100, op := Op.load 35 (Operand.tmp 6), type := 35, pos := "laws.go:156", after := #[{ on := 4, ground := Ground.guard }], guard := some (4, true) }) (v := ?vd6) rfl (by kernel_rfl) (by kernel_rfl) (by kernel_rfl) (fun _ _ _ h => h) (Or.inl ⟨by rfl, ?hyd6⟩) (by assumption) ?restd6
              case hyd6 =>
                intro w hSw
                (try dsimp only at hSw)
                go_simp
                try with_reducible rfl
              try simp only [Act.put, List.setIfInBounds_toArray, List.set_cons_zero, List.set_cons_succ]
              refine wpAnyH_take (i := 7) (oi := { dst := some 101, op := Op.load 35 (Operand.tmp 12), type := 35, pos := "laws.go:156", after := #[{ on := 4, ground := Ground.guard }], guard := some (4, true) }) (v := ?vd7) rfl (by kernel_rfl) (by kernel_rfl) (by kernel_rfl) (fun _ _ _ h => h) (Or.inl ⟨by rfl, ?hyd7⟩) (by assumption) ?restd7
              case hyd7 =>
                intro w hSw
                (try dsimp only at hSw)
                go_simp
                try with_reducible rfl
              try simp only [Act.put, List.setIfInBounds_toArray, List.set_cons_zero, List.set_cons_succ]
              refine wpAnyH_ready (rs := [8]) (by kernel_rfl) (by simp) ?_
              refine AllReadyH.cons (o := { dst := some 102, op := Op.call { callee := Callee.value (Operand.func 41), args := #[Operand.tmp 99, Operand.tmp 100, Operand.tmp 101], argTypes := #[43, 35, 35] }, type := 4, pos := "laws.go:156", after := #[{ on := 5, ground := Ground.data }, { on := 6, ground := Ground.data }, { on := 7, ground := Ground.data }, { on := 4, ground := Ground.chain }, { on := 4, ground := Ground.guard }], guard := some (4, true) }) rfl (fun K hK => ?_) AllReadyH.nil
              go_simp
              (go_at_call 41; refine (KAP.out _ B8.out).mono ?_; rintro e w9 ⟨rfl, hb9⟩; have T9 := Cells.below (L := [(⟨w1.heap.size, 0, none⟩, .string sc), (⟨w1.heap.size, 1, none⟩, .string ho), (⟨w1.heap.size, 2, none⟩, .int .i64 po), (⟨w1.heap.size, 3, none⟩, .string pa), (⟨w6.heap.size, 0, none⟩, .string sc), (⟨w6.heap.size, 1, none⟩, .string hS), (⟨w6.heap.size, 2, none⟩, .int .i64 po), (⟨w6.heap.size, 3, none⟩, .string pa), (⟨w6.heap.size + 1, 0, none⟩, .string sc), (⟨w6.heap.size + 1, 1, none⟩, .string ho), (⟨w6.heap.size + 1, 2, none⟩, .int .i64 pP), (⟨w6.heap.size + 1, 3, none⟩, .string pa)]) (by simp only [Cells]; go_keep) hb9; simp only [Cells] at T9; obtain ⟨p90, p91, p92, p93, p94, p95, p96, p97, p98, p99, p910, p911, -⟩ := T9; have z9 : w6.heap.size + 2 ≤ w9.heap.size := Nat.le_trans z8 hb9.size; have B9 : Hid (Below wb.heap.size wb w9) := B8.out.trans (hb9.mono B8.out.size); clear p80 p81 p82 p83 p84 p85 p86 p87 p88 p89 p810 p811 z8 hb8)
              try (go_wp2_with fail)
              refine hK.out _ _ ?_ (fun hH2 => ?_)
              · (try dsimp only)
                go_keep
              clear hK K hH1
              try simp only [Act.put, List.setIfInBounds_toArray, List.set_cons_zero, List.set_cons_succ]
              refine wpAnyH_take (i := 9) (oi := { dst := some 103, op := Op.pick (Operand.tmp 98) (Operand.tmp 102) (Operand.const (Value.bool false)), type := 4, pos := "laws.go:156", after := #[{ on := 4, ground := Ground.data }, { on := 8, ground := Ground.data }], guard := none }) (v := ?vd9) rfl (by kernel_rfl) (by kernel_rfl) (by kernel_rfl) (fun _ _ _ h => h) (Or.inl ⟨by rfl, ?hyd9⟩) (by assumption) ?restd9
              case hyd9 =>
                intro w hSw
                (try dsimp only at hSw)
                go_simp
                try with_reducible rfl
              try simp only [Act.put, List.setIfInBounds_toArray, List.set_cons_zero, List.set_cons_succ]
              refine wpAnyH_take (i := 10) (oi := { dst := some 104, op := Op.move (Operand.tmp 103), type := 4, pos := "laws.go:156", after := #[{ on := 9, ground := Ground.data }, { on := 8, ground := Ground.chain }], guard := none }) (v := ?vd10) rfl (by kernel_rfl) (by kernel_rfl) (by kernel_rfl) (fun _ _ _ h => h) (Or.inl ⟨by rfl, ?hyd10⟩) (by assumption) ?restd10
              case hyd10 =>
                intro w hSw
                (try dsimp only at hSw)
                go_simp
                try with_reducible rfl
              try simp only [Act.put, List.setIfInBounds_toArray, List.set_cons_zero, List.set_cons_succ]
              refine wpAnyH_take (i := 11) (oi := { dst := some 105, op := Op.load 35 (Operand.tmp 11), type := 35, pos := "laws.go:156", after := #[{ on := 10, ground := Ground.guard }], guard := some (10, true) }) (v := ?vd11) rfl (by kernel_rfl) (by kernel_rfl) (by kernel_rfl) (fun _ _ _ h => h) (Or.inl ⟨by rfl, ?hyd11⟩) (by assumption) ?restd11
              case hyd11 =>
                intro w hSw
                (try dsimp only at hSw)
                go_simp
                try with_reducible rfl
              try simp only [Act.put, List.setIfInBounds_toArray, List.set_cons_zero, List.set_cons_succ]
              refine wpAnyH_ready (rs := [12]) (by kernel_rfl) (by simp) ?_
              refine AllReadyH.cons (o := { dst := some 106, op := Op.call { callee := Callee.value (Operand.func 22), args := #[Operand.tmp 105], argTypes := #[35] }, type := 4, pos := "laws.go:156", after := #[{ on := 11, ground := Ground.data }, { on := 10, ground := Ground.chain }, { on := 10, ground := Ground.guard }], guard := some (10, true) }) rfl (fun K hK => ?_) AllReadyH.nil
              go_simp
              (go_at_call 22; refine (TUS.out _ B9.out).mono ?_; rintro e w10 ⟨rfl, hb10⟩; have T10 := Cells.below (L := [(⟨w1.heap.size, 0, none⟩, .string sc), (⟨w1.heap.size, 1, none⟩, .string ho), (⟨w1.heap.size, 2, none⟩, .int .i64 po), (⟨w1.heap.size, 3, none⟩, .string pa), (⟨w6.heap.size, 0, none⟩, .string sc), (⟨w6.heap.size, 1, none⟩, .string hS), (⟨w6.heap.size, 2, none⟩, .int .i64 po), (⟨w6.heap.size, 3, none⟩, .string pa), (⟨w6.heap.size + 1, 0, none⟩, .string sc), (⟨w6.heap.size + 1, 1, none⟩, .string ho), (⟨w6.heap.size + 1, 2, none⟩, .int .i64 pP), (⟨w6.heap.size + 1, 3, none⟩, .string pa)]) (by simp only [Cells]; go_keep) hb10; simp only [Cells] at T10; obtain ⟨p100, p101, p102, p103, p104, p105, p106, p107, p108, p109, p1010, p1011, -⟩ := T10; have z10 : w6.heap.size + 2 ≤ w10.heap.size := Nat.le_trans z9 hb10.size; have B10 : Hid (Below wb.heap.size wb w10) := B9.out.trans (hb10.mono B9.out.size); clear p90 p91 p92 p93 p94 p95 p96 p97 p98 p99 p910 p911 z9 hb9)
              try (go_wp2_with fail)
              refine hK.out _ _ ?_ (fun hH3 => ?_)
              · (try dsimp only)
                go_keep
              clear hK K hH2
              try simp only [Act.put, List.setIfInBounds_toArray, List.set_cons_zero, List.set_cons_succ]
              refine wpAnyH_take (i := 13) (oi := { dst := some 107, op := Op.unOp UnOp.not 4 (Operand.tmp 106), type := 4, pos := "laws.go:156", after := #[{ on := 12, ground := Ground.data }, { on := 10, ground := Ground.guard }], guard := some (10, true) }) (v := ?vd13) rfl (by kernel_rfl) (by kernel_rfl) (by kernel_rfl) (fun _ _ _ h => h) (Or.inl ⟨by rfl, ?hyd13⟩) (by assumption) ?restd13
              case hyd13 =>
                intro w hSw
                (try dsimp only at hSw)
                go_simp
                try with_reducible rfl
              try simp only [Act.put, List.setIfInBounds_toArray, List.set_cons_zero, List.set_cons_succ]
              refine wpAnyH_take (i := 14) (oi := { dst := some 108, op := Op.move (Operand.tmp 107), type := 4, pos := "laws.go:156", after := #[{ on := 13, ground := Ground.data }, { on := 12, ground := Ground.chain }, { on := 10, ground := Ground.guard }], guard := some (10, true) }) (v := ?vd14) rfl (by kernel_rfl) (by kernel_rfl) (by kernel_rfl) (fun _ _ _ h => h) (Or.inl ⟨by rfl, ?hyd14⟩) (by assumption) ?restd14
              case hyd14 =>
                intro w hSw
                (try dsimp only at hSw)
                go_simp
                try with_reducible rfl
              try simp only [Act.put, List.setIfInBounds_toArray, List.set_cons_zero, List.set_cons_succ]
              refine wpAnyH_take (i := 15) (oi := { dst := some 109, op := Op.move (Operand.tmp 5), type := 43, pos := "laws.go:156", after := #[{ on := 14, ground := Ground.guard }], guard := some (14, false) }) (v := ?vd15) rfl (by kernel_rfl) (by kernel_rfl) (by kernel_rfl) (fun _ _ _ h => h) (Or.inl ⟨by rfl, ?hyd15⟩) (by assumption) ?restd15
              case hyd15 =>
                intro w hSw
                (try dsimp only at hSw)
                go_simp
                try with_reducible rfl
              try simp only [Act.put, List.setIfInBounds_toArray, List.set_cons_zero, List.set_cons_succ]
              refine wpAnyH_take (i := 16) (oi := { dst := some 110, op := Op.fieldAddr 35 (Operand.tmp 6) 1, type := 0, pos := "laws.go:156", after := #[{ on := 14, ground := Ground.guard }], guard := some (14, false) }) (v := ?vd16) rfl (by kernel_rfl) (by kernel_rfl) (by kernel_rfl) (fun _ _ _ h => h) (Or.inl ⟨by rfl, ?hyd16⟩) (by assumption) ?restd16
              case hyd16 =>
                intro w hSw
                (try dsimp only at hSw)
                go_simp
                try with_reducible rfl
              try simp only [Act.put, List.setIfInBounds_toArray, List.set_cons_zero, List.set_cons_succ]
              refine wpAnyH_take (i := 17) (oi := { dst := some 111, op := Op.load 9 (Operand.tmp 110), type := 9, pos := "laws.go:156", after := #[{ on := 16, ground := Ground.data }, { on := 14, ground := Ground.guard }], guard := some (14, false) }) (v := ?vd17) rfl (by kernel_rfl) (by kernel_rfl) (by kernel_rfl) (fun _ _ _ h => h) (Or.inl ⟨by rfl, ?hyd17⟩) (by assumption) ?restd17
              case hyd17 =>
                intro w hSw
                (try dsimp only at hSw)
                go_simp
                try with_reducible rfl
              try simp only [Act.put, List.setIfInBounds_toArray, List.set_cons_zero, List.set_cons_succ]
              refine wpAnyH_ready (rs := [18]) (by kernel_rfl) (by simp) ?_
              refine AllReadyH.cons (o := { dst := some 112, op := Op.call { callee := Callee.value (Operand.func 46), args := #[Operand.tmp 109, Operand.tmp 111], argTypes := #[43, 9] }, type := 62, pos := "laws.go:156", after := #[{ on := 15, ground := Ground.data }, { on := 17, ground := Ground.data }, { on := 14, ground := Ground.chain }, { on := 14, ground := Ground.guard }], guard := some (14, false) }) rfl (fun K hK => ?_) AllReadyH.nil
              go_simp
              (go_at_call 46; refine (TSA.out _ B10.out).mono ?_; rintro e w11 ⟨rfl, hb11⟩; have T11 := Cells.below (L := [(⟨w1.heap.size, 0, none⟩, .string sc), (⟨w1.heap.size, 1, none⟩, .string ho), (⟨w1.heap.size, 2, none⟩, .int .i64 po), (⟨w1.heap.size, 3, none⟩, .string pa), (⟨w6.heap.size, 0, none⟩, .string sc), (⟨w6.heap.size, 1, none⟩, .string hS), (⟨w6.heap.size, 2, none⟩, .int .i64 po), (⟨w6.heap.size, 3, none⟩, .string pa), (⟨w6.heap.size + 1, 0, none⟩, .string sc), (⟨w6.heap.size + 1, 1, none⟩, .string ho), (⟨w6.heap.size + 1, 2, none⟩, .int .i64 pP), (⟨w6.heap.size + 1, 3, none⟩, .string pa)]) (by simp only [Cells]; go_keep) hb11; simp only [Cells] at T11; obtain ⟨p110, p111, p112, p113, p114, p115, p116, p117, p118, p119, p1110, p1111, -⟩ := T11; have z11 : w6.heap.size + 2 ≤ w11.heap.size := Nat.le_trans z10 hb11.size; have B11 : Hid (Below wb.heap.size wb w11) := B10.out.trans (hb11.mono B10.out.size); clear p100 p101 p102 p103 p104 p105 p106 p107 p108 p109 p1010 p1011 z10 hb10)
              try (go_wp2_with fail)
              refine hK.out _ _ ?_ (fun hH4 => ?_)
              · (try dsimp only)
                go_keep
              clear hK K hH3
              try simp only [Act.put, List.setIfInBounds_toArray, List.set_cons_zero, List.set_cons_succ]
              refine wpAnyH_take (i := 19) (oi := { dst := some 113, op := Op.field 62 (Operand.tmp 112) 1, type := 9, pos := "laws.go:156", after := #[{ on := 18, ground := Ground.data }, { on := 14, ground := Ground.guard }], guard := some (14, false) }) (v := ?vd19) rfl (by kernel_rfl) (by kernel_rfl) (by kernel_rfl) (fun _ _ _ h => h) (Or.inl ⟨by rfl, ?hyd19⟩) (by assumption) ?restd19
              case hyd19 =>
                intro w hSw
                (try dsimp only at hSw)
                go_simp
                try with_reducible rfl
              try simp only [Act.put, List.setIfInBounds_toArray, List.set_cons_zero, List.set_cons_succ]
              refine wpAnyH_take (i := 20) (oi := { dst := some 114, op := Op.binOp BinOp.eql 9 (Operand.tmp 113) (Operand.const (Value.string { data := #[] })) 9, type := 4, pos := "laws.go:156", after := #[{ on := 19, ground := Ground.data }, { on := 14, ground := Ground.guard }], guard := some (14, false) }) (v := ?vd20) rfl (by kernel_rfl) (by kernel_rfl) (by kernel_rfl) (fun _ _ _ h => h) (Or.inl ⟨by rfl, ?hyd20⟩) (by assumption) ?restd20
              case hyd20 =>
                intro w hSw
                (try dsimp only at hSw)
                go_simp
                try with_reducible rfl
              try simp only [Act.put, List.setIfInBounds_toArray, List.set_cons_zero, List.set_cons_succ]
              refine wpAnyH_take (i := 21) (oi := { dst := some 115, op := Op.pick (Operand.tmp 108) (Operand.const (Value.bool true)) (Operand.tmp 114), type := 4, pos := "laws.go:156", after := #[{ on := 14, ground := Ground.data }, { on := 20, ground := Ground.data }, { on := 10, ground := Ground.guard }], guard := some (10, true) }) (v := ?vd21) rfl (by kernel_rfl) (by kernel_rfl) (by kernel_rfl) (fun _ _ _ h => h) (Or.inl ⟨by rfl, ?hyd21⟩) (by assumption) ?restd21
              case hyd21 =>
                intro w hSw
                (try dsimp only at hSw)
                go_simp
                try with_reducible rfl
              try simp only [Act.put, List.setIfInBounds_toArray, List.set_cons_zero, List.set_cons_succ]
              refine wpAnyH_take (i := 22) (oi := { dst := some 116, op := Op.move (Operand.tmp 115), type := 4, pos := "laws.go:156", after := #[{ on := 21, ground := Ground.data }, { on := 18, ground := Ground.chain }, { on := 10, ground := Ground.guard }], guard := some (10, true) }) (v := ?vd22) rfl (by kernel_rfl) (by kernel_rfl) (by kernel_rfl) (fun _ _ _ h => h) (Or.inl ⟨by rfl, ?hyd22⟩) (by assumption) ?restd22
              case hyd22 =>
                intro w hSw
                (try dsimp only at hSw)
                go_simp
                try with_reducible rfl
              try simp only [Act.put, List.setIfInBounds_toArray, List.set_cons_zero, List.set_cons_succ]
              refine wpAnyH_take (i := 23) (oi := { dst := some 117, op := Op.move (Operand.tmp 5), type := 43, pos := "laws.go:156", after := #[{ on := 22, ground := Ground.guard }], guard := some (22, false) }) (v := ?vd23) rfl (by kernel_rfl) (by kernel_rfl) (by kernel_rfl) (fun _ _ _ h => h) (Or.inl ⟨by rfl, ?hyd23⟩) (by assumption) ?restd23
              case hyd23 =>
                intro w hSw
                (try dsimp only at hSw)
                go_simp
                try with_reducible rfl
              try simp only [Act.put, List.setIfInBounds_toArray, List.set_cons_zero, List.set_cons_succ]
              refine wpAnyH_take (i := 24) (oi := { dst := some 118, op := Op.fieldAddr 35 (Operand.tmp 6) 1, type := 0, pos := "laws.go:156", after := #[{ on := 22, ground := Ground.guard }], guard := some (22, false) }) (v := ?vd24) rfl (by kernel_rfl) (by kernel_rfl) (by kernel_rfl) (fun _ _ _ h => h) (Or.inl ⟨by rfl, ?hyd24⟩) (by assumption) ?restd24
              case hyd24 =>
                intro w hSw
                (try dsimp only at hSw)
                go_simp
                try with_reducible rfl
              try simp only [Act.put, List.setIfInBounds_toArray, List.set_cons_zero, List.set_cons_succ]
              refine wpAnyH_take (i := 25) (oi := { dst := some 119, op := Op.load 9 (Operand.tmp 118), type := 9, pos := "laws.go:156", after := #[{ on := 24, ground := Ground.data }, { on := 22, ground := Ground.guard }], guard := some (22, false) }) (v := ?vd25) rfl (by kernel_rfl) (by kernel_rfl) (by kernel_rfl) (fun _ _ _ h => h) (Or.inl ⟨by rfl, ?hyd25⟩) (by assumption) ?restd25
              case hyd25 =>
                intro w hSw
                (try dsimp only at hSw)
                go_simp
                try with_reducible rfl
              try simp only [Act.put, List.setIfInBounds_toArray, List.set_cons_zero, List.set_cons_succ]
              refine wpAnyH_take (i := 28) (oi := { dst := some 122, op := Op.move (Operand.tmp 5), type := 43, pos := "laws.go:156", after := #[{ on := 22, ground := Ground.guard }], guard := some (22, false) }) (v := ?vd28) rfl (by kernel_rfl) (by kernel_rfl) (by kernel_rfl) (fun _ _ _ h => h) (Or.inl ⟨by rfl, ?hyd28⟩) (by assumption) ?restd28
              case hyd28 =>
                intro w hSw
                (try dsimp only at hSw)
                go_simp
                try with_reducible rfl
              try simp only [Act.put, List.setIfInBounds_toArray, List.set_cons_zero, List.set_cons_succ]
              refine wpAnyH_take (i := 29) (oi := { dst := some 123, op := Op.fieldAddr 35 (Operand.tmp 11) 1, type := 0, pos := "laws.go:156", after := #[{ on := 22, ground := Ground.guard }], guard := some (22, false) }) (v := ?vd29) rfl (by kernel_rfl) (by kernel_rfl) (by kernel_rfl) (fun _ _ _ h => h) (Or.inl ⟨by rfl, ?hyd29⟩) (by assumption) ?restd29
              case hyd29 =>
                intro w hSw
                (try dsimp only at hSw)
                go_simp
                try with_reducible rfl
              try simp only [Act.put, List.setIfInBounds_toArray, List.set_cons_zero, List.set_cons_succ]
              refine wpAnyH_take (i := 30) (oi := { dst := some 124, op := Op.load 9 (Operand.tmp 123), type := 9, pos := "laws.go:156", after := #[{ on := 29, ground := Ground.data }, { on := 22, ground := Ground.guard }], guard := some (22, false) }) (v := ?vd30) rfl (by kernel_rfl) (by kernel_rfl) (by kernel_rfl) (fun _ _ _ h => h) (Or.inl ⟨by rfl, ?hyd30⟩) (by assumption) ?restd30
              case hyd30 =>
                intro w hSw
                (try dsimp only at hSw)
                go_simp
                try with_reducible rfl
              try simp only [Act.put, List.setIfInBounds_toArray, List.set_cons_zero, List.set_cons_succ]
              refine wpAnyH_ready (rs := [26]) (by kernel_rfl) (by simp) ?_
              refine AllReadyH.cons (o := { dst := some 120, op := Op.call { callee := Callee.value (Operand.func 46), args := #[Operand.tmp 117, Operand.tmp 119], argTypes := #[43, 9] }, type := 62, pos := "laws.go:156", after := #[{ on := 23, ground := Ground.data }, { on := 25, ground := Ground.data }, { on := 22, ground := Ground.chain }, { on := 22, ground := Ground.guard }], guard := some (22, false) }) rfl (fun K hK => ?_) AllReadyH.nil
              go_simp
              (go_at_call 46; refine (TSA.out _ B11.out).mono ?_; rintro e w12 ⟨rfl, hb12⟩; have T12 := Cells.below (L := [(⟨w1.heap.size, 0, none⟩, .string sc), (⟨w1.heap.size, 1, none⟩, .string ho), (⟨w1.heap.size, 2, none⟩, .int .i64 po), (⟨w1.heap.size, 3, none⟩, .string pa), (⟨w6.heap.size, 0, none⟩, .string sc), (⟨w6.heap.size, 1, none⟩, .string hS), (⟨w6.heap.size, 2, none⟩, .int .i64 po), (⟨w6.heap.size, 3, none⟩, .string pa), (⟨w6.heap.size + 1, 0, none⟩, .string sc), (⟨w6.heap.size + 1, 1, none⟩, .string ho), (⟨w6.heap.size + 1, 2, none⟩, .int .i64 pP), (⟨w6.heap.size + 1, 3, none⟩, .string pa)]) (by simp only [Cells]; go_keep) hb12; simp only [Cells] at T12; obtain ⟨p120, p121, p122, p123, p124, p125, p126, p127, p128, p129, p1210, p1211, -⟩ := T12; have z12 : w6.heap.size + 2 ≤ w12.heap.size := Nat.le_trans z11 hb12.size; have B12 : Hid (Below wb.heap.size wb w12) := B11.out.trans (hb12.mono B11.out.size); clear p110 p111 p112 p113 p114 p115 p116 p117 p118 p119 p1110 p1111 z11 hb11)
              try (go_wp2_with fail)
              refine hK.out _ _ ?_ (fun hH5 => ?_)
              · (try dsimp only)
                go_keep
              clear hK K hH4
              try simp only [Act.put, List.setIfInBounds_toArray, List.set_cons_zero, List.set_cons_succ]
              refine wpAnyH_take (i := 27) (oi := { dst := some 121, op := Op.field 62 (Operand.tmp 120) 0, type := 9, pos := "laws.go:156", after := #[{ on := 26, ground := Ground.data }, { on := 22, ground := Ground.guard }], guard := some (22, false) }) (v := ?vd27) rfl (by kernel_rfl) (by kernel_rfl) (by kernel_rfl) (fun _ _ _ h => h) (Or.inl ⟨by rfl, ?hyd27⟩) (by assumption) ?restd27
              case hyd27 =>
                intro w hSw
                (try dsimp only at hSw)
                go_simp
                try with_reducible rfl
              try simp only [Act.put, List.setIfInBounds_toArray, List.set_cons_zero, List.set_cons_succ]
              refine wpAnyH_ready (rs := [31]) (by kernel_rfl) (by simp) ?_
              refine AllReadyH.cons (o := { dst := some 125, op := Op.call { callee := Callee.value (Operand.func 46), args := #[Operand.tmp 122, Operand.tmp 124], argTypes := #[43, 9] }, type := 62, pos := "laws.go:156", after := #[{ on := 28, ground := Ground.data }, { on := 30, ground := Ground.data }, { on := 26, ground := Ground.chain }, { on := 22, ground := Ground.guard }], guard := some (22, false) }) rfl (fun K hK => ?_) AllReadyH.nil
              go_simp
              (go_at_call 46; refine (TSB.out _ B12.out).mono ?_; rintro e w13 ⟨rfl, hb13⟩; have T13 := Cells.below (L := [(⟨w1.heap.size, 0, none⟩, .string sc), (⟨w1.heap.size, 1, none⟩, .string ho), (⟨w1.heap.size, 2, none⟩, .int .i64 po), (⟨w1.heap.size, 3, none⟩, .string pa), (⟨w6.heap.size, 0, none⟩, .string sc), (⟨w6.heap.size, 1, none⟩, .string hS), (⟨w6.heap.size, 2, none⟩, .int .i64 po), (⟨w6.heap.size, 3, none⟩, .string pa), (⟨w6.heap.size + 1, 0, none⟩, .string sc), (⟨w6.heap.size + 1, 1, none⟩, .string ho), (⟨w6.heap.size + 1, 2, none⟩, .int .i64 pP), (⟨w6.heap.size + 1, 3, none⟩, .string pa)]) (by simp only [Cells]; go_keep) hb13; simp only [Cells] at T13; obtain ⟨p130, p131, p132, p133, p134, p135, p136, p137, p138, p139, p1310, p1311, -⟩ := T13; have z13 : w6.heap.size + 2 ≤ w13.heap.size := Nat.le_trans z12 hb13.size; have B13 : Hid (Below wb.heap.size wb w13) := B12.out.trans (hb13.mono B12.out.size); clear p120 p121 p122 p123 p124 p125 p126 p127 p128 p129 p1210 p1211 z12 hb12)
              try (go_wp2_with fail)
              refine hK.out _ _ ?_ (fun hH6 => ?_)
              · (try dsimp only)
                go_keep
              clear hK K hH5
              try simp only [Act.put, List.setIfInBounds_toArray, List.set_cons_zero, List.set_cons_succ]
              refine wpAnyH_take (i := 32) (oi := { dst := some 126, op := Op.field 62 (Operand.tmp 125) 0, type := 9, pos := "laws.go:156", after := #[{ on := 31, ground := Ground.data }, { on := 22, ground := Ground.guard }], guard := some (22, false) }) (v := ?vd32) rfl (by kernel_rfl) (by kernel_rfl) (by kernel_rfl) (fun _ _ _ h => h) (Or.inl ⟨by rfl, ?hyd32⟩) (by assumption) ?restd32
              case hyd32 =>
                intro w hSw
                (try dsimp only at hSw)
                go_simp
                try with_reducible rfl
              try simp only [Act.put, List.setIfInBounds_toArray, List.set_cons_zero, List.set_cons_succ]
              refine wpAnyH_take (i := 33) (oi := { dst := some 127, op := Op.binOp BinOp.neq 9 (Operand.tmp 121) (Operand.tmp 126) 9, type := 4, pos := "laws.go:156", after := #[{ on := 27, ground := Ground.data }, { on := 32, ground := Ground.data }, { on := 22, ground := Ground.guard }], guard := some (22, false) }) (v := ?vd33) rfl (by kernel_rfl) (by kernel_rfl) (by kernel_rfl) (fun _ _ _ h => h) (Or.inl ⟨by rfl, ?hyd33⟩) (by assumption) ?restd33
              case hyd33 =>
                intro w hSw
                (try dsimp only at hSw)
                go_simp
                try with_reducible rfl
              try simp only [Act.put, List.setIfInBounds_toArray, List.set_cons_zero, List.set_cons_succ]
              refine wpAnyH_take (i := 34) (oi := { dst := some 128, op := Op.pick (Operand.tmp 116) (Operand.const (Value.bool true)) (Operand.tmp 127), type := 4, pos := "laws.go:156", after := #[{ on := 22, ground := Ground.data }, { on := 33, ground := Ground.data }, { on := 10, ground := Ground.guard }], guard := some (10, true) }) (v := ?vd34) rfl (by kernel_rfl) (by kernel_rfl) (by kernel_rfl) (fun _ _ _ h => h) (Or.inl ⟨by rfl, ?hyd34⟩) (by assumption) ?restd34
              case hyd34 =>
                intro w hSw
                (try dsimp only at hSw)
                go_simp
                try with_reducible rfl
              try simp only [Act.put, List.setIfInBounds_toArray, List.set_cons_zero, List.set_cons_succ]
              refine wpAnyH_take (i := 35) (oi := { dst := some 129, op := Op.move (Operand.tmp 128), type := 4, pos := "laws.go:156", after := #[{ on := 34, ground := Ground.data }, { on := 31, ground := Ground.chain }, { on := 10, ground := Ground.guard }], guard := some (10, true) }) (v := ?vd35) rfl (by kernel_rfl) (by kernel_rfl) (by kernel_rfl) (fun _ _ _ h => h) (Or.inl ⟨by rfl, ?hyd35⟩) (by assumption) ?restd35
              case hyd35 =>
                intro w hSw
                (try dsimp only at hSw)
                go_simp
                try with_reducible rfl
              try simp only [Act.put, List.setIfInBounds_toArray, List.set_cons_zero, List.set_cons_succ]
              refine wpAnyH_take (i := 36) (oi := { dst := some 130, op := Op.move (Operand.tmp 5), type := 43, pos := "laws.go:156", after := #[{ on := 35, ground := Ground.guard }], guard := some (35, false) }) (v := ?vd36) rfl (by kernel_rfl) (by kernel_rfl) (by kernel_rfl) (fun _ _ _ h => h) (Or.inl ⟨by rfl, ?hyd36⟩) (by assumption) ?restd36
              case hyd36 =>
                intro w hSw
                (try dsimp only at hSw)
                go_simp
                try with_reducible rfl
              try simp only [Act.put, List.setIfInBounds_toArray, List.set_cons_zero, List.set_cons_succ]
              refine wpAnyH_take (i := 37) (oi := { dst := some 131, op := Op.load 35 (Operand.tmp 6), type := 35, pos := "laws.go:156", after := #[{ on := 35, ground := Ground.guard }], guard := some (35, false) }) (v := ?vd37) rfl (by kernel_rfl) (by kernel_rfl) (by kernel_rfl) (fun _ _ _ h => h) (Or.inl ⟨by rfl, ?hyd37⟩) (by assumption) ?restd37
              case hyd37 =>
                intro w hSw
                (try dsimp only at hSw)
                go_simp
                try with_reducible rfl
              try simp only [Act.put, List.setIfInBounds_toArray, List.set_cons_zero, List.set_cons_succ]
              refine wpAnyH_take (i := 38) (oi := { dst := some 132, op := Op.load 35 (Operand.tmp 11), type := 35, pos := "laws.go:156", after := #[{ on := 35, ground := Ground.guard }], guard := some (35, false) }) (v := ?vd38) rfl (by kernel_rfl) (by kernel_rfl) (by kernel_rfl) (fun _ _ _ h => h) (Or.inl ⟨by rfl, ?hyd38⟩) (by assumption) ?restd38
              case hyd38 =>
                intro w hSw
                (try dsimp only at hSw)
                go_simp
                try with_reducible rfl
              try simp only [Act.put, List.setIfInBounds_toArray, List.set_cons_zero, List.set_cons_succ]
              refine wpAnyH_ready (rs := [39]) (by kernel_rfl) (by simp) ?_
              refine AllReadyH.cons (o := { dst := some 133, op := Op.call { callee := Callee.value (Operand.func 41), args := #[Operand.tmp 130, Operand.tmp 131, Operand.tmp 132], argTypes := #[43, 35, 35] }, type := 4, pos := "laws.go:156", after := #[{ on := 36, ground := Ground.data }, { on := 37, ground := Ground.data }, { on := 38, ground := Ground.data }, { on := 35, ground := Ground.chain }, { on := 35, ground := Ground.guard }], guard := some (35, false) }) rfl (fun K hK => ?_) AllReadyH.nil
              go_simp
              (go_at_call 41; refine (KAS.out _ B13.out).mono ?_; rintro e w14 ⟨rfl, hb14⟩; have T14 := Cells.below (L := [(⟨w1.heap.size, 0, none⟩, .string sc), (⟨w1.heap.size, 1, none⟩, .string ho), (⟨w1.heap.size, 2, none⟩, .int .i64 po), (⟨w1.heap.size, 3, none⟩, .string pa), (⟨w6.heap.size, 0, none⟩, .string sc), (⟨w6.heap.size, 1, none⟩, .string hS), (⟨w6.heap.size, 2, none⟩, .int .i64 po), (⟨w6.heap.size, 3, none⟩, .string pa), (⟨w6.heap.size + 1, 0, none⟩, .string sc), (⟨w6.heap.size + 1, 1, none⟩, .string ho), (⟨w6.heap.size + 1, 2, none⟩, .int .i64 pP), (⟨w6.heap.size + 1, 3, none⟩, .string pa)]) (by simp only [Cells]; go_keep) hb14; simp only [Cells] at T14; obtain ⟨p140, p141, p142, p143, p144, p145, p146, p147, p148, p149, p1410, p1411, -⟩ := T14; have z14 : w6.heap.size + 2 ≤ w14.heap.size := Nat.le_trans z13 hb14.size; have B14 : Hid (Below wb.heap.size wb w14) := B13.out.trans (hb14.mono B13.out.size); clear p130 p131 p132 p133 p134 p135 p136 p137 p138 p139 p1310 p1311 z13 hb13)
              try (go_wp2_with fail)
              refine hK.out _ _ ?_ (fun hH7 => ?_)
              · (try dsimp only)
                go_keep
              clear hK K hH6
              try simp only [Act.put, List.setIfInBounds_toArray, List.set_cons_zero, List.set_cons_succ]
              refine wpAnyH_take (i := 40) (oi := { dst := some 134, op := Op.pick (Operand.tmp 129) (Operand.const (Value.bool true)) (Operand.tmp 133), type := 4, pos := "laws.go:156", after := #[{ on := 35, ground := Ground.data }, { on := 39, ground := Ground.data }, { on := 10, ground := Ground.guard }], guard := some (10, true) }) (v := ?vd40) rfl (by kernel_rfl) (by kernel_rfl) (by kernel_rfl) (fun _ _ _ h => h) (Or.inl ⟨by rfl, ?hyd40⟩) (by assumption) ?restd40
              case hyd40 =>
                intro w hSw
                (try dsimp only at hSw)
                go_simp
                try with_reducible rfl
              try simp only [Act.put, List.setIfInBounds_toArray, List.set_cons_zero, List.set_cons_succ]
              refine wpAnyH_take (i := 41) (oi := { dst := some 135, op := Op.pick (Operand.tmp 104) (Operand.tmp 134) (Operand.const (Value.bool false)), type := 4, pos := "laws.go:156", after := #[{ on := 10, ground := Ground.data }, { on := 40, ground := Ground.data }], guard := none }) (v := ?vd41) rfl (by kernel_rfl) (by kernel_rfl) (by kernel_rfl) (fun _ _ _ h => h) (Or.inl ⟨by rfl, ?hyd41⟩) (by assumption) ?restd41
              case hyd41 =>
                intro w hSw
                (try dsimp only at hSw)
                go_simp
                try with_reducible rfl
              try simp only [Act.put, List.setIfInBounds_toArray, List.set_cons_zero, List.set_cons_succ]
              refine wpAnyH_take (i := 42) (oi := { dst := some 4, op := Op.assign (Operand.tmp 135), type := 4, pos := "laws.go:156", after := #[{ on := 41, ground := Ground.data }, { on := 39, ground := Ground.chain }, { on := 0, ground := Ground.phase }, { on := 1, ground := Ground.phase }, { on := 2, ground := Ground.phase }, { on := 3, ground := Ground.phase }, { on := 4, ground := Ground.phase }, { on := 5, ground := Ground.phase }, { on := 6, ground := Ground.phase }, { on := 7, ground := Ground.phase }, { on := 8, ground := Ground.phase }, { on := 9, ground := Ground.phase }, { on := 10, ground := Ground.phase }, { on := 11, ground := Ground.phase }, { on := 12, ground := Ground.phase }, { on := 13, ground := Ground.phase }, { on := 14, ground := Ground.phase }, { on := 15, ground := Ground.phase }, { on := 16, ground := Ground.phase }, { on := 17, ground := Ground.phase }, { on := 18, ground := Ground.phase }, { on := 19, ground := Ground.phase }, { on := 20, ground := Ground.phase }, { on := 21, ground := Ground.phase }, { on := 22, ground := Ground.phase }, { on := 23, ground := Ground.phase }, { on := 24, ground := Ground.phase }, { on := 25, ground := Ground.phase }, { on := 26, ground := Ground.phase }, { on := 27, ground := Ground.phase }, { on := 28, ground := Ground.phase }, { on := 29, ground := Ground.phase }, { on := 30, ground := Ground.phase }, { on := 31, ground := Ground.phase }, { on := 32, ground := Ground.phase }, { on := 33, ground := Ground.phase }, { on := 34, ground := Ground.phase }, { on := 35, ground := Ground.phase }, { on := 36, ground := Ground.phase }, { on := 37, ground := Ground.phase }, { on := 38, ground := Ground.phase }, { on := 39, ground := Ground.phase }, { on := 40, ground := Ground.phase }, { on := 41, ground := Ground.phase }], guard := none }) (v := ?vd42) rfl (by kernel_rfl) (by kernel_rfl) (by kernel_rfl) (fun _ _ _ h => h) (Or.inl ⟨by rfl, ?hyd42⟩) (by assumption) ?restd42
              case hyd42 =>
                intro w hSw
                (try dsimp only at hSw)
                go_simp
                try with_reducible rfl
              try simp only [Act.put, List.setIfInBounds_toArray, List.set_cons_zero, List.set_cons_succ]
              refine wpAnyH_done (by kernel_rfl) ?_ _
              go_wp2
              go_ret
              exact ⟨rfl, BW.out.trans (B14.out.mono BW.out.size)⟩
  clear hK
  cases s with
  | false =>
    refine wp_region_held_drew (S := (fun w' => w2.heap.size + 1 ≤ w'.heap.size ∧ w'.cell? ⟨w1.heap.size, 0, none⟩ = some (.string sc) ∧ w'.cell? ⟨w1.heap.size, 1, none⟩ = some (.string ho) ∧ w'.cell? ⟨w1.heap.size, 2, none⟩ = some (.int .i64 po) ∧ w'.cell? ⟨w1.heap.size, 3, none⟩ = some (.string pa) ∧ w'.cell? ⟨w1.heap.size + 1, 0, none⟩ = some (.string sc2) ∧ w'.cell? ⟨w1.heap.size + 1, 1, none⟩ = some (.string ho2) ∧ w'.cell? ⟨w1.heap.size + 1, 2, none⟩ = some (.int .i64 po2) ∧ w'.cell? ⟨w1.heap.size + 1, 3, none⟩ = some (.string pa2) ∧ w'.cell? ⟨w2.heap.size, 0, none⟩ = some (.string sc3) ∧ w'.cell? ⟨w2.heap.size, 1, none⟩ = some (.string ho3) ∧ w'.cell? ⟨w2.heap.size, 2, none⟩ = some (.int .i64 po3) ∧ w'.cell? ⟨w2.heap.size, 3, none⟩ = some (.string pa3))) (by kernel_rfl) ?_ (fun hH0 => ?_)
    · (try dsimp only)
      go_keep
    refine wpAnyH_take (i := 0) (oi := { dst := some 36, op := Op.move (Operand.tmp 10), type := 4, pos := "laws.go:146", after := #[], guard := none }) (v := ?ve0) rfl (by kernel_rfl) (by kernel_rfl) (by kernel_rfl) (fun _ _ _ h => h) (Or.inl ⟨by rfl, ?hye0⟩) (by assumption) ?reste0
    case hye0 =>
      intro w hSw
      (try dsimp only at hSw)
      go_simp
      try with_reducible rfl
    try simp only [Act.put, List.setIfInBounds_toArray, List.set_cons_zero, List.set_cons_succ]
    refine wpAnyH_take (i := 1) (oi := { dst := some 37, op := Op.move (Operand.tmp 5), type := 43, pos := "laws.go:146", after := #[], guard := none }) (v := ?ve1) rfl (by kernel_rfl) (by kernel_rfl) (by kernel_rfl) (fun _ _ _ h => h) (Or.inl ⟨by rfl, ?hye1⟩) (by assumption) ?reste1
    case hye1 =>
      intro w hSw
      (try dsimp only at hSw)
      go_simp
      try with_reducible rfl
    try simp only [Act.put, List.setIfInBounds_toArray, List.set_cons_zero, List.set_cons_succ]
    refine wpAnyH_take (i := 2) (oi := { dst := some 38, op := Op.load 35 (Operand.tmp 6), type := 35, pos := "laws.go:146", after := #[], guard := none }) (v := ?ve2) rfl (by kernel_rfl) (by kernel_rfl) (by kernel_rfl) (fun _ _ _ h => h) (Or.inl ⟨by rfl, ?hye2⟩) (by assumption) ?reste2
    case hye2 =>
      intro w hSw
      (try dsimp only at hSw)
      go_simp
      try with_reducible rfl
    try simp only [Act.put, List.setIfInBounds_toArray, List.set_cons_zero, List.set_cons_succ]
    refine wpAnyH_take (i := 3) (oi := { dst := some 39, op := Op.load 35 (Operand.tmp 7), type := 35, pos := "laws.go:146", after := #[], guard := none }) (v := ?ve3) rfl (by kernel_rfl) (by kernel_rfl) (by kernel_rfl) (fun _ _ _ h => h) (Or.inl ⟨by rfl, ?hye3⟩) (by assumption) ?reste3
    case hye3 =>
      intro w hSw
      (try dsimp only at hSw)
      go_simp
      try with_reducible rfl
    try simp only [Act.put, List.setIfInBounds_toArray, List.set_cons_zero, List.set_cons_succ]
    refine wpAnyH_ready (rs := [4]) (by kernel_rfl) (by simp) ?_
    refine AllReadyH.cons (o := { dst := some 40, op := Op.call { callee := Callee.value (Operand.func 42), args := #[Operand.tmp 37, Operand.tmp 38, Operand.tmp 39], argTypes := #[43, 35, 35] }, type := 4, pos := "laws.go:146", after := #[{ on := 1, ground := Ground.data }, { on := 2, ground := Ground.data }, { on := 3, ground := Ground.data }], guard := none }) rfl (fun K hK => ?_) AllReadyH.nil
    go_simp
    (go_at_call 42; refine (TAB.out _ (B3.out.trans (Below.drew (Below.refl _ _)))).mono ?_; rintro e w4 ⟨rfl, hb4⟩; have T4 := Cells.below (L := [(⟨w1.heap.size, 0, none⟩, .string sc), (⟨w1.heap.size, 1, none⟩, .string ho), (⟨w1.heap.size, 2, none⟩, .int .i64 po), (⟨w1.heap.size, 3, none⟩, .string pa), (⟨w1.heap.size + 1, 0, none⟩, .string sc2), (⟨w1.heap.size + 1, 1, none⟩, .string ho2), (⟨w1.heap.size + 1, 2, none⟩, .int .i64 po2), (⟨w1.heap.size + 1, 3, none⟩, .string pa2), (⟨w2.heap.size, 0, none⟩, .string sc3), (⟨w2.heap.size, 1, none⟩, .string ho3), (⟨w2.heap.size, 2, none⟩, .int .i64 po3), (⟨w2.heap.size, 3, none⟩, .string pa3)]) (by simp only [Cells]; go_keep) hb4; simp only [Cells] at T4; obtain ⟨p40, p41, p42, p43, p44, p45, p46, p47, p48, p49, p410, p411, -⟩ := T4; have z4 : w2.heap.size + 1 ≤ w4.heap.size := Nat.le_trans z3 hb4.size; have B4 : Hid (Below wb.heap.size wb w4) := (B3.out.trans (Below.drew (Below.refl _ _))).trans (hb4.mono (by have := B3.out.size; simpa using this)))
    try (go_wp2_with fail)
    refine hK.out _ _ ?_ (fun hH1 => ?_)
    · (try dsimp only)
      go_keep
    clear hK K hH0
    try simp only [Act.put, List.setIfInBounds_toArray, List.set_cons_zero, List.set_cons_succ]
    refine wpAnyH_take (i := 5) (oi := { dst := some 41, op := Op.binOp BinOp.neq 4 (Operand.tmp 36) (Operand.tmp 40) 4, type := 4, pos := "laws.go:146", after := #[{ on := 0, ground := Ground.data }, { on := 4, ground := Ground.data }], guard := none }) (v := ?ve5) rfl (by kernel_rfl) (by kernel_rfl) (by kernel_rfl) (fun _ _ _ h => h) (Or.inl ⟨by rfl, ?hye5⟩) (by assumption) ?reste5
    case hye5 =>
      intro w hSw
      (try dsimp only at hSw)
      go_simp
      try with_reducible rfl
    try simp only [Act.put, List.setIfInBounds_toArray, List.set_cons_zero, List.set_cons_succ]
    refine wpAnyH_take (i := 6) (oi := { dst := some 42, op := Op.move (Operand.tmp 41), type := 4, pos := "laws.go:146", after := #[{ on := 5, ground := Ground.data }, { on := 4, ground := Ground.chain }], guard := none }) (v := ?ve6) rfl (by kernel_rfl) (by kernel_rfl) (by kernel_rfl) (fun _ _ _ h => h) (Or.inl ⟨by rfl, ?hye6⟩) (by assumption) ?reste6
    case hye6 =>
      intro w hSw
      (try dsimp only at hSw)
      go_simp
      try with_reducible rfl
    try simp only [Act.put, List.setIfInBounds_toArray, List.set_cons_zero, List.set_cons_succ]
    refine wpAnyH_take (i := 7) (oi := { dst := some 43, op := Op.move (Operand.tmp 5), type := 43, pos := "laws.go:146", after := #[{ on := 6, ground := Ground.guard }], guard := some (6, false) }) (v := ?ve7) rfl (by kernel_rfl) (by kernel_rfl) (by kernel_rfl) (fun _ _ _ h => h) (Or.inl ⟨by rfl, ?hye7⟩) (by assumption) ?reste7
    case hye7 =>
      intro w hSw
      (try dsimp only at hSw)
      go_simp
      try with_reducible rfl
    try simp only [Act.put, List.setIfInBounds_toArray, List.set_cons_zero, List.set_cons_succ]
    refine wpAnyH_take (i := 8) (oi := { dst := some 44, op := Op.load 35 (Operand.tmp 7), type := 35, pos := "laws.go:146", after := #[{ on := 6, ground := Ground.guard }], guard := some (6, false) }) (v := ?ve8) rfl (by kernel_rfl) (by kernel_rfl) (by kernel_rfl) (fun _ _ _ h => h) (Or.inl ⟨by rfl, ?hye8⟩) (by assumption) ?reste8
    case hye8 =>
      intro w hSw
      (try dsimp only at hSw)
      go_simp
      try with_reducible rfl
    try simp only [Act.put, List.setIfInBounds_toArray, List.set_cons_zero, List.set_cons_succ]
    refine wpAnyH_take (i := 9) (oi := { dst := some 45, op := Op.load 35 (Operand.tmp 6), type := 35, pos := "laws.go:146", after := #[{ on := 6, ground := Ground.guard }], guard := some (6, false) }) (v := ?ve9) rfl (by kernel_rfl) (by kernel_rfl) (by kernel_rfl) (fun _ _ _ h => h) (Or.inl ⟨by rfl, ?hye9⟩) (by assumption) ?reste9
    case hye9 =>
      intro w hSw
      (try dsimp only at hSw)
      go_simp
      try with_reducible rfl
    try simp only [Act.put, List.setIfInBounds_toArray, List.set_cons_zero, List.set_cons_succ]
    refine wpAnyH_take (i := 11) (oi := { dst := some 47, op := Op.move (Operand.tmp 10), type := 4, pos := "laws.go:146", after := #[{ on := 6, ground := Ground.guard }], guard := some (6, false) }) (v := ?ve11) rfl (by kernel_rfl) (by kernel_rfl) (by kernel_rfl) (fun _ _ _ h => h) (Or.inl ⟨by rfl, ?hye11⟩) (by assumption) ?reste11
    case hye11 =>
      intro w hSw
      (try dsimp only at hSw)
      go_simp
      try with_reducible rfl
    try simp only [Act.put, List.setIfInBounds_toArray, List.set_cons_zero, List.set_cons_succ]
    refine wpAnyH_ready (rs := [10]) (by kernel_rfl) (by simp) ?_
    refine AllReadyH.cons (o := { dst := some 46, op := Op.call { callee := Callee.value (Operand.func 41), args := #[Operand.tmp 43, Operand.tmp 44, Operand.tmp 45], argTypes := #[43, 35, 35] }, type := 4, pos := "laws.go:146", after := #[{ on := 7, ground := Ground.data }, { on := 8, ground := Ground.data }, { on := 9, ground := Ground.data }, { on := 6, ground := Ground.chain }, { on := 6, ground := Ground.guard }], guard := some (6, false) }) rfl (fun K hK => ?_) AllReadyH.nil
    go_simp
    (go_at_call 41; refine (KBA.out _ B4.out).mono ?_; rintro e w5 ⟨rfl, hb5⟩; have T5 := Cells.below (L := [(⟨w1.heap.size, 0, none⟩, .string sc), (⟨w1.heap.size, 1, none⟩, .string ho), (⟨w1.heap.size, 2, none⟩, .int .i64 po), (⟨w1.heap.size, 3, none⟩, .string pa), (⟨w1.heap.size + 1, 0, none⟩, .string sc2), (⟨w1.heap.size + 1, 1, none⟩, .string ho2), (⟨w1.heap.size + 1, 2, none⟩, .int .i64 po2), (⟨w1.heap.size + 1, 3, none⟩, .string pa2), (⟨w2.heap.size, 0, none⟩, .string sc3), (⟨w2.heap.size, 1, none⟩, .string ho3), (⟨w2.heap.size, 2, none⟩, .int .i64 po3), (⟨w2.heap.size, 3, none⟩, .string pa3)]) (by simp only [Cells]; go_keep) hb5; simp only [Cells] at T5; obtain ⟨p50, p51, p52, p53, p54, p55, p56, p57, p58, p59, p510, p511, -⟩ := T5; have z5 : w2.heap.size + 1 ≤ w5.heap.size := Nat.le_trans z4 hb5.size; have B5 : Hid (Below wb.heap.size wb w5) := B4.out.trans (hb5.mono B4.out.size); clear p40 p41 p42 p43 p44 p45 p46 p47 p48 p49 p410 p411 z4 hb4)
    try (go_wp2_with fail)
    refine hK.out _ _ ?_ (fun hH2 => ?_)
    · (try dsimp only)
      go_keep
    clear hK K hH1
    try simp only [Act.put, List.setIfInBounds_toArray, List.set_cons_zero, List.set_cons_succ]
    refine wpAnyH_take (i := 12) (oi := { dst := some 48, op := Op.binOp BinOp.neq 4 (Operand.tmp 46) (Operand.tmp 47) 4, type := 4, pos := "laws.go:146", after := #[{ on := 10, ground := Ground.data }, { on := 11, ground := Ground.data }, { on := 6, ground := Ground.guard }], guard := some (6, false) }) (v := ?ve12) rfl (by kernel_rfl) (by kernel_rfl) (by kernel_rfl) (fun _ _ _ h => h) (Or.inl ⟨by rfl, ?hye12⟩) (by assumption) ?reste12
    case hye12 =>
      intro w hSw
      (try dsimp only at hSw)
      go_simp
      try with_reducible rfl
    try simp only [Act.put, List.setIfInBounds_toArray, List.set_cons_zero, List.set_cons_succ]
    refine wpAnyH_take (i := 13) (oi := { dst := some 49, op := Op.pick (Operand.tmp 42) (Operand.const (Value.bool true)) (Operand.tmp 48), type := 4, pos := "laws.go:146", after := #[{ on := 6, ground := Ground.data }, { on := 12, ground := Ground.data }], guard := none }) (v := ?ve13) rfl (by kernel_rfl) (by kernel_rfl) (by kernel_rfl) (fun _ _ _ h => h) (Or.inl ⟨by rfl, ?hye13⟩) (by assumption) ?reste13
    case hye13 =>
      intro w hSw
      (try dsimp only at hSw)
      go_simp
      try with_reducible rfl
    try simp only [Act.put, List.setIfInBounds_toArray, List.set_cons_zero, List.set_cons_succ]
    refine wpAnyH_take (i := 14) (oi := { dst := some 50, op := Op.move (Operand.tmp 49), type := 4, pos := "laws.go:146", after := #[{ on := 13, ground := Ground.data }, { on := 10, ground := Ground.chain }], guard := none }) (v := ?ve14) rfl (by kernel_rfl) (by kernel_rfl) (by kernel_rfl) (fun _ _ _ h => h) (Or.inl ⟨by rfl, ?hye14⟩) (by assumption) ?reste14
    case hye14 =>
      intro w hSw
      (try dsimp only at hSw)
      go_simp
      try with_reducible rfl
    try simp only [Act.put, List.setIfInBounds_toArray, List.set_cons_zero, List.set_cons_succ]
    refine wpAnyH_take (i := 15) (oi := { dst := some 51, op := Op.move (Operand.tmp 5), type := 43, pos := "laws.go:146", after := #[{ on := 14, ground := Ground.guard }], guard := some (14, false) }) (v := ?ve15) rfl (by kernel_rfl) (by kernel_rfl) (by kernel_rfl) (fun _ _ _ h => h) (Or.inl ⟨by rfl, ?hye15⟩) (by assumption) ?reste15
    case hye15 =>
      intro w hSw
      (try dsimp only at hSw)
      go_simp
      try with_reducible rfl
    try simp only [Act.put, List.setIfInBounds_toArray, List.set_cons_zero, List.set_cons_succ]
    refine wpAnyH_take (i := 16) (oi := { dst := some 52, op := Op.load 35 (Operand.tmp 9), type := 35, pos := "laws.go:146", after := #[{ on := 14, ground := Ground.guard }], guard := some (14, false) }) (v := ?ve16) rfl (by kernel_rfl) (by kernel_rfl) (by kernel_rfl) (fun _ _ _ h => h) (Or.inl ⟨by rfl, ?hye16⟩) (by assumption) ?reste16
    case hye16 =>
      intro w hSw
      (try dsimp only at hSw)
      go_simp
      try with_reducible rfl
    try simp only [Act.put, List.setIfInBounds_toArray, List.set_cons_zero, List.set_cons_succ]
    refine wpAnyH_take (i := 18) (oi := { dst := some 54, op := Op.move (Operand.tmp 5), type := 43, pos := "laws.go:146", after := #[{ on := 14, ground := Ground.guard }], guard := some (14, false) }) (v := ?ve18) rfl (by kernel_rfl) (by kernel_rfl) (by kernel_rfl) (fun _ _ _ h => h) (Or.inl ⟨by rfl, ?hye18⟩) (by assumption) ?reste18
    case hye18 =>
      intro w hSw
      (try dsimp only at hSw)
      go_simp
      try with_reducible rfl
    try simp only [Act.put, List.setIfInBounds_toArray, List.set_cons_zero, List.set_cons_succ]
    refine wpAnyH_take (i := 19) (oi := { dst := some 55, op := Op.load 35 (Operand.tmp 9), type := 35, pos := "laws.go:146", after := #[{ on := 14, ground := Ground.guard }], guard := some (14, false) }) (v := ?ve19) rfl (by kernel_rfl) (by kernel_rfl) (by kernel_rfl) (fun _ _ _ h => h) (Or.inl ⟨by rfl, ?hye19⟩) (by assumption) ?reste19
    case hye19 =>
      intro w hSw
      (try dsimp only at hSw)
      go_simp
      try with_reducible rfl
    try simp only [Act.put, List.setIfInBounds_toArray, List.set_cons_zero, List.set_cons_succ]
    refine wpAnyH_ready (rs := [17]) (by kernel_rfl) (by simp) ?_
    refine AllReadyH.cons (o := { dst := some 53, op := Op.call { callee := Callee.value (Operand.func 43), args := #[Operand.tmp 51, Operand.tmp 52], argTypes := #[43, 35] }, type := 9, pos := "laws.go:146", after := #[{ on := 15, ground := Ground.data }, { on := 16, ground := Ground.data }, { on := 14, ground := Ground.chain }, { on := 14, ground := Ground.guard }], guard := some (14, false) }) rfl (fun K hK => ?_) AllReadyH.nil
    go_simp
    (go_at_call 43; refine (KC.out _ B5.out).mono ?_; rintro e w6 ⟨rfl, hb6⟩; have T6 := Cells.below (L := [(⟨w1.heap.size, 0, none⟩, .string sc), (⟨w1.heap.size, 1, none⟩, .string ho), (⟨w1.heap.size, 2, none⟩, .int .i64 po), (⟨w1.heap.size, 3, none⟩, .string pa), (⟨w1.heap.size + 1, 0, none⟩, .string sc2), (⟨w1.heap.size + 1, 1, none⟩, .string ho2), (⟨w1.heap.size + 1, 2, none⟩, .int .i64 po2), (⟨w1.heap.size + 1, 3, none⟩, .string pa2), (⟨w2.heap.size, 0, none⟩, .string sc3), (⟨w2.heap.size, 1, none⟩, .string ho3), (⟨w2.heap.size, 2, none⟩, .int .i64 po3), (⟨w2.heap.size, 3, none⟩, .string pa3)]) (by simp only [Cells]; go_keep) hb6; simp only [Cells] at T6; obtain ⟨p60, p61, p62, p63, p64, p65, p66, p67, p68, p69, p610, p611, -⟩ := T6; have z6 : w2.heap.size + 1 ≤ w6.heap.size := Nat.le_trans z5 hb6.size; have B6 : Hid (Below wb.heap.size wb w6) := B5.out.trans (hb6.mono B5.out.size); clear p50 p51 p52 p53 p54 p55 p56 p57 p58 p59 p510 p511 z5 hb5)
    try (go_wp2_with fail)
    refine hK.out _ _ ?_ (fun hH3 => ?_)
    · (try dsimp only)
      go_keep
    clear hK K hH2
    try simp only [Act.put, List.setIfInBounds_toArray, List.set_cons_zero, List.set_cons_succ]
    refine wpAnyH_ready (rs := [20]) (by kernel_rfl) (by simp) ?_
    refine AllReadyH.cons (o := { dst := some 56, op := Op.call { callee := Callee.value (Operand.func 44), args := #[Operand.tmp 54, Operand.tmp 55], argTypes := #[43, 35] }, type := 9, pos := "laws.go:146", after := #[{ on := 18, ground := Ground.data }, { on := 19, ground := Ground.data }, { on := 17, ground := Ground.chain }, { on := 14, ground := Ground.guard }], guard := some (14, false) }) rfl (fun K hK => ?_) AllReadyH.nil
    go_simp
    (go_at_call 44; refine (TC.out _ B6.out).mono ?_; rintro e w7 ⟨rfl, hb7⟩; have T7 := Cells.below (L := [(⟨w1.heap.size, 0, none⟩, .string sc), (⟨w1.heap.size, 1, none⟩, .string ho), (⟨w1.heap.size, 2, none⟩, .int .i64 po), (⟨w1.heap.size, 3, none⟩, .string pa), (⟨w1.heap.size + 1, 0, none⟩, .string sc2), (⟨w1.heap.size + 1, 1, none⟩, .string ho2), (⟨w1.heap.size + 1, 2, none⟩, .int .i64 po2), (⟨w1.heap.size + 1, 3, none⟩, .string pa2), (⟨w2.heap.size, 0, none⟩, .string sc3), (⟨w2.heap.size, 1, none⟩, .string ho3), (⟨w2.heap.size, 2, none⟩, .int .i64 po3), (⟨w2.heap.size, 3, none⟩, .string pa3)]) (by simp only [Cells]; go_keep) hb7; simp only [Cells] at T7; obtain ⟨p70, p71, p72, p73, p74, p75, p76, p77, p78, p79, p710, p711, -⟩ := T7; have z7 : w2.heap.size + 1 ≤ w7.heap.size := Nat.le_trans z6 hb7.size; have B7 : Hid (Below wb.heap.size wb w7) := B6.out.trans (hb7.mono B6.out.size); clear p60 p61 p62 p63 p64 p65 p66 p67 p68 p69 p610 p611 z6 hb6)
    try (go_wp2_with fail)
    refine hK.out _ _ ?_ (fun hH4 => ?_)
    · (try dsimp only)
      go_keep
    clear hK K hH3
    try simp only [Act.put, List.setIfInBounds_toArray, List.set_cons_zero, List.set_cons_succ]
    refine wpAnyH_take (i := 21) (oi := { dst := some 57, op := Op.binOp BinOp.neq 9 (Operand.tmp 53) (Operand.tmp 56) 9, type := 4, pos := "laws.go:146", after := #[{ on := 17, ground := Ground.data }, { on := 20, ground := Ground.data }, { on := 14, ground := Ground.guard }], guard := some (14, false) }) (v := ?ve21) rfl (by kernel_rfl) (by kernel_rfl) (by kernel_rfl) (fun _ _ _ h => h) (Or.inl ⟨by rfl, ?hye21⟩) (by assumption) ?reste21
    case hye21 =>
      intro w hSw
      (try dsimp only at hSw)
      go_simp
      try with_reducible rfl
    try simp only [Act.put, List.setIfInBounds_toArray, List.set_cons_zero, List.set_cons_succ]
    refine wpAnyH_take (i := 22) (oi := { dst := some 58, op := Op.pick (Operand.tmp 50) (Operand.const (Value.bool true)) (Operand.tmp 57), type := 4, pos := "laws.go:146", after := #[{ on := 14, ground := Ground.data }, { on := 21, ground := Ground.data }], guard := none }) (v := ?ve22) rfl (by kernel_rfl) (by kernel_rfl) (by kernel_rfl) (fun _ _ _ h => h) (Or.inl ⟨by rfl, ?hye22⟩) (by assumption) ?reste22
    case hye22 =>
      intro w hSw
      (try dsimp only at hSw)
      go_simp
      try with_reducible rfl
    try simp only [Act.put, List.setIfInBounds_toArray, List.set_cons_zero, List.set_cons_succ]
    refine wpAnyH_take (i := 23) (oi := { dst := some 59, op := Op.move (Operand.tmp 58), type := 4, pos := "laws.go:146", after := #[{ on := 22, ground := Ground.data }, { on := 20, ground := Ground.chain }], guard := none }) (v := ?ve23) rfl (by kernel_rfl) (by kernel_rfl) (by kernel_rfl) (fun _ _ _ h => h) (Or.inl ⟨by rfl, ?hye23⟩) (by assumption) ?reste23
    case hye23 =>
      intro w hSw
      (try dsimp only at hSw)
      go_simp
      try with_reducible rfl
    try simp only [Act.put, List.setIfInBounds_toArray, List.set_cons_zero, List.set_cons_succ]
    refine wpAnyH_take (i := 24) (oi := { dst := some 60, op := Op.move (Operand.tmp 10), type := 4, pos := "laws.go:146", after := #[{ on := 23, ground := Ground.guard }], guard := some (23, false) }) (v := ?ve24) rfl (by kernel_rfl) (by kernel_rfl) (by kernel_rfl) (fun _ _ _ h => h) (Or.inl ⟨by rfl, ?hye24⟩) (by assumption) ?reste24
    case hye24 =>
      intro w hSw
      (try dsimp only at hSw)
      go_simp
      try with_reducible rfl
    try simp only [Act.put, List.setIfInBounds_toArray, List.set_cons_zero, List.set_cons_succ]
    refine wpAnyH_take (i := 25) (oi := { dst := some 61, op := Op.move (Operand.tmp 60), type := 4, pos := "laws.go:146", after := #[{ on := 24, ground := Ground.data }, { on := 23, ground := Ground.chain }, { on := 23, ground := Ground.guard }], guard := some (23, false) }) (v := ?ve25) rfl (by kernel_rfl) (by kernel_rfl) (by kernel_rfl) (fun _ _ _ h => h) (Or.inl ⟨by rfl, ?hye25⟩) (by assumption) ?reste25
    case hye25 =>
      intro w hSw
      (try dsimp only at hSw)
      go_simp
      try with_reducible rfl
    try simp only [Act.put, List.setIfInBounds_toArray, List.set_cons_zero, List.set_cons_succ]
    refine wpAnyH_take (i := 26) (oi := { dst := some 62, op := Op.move (Operand.tmp 5), type := 43, pos := "laws.go:146", after := #[{ on := 25, ground := Ground.guard }], guard := some (25, true) }) (v := undef) rfl (by kernel_rfl) (by kernel_rfl) (by kernel_rfl) (fun _ _ _ h => h) (Or.inr ⟨by rfl, rfl⟩) (by assumption) ?_
    try simp only [Act.put, List.setIfInBounds_toArray, List.set_cons_zero, List.set_cons_succ]
    refine wpAnyH_take (i := 27) (oi := { dst := some 63, op := Op.load 35 (Operand.tmp 7), type := 35, pos := "laws.go:146", after := #[{ on := 25, ground := Ground.guard }], guard := some (25, true) }) (v := undef) rfl (by kernel_rfl) (by kernel_rfl) (by kernel_rfl) (fun _ _ _ h => h) (Or.inr ⟨by rfl, rfl⟩) (by assumption) ?_
    try simp only [Act.put, List.setIfInBounds_toArray, List.set_cons_zero, List.set_cons_succ]
    refine wpAnyH_take (i := 28) (oi := { dst := some 64, op := Op.load 35 (Operand.tmp 9), type := 35, pos := "laws.go:146", after := #[{ on := 25, ground := Ground.guard }], guard := some (25, true) }) (v := undef) rfl (by kernel_rfl) (by kernel_rfl) (by kernel_rfl) (fun _ _ _ h => h) (Or.inr ⟨by rfl, rfl⟩) (by assumption) ?_
    try simp only [Act.put, List.setIfInBounds_toArray, List.set_cons_zero, List.set_cons_succ]
    refine wpAnyH_take (i := 29) (oi := { dst := some 65, op := Op.call { callee := Callee.value (Operand.func 41), args := #[Operand.tmp 62, Operand.tmp 63, Operand.tmp 64], argTypes := #[43, 35, 35] }, type := 4, pos := "laws.go:146", after := #[{ on := 26, ground := Ground.data }, { on := 27, ground := Ground.data }, { on := 28, ground := Ground.data }, { on := 25, ground := Ground.chain }, { on := 25, ground := Ground.guard }], guard := some (25, true) }) (v := undef) rfl (by kernel_rfl) (by kernel_rfl) (by kernel_rfl) (fun _ _ _ h => h) (Or.inr ⟨by rfl, rfl⟩) (by assumption) ?_
    try simp only [Act.put, List.setIfInBounds_toArray, List.set_cons_zero, List.set_cons_succ]
    refine wpAnyH_take (i := 30) (oi := { dst := some 66, op := Op.pick (Operand.tmp 61) (Operand.tmp 65) (Operand.const (Value.bool false)), type := 4, pos := "laws.go:146", after := #[{ on := 25, ground := Ground.data }, { on := 29, ground := Ground.data }, { on := 23, ground := Ground.guard }], guard := some (23, false) }) (v := ?ve30) rfl (by kernel_rfl) (by kernel_rfl) (by kernel_rfl) (fun _ _ _ h => h) (Or.inl ⟨by rfl, ?hye30⟩) (by assumption) ?reste30
    case hye30 =>
      intro w hSw
      (try dsimp only at hSw)
      go_simp
      try with_reducible rfl
    try simp only [Act.put, List.setIfInBounds_toArray, List.set_cons_zero, List.set_cons_succ]
    refine wpAnyH_take (i := 31) (oi := { dst := some 67, op := Op.move (Operand.tmp 66), type := 4, pos := "laws.go:146", after := #[{ on := 30, ground := Ground.data }, { on := 29, ground := Ground.chain }, { on := 23, ground := Ground.guard }], guard := some (23, false) }) (v := ?ve31) rfl (by kernel_rfl) (by kernel_rfl) (by kernel_rfl) (fun _ _ _ h => h) (Or.inl ⟨by rfl, ?hye31⟩) (by assumption) ?reste31
    case hye31 =>
      intro w hSw
      (try dsimp only at hSw)
      go_simp
      try with_reducible rfl
    try simp only [Act.put, List.setIfInBounds_toArray, List.set_cons_zero, List.set_cons_succ]
    refine wpAnyH_take (i := 32) (oi := { dst := some 68, op := Op.move (Operand.tmp 5), type := 43, pos := "laws.go:146", after := #[{ on := 31, ground := Ground.guard }], guard := some (31, true) }) (v := undef) rfl (by kernel_rfl) (by kernel_rfl) (by kernel_rfl) (fun _ _ _ h => h) (Or.inr ⟨by rfl, rfl⟩) (by assumption) ?_
    try simp only [Act.put, List.setIfInBounds_toArray, List.set_cons_zero, List.set_cons_succ]
    refine wpAnyH_take (i := 33) (oi := { dst := some 69, op := Op.load 35 (Operand.tmp 6), type := 35, pos := "laws.go:146", after := #[{ on := 31, ground := Ground.guard }], guard := some (31, true) }) (v := undef) rfl (by kernel_rfl) (by kernel_rfl) (by kernel_rfl) (fun _ _ _ h => h) (Or.inr ⟨by rfl, rfl⟩) (by assumption) ?_
    try simp only [Act.put, List.setIfInBounds_toArray, List.set_cons_zero, List.set_cons_succ]
    refine wpAnyH_take (i := 34) (oi := { dst := some 70, op := Op.load 35 (Operand.tmp 9), type := 35, pos := "laws.go:146", after := #[{ on := 31, ground := Ground.guard }], guard := some (31, true) }) (v := undef) rfl (by kernel_rfl) (by kernel_rfl) (by kernel_rfl) (fun _ _ _ h => h) (Or.inr ⟨by rfl, rfl⟩) (by assumption) ?_
    try simp only [Act.put, List.setIfInBounds_toArray, List.set_cons_zero, List.set_cons_succ]
    refine wpAnyH_take (i := 35) (oi := { dst := some 71, op := Op.call { callee := Callee.value (Operand.func 41), args := #[Operand.tmp 68, Operand.tmp 69, Operand.tmp 70], argTypes := #[43, 35, 35] }, type := 4, pos := "laws.go:146", after := #[{ on := 32, ground := Ground.data }, { on := 33, ground := Ground.data }, { on := 34, ground := Ground.data }, { on := 31, ground := Ground.chain }, { on := 31, ground := Ground.guard }], guard := some (31, true) }) (v := undef) rfl (by kernel_rfl) (by kernel_rfl) (by kernel_rfl) (fun _ _ _ h => h) (Or.inr ⟨by rfl, rfl⟩) (by assumption) ?_
    try simp only [Act.put, List.setIfInBounds_toArray, List.set_cons_zero, List.set_cons_succ]
    refine wpAnyH_take (i := 36) (oi := { dst := some 72, op := Op.unOp UnOp.not 4 (Operand.tmp 71), type := 4, pos := "laws.go:146", after := #[{ on := 35, ground := Ground.data }, { on := 31, ground := Ground.guard }], guard := some (31, true) }) (v := undef) rfl (by kernel_rfl) (by kernel_rfl) (by kernel_rfl) (fun _ _ _ h => h) (Or.inr ⟨by rfl, rfl⟩) (by assumption) ?_
    try simp only [Act.put, List.setIfInBounds_toArray, List.set_cons_zero, List.set_cons_succ]
    refine wpAnyH_take (i := 37) (oi := { dst := some 73, op := Op.pick (Operand.tmp 67) (Operand.tmp 72) (Operand.const (Value.bool false)), type := 4, pos := "laws.go:146", after := #[{ on := 31, ground := Ground.data }, { on := 36, ground := Ground.data }, { on := 23, ground := Ground.guard }], guard := some (23, false) }) (v := ?ve37) rfl (by kernel_rfl) (by kernel_rfl) (by kernel_rfl) (fun _ _ _ h => h) (Or.inl ⟨by rfl, ?hye37⟩) (by assumption) ?reste37
    case hye37 =>
      intro w hSw
      (try dsimp only at hSw)
      go_simp
      try with_reducible rfl
    try simp only [Act.put, List.setIfInBounds_toArray, List.set_cons_zero, List.set_cons_succ]
    refine wpAnyH_take (i := 38) (oi := { dst := some 74, op := Op.pick (Operand.tmp 59) (Operand.const (Value.bool true)) (Operand.tmp 73), type := 4, pos := "laws.go:146", after := #[{ on := 23, ground := Ground.data }, { on := 37, ground := Ground.data }], guard := none }) (v := ?ve38) rfl (by kernel_rfl) (by kernel_rfl) (by kernel_rfl) (fun _ _ _ h => h) (Or.inl ⟨by rfl, ?hye38⟩) (by assumption) ?reste38
    case hye38 =>
      intro w hSw
      (try dsimp only at hSw)
      go_simp
      try with_reducible rfl
    try simp only [Act.put, List.setIfInBounds_toArray, List.set_cons_zero, List.set_cons_succ]
    refine wpAnyH_done (by kernel_rfl) ?_ _
    exact tail _ _ _ _ _ _ _ _ _ _ _ _ _ _ _ _ _ _ _ _ _ _ _ _ _ _ _ _ _ _ _ _ _ _ _ _ _ _ _ _ _ _ _ _ _ _ _ _ _ _ _ _ _ _ _ _ _ _ _ _ _ w7 p70 p71 p72 p73 p74 p75 p76 p77 p78 p79 p710 p711 z7 B7
  | true =>
    cases t with
    | false =>
      refine wp_region_held_drew (S := (fun w' => w2.heap.size + 1 ≤ w'.heap.size ∧ w'.cell? ⟨w1.heap.size, 0, none⟩ = some (.string sc) ∧ w'.cell? ⟨w1.heap.size, 1, none⟩ = some (.string ho) ∧ w'.cell? ⟨w1.heap.size, 2, none⟩ = some (.int .i64 po) ∧ w'.cell? ⟨w1.heap.size, 3, none⟩ = some (.string pa) ∧ w'.cell? ⟨w1.heap.size + 1, 0, none⟩ = some (.string sc2) ∧ w'.cell? ⟨w1.heap.size + 1, 1, none⟩ = some (.string ho2) ∧ w'.cell? ⟨w1.heap.size + 1, 2, none⟩ = some (.int .i64 po2) ∧ w'.cell? ⟨w1.heap.size + 1, 3, none⟩ = some (.string pa2) ∧ w'.cell? ⟨w2.heap.size, 0, none⟩ = some (.string sc3) ∧ w'.cell? ⟨w2.heap.size, 1, none⟩ = some (.string ho3) ∧ w'.cell? ⟨w2.heap.size, 2, none⟩ = some (.int .i64 po3) ∧ w'.cell? ⟨w2.heap.size, 3, none⟩ = some (.string pa3))) (by kernel_rfl) ?_ (fun hH0 => ?_)
      · (try dsimp only)
        go_keep
      refine wpAnyH_take (i := 0) (oi := { dst := some 36, op := Op.move (Operand.tmp 10), type := 4, pos := "laws.go:146", after := #[], guard := none }) (v := ?vf0) rfl (by kernel_rfl) (by kernel_rfl) (by kernel_rfl) (fun _ _ _ h => h) (Or.inl ⟨by rfl, ?hyf0⟩) (by assumption) ?restf0
      case hyf0 =>
        intro w hSw
        (try dsimp only at hSw)
        go_simp
        try with_reducible rfl
      try simp only [Act.put, List.setIfInBounds_toArray, List.set_cons_zero, List.set_cons_succ]
      refine wpAnyH_take (i := 1) (oi := { dst := some 37, op := Op.move (Operand.tmp 5), type := 43, pos := "laws.go:146", after := #[], guard := none }) (v := ?vf1) rfl (by kernel_rfl) (by kernel_rfl) (by kernel_rfl) (fun _ _ _ h => h) (Or.inl ⟨by rfl, ?hyf1⟩) (by assumption) ?restf1
      case hyf1 =>
        intro w hSw
        (try dsimp only at hSw)
        go_simp
        try with_reducible rfl
      try simp only [Act.put, List.setIfInBounds_toArray, List.set_cons_zero, List.set_cons_succ]
      refine wpAnyH_take (i := 2) (oi := { dst := some 38, op := Op.load 35 (Operand.tmp 6), type := 35, pos := "laws.go:146", after := #[], guard := none }) (v := ?vf2) rfl (by kernel_rfl) (by kernel_rfl) (by kernel_rfl) (fun _ _ _ h => h) (Or.inl ⟨by rfl, ?hyf2⟩) (by assumption) ?restf2
      case hyf2 =>
        intro w hSw
        (try dsimp only at hSw)
        go_simp
        try with_reducible rfl
      try simp only [Act.put, List.setIfInBounds_toArray, List.set_cons_zero, List.set_cons_succ]
      refine wpAnyH_take (i := 3) (oi := { dst := some 39, op := Op.load 35 (Operand.tmp 7), type := 35, pos := "laws.go:146", after := #[], guard := none }) (v := ?vf3) rfl (by kernel_rfl) (by kernel_rfl) (by kernel_rfl) (fun _ _ _ h => h) (Or.inl ⟨by rfl, ?hyf3⟩) (by assumption) ?restf3
      case hyf3 =>
        intro w hSw
        (try dsimp only at hSw)
        go_simp
        try with_reducible rfl
      try simp only [Act.put, List.setIfInBounds_toArray, List.set_cons_zero, List.set_cons_succ]
      refine wpAnyH_ready (rs := [4]) (by kernel_rfl) (by simp) ?_
      refine AllReadyH.cons (o := { dst := some 40, op := Op.call { callee := Callee.value (Operand.func 42), args := #[Operand.tmp 37, Operand.tmp 38, Operand.tmp 39], argTypes := #[43, 35, 35] }, type := 4, pos := "laws.go:146", after := #[{ on := 1, ground := Ground.data }, { on := 2, ground := Ground.data }, { on := 3, ground := Ground.data }], guard := none }) rfl (fun K hK => ?_) AllReadyH.nil
      go_simp
      (go_at_call 42; refine (TAB.out _ (B3.out.trans (Below.drew (Below.refl _ _)))).mono ?_; rintro e w4 ⟨rfl, hb4⟩; have T4 := Cells.below (L := [(⟨w1.heap.size, 0, none⟩, .string sc), (⟨w1.heap.size, 1, none⟩, .string ho), (⟨w1.heap.size, 2, none⟩, .int .i64 po), (⟨w1.heap.size, 3, none⟩, .string pa), (⟨w1.heap.size + 1, 0, none⟩, .string sc2), (⟨w1.heap.size + 1, 1, none⟩, .string ho2), (⟨w1.heap.size + 1, 2, none⟩, .int .i64 po2), (⟨w1.heap.size + 1, 3, none⟩, .string pa2), (⟨w2.heap.size, 0, none⟩, .string sc3), (⟨w2.heap.size, 1, none⟩, .string ho3), (⟨w2.heap.size, 2, none⟩, .int .i64 po3), (⟨w2.heap.size, 3, none⟩, .string pa3)]) (by simp only [Cells]; go_keep) hb4; simp only [Cells] at T4; obtain ⟨p40, p41, p42, p43, p44, p45, p46, p47, p48, p49, p410, p411, -⟩ := T4; have z4 : w2.heap.size + 1 ≤ w4.heap.size := Nat.le_trans z3 hb4.size; have B4 : Hid (Below wb.heap.size wb w4) := (B3.out.trans (Below.drew (Below.refl _ _))).trans (hb4.mono (by have := B3.out.size; simpa using this)))
      try (go_wp2_with fail)
      refine hK.out _ _ ?_ (fun hH1 => ?_)
      · (try dsimp only)
        go_keep
      clear hK K hH0
      try simp only [Act.put, List.setIfInBounds_toArray, List.set_cons_zero, List.set_cons_succ]
      refine wpAnyH_take (i := 5) (oi := { dst := some 41, op := Op.binOp BinOp.neq 4 (Operand.tmp 36) (Operand.tmp 40) 4, type := 4, pos := "laws.go:146", after := #[{ on := 0, ground := Ground.data }, { on := 4, ground := Ground.data }], guard := none }) (v := ?vf5) rfl (by kernel_rfl) (by kernel_rfl) (by kernel_rfl) (fun _ _ _ h => h) (Or.inl ⟨by rfl, ?hyf5⟩) (by assumption) ?restf5
      case hyf5 =>
        intro w hSw
        (try dsimp only at hSw)
        go_simp
        try with_reducible rfl
      try simp only [Act.put, List.setIfInBounds_toArray, List.set_cons_zero, List.set_cons_succ]
      refine wpAnyH_take (i := 6) (oi := { dst := some 42, op := Op.move (Operand.tmp 41), type := 4, pos := "laws.go:146", after := #[{ on := 5, ground := Ground.data }, { on := 4, ground := Ground.chain }], guard := none }) (v := ?vf6) rfl (by kernel_rfl) (by kernel_rfl) (by kernel_rfl) (fun _ _ _ h => h) (Or.inl ⟨by rfl, ?hyf6⟩) (by assumption) ?restf6
      case hyf6 =>
        intro w hSw
        (try dsimp only at hSw)
        go_simp
        try with_reducible rfl
      try simp only [Act.put, List.setIfInBounds_toArray, List.set_cons_zero, List.set_cons_succ]
      refine wpAnyH_take (i := 7) (oi := { dst := some 43, op := Op.move (Operand.tmp 5), type := 43, pos := "laws.go:146", after := #[{ on := 6, ground := Ground.guard }], guard := some (6, false) }) (v := ?vf7) rfl (by kernel_rfl) (by kernel_rfl) (by kernel_rfl) (fun _ _ _ h => h) (Or.inl ⟨by rfl, ?hyf7⟩) (by assumption) ?restf7
      case hyf7 =>
        intro w hSw
        (try dsimp only at hSw)
        go_simp
        try with_reducible rfl
      try simp only [Act.put, List.setIfInBounds_toArray, List.set_cons_zero, List.set_cons_succ]
      refine wpAnyH_take (i := 8) (oi := { dst := some 44, op := Op.load 35 (Operand.tmp 7), type := 35, pos := "laws.go:146", after := #[{ on := 6, ground := Ground.guard }], guard := some (6, false) }) (v := ?vf8) rfl (by kernel_rfl) (by kernel_rfl) (by kernel_rfl) (fun _ _ _ h => h) (Or.inl ⟨by rfl, ?hyf8⟩) (by assumption) ?restf8
      case hyf8 =>
        intro w hSw
        (try dsimp only at hSw)
        go_simp
        try with_reducible rfl
      try simp only [Act.put, List.setIfInBounds_toArray, List.set_cons_zero, List.set_cons_succ]
      refine wpAnyH_take (i := 9) (oi := { dst := some 45, op := Op.load 35 (Operand.tmp 6), type := 35, pos := "laws.go:146", after := #[{ on := 6, ground := Ground.guard }], guard := some (6, false) }) (v := ?vf9) rfl (by kernel_rfl) (by kernel_rfl) (by kernel_rfl) (fun _ _ _ h => h) (Or.inl ⟨by rfl, ?hyf9⟩) (by assumption) ?restf9
      case hyf9 =>
        intro w hSw
        (try dsimp only at hSw)
        go_simp
        try with_reducible rfl
      try simp only [Act.put, List.setIfInBounds_toArray, List.set_cons_zero, List.set_cons_succ]
      refine wpAnyH_take (i := 11) (oi := { dst := some 47, op := Op.move (Operand.tmp 10), type := 4, pos := "laws.go:146", after := #[{ on := 6, ground := Ground.guard }], guard := some (6, false) }) (v := ?vf11) rfl (by kernel_rfl) (by kernel_rfl) (by kernel_rfl) (fun _ _ _ h => h) (Or.inl ⟨by rfl, ?hyf11⟩) (by assumption) ?restf11
      case hyf11 =>
        intro w hSw
        (try dsimp only at hSw)
        go_simp
        try with_reducible rfl
      try simp only [Act.put, List.setIfInBounds_toArray, List.set_cons_zero, List.set_cons_succ]
      refine wpAnyH_ready (rs := [10]) (by kernel_rfl) (by simp) ?_
      refine AllReadyH.cons (o := { dst := some 46, op := Op.call { callee := Callee.value (Operand.func 41), args := #[Operand.tmp 43, Operand.tmp 44, Operand.tmp 45], argTypes := #[43, 35, 35] }, type := 4, pos := "laws.go:146", after := #[{ on := 7, ground := Ground.data }, { on := 8, ground := Ground.data }, { on := 9, ground := Ground.data }, { on := 6, ground := Ground.chain }, { on := 6, ground := Ground.guard }], guard := some (6, false) }) rfl (fun K hK => ?_) AllReadyH.nil
      go_simp
      (go_at_call 41; refine (KBA.out _ B4.out).mono ?_; rintro e w5 ⟨rfl, hb5⟩; have T5 := Cells.below (L := [(⟨w1.heap.size, 0, none⟩, .string sc), (⟨w1.heap.size, 1, none⟩, .string ho), (⟨w1.heap.size, 2, none⟩, .int .i64 po), (⟨w1.heap.size, 3, none⟩, .string pa), (⟨w1.heap.size + 1, 0, none⟩, .string sc2), (⟨w1.heap.size + 1, 1, none⟩, .string ho2), (⟨w1.heap.size + 1, 2, none⟩, .int .i64 po2), (⟨w1.heap.size + 1, 3, none⟩, .string pa2), (⟨w2.heap.size, 0, none⟩, .string sc3), (⟨w2.heap.size, 1, none⟩, .string ho3), (⟨w2.heap.size, 2, none⟩, .int .i64 po3), (⟨w2.heap.size, 3, none⟩, .string pa3)]) (by simp only [Cells]; go_keep) hb5; simp only [Cells] at T5; obtain ⟨p50, p51, p52, p53, p54, p55, p56, p57, p58, p59, p510, p511, -⟩ := T5; have z5 : w2.heap.size + 1 ≤ w5.heap.size := Nat.le_trans z4 hb5.size; have B5 : Hid (Below wb.heap.size wb w5) := B4.out.trans (hb5.mono B4.out.size); clear p40 p41 p42 p43 p44 p45 p46 p47 p48 p49 p410 p411 z4 hb4)
      try (go_wp2_with fail)
      refine hK.out _ _ ?_ (fun hH2 => ?_)
      · (try dsimp only)
        go_keep
      clear hK K hH1
      try simp only [Act.put, List.setIfInBounds_toArray, List.set_cons_zero, List.set_cons_succ]
      refine wpAnyH_take (i := 12) (oi := { dst := some 48, op := Op.binOp BinOp.neq 4 (Operand.tmp 46) (Operand.tmp 47) 4, type := 4, pos := "laws.go:146", after := #[{ on := 10, ground := Ground.data }, { on := 11, ground := Ground.data }, { on := 6, ground := Ground.guard }], guard := some (6, false) }) (v := ?vf12) rfl (by kernel_rfl) (by kernel_rfl) (by kernel_rfl) (fun _ _ _ h => h) (Or.inl ⟨by rfl, ?hyf12⟩) (by assumption) ?restf12
      case hyf12 =>
        intro w hSw
        (try dsimp only at hSw)
        go_simp
        try with_reducible rfl
      try simp only [Act.put, List.setIfInBounds_toArray, List.set_cons_zero, List.set_cons_succ]
      refine wpAnyH_take (i := 13) (oi := { dst := some 49, op := Op.pick (Operand.tmp 42) (Operand.const (Value.bool true)) (Operand.tmp 48), type := 4, pos := "laws.go:146", after := #[{ on := 6, ground := Ground.data }, { on := 12, ground := Ground.data }], guard := none }) (v := ?vf13) rfl (by kernel_rfl) (by kernel_rfl) (by kernel_rfl) (fun _ _ _ h => h) (Or.inl ⟨by rfl, ?hyf13⟩) (by assumption) ?restf13
      case hyf13 =>
        intro w hSw
        (try dsimp only at hSw)
        go_simp
        try with_reducible rfl
      try simp only [Act.put, List.setIfInBounds_toArray, List.set_cons_zero, List.set_cons_succ]
      refine wpAnyH_take (i := 14) (oi := { dst := some 50, op := Op.move (Operand.tmp 49), type := 4, pos := "laws.go:146", after := #[{ on := 13, ground := Ground.data }, { on := 10, ground := Ground.chain }], guard := none }) (v := ?vf14) rfl (by kernel_rfl) (by kernel_rfl) (by kernel_rfl) (fun _ _ _ h => h) (Or.inl ⟨by rfl, ?hyf14⟩) (by assumption) ?restf14
      case hyf14 =>
        intro w hSw
        (try dsimp only at hSw)
        go_simp
        try with_reducible rfl
      try simp only [Act.put, List.setIfInBounds_toArray, List.set_cons_zero, List.set_cons_succ]
      refine wpAnyH_take (i := 15) (oi := { dst := some 51, op := Op.move (Operand.tmp 5), type := 43, pos := "laws.go:146", after := #[{ on := 14, ground := Ground.guard }], guard := some (14, false) }) (v := ?vf15) rfl (by kernel_rfl) (by kernel_rfl) (by kernel_rfl) (fun _ _ _ h => h) (Or.inl ⟨by rfl, ?hyf15⟩) (by assumption) ?restf15
      case hyf15 =>
        intro w hSw
        (try dsimp only at hSw)
        go_simp
        try with_reducible rfl
      try simp only [Act.put, List.setIfInBounds_toArray, List.set_cons_zero, List.set_cons_succ]
      refine wpAnyH_take (i := 16) (oi := { dst := some 52, op := Op.load 35 (Operand.tmp 9), type := 35, pos := "laws.go:146", after := #[{ on := 14, ground := Ground.guard }], guard := some (14, false) }) (v := ?vf16) rfl (by kernel_rfl) (by kernel_rfl) (by kernel_rfl) (fun _ _ _ h => h) (Or.inl ⟨by rfl, ?hyf16⟩) (by assumption) ?restf16
      case hyf16 =>
        intro w hSw
        (try dsimp only at hSw)
        go_simp
        try with_reducible rfl
      try simp only [Act.put, List.setIfInBounds_toArray, List.set_cons_zero, List.set_cons_succ]
      refine wpAnyH_take (i := 18) (oi := { dst := some 54, op := Op.move (Operand.tmp 5), type := 43, pos := "laws.go:146", after := #[{ on := 14, ground := Ground.guard }], guard := some (14, false) }) (v := ?vf18) rfl (by kernel_rfl) (by kernel_rfl) (by kernel_rfl) (fun _ _ _ h => h) (Or.inl ⟨by rfl, ?hyf18⟩) (by assumption) ?restf18
      case hyf18 =>
        intro w hSw
        (try dsimp only at hSw)
        go_simp
        try with_reducible rfl
      try simp only [Act.put, List.setIfInBounds_toArray, List.set_cons_zero, List.set_cons_succ]
      refine wpAnyH_take (i := 19) (oi := { dst := some 55, op := Op.load 35 (Operand.tmp 9), type := 35, pos := "laws.go:146", after := #[{ on := 14, ground := Ground.guard }], guard := some (14, false) }) (v := ?vf19) rfl (by kernel_rfl) (by kernel_rfl) (by kernel_rfl) (fun _ _ _ h => h) (Or.inl ⟨by rfl, ?hyf19⟩) (by assumption) ?restf19
      case hyf19 =>
        intro w hSw
        (try dsimp only at hSw)
        go_simp
        try with_reducible rfl
      try simp only [Act.put, List.setIfInBounds_toArray, List.set_cons_zero, List.set_cons_succ]
      refine wpAnyH_ready (rs := [17]) (by kernel_rfl) (by simp) ?_
      refine AllReadyH.cons (o := { dst := some 53, op := Op.call { callee := Callee.value (Operand.func 43), args := #[Operand.tmp 51, Operand.tmp 52], argTypes := #[43, 35] }, type := 9, pos := "laws.go:146", after := #[{ on := 15, ground := Ground.data }, { on := 16, ground := Ground.data }, { on := 14, ground := Ground.chain }, { on := 14, ground := Ground.guard }], guard := some (14, false) }) rfl (fun K hK => ?_) AllReadyH.nil
      go_simp
      (go_at_call 43; refine (KC.out _ B5.out).mono ?_; rintro e w6 ⟨rfl, hb6⟩; have T6 := Cells.below (L := [(⟨w1.heap.size, 0, none⟩, .string sc), (⟨w1.heap.size, 1, none⟩, .string ho), (⟨w1.heap.size, 2, none⟩, .int .i64 po), (⟨w1.heap.size, 3, none⟩, .string pa), (⟨w1.heap.size + 1, 0, none⟩, .string sc2), (⟨w1.heap.size + 1, 1, none⟩, .string ho2), (⟨w1.heap.size + 1, 2, none⟩, .int .i64 po2), (⟨w1.heap.size + 1, 3, none⟩, .string pa2), (⟨w2.heap.size, 0, none⟩, .string sc3), (⟨w2.heap.size, 1, none⟩, .string ho3), (⟨w2.heap.size, 2, none⟩, .int .i64 po3), (⟨w2.heap.size, 3, none⟩, .string pa3)]) (by simp only [Cells]; go_keep) hb6; simp only [Cells] at T6; obtain ⟨p60, p61, p62, p63, p64, p65, p66, p67, p68, p69, p610, p611, -⟩ := T6; have z6 : w2.heap.size + 1 ≤ w6.heap.size := Nat.le_trans z5 hb6.size; have B6 : Hid (Below wb.heap.size wb w6) := B5.out.trans (hb6.mono B5.out.size); clear p50 p51 p52 p53 p54 p55 p56 p57 p58 p59 p510 p511 z5 hb5)
      try (go_wp2_with fail)
      refine hK.out _ _ ?_ (fun hH3 => ?_)
      · (try dsimp only)
        go_keep
      clear hK K hH2
      try simp only [Act.put, List.setIfInBounds_toArray, List.set_cons_zero, List.set_cons_succ]
      refine wpAnyH_ready (rs := [20]) (by kernel_rfl) (by simp) ?_
      refine AllReadyH.cons (o := { dst := some 56, op := Op.call { callee := Callee.value (Operand.func 44), args := #[Operand.tmp 54, Operand.tmp 55], argTypes := #[43, 35] }, type := 9, pos := "laws.go:146", after := #[{ on := 18, ground := Ground.data }, { on := 19, ground := Ground.data }, { on := 17, ground := Ground.chain }, { on := 14, ground := Ground.guard }], guard := some (14, false) }) rfl (fun K hK => ?_) AllReadyH.nil
      go_simp
      (go_at_call 44; refine (TC.out _ B6.out).mono ?_; rintro e w7 ⟨rfl, hb7⟩; have T7 := Cells.below (L := [(⟨w1.heap.size, 0, none⟩, .string sc), (⟨w1.heap.size, 1, none⟩, .string ho), (⟨w1.heap.size, 2, none⟩, .int .i64 po), (⟨w1.heap.size, 3, none⟩, .string pa), (⟨w1.heap.size + 1, 0, none⟩, .string sc2), (⟨w1.heap.size + 1, 1, none⟩, .string ho2), (⟨w1.heap.size + 1, 2, none⟩, .int .i64 po2), (⟨w1.heap.size + 1, 3, none⟩, .string pa2), (⟨w2.heap.size, 0, none⟩, .string sc3), (⟨w2.heap.size, 1, none⟩, .string ho3), (⟨w2.heap.size, 2, none⟩, .int .i64 po3), (⟨w2.heap.size, 3, none⟩, .string pa3)]) (by simp only [Cells]; go_keep) hb7; simp only [Cells] at T7; obtain ⟨p70, p71, p72, p73, p74, p75, p76, p77, p78, p79, p710, p711, -⟩ := T7; have z7 : w2.heap.size + 1 ≤ w7.heap.size := Nat.le_trans z6 hb7.size; have B7 : Hid (Below wb.heap.size wb w7) := B6.out.trans (hb7.mono B6.out.size); clear p60 p61 p62 p63 p64 p65 p66 p67 p68 p69 p610 p611 z6 hb6)
      try (go_wp2_with fail)
      refine hK.out _ _ ?_ (fun hH4 => ?_)
      · (try dsimp only)
        go_keep
      clear hK K hH3
      try simp only [Act.put, List.setIfInBounds_toArray, List.set_cons_zero, List.set_cons_succ]
      refine wpAnyH_take (i := 21) (oi := { dst := some 57, op := Op.binOp BinOp.neq 9 (Operand.tmp 53) (Operand.tmp 56) 9, type := 4, pos := "laws.go:146", after := #[{ on := 17, ground := Ground.data }, { on := 20, ground := Ground.data }, { on := 14, ground := Ground.guard }], guard := some (14, false) }) (v := ?vf21) rfl (by kernel_rfl) (by kernel_rfl) (by kernel_rfl) (fun _ _ _ h => h) (Or.inl ⟨by rfl, ?hyf21⟩) (by assumption) ?restf21
      case hyf21 =>
        intro w hSw
        (try dsimp only at hSw)
        go_simp
        try with_reducible rfl
      try simp only [Act.put, List.setIfInBounds_toArray, List.set_cons_zero, List.set_cons_succ]
      refine wpAnyH_take (i := 22) (oi := { dst := some 58, op := Op.pick (Operand.tmp 50) (Operand.const (Value.bool true)) (Operand.tmp 57), type := 4, pos := "laws.go:146", after := #[{ on := 14, ground := Ground.data }, { on := 21, ground := Ground.data }], guard := none }) (v := ?vf22) rfl (by kernel_rfl) (by kernel_rfl) (by kernel_rfl) (fun _ _ _ h => h) (Or.inl ⟨by rfl, ?hyf22⟩) (by assumption) ?restf22
      case hyf22 =>
        intro w hSw
        (try dsimp only at hSw)
        go_simp
        try with_reducible rfl
      try simp only [Act.put, List.setIfInBounds_toArray, List.set_cons_zero, List.set_cons_succ]
      refine wpAnyH_take (i := 23) (oi := { dst := some 59, op := Op.move (Operand.tmp 58), type := 4, pos := "laws.go:146", after := #[{ on := 22, ground := Ground.data }, { on := 20, ground := Ground.chain }], guard := none }) (v := ?vf23) rfl (by kernel_rfl) (by kernel_rfl) (by kernel_rfl) (fun _ _ _ h => h) (Or.inl ⟨by rfl, ?hyf23⟩) (by assumption) ?restf23
      case hyf23 =>
        intro w hSw
        (try dsimp only at hSw)
        go_simp
        try with_reducible rfl
      try simp only [Act.put, List.setIfInBounds_toArray, List.set_cons_zero, List.set_cons_succ]
      refine wpAnyH_take (i := 24) (oi := { dst := some 60, op := Op.move (Operand.tmp 10), type := 4, pos := "laws.go:146", after := #[{ on := 23, ground := Ground.guard }], guard := some (23, false) }) (v := ?vf24) rfl (by kernel_rfl) (by kernel_rfl) (by kernel_rfl) (fun _ _ _ h => h) (Or.inl ⟨by rfl, ?hyf24⟩) (by assumption) ?restf24
      case hyf24 =>
        intro w hSw
        (try dsimp only at hSw)
        go_simp
        try with_reducible rfl
      try simp only [Act.put, List.setIfInBounds_toArray, List.set_cons_zero, List.set_cons_succ]
      refine wpAnyH_take (i := 25) (oi := { dst := some 61, op := Op.move (Operand.tmp 60), type := 4, pos := "laws.go:146", after := #[{ on := 24, ground := Ground.data }, { on := 23, ground := Ground.chain }, { on := 23, ground := Ground.guard }], guard := some (23, false) }) (v := ?vf25) rfl (by kernel_rfl) (by kernel_rfl) (by kernel_rfl) (fun _ _ _ h => h) (Or.inl ⟨by rfl, ?hyf25⟩) (by assumption) ?restf25
      case hyf25 =>
        intro w hSw
        (try dsimp only at hSw)
        go_simp
        try with_reducible rfl
      try simp only [Act.put, List.setIfInBounds_toArray, List.set_cons_zero, List.set_cons_succ]
      refine wpAnyH_take (i := 26) (oi := { dst := some 62, op := Op.move (Operand.tmp 5), type := 43, pos := "laws.go:146", after := #[{ on := 25, ground := Ground.guard }], guard := some (25, true) }) (v := ?vf26) rfl (by kernel_rfl) (by kernel_rfl) (by kernel_rfl) (fun _ _ _ h => h) (Or.inl ⟨by rfl, ?hyf26⟩) (by assumption) ?restf26
      case hyf26 =>
        intro w hSw
        (try dsimp only at hSw)
        go_simp
        try with_reducible rfl
      try simp only [Act.put, List.setIfInBounds_toArray, List.set_cons_zero, List.set_cons_succ]
      refine wpAnyH_take (i := 27) (oi := { dst := some 63, op := Op.load 35 (Operand.tmp 7), type := 35, pos := "laws.go:146", after := #[{ on := 25, ground := Ground.guard }], guard := some (25, true) }) (v := ?vf27) rfl (by kernel_rfl) (by kernel_rfl) (by kernel_rfl) (fun _ _ _ h => h) (Or.inl ⟨by rfl, ?hyf27⟩) (by assumption) ?restf27
      case hyf27 =>
        intro w hSw
        (try dsimp only at hSw)
        go_simp
        try with_reducible rfl
      try simp only [Act.put, List.setIfInBounds_toArray, List.set_cons_zero, List.set_cons_succ]
      refine wpAnyH_take (i := 28) (oi := { dst := some 64, op := Op.load 35 (Operand.tmp 9), type := 35, pos := "laws.go:146", after := #[{ on := 25, ground := Ground.guard }], guard := some (25, true) }) (v := ?vf28) rfl (by kernel_rfl) (by kernel_rfl) (by kernel_rfl) (fun _ _ _ h => h) (Or.inl ⟨by rfl, ?hyf28⟩) (by assumption) ?restf28
      case hyf28 =>
        intro w hSw
        (try dsimp only at hSw)
        go_simp
        try with_reducible rfl
      try simp only [Act.put, List.setIfInBounds_toArray, List.set_cons_zero, List.set_cons_succ]
      refine wpAnyH_ready (rs := [29]) (by kernel_rfl) (by simp) ?_
      refine AllReadyH.cons (o := { dst := some 65, op := Op.call { callee := Callee.value (Operand.func 41), args := #[Operand.tmp 62, Operand.tmp 63, Operand.tmp 64], argTypes := #[43, 35, 35] }, type := 4, pos := "laws.go:146", after := #[{ on := 26, ground := Ground.data }, { on := 27, ground := Ground.data }, { on := 28, ground := Ground.data }, { on := 25, ground := Ground.chain }, { on := 25, ground := Ground.guard }], guard := some (25, true) }) rfl (fun K hK => ?_) AllReadyH.nil
      go_simp
      (go_at_call 41; refine (KBC.out _ B7.out).mono ?_; rintro e w8 ⟨rfl, hb8⟩; have T8 := Cells.below (L := [(⟨w1.heap.size, 0, none⟩, .string sc), (⟨w1.heap.size, 1, none⟩, .string ho), (⟨w1.heap.size, 2, none⟩, .int .i64 po), (⟨w1.heap.size, 3, none⟩, .string pa), (⟨w1.heap.size + 1, 0, none⟩, .string sc2), (⟨w1.heap.size + 1, 1, none⟩, .string ho2), (⟨w1.heap.size + 1, 2, none⟩, .int .i64 po2), (⟨w1.heap.size + 1, 3, none⟩, .string pa2), (⟨w2.heap.size, 0, none⟩, .string sc3), (⟨w2.heap.size, 1, none⟩, .string ho3), (⟨w2.heap.size, 2, none⟩, .int .i64 po3), (⟨w2.heap.size, 3, none⟩, .string pa3)]) (by simp only [Cells]; go_keep) hb8; simp only [Cells] at T8; obtain ⟨p80, p81, p82, p83, p84, p85, p86, p87, p88, p89, p810, p811, -⟩ := T8; have z8 : w2.heap.size + 1 ≤ w8.heap.size := Nat.le_trans z7 hb8.size; have B8 : Hid (Below wb.heap.size wb w8) := B7.out.trans (hb8.mono B7.out.size); clear p70 p71 p72 p73 p74 p75 p76 p77 p78 p79 p710 p711 z7 hb7)
      try (go_wp2_with fail)
      refine hK.out _ _ ?_ (fun hH5 => ?_)
      · (try dsimp only)
        go_keep
      clear hK K hH4
      try simp only [Act.put, List.setIfInBounds_toArray, List.set_cons_zero, List.set_cons_succ]
      refine wpAnyH_take (i := 30) (oi := { dst := some 66, op := Op.pick (Operand.tmp 61) (Operand.tmp 65) (Operand.const (Value.bool false)), type := 4, pos := "laws.go:146", after := #[{ on := 25, ground := Ground.data }, { on := 29, ground := Ground.data }, { on := 23, ground := Ground.guard }], guard := some (23, false) }) (v := ?vf30) rfl (by kernel_rfl) (by kernel_rfl) (by kernel_rfl) (fun _ _ _ h => h) (Or.inl ⟨by rfl, ?hyf30⟩) (by assumption) ?restf30
      case hyf30 =>
        intro w hSw
        (try dsimp only at hSw)
        go_simp
        try with_reducible rfl
      try simp only [Act.put, List.setIfInBounds_toArray, List.set_cons_zero, List.set_cons_succ]
      refine wpAnyH_take (i := 31) (oi := { dst := some 67, op := Op.move (Operand.tmp 66), type := 4, pos := "laws.go:146", after := #[{ on := 30, ground := Ground.data }, { on := 29, ground := Ground.chain }, { on := 23, ground := Ground.guard }], guard := some (23, false) }) (v := ?vf31) rfl (by kernel_rfl) (by kernel_rfl) (by kernel_rfl) (fun _ _ _ h => h) (Or.inl ⟨by rfl, ?hyf31⟩) (by assumption) ?restf31
      case hyf31 =>
        intro w hSw
        (try dsimp only at hSw)
        go_simp
        try with_reducible rfl
      try simp only [Act.put, List.setIfInBounds_toArray, List.set_cons_zero, List.set_cons_succ]
      refine wpAnyH_take (i := 32) (oi := { dst := some 68, op := Op.move (Operand.tmp 5), type := 43, pos := "laws.go:146", after := #[{ on := 31, ground := Ground.guard }], guard := some (31, true) }) (v := undef) rfl (by kernel_rfl) (by kernel_rfl) (by kernel_rfl) (fun _ _ _ h => h) (Or.inr ⟨by rfl, rfl⟩) (by assumption) ?_
      try simp only [Act.put, List.setIfInBounds_toArray, List.set_cons_zero, List.set_cons_succ]
      refine wpAnyH_take (i := 33) (oi := { dst := some 69, op := Op.load 35 (Operand.tmp 6), type := 35, pos := "laws.go:146", after := #[{ on := 31, ground := Ground.guard }], guard := some (31, true) }) (v := undef) rfl (by kernel_rfl) (by kernel_rfl) (by kernel_rfl) (fun _ _ _ h => h) (Or.inr ⟨by rfl, rfl⟩) (by assumption) ?_
      try simp only [Act.put, List.setIfInBounds_toArray, List.set_cons_zero, List.set_cons_succ]
      refine wpAnyH_take (i := 34) (oi := { dst := some 70, op := Op.load 35 (Operand.tmp 9), type := 35, pos := "laws.go:146", after := #[{ on := 31, ground := Ground.guard }], guard := some (31, true) }) (v := undef) rfl (by kernel_rfl) (by kernel_rfl) (by kernel_rfl) (fun _ _ _ h => h) (Or.inr ⟨by rfl, rfl⟩) (by assumption) ?_
      try simp only [Act.put, List.setIfInBounds_toArray, List.set_cons_zero, List.set_cons_succ]
      refine wpAnyH_take (i := 35) (oi := { dst := some 71, op := Op.call { callee := Callee.value (Operand.func 41), args := #[Operand.tmp 68, Operand.tmp 69, Operand.tmp 70], argTypes := #[43, 35, 35] }, type := 4, pos := "laws.go:146", after := #[{ on := 32, ground := Ground.data }, { on := 33, ground := Ground.data }, { on := 34, ground := Ground.data }, { on := 31, ground := Ground.chain }, { on := 31, ground := Ground.guard }], guard := some (31, true) }) (v := undef) rfl (by kernel_rfl) (by kernel_rfl) (by kernel_rfl) (fun _ _ _ h => h) (Or.inr ⟨by rfl, rfl⟩) (by assumption) ?_
      try simp only [Act.put, List.setIfInBounds_toArray, List.set_cons_zero, List.set_cons_succ]
      refine wpAnyH_take (i := 36) (oi := { dst := some 72, op := Op.unOp UnOp.not 4 (Operand.tmp 71), type := 4, pos := "laws.go:146", after := #[{ on := 35, ground := Ground.data }, { on := 31, ground := Ground.guard }], guard := some (31, true) }) (v := undef) rfl (by kernel_rfl) (by kernel_rfl) (by kernel_rfl) (fun _ _ _ h => h) (Or.inr ⟨by rfl, rfl⟩) (by assumption) ?_
      try simp only [Act.put, List.setIfInBounds_toArray, List.set_cons_zero, List.set_cons_succ]
      refine wpAnyH_take (i := 37) (oi := { dst := some 73, op := Op.pick (Operand.tmp 67) (Operand.tmp 72) (Operand.const (Value.bool false)), type := 4, pos := "laws.go:146", after := #[{ on := 31, ground := Ground.data }, { on := 36, ground := Ground.data }, { on := 23, ground := Ground.guard }], guard := some (23, false) }) (v := ?vf37) rfl (by kernel_rfl) (by kernel_rfl) (by kernel_rfl) (fun _ _ _ h => h) (Or.inl ⟨by rfl, ?hyf37⟩) (by assumption) ?restf37
      case hyf37 =>
        intro w hSw
        (try dsimp only at hSw)
        go_simp
        try with_reducible rfl
      try simp only [Act.put, List.setIfInBounds_toArray, List.set_cons_zero, List.set_cons_succ]
      refine wpAnyH_take (i := 38) (oi := { dst := some 74, op := Op.pick (Operand.tmp 59) (Operand.const (Value.bool true)) (Operand.tmp 73), type := 4, pos := "laws.go:146", after := #[{ on := 23, ground := Ground.data }, { on := 37, ground := Ground.data }], guard := none }) (v := ?vf38) rfl (by kernel_rfl) (by kernel_rfl) (by kernel_rfl) (fun _ _ _ h => h) (Or.inl ⟨by rfl, ?hyf38⟩) (by assumption) ?restf38
      case hyf38 =>
        intro w hSw
        (try dsimp only at hSw)
        go_simp
        try with_reducible rfl
      try simp only [Act.put, List.setIfInBounds_toArray, List.set_cons_zero, List.set_cons_succ]
      refine wpAnyH_done (by kernel_rfl) ?_ _
      exact tail _ _ _ _ _ _ _ _ _ _ _ _ _ _ _ _ _ _ _ _ _ _ _ _ _ _ _ _ _ _ _ _ _ _ _ _ _ _ _ _ _ _ _ _ _ _ _ _ _ _ _ _ _ _ _ _ _ _ _ _ _ w8 p80 p81 p82 p83 p84 p85 p86 p87 p88 p89 p810 p811 z8 B8
    | true =>
      obtain rfl : u = true := HT.out rfl rfl
      refine wp_region_held_drew (S := (fun w' => w2.heap.size + 1 ≤ w'.heap.size ∧ w'.cell? ⟨w1.heap.size, 0, none⟩ = some (.string sc) ∧ w'.cell? ⟨w1.heap.size, 1, none⟩ = some (.string ho) ∧ w'.cell? ⟨w1.heap.size, 2, none⟩ = some (.int .i64 po) ∧ w'.cell? ⟨w1.heap.size, 3, none⟩ = some (.string pa) ∧ w'.cell? ⟨w1.heap.size + 1, 0, none⟩ = some (.string sc2) ∧ w'.cell? ⟨w1.heap.size + 1, 1, none⟩ = some (.string ho2) ∧ w'.cell? ⟨w1.heap.size + 1, 2, none⟩ = some (.int .i64 po2) ∧ w'.cell? ⟨w1.heap.size + 1, 3, none⟩ = some (.string pa2) ∧ w'.cell? ⟨w2.heap.size, 0, none⟩ = some (.string sc3) ∧ w'.cell? ⟨w2.heap.size, 1, none⟩ = some (.string ho3) ∧ w'.cell? ⟨w2.heap.size, 2, none⟩ = some (.int .i64 po3) ∧ w'.cell? ⟨w2.heap.size, 3, none⟩ = some (.string pa3))) (by kernel_rfl) ?_ (fun hH0 => ?_)
      · (try dsimp only)
        go_keep
      refine wpAnyH_take (i := 0) (oi := { dst := some 36, op := Op.move (Operand.tmp 10), type := 4, pos := "laws.go:146", after := #[], guard := none }) (v := ?vg0) rfl (by kernel_rfl) (by kernel_rfl) (by kernel_rfl) (fun _ _ _ h => h) (Or.inl ⟨by rfl, ?hyg0⟩) (by assumption) ?restg0
      case hyg0 =>
        intro w hSw
        (try dsimp only at hSw)
        go_simp
        try with_reducible rfl
      try simp only [Act.put, List.setIfInBounds_toArray, List.set_cons_zero, List.set_cons_succ]
      refine wpAnyH_take (i := 1) (oi := { dst := some 37, op := Op.move (Operand.tmp 5), type := 43, pos := "laws.go:146", after := #[], guard := none }) (v := ?vg1) rfl (by kernel_rfl) (by kernel_rfl) (by kernel_rfl) (fun _ _ _ h => h) (Or.inl ⟨by rfl, ?hyg1⟩) (by assumption) ?restg1
      case hyg1 =>
        intro w hSw
        (try dsimp only at hSw)
        go_simp
        try with_reducible rfl
      try simp only [Act.put, List.setIfInBounds_toArray, List.set_cons_zero, List.set_cons_succ]
      refine wpAnyH_take (i := 2) (oi := { dst := some 38, op := Op.load 35 (Operand.tmp 6), type := 35, pos := "laws.go:146", after := #[], guard := none }) (v := ?vg2) rfl (by kernel_rfl) (by kernel_rfl) (by kernel_rfl) (fun _ _ _ h => h) (Or.inl ⟨by rfl, ?hyg2⟩) (by assumption) ?restg2
      case hyg2 =>
        intro w hSw
        (try dsimp only at hSw)
        go_simp
        try with_reducible rfl
      try simp only [Act.put, List.setIfInBounds_toArray, List.set_cons_zero, List.set_cons_succ]
      refine wpAnyH_take (i := 3) (oi := { dst := some 39, op := Op.load 35 (Operand.tmp 7), type := 35, pos := "laws.go:146", after := #[], guard := none }) (v := ?vg3) rfl (by kernel_rfl) (by kernel_rfl) (by kernel_rfl) (fun _ _ _ h => h) (Or.inl ⟨by rfl, ?hyg3⟩) (by assumption) ?restg3
      case hyg3 =>
        intro w hSw
        (try dsimp only at hSw)
        go_simp
        try with_reducible rfl
      try simp only [Act.put, List.setIfInBounds_toArray, List.set_cons_zero, List.set_cons_succ]
      refine wpAnyH_ready (rs := [4]) (by kernel_rfl) (by simp) ?_
      refine AllReadyH.cons (o := { dst := some 40, op := Op.call { callee := Callee.value (Operand.func 42), args := #[Operand.tmp 37, Operand.tmp 38, Operand.tmp 39], argTypes := #[43, 35, 35] }, type := 4, pos := "laws.go:146", after := #[{ on := 1, ground := Ground.data }, { on := 2, ground := Ground.data }, { on := 3, ground := Ground.data }], guard := none }) rfl (fun K hK => ?_) AllReadyH.nil
      go_simp
      (go_at_call 42; refine (TAB.out _ (B3.out.trans (Below.drew (Below.refl _ _)))).mono ?_; rintro e w4 ⟨rfl, hb4⟩; have T4 := Cells.below (L := [(⟨w1.heap.size, 0, none⟩, .string sc), (⟨w1.heap.size, 1, none⟩, .string ho), (⟨w1.heap.size, 2, none⟩, .int .i64 po), (⟨w1.heap.size, 3, none⟩, .string pa), (⟨w1.heap.size + 1, 0, none⟩, .string sc2), (⟨w1.heap.size + 1, 1, none⟩, .string ho2), (⟨w1.heap.size + 1, 2, none⟩, .int .i64 po2), (⟨w1.heap.size + 1, 3, none⟩, .string pa2), (⟨w2.heap.size, 0, none⟩, .string sc3), (⟨w2.heap.size, 1, none⟩, .string ho3), (⟨w2.heap.size, 2, none⟩, .int .i64 po3), (⟨w2.heap.size, 3, none⟩, .string pa3)]) (by simp only [Cells]; go_keep) hb4; simp only [Cells] at T4; obtain ⟨p40, p41, p42, p43, p44, p45, p46, p47, p48, p49, p410, p411, -⟩ := T4; have z4 : w2.heap.size + 1 ≤ w4.heap.size := Nat.le_trans z3 hb4.size; have B4 : Hid (Below wb.heap.size wb w4) := (B3.out.trans (Below.drew (Below.refl _ _))).trans (hb4.mono (by have := B3.out.size; simpa using this)))
      try (go_wp2_with fail)
      refine hK.out _ _ ?_ (fun hH1 => ?_)
      · (try dsimp only)
        go_keep
      clear hK K hH0
      try simp only [Act.put, List.setIfInBounds_toArray, List.set_cons_zero, List.set_cons_succ]
      refine wpAnyH_take (i := 5) (oi := { dst := some 41, op := Op.binOp BinOp.neq 4 (Operand.tmp 36) (Operand.tmp 40) 4, type := 4, pos := "laws.go:146", after := #[{ on := 0, ground := Ground.data }, { on := 4, ground := Ground.data }], guard := none }) (v := ?vg5) rfl (by kernel_rfl) (by kernel_rfl) (by kernel_rfl) (fun _ _ _ h => h) (Or.inl ⟨by rfl, ?hyg5⟩) (by assumption) ?restg5
      case hyg5 =>
        intro w hSw
        (try dsimp only at hSw)
        go_simp
        try with_reducible rfl
      try simp only [Act.put, List.setIfInBounds_toArray, List.set_cons_zero, List.set_cons_succ]
      refine wpAnyH_take (i := 6) (oi := { dst := some 42, op := Op.move (Operand.tmp 41), type := 4, pos := "laws.go:146", after := #[{ on := 5, ground := Ground.data }, { on := 4, ground := Ground.chain }], guard := none }) (v := ?vg6) rfl (by kernel_rfl) (by kernel_rfl) (by kernel_rfl) (fun _ _ _ h => h) (Or.inl ⟨by rfl, ?hyg6⟩) (by assumption) ?restg6
      case hyg6 =>
        intro w hSw
        (try dsimp only at hSw)
        go_simp
        try with_reducible rfl
      try simp only [Act.put, List.setIfInBounds_toArray, List.set_cons_zero, List.set_cons_succ]
      refine wpAnyH_take (i := 7) (oi := { dst := some 43, op := Op.move (Operand.tmp 5), type := 43, pos := "laws.go:146", after := #[{ on := 6, ground := Ground.guard }], guard := some (6, false) }) (v := ?vg7) rfl (by kernel_rfl) (by kernel_rfl) (by kernel_rfl) (fun _ _ _ h => h) (Or.inl ⟨by rfl, ?hyg7⟩) (by assumption) ?restg7
      case hyg7 =>
        intro w hSw
        (try dsimp only at hSw)
        go_simp
        try with_reducible rfl
      try simp only [Act.put, List.setIfInBounds_toArray, List.set_cons_zero, List.set_cons_succ]
      refine wpAnyH_take (i := 8) (oi := { dst := some 44, op := Op.load 35 (Operand.tmp 7), type := 35, pos := "laws.go:146", after := #[{ on := 6, ground := Ground.guard }], guard := some (6, false) }) (v := ?vg8) rfl (by kernel_rfl) (by kernel_rfl) (by kernel_rfl) (fun _ _ _ h => h) (Or.inl ⟨by rfl, ?hyg8⟩) (by assumption) ?restg8
      case hyg8 =>
        intro w hSw
        (try dsimp only at hSw)
        go_simp
        try with_reducible rfl
      try simp only [Act.put, List.setIfInBounds_toArray, List.set_cons_zero, List.set_cons_succ]
      refine wpAnyH_take (i := 9) (oi := { dst := some 45, op := Op.load 35 (Operand.tmp 6), type := 35, pos := "laws.go:146", after := #[{ on := 6, ground := Ground.guard }], guard := some (6, false) }) (v := ?vg9) rfl (by kernel_rfl) (by kernel_rfl) (by kernel_rfl) (fun _ _ _ h => h) (Or.inl ⟨by rfl, ?hyg9⟩) (by assumption) ?restg9
      case hyg9 =>
        intro w hSw
        (try dsimp only at hSw)
        go_simp
        try with_reducible rfl
      try simp only [Act.put, List.setIfInBounds_toArray, List.set_cons_zero, List.set_cons_succ]
      refine wpAnyH_take (i := 11) (oi := { dst := some 47, op := Op.move (Operand.tmp 10), type := 4, pos := "laws.go:146", after := #[{ on := 6, ground := Ground.guard }], guard := some (6, false) }) (v := ?vg11) rfl (by kernel_rfl) (by kernel_rfl) (by kernel_rfl) (fun _ _ _ h => h) (Or.inl ⟨by rfl, ?hyg11⟩) (by assumption) ?restg11
      case hyg11 =>
        intro w hSw
        (try dsimp only at hSw)
        go_simp
        try with_reducible rfl
      try simp only [Act.put, List.setIfInBounds_toArray, List.set_cons_zero, List.set_cons_succ]
      refine wpAnyH_ready (rs := [10]) (by kernel_rfl) (by simp) ?_
      refine AllReadyH.cons (o := { dst := some 46, op := Op.call { callee := Callee.value (Operand.func 41), args := #[Operand.tmp 43, Operand.tmp 44, Operand.tmp 45], argTypes := #[43, 35, 35] }, type := 4, pos := "laws.go:146", after := #[{ on := 7, ground := Ground.data }, { on := 8, ground := Ground.data }, { on := 9, ground := Ground.data }, { on := 6, ground := Ground.chain }, { on := 6, ground := Ground.guard }], guard := some (6, false) }) rfl (fun K hK => ?_) AllReadyH.nil
      go_simp
      (go_at_call 41; refine (KBA.out _ B4.out).mono ?_; rintro e w5 ⟨rfl, hb5⟩; have T5 := Cells.below (L := [(⟨w1.heap.size, 0, none⟩, .string sc), (⟨w1.heap.size, 1, none⟩, .string ho), (⟨w1.heap.size, 2, none⟩, .int .i64 po), (⟨w1.heap.size, 3, none⟩, .string pa), (⟨w1.heap.size + 1, 0, none⟩, .string sc2), (⟨w1.heap.size + 1, 1, none⟩, .string ho2), (⟨w1.heap.size + 1, 2, none⟩, .int .i64 po2), (⟨w1.heap.size + 1, 3, none⟩, .string pa2), (⟨w2.heap.size, 0, none⟩, .string sc3), (⟨w2.heap.size, 1, none⟩, .string ho3), (⟨w2.heap.size, 2, none⟩, .int .i64 po3), (⟨w2.heap.size, 3, none⟩, .string pa3)]) (by simp only [Cells]; go_keep) hb5; simp only [Cells] at T5; obtain ⟨p50, p51, p52, p53, p54, p55, p56, p57, p58, p59, p510, p511, -⟩ := T5; have z5 : w2.heap.size + 1 ≤ w5.heap.size := Nat.le_trans z4 hb5.size; have B5 : Hid (Below wb.heap.size wb w5) := B4.out.trans (hb5.mono B4.out.size); clear p40 p41 p42 p43 p44 p45 p46 p47 p48 p49 p410 p411 z4 hb4)
      try (go_wp2_with fail)
      refine hK.out _ _ ?_ (fun hH2 => ?_)
      · (try dsimp only)
        go_keep
      clear hK K hH1
      try simp only [Act.put, List.setIfInBounds_toArray, List.set_cons_zero, List.set_cons_succ]
      refine wpAnyH_take (i := 12) (oi := { dst := some 48, op := Op.binOp BinOp.neq 4 (Operand.tmp 46) (Operand.tmp 47) 4, type := 4, pos := "laws.go:146", after := #[{ on := 10, ground := Ground.data }, { on := 11, ground := Ground.data }, { on := 6, ground := Ground.guard }], guard := some (6, false) }) (v := ?vg12) rfl (by kernel_rfl) (by kernel_rfl) (by kernel_rfl) (fun _ _ _ h => h) (Or.inl ⟨by rfl, ?hyg12⟩) (by assumption) ?restg12
      case hyg12 =>
        intro w hSw
        (try dsimp only at hSw)
        go_simp
        try with_reducible rfl
      try simp only [Act.put, List.setIfInBounds_toArray, List.set_cons_zero, List.set_cons_succ]
      refine wpAnyH_take (i := 13) (oi := { dst := some 49, op := Op.pick (Operand.tmp 42) (Operand.const (Value.bool true)) (Operand.tmp 48), type := 4, pos := "laws.go:146", after := #[{ on := 6, ground := Ground.data }, { on := 12, ground := Ground.data }], guard := none }) (v := ?vg13) rfl (by kernel_rfl) (by kernel_rfl) (by kernel_rfl) (fun _ _ _ h => h) (Or.inl ⟨by rfl, ?hyg13⟩) (by assumption) ?restg13
      case hyg13 =>
        intro w hSw
        (try dsimp only at hSw)
        go_simp
        try with_reducible rfl
      try simp only [Act.put, List.setIfInBounds_toArray, List.set_cons_zero, List.set_cons_succ]
      refine wpAnyH_take (i := 14) (oi := { dst := some 50, op := Op.move (Operand.tmp 49), type := 4, pos := "laws.go:146", after := #[{ on := 13, ground := Ground.data }, { on := 10, ground := Ground.chain }], guard := none }) (v := ?vg14) rfl (by kernel_rfl) (by kernel_rfl) (by kernel_rfl) (fun _ _ _ h => h) (Or.inl ⟨by rfl, ?hyg14⟩) (by assumption) ?restg14
      case hyg14 =>
        intro w hSw
        (try dsimp only at hSw)
        go_simp
        try with_reducible rfl
      try simp only [Act.put, List.setIfInBounds_toArray, List.set_cons_zero, List.set_cons_succ]
      refine wpAnyH_take (i := 15) (oi := { dst := some 51, op := Op.move (Operand.tmp 5), type := 43, pos := "laws.go:146", after := #[{ on := 14, ground := Ground.guard }], guard := some (14, false) }) (v := ?vg15) rfl (by kernel_rfl) (by kernel_rfl) (by kernel_rfl) (fun _ _ _ h => h) (Or.inl ⟨by rfl, ?hyg15⟩) (by assumption) ?restg15
      case hyg15 =>
        intro w hSw
        (try dsimp only at hSw)
        go_simp
        try with_reducible rfl
      try simp only [Act.put, List.setIfInBounds_toArray, List.set_cons_zero, List.set_cons_succ]
      refine wpAnyH_take (i := 16) (oi := { dst := some 52, op := Op.load 35 (Operand.tmp 9), type := 35, pos := "laws.go:146", after := #[{ on := 14, ground := Ground.guard }], guard := some (14, false) }) (v := ?vg16) rfl (by kernel_rfl) (by kernel_rfl) (by kernel_rfl) (fun _ _ _ h => h) (Or.inl ⟨by rfl, ?hyg16⟩) (by assumption) ?restg16
      case hyg16 =>
        intro w hSw
        (try dsimp only at hSw)
        go_simp
        try with_reducible rfl
      try simp only [Act.put, List.setIfInBounds_toArray, List.set_cons_zero, List.set_cons_succ]
      refine wpAnyH_take (i := 18) (oi := { dst := some 54, op := Op.move (Operand.tmp 5), type := 43, pos := "laws.go:146", after := #[{ on := 14, ground := Ground.guard }], guard := some (14, false) }) (v := ?vg18) rfl (by kernel_rfl) (by kernel_rfl) (by kernel_rfl) (fun _ _ _ h => h) (Or.inl ⟨by rfl, ?hyg18⟩) (by assumption) ?restg18
      case hyg18 =>
        intro w hSw
        (try dsimp only at hSw)
        go_simp
        try with_reducible rfl
      try simp only [Act.put, List.setIfInBounds_toArray, List.set_cons_zero, List.set_cons_succ]
      refine wpAnyH_take (i := 19) (oi := { dst := some 55, op := Op.load 35 (Operand.tmp 9), type := 35, pos := "laws.go:146", after := #[{ on := 14, ground := Ground.guard }], guard := some (14, false) }) (v := ?vg19) rfl (by kernel_rfl) (by kernel_rfl) (by kernel_rfl) (fun _ _ _ h => h) (Or.inl ⟨by rfl, ?hyg19⟩) (by assumption) ?restg19
      case hyg19 =>
        intro w hSw
        (try dsimp only at hSw)
        go_simp
        try with_reducible rfl
      try simp only [Act.put, List.setIfInBounds_toArray, List.set_cons_zero, List.set_cons_succ]
      refine wpAnyH_ready (rs := [17]) (by kernel_rfl) (by simp) ?_
      refine AllReadyH.cons (o := { dst := some 53, op := Op.call { callee := Callee.value (Operand.func 43), args := #[Operand.tmp 51, Operand.tmp 52], argTypes := #[43, 35] }, type := 9, pos := "laws.go:146", after := #[{ on := 15, ground := Ground.data }, { on := 16, ground := Ground.data }, { on := 14, ground := Ground.chain }, { on := 14, ground := Ground.guard }], guard := some (14, false) }) rfl (fun K hK => ?_) AllReadyH.nil
      go_simp
      (go_at_call 43; refine (KC.out _ B5.out).mono ?_; rintro e w6 ⟨rfl, hb6⟩; have T6 := Cells.below (L := [(⟨w1.heap.size, 0, none⟩, .string sc), (⟨w1.heap.size, 1, none⟩, .string ho), (⟨w1.heap.size, 2, none⟩, .int .i64 po), (⟨w1.heap.size, 3, none⟩, .string pa), (⟨w1.heap.size + 1, 0, none⟩, .string sc2), (⟨w1.heap.size + 1, 1, none⟩, .string ho2), (⟨w1.heap.size + 1, 2, none⟩, .int .i64 po2), (⟨w1.heap.size + 1, 3, none⟩, .string pa2), (⟨w2.heap.size, 0, none⟩, .string sc3), (⟨w2.heap.size, 1, none⟩, .string ho3), (⟨w2.heap.size, 2, none⟩, .int .i64 po3), (⟨w2.heap.size, 3, none⟩, .string pa3)]) (by simp only [Cells]; go_keep) hb6; simp only [Cells] at T6; obtain ⟨p60, p61, p62, p63, p64, p65, p66, p67, p68, p69, p610, p611, -⟩ := T6; have z6 : w2.heap.size + 1 ≤ w6.heap.size := Nat.le_trans z5 hb6.size; have B6 : Hid (Below wb.heap.size wb w6) := B5.out.trans (hb6.mono B5.out.size); clear p50 p51 p52 p53 p54 p55 p56 p57 p58 p59 p510 p511 z5 hb5)
      try (go_wp2_with fail)
      refine hK.out _ _ ?_ (fun hH3 => ?_)
      · (try dsimp only)
        go_keep
      clear hK K hH2
      try simp only [Act.put, List.setIfInBounds_toArray, List.set_cons_zero, List.set_cons_succ]
      refine wpAnyH_ready (rs := [20]) (by kernel_rfl) (by simp) ?_
      refine AllReadyH.cons (o := { dst := some 56, op := Op.call { callee := Callee.value (Operand.func 44), args := #[Operand.tmp 54, Operand.tmp 55], argTypes := #[43, 35] }, type := 9, pos := "laws.go:146", after := #[{ on := 18, ground := Ground.data }, { on := 19, ground := Ground.data }, { on := 17, ground := Ground.chain }, { on := 14, ground := Ground.guard }], guard := some (14, false) }) rfl (fun K hK => ?_) AllReadyH.nil
      go_simp
      (go_at_call 44; refine (TC.out _ B6.out).mono ?_; rintro e w7 ⟨rfl, hb7⟩; have T7 := Cells.below (L := [(⟨w1.heap.size, 0, none⟩, .string sc), (⟨w1.heap.size, 1, none⟩, .string ho), (⟨w1.heap.size, 2, none⟩, .int .i64 po), (⟨w1.heap.size, 3, none⟩, .string pa), (⟨w1.heap.size + 1, 0, none⟩, .string sc2), (⟨w1.heap.size + 1, 1, none⟩, .string ho2), (⟨w1.heap.size + 1, 2, none⟩, .int .i64 po2), (⟨w1.heap.size + 1, 3, none⟩, .string pa2), (⟨w2.heap.size, 0, none⟩, .string sc3), (⟨w2.heap.size, 1, none⟩, .string ho3), (⟨w2.heap.size, 2, none⟩, .int .i64 po3), (⟨w2.heap.size, 3, none⟩, .string pa3)]) (by simp only [Cells]; go_keep) hb7; simp only [Cells] at T7; obtain ⟨p70, p71, p72, p73, p74, p75, p76, p77, p78, p79, p710, p711, -⟩ := T7; have z7 : w2.heap.size + 1 ≤ w7.heap.size := Nat.le_trans z6 hb7.size; have B7 : Hid (Below wb.heap.size wb w7) := B6.out.trans (hb7.mono B6.out.size); clear p60 p61 p62 p63 p64 p65 p66 p67 p68 p69 p610 p611 z6 hb6)
      try (go_wp2_with fail)
      refine hK.out _ _ ?_ (fun hH4 => ?_)
      · (try dsimp only)
        go_keep
      clear hK K hH3
      try simp only [Act.put, List.setIfInBounds_toArray, List.set_cons_zero, List.set_cons_succ]
      refine wpAnyH_take (i := 21) (oi := { dst := some 57, op := Op.binOp BinOp.neq 9 (Operand.tmp 53) (Operand.tmp 56) 9, type := 4, pos := "laws.go:146", after := #[{ on := 17, ground := Ground.data }, { on := 20, ground := Ground.data }, { on := 14, ground := Ground.guard }], guard := some (14, false) }) (v := ?vg21) rfl (by kernel_rfl) (by kernel_rfl) (by kernel_rfl) (fun _ _ _ h => h) (Or.inl ⟨by rfl, ?hyg21⟩) (by assumption) ?restg21
      case hyg21 =>
        intro w hSw
        (try dsimp only at hSw)
        go_simp
        try with_reducible rfl
      try simp only [Act.put, List.setIfInBounds_toArray, List.set_cons_zero, List.set_cons_succ]
      refine wpAnyH_take (i := 22) (oi := { dst := some 58, op := Op.pick (Operand.tmp 50) (Operand.const (Value.bool true)) (Operand.tmp 57), type := 4, pos := "laws.go:146", after := #[{ on := 14, ground := Ground.data }, { on := 21, ground := Ground.data }], guard := none }) (v := ?vg22) rfl (by kernel_rfl) (by kernel_rfl) (by kernel_rfl) (fun _ _ _ h => h) (Or.inl ⟨by rfl, ?hyg22⟩) (by assumption) ?restg22
      case hyg22 =>
        intro w hSw
        (try dsimp only at hSw)
        go_simp
        try with_reducible rfl
      try simp only [Act.put, List.setIfInBounds_toArray, List.set_cons_zero, List.set_cons_succ]
      refine wpAnyH_take (i := 23) (oi := { dst := some 59, op := Op.move (Operand.tmp 58), type := 4, pos := "laws.go:146", after := #[{ on := 22, ground := Ground.data }, { on := 20, ground := Ground.chain }], guard := none }) (v := ?vg23) rfl (by kernel_rfl) (by kernel_rfl) (by kernel_rfl) (fun _ _ _ h => h) (Or.inl ⟨by rfl, ?hyg23⟩) (by assumption) ?restg23
      case hyg23 =>
        intro w hSw
        (try dsimp only at hSw)
        go_simp
        try with_reducible rfl
      try simp only [Act.put, List.setIfInBounds_toArray, List.set_cons_zero, List.set_cons_succ]
      refine wpAnyH_take (i := 24) (oi := { dst := some 60, op := Op.move (Operand.tmp 10), type := 4, pos := "laws.go:146", after := #[{ on := 23, ground := Ground.guard }], guard := some (23, false) }) (v := ?vg24) rfl (by kernel_rfl) (by kernel_rfl) (by kernel_rfl) (fun _ _ _ h => h) (Or.inl ⟨by rfl, ?hyg24⟩) (by assumption) ?restg24
      case hyg24 =>
        intro w hSw
        (try dsimp only at hSw)
        go_simp
        try with_reducible rfl
      try simp only [Act.put, List.setIfInBounds_toArray, List.set_cons_zero, List.set_cons_succ]
      refine wpAnyH_take (i := 25) (oi := { dst := some 61, op := Op.move (Operand.tmp 60), type := 4, pos := "laws.go:146", after := #[{ on := 24, ground := Ground.data }, { on := 23, ground := Ground.chain }, { on := 23, ground := Ground.guard }], guard := some (23, false) }) (v := ?vg25) rfl (by kernel_rfl) (by kernel_rfl) (by kernel_rfl) (fun _ _ _ h => h) (Or.inl ⟨by rfl, ?hyg25⟩) (by assumption) ?restg25
      case hyg25 =>
        intro w hSw
        (try dsimp only at hSw)
        go_simp
        try with_reducible rfl
      try simp only [Act.put, List.setIfInBounds_toArray, List.set_cons_zero, List.set_cons_succ]
      refine wpAnyH_take (i := 26) (oi := { dst := some 62, op := Op.move (Operand.tmp 5), type := 43, pos := "laws.go:146", after := #[{ on := 25, ground := Ground.guard }], guard := some (25, true) }) (v := ?vg26) rfl (by kernel_rfl) (by kernel_rfl) (by kernel_rfl) (fun _ _ _ h => h) (Or.inl ⟨by rfl, ?hyg26⟩) (by assumption) ?restg26
      case hyg26 =>
        intro w hSw
        (try dsimp only at hSw)
        go_simp
        try with_reducible rfl
      try simp only [Act.put, List.setIfInBounds_toArray, List.set_cons_zero, List.set_cons_succ]
      refine wpAnyH_take (i := 27) (oi := { dst := some 63, op := Op.load 35 (Operand.tmp 7), type := 35, pos := "laws.go:146", after := #[{ on := 25, ground := Ground.guard }], guard := some (25, true) }) (v := ?vg27) rfl (by kernel_rfl) (by kernel_rfl) (by kernel_rfl) (fun _ _ _ h => h) (Or.inl ⟨by rfl, ?hyg27⟩) (by assumption) ?restg27
      case hyg27 =>
        intro w hSw
        (try dsimp only at hSw)
        go_simp
        try with_reducible rfl
      try simp only [Act.put, List.setIfInBounds_toArray, List.set_cons_zero, List.set_cons_succ]
      refine wpAnyH_take (i := 28) (oi := { dst := some 64, op := Op.load 35 (Operand.tmp 9), type := 35, pos := "laws.go:146", after := #[{ on := 25, ground := Ground.guard }], guard := some (25, true) }) (v := ?vg28) rfl (by kernel_rfl) (by kernel_rfl) (by kernel_rfl) (fun _ _ _ h => h) (Or.inl ⟨by rfl, ?hyg28⟩) (by assumption) ?restg28
      case hyg28 =>
        intro w hSw
        (try dsimp only at hSw)
        go_simp
        try with_reducible rfl
      try simp only [Act.put, List.setIfInBounds_toArray, List.set_cons_zero, List.set_cons_succ]
      refine wpAnyH_ready (rs := [29]) (by kernel_rfl) (by simp) ?_
      refine AllReadyH.cons (o := { dst := some 65, op := Op.call { callee := Callee.value (Operand.func 41), args := #[Operand.tmp 62, Operand.tmp 63, Operand.tmp 64], argTypes := #[43, 35, 35] }, type := 4, pos := "laws.go:146", after := #[{ on := 26, ground := Ground.data }, { on := 27, ground := Ground.data }, { on := 28, ground := Ground.data }, { on := 25, ground := Ground.chain }, { on := 25, ground := Ground.guard }], guard := some (25, true) }) rfl (fun K hK => ?_) AllReadyH.nil
      go_simp
      (go_at_call 41; refine (KBC.out _ B7.out).mono ?_; rintro e w8 ⟨rfl, hb8⟩; have T8 := Cells.below (L := [(⟨w1.heap.size, 0, none⟩, .string sc), (⟨w1.heap.size, 1, none⟩, .string ho), (⟨w1.heap.size, 2, none⟩, .int .i64 po), (⟨w1.heap.size, 3, none⟩, .string pa), (⟨w1.heap.size + 1, 0, none⟩, .string sc2), (⟨w1.heap.size + 1, 1, none⟩, .string ho2), (⟨w1.heap.size + 1, 2, none⟩, .int .i64 po2), (⟨w1.heap.size + 1, 3, none⟩, .string pa2), (⟨w2.heap.size, 0, none⟩, .string sc3), (⟨w2.heap.size, 1, none⟩, .string ho3), (⟨w2.heap.size, 2, none⟩, .int .i64 po3), (⟨w2.heap.size, 3, none⟩, .string pa3)]) (by simp only [Cells]; go_keep) hb8; simp only [Cells] at T8; obtain ⟨p80, p81, p82, p83, p84, p85, p86, p87, p88, p89, p810, p811, -⟩ := T8; have z8 : w2.heap.size + 1 ≤ w8.heap.size := Nat.le_trans z7 hb8.size; have B8 : Hid (Below wb.heap.size wb w8) := B7.out.trans (hb8.mono B7.out.size); clear p70 p71 p72 p73 p74 p75 p76 p77 p78 p79 p710 p711 z7 hb7)
      try (go_wp2_with fail)
      refine hK.out _ _ ?_ (fun hH5 => ?_)
      · (try dsimp only)
        go_keep
      clear hK K hH4
      try simp only [Act.put, List.setIfInBounds_toArray, List.set_cons_zero, List.set_cons_succ]
      refine wpAnyH_take (i := 30) (oi := { dst := some 66, op := Op.pick (Operand.tmp 61) (Operand.tmp 65) (Operand.const (Value.bool false)), type := 4, pos := "laws.go:146", after := #[{ on := 25, ground := Ground.data }, { on := 29, ground := Ground.data }, { on := 23, ground := Ground.guard }], guard := some (23, false) }) (v := ?vg30) rfl (by kernel_rfl) (by kernel_rfl) (by kernel_rfl) (fun _ _ _ h => h) (Or.inl ⟨by rfl, ?hyg30⟩) (by assumption) ?restg30
      case hyg30 =>
        intro w hSw
        (try dsimp only at hSw)
        go_simp
        try with_reducible rfl
      try simp only [Act.put, List.setIfInBounds_toArray, List.set_cons_zero, List.set_cons_succ]
      refine wpAnyH_take (i := 31) (oi := { dst := some 67, op := Op.move (Operand.tmp 66), type := 4, pos := "laws.go:146", after := #[{ on := 30, ground := Ground.data }, { on := 29, ground := Ground.chain }, { on := 23, ground := Ground.guard }], guard := some (23, false) }) (v := ?vg31) rfl (by kernel_rfl) (by kernel_rfl) (by kernel_rfl) (fun _ _ _ h => h) (Or.inl ⟨by rfl, ?hyg31⟩) (by assumption) ?restg31
      case hyg31 =>
        intro w hSw
        (try dsimp only at hSw)
        go_simp
        try with_reducible rfl
      try simp only [Act.put, List.setIfInBounds_toArray, List.set_cons_zero, List.set_cons_succ]
      refine wpAnyH_take (i := 32) (oi := { dst := some 68, op := Op.move (Operand.tmp 5), type := 43, pos := "laws.go:146", after := #[{ on := 31, ground := Ground.guard }], guard := some (31, true) }) (v := ?vg32) rfl (by kernel_rfl) (by kernel_rfl) (by kernel_rfl) (fun _ _ _ h => h) (Or.inl ⟨by rfl, ?hyg32⟩) (by assumption) ?restg32
      case hyg32 =>
        intro w hSw
        (try dsimp only at hSw)
        go_simp
        try with_reducible rfl
      try simp only [Act.put, List.setIfInBounds_toArray, List.set_cons_zero, List.set_cons_succ]
      refine wpAnyH_take (i := 33) (oi := { dst := some 69, op := Op.load 35 (Operand.tmp 6), type := 35, pos := "laws.go:146", after := #[{ on := 31, ground := Ground.guard }], guard := some (31, true) }) (v := ?vg33) rfl (by kernel_rfl) (by kernel_rfl) (by kernel_rfl) (fun _ _ _ h => h) (Or.inl ⟨by rfl, ?hyg33⟩) (by assumption) ?restg33
      case hyg33 =>
        intro w hSw
        (try dsimp only at hSw)
        go_simp
        try with_reducible rfl
      try simp only [Act.put, List.setIfInBounds_toArray, List.set_cons_zero, List.set_cons_succ]
      refine wpAnyH_take (i := 34) (oi := { dst := some 70, op := Op.load 35 (Operand.tmp 9), type := 35, pos := "laws.go:146", after := #[{ on := 31, ground := Ground.guard }], guard := some (31, true) }) (v := ?vg34) rfl (by kernel_rfl) (by kernel_rfl) (by kernel_rfl) (fun _ _ _ h => h) (Or.inl ⟨by rfl, ?hyg34⟩) (by assumption) ?restg34
      case hyg34 =>
        intro w hSw
        (try dsimp only at hSw)
        go_simp
        try with_reducible rfl
      try simp only [Act.put, List.setIfInBounds_toArray, List.set_cons_zero, List.set_cons_succ]
      refine wpAnyH_ready (rs := [35]) (by kernel_rfl) (by simp) ?_
      refine AllReadyH.cons (o := { dst := some 71, op := Op.call { callee := Callee.value (Operand.func 41), args := #[Operand.tmp 68, Operand.tmp 69, Operand.tmp 70], argTypes := #[43, 35, 35] }, type := 4, pos := "laws.go:146", after := #[{ on := 32, ground := Ground.data }, { on := 33, ground := Ground.data }, { on := 34, ground := Ground.data }, { on := 31, ground := Ground.chain }, { on := 31, ground := Ground.guard }], guard := some (31, true) }) rfl (fun K hK => ?_) AllReadyH.nil
      go_simp
      (go_at_call 41; refine (KAC.out _ B8.out).mono ?_; rintro e w9 ⟨rfl, hb9⟩; have T9 := Cells.below (L := [(⟨w1.heap.size, 0, none⟩, .string sc), (⟨w1.heap.size, 1, none⟩, .string ho), (⟨w1.heap.size, 2, none⟩, .int .i64 po), (⟨w1.heap.size, 3, none⟩, .string pa), (⟨w1.heap.size + 1, 0, none⟩, .string sc2), (⟨w1.heap.size + 1, 1, none⟩, .string ho2), (⟨w1.heap.size + 1, 2, none⟩, .int .i64 po2), (⟨w1.heap.size + 1, 3, none⟩, .string pa2), (⟨w2.heap.size, 0, none⟩, .string sc3), (⟨w2.heap.size, 1, none⟩, .string ho3), (⟨w2.heap.size, 2, none⟩, .int .i64 po3), (⟨w2.heap.size, 3, none⟩, .string pa3)]) (by simp only [Cells]; go_keep) hb9; simp only [Cells] at T9; obtain ⟨p90, p91, p92, p93, p94, p95, p96, p97, p98, p99, p910, p911, -⟩ := T9; have z9 : w2.heap.size + 1 ≤ w9.heap.size := Nat.le_trans z8 hb9.size; have B9 : Hid (Below wb.heap.size wb w9) := B8.out.trans (hb9.mono B8.out.size); clear p80 p81 p82 p83 p84 p85 p86 p87 p88 p89 p810 p811 z8 hb8)
      try (go_wp2_with fail)
      refine hK.out _ _ ?_ (fun hH6 => ?_)
      · (try dsimp only)
        go_keep
      clear hK K hH5
      try simp only [Act.put, List.setIfInBounds_toArray, List.set_cons_zero, List.set_cons_succ]
      refine wpAnyH_take (i := 36) (oi := { dst := some 72, op := Op.unOp UnOp.not 4 (Operand.tmp 71), type := 4, pos := "laws.go:146", after := #[{ on := 35, ground := Ground.data }, { on := 31, ground := Ground.guard }], guard := some (31, true) }) (v := ?vg36) rfl (by kernel_rfl) (by kernel_rfl) (by kernel_rfl) (fun _ _ _ h => h) (Or.inl ⟨by rfl, ?hyg36⟩) (by assumption) ?restg36
      case hyg36 =>
        intro w hSw
        (try dsimp only at hSw)
        go_simp
        try with_reducible rfl
      try simp only [Act.put, List.setIfInBounds_toArray, List.set_cons_zero, List.set_cons_succ]
      refine wpAnyH_take (i := 37) (oi := { dst := some 73, op := Op.pick (Operand.tmp 67) (Operand.tmp 72) (Operand.const (Value.bool false)), type := 4, pos := "laws.go:146", after := #[{ on := 31, ground := Ground.data }, { on := 36, ground := Ground.data }, { on := 23, ground := Ground.guard }], guard := some (23, false) }) (v := ?vg37) rfl (by kernel_rfl) (by kernel_rfl) (by kernel_rfl) (fun _ _ _ h => h) (Or.inl ⟨by rfl, ?hyg37⟩) (by assumption) ?restg37
      case hyg37 =>
        intro w hSw
        (try dsimp only at hSw)
        go_simp
        try with_reducible rfl
      try simp only [Act.put, List.setIfInBounds_toArray, List.set_cons_zero, List.set_cons_succ]
      refine wpAnyH_take (i := 38) (oi := { dst := some 74, op := Op.pick (Operand.tmp 59) (Operand.const (Value.bool true)) (Operand.tmp 73), type := 4, pos := "laws.go:146", after := #[{ on := 23, ground := Ground.data }, { on := 37, ground := Ground.data }], guard := none }) (v := ?vg38) rfl (by kernel_rfl) (by kernel_rfl) (by kernel_rfl) (fun _ _ _ h => h) (Or.inl ⟨by rfl, ?hyg38⟩) (by assumption) ?restg38
      case hyg38 =>
        intro w hSw
        (try dsimp only at hSw)
        go_simp
        try with_reducible rfl
      try simp only [Act.put, List.setIfInBounds_toArray, List.set_cons_zero, List.set_cons_succ]
      refine wpAnyH_done (by kernel_rfl) ?_ _
      exact tail _ _ _ _ _ _ _ _ _ _ _ _ _ _ _ _ _ _ _ _ _ _ _ _ _ _ _ _ _ _ _ _ _ _ _ _ _ _ _ _ _ _ _ _ _ _ _ _ _ _ _ _ _ _ _ _ _ _ _ _ _ w9 p90 p91 p92 p93 p94 p95 p96 p97 p98 p99 p910 p911 z9 B9
end Go.Proofs.YtmlacbjlafdenaaDoor

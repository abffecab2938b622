/- 1 of this claim's texts, one behind the other. -/
import Derived.Test.YthcpmbolnmlohaaGreatDoorPart3
import Derived.Test.YthcpmbolnmlohaaGreatDoorPart4
import Derived.Test.YthcpmbolnmlohaaGreatDoorPart5
import Derived.Test.YthcpmbolnmlohaaGreatDoorPart1
/- The law FnSet, walked. -/
namespace Go.Proofs.YthcpmbolnmlohaaGreatDoor
open Go.RowKit
set_option maxRecDepth 10000 in
set_option maxHeartbeats 16000000 in
theorem lawFnSet_any (a0 : Option Addr) (len0 cap0 : Nat) (a1 : Option Addr) (len1 cap1 : Nat) (w : World) (hG : MaxI w) (hT : PowI w) (hE : ErrI w) (c0 : CodeRow w a0 len0) (c1 : CodeRow w a1 len1) :
    Calls Tryz.prog 3 #[.slice a0 len0 cap0, .slice a1 len1 cap1] w fun e w' => e = .returned (.bool true) ∧ Below w.heap.size w w' := by
  by_cases h0 : 1048576 < len0
  · have q0 : decide ((1048576 : Int) < (len0 : Int)) = true := by rw [decide_eq_true_iff]; omega
    go_enter Tryz.func3, Tryz.ntmps3
    go_wp2
    go_ret
    exact ⟨rfl, Below.refl _ _⟩
  have q0 : decide ((1048576 : Int) < (len0 : Int)) = false := by rw [decide_eq_false_iff_not]; omega
  by_cases h1 : 1048576 < len1
  · have q1 : decide ((1048576 : Int) < (len1 : Int)) = true := by rw [decide_eq_true_iff]; omega
    go_enter Tryz.func3, Tryz.ntmps3
    go_wp2
    go_ret
    exact ⟨rfl, Below.refl _ _⟩
  have q1 : decide ((1048576 : Int) < (len1 : Int)) = false := by rw [decide_eq_false_iff_not]; omega
  have HG : Hid (MaxI w) := hG
  have HT : Hid (PowI w) := hT
  have HE : Hid (ErrI w) := hE
  have R0 : Hid (CodeRow w a0 len0) := c0
  have R1 : Hid (CodeRow w a1 len1) := c1
  have l0 : len0 ≤ 1048576 := by omega
  have l1 : len1 ≤ 1048576 := by omega
  clear hG hT hE c0 c1 h0 h1
  go_enter Tryz.func3, Tryz.ntmps3
  go_wp2_with fail
  refine (drawSetText_any a0 len0 cap0 _ R0.out l0).mono ?_
  rintro e w1 ⟨⟨⟨na, va, dm, pa, ag, se, mo, pt⟩, rfl, hc⟩, hb1⟩
  obtain ⟨hna, hva, hdm, hpa, -, -⟩ := hc
  dsimp only at hna hva hdm hpa
  unfold scV setV
  dsimp only
  have KT : Hid (∀ W, Below w.heap.size w W → Calls Tryz.prog 5 #[.agg #[.string na, .string va, .string dm, .string pa, .int .i64 ag, .bool se, .int .i64 mo, .bool pt]] W fun e w' => e = .returned (.string (scTx ⟨na, va, dm, pa, ag, se, mo, pt⟩)) ∧ Below W.heap.size W w') := fun W c => setText_any na va dm pa ag se mo pt W (HG.out.on c) (HT.out.on c) (by omega)
  have TT : Hid (∀ W, Below w.heap.size w W → Calls Tryz.prog 9 #[.agg #[.string na, .string va, .string dm, .string pa, .int .i64 ag, .bool se, .int .i64 mo, .bool pt]] W fun e w' => e = .returned (.string (scTx ⟨na, va, dm, pa, ag, se, mo, pt⟩)) ∧ Below W.heap.size W w') := fun W c => specSetText_any na va dm pa ag se mo pt W (by omega) (by omega)
  have KR : Hid (∀ W, Below w.heap.size w W → Calls Tryz.prog 10 #[.agg #[.string na, .string va, .string dm, .string pa, .int .i64 ag, .bool se, .int .i64 mo, .bool pt]] W fun e w' => e = .returned (.bool (setB na va dm pa ag mo)) ∧ Below W.heap.size W w') := fun W c => setRight_any na va dm pa ag se mo pt W (HG.out.on c) (by omega)
  have TR : Hid (∀ W, Below w.heap.size w W → Calls Tryz.prog 11 #[.agg #[.string na, .string va, .string dm, .string pa, .int .i64 ag, .bool se, .int .i64 mo, .bool pt]] W fun e w' => e = .returned (.bool (setB na va dm pa ag mo)) ∧ Below W.heap.size W w') := fun W c => specSetRight_any na va dm pa ag se mo pt W (by omega) (by omega)
  have KB : Hid ((scTx ⟨na, va, dm, pa, ag, se, mo, pt⟩).toList.isEmpty = false → ∀ W, Below w.heap.size w W → Calls Tryz.prog 7 #[.string (scTx ⟨na, va, dm, pa, ag, se, mo, pt⟩)] W fun e w' => e = .returned (.agg #[.string na, .string va, .string dm, .string pa, .int .i64 ag, .bool se, .int .i64 mo, .bool pt, .int .i64 0]) ∧ Below W.heap.size W w') := fun h W c => by
    have e := setRead_any (scTx ⟨na, va, dm, pa, ag, se, mo, pt⟩) W (HG.out.on c) (HT.out.on c) (HE.out.on c)
    rw [set_again _ h] at e
    exact e
  generalize scTx ⟨na, va, dm, pa, ag, se, mo, pt⟩ = T at *
  generalize setB na va dm pa ag mo = R at *
  have B1 : Hid (Below w.heap.size w (w1.alloc (.cells #[.string na, .string va, .string dm, .string pa, .int .i64 ag, .bool se, .int .i64 mo, .bool pt] 24))) := hb1.alloc hb1.size _
  clear hb1
  go_wp2_with fail
  refine (KT.out _ B1.out).mono ?_
  rintro e w2 ⟨rfl, hb2⟩
  have p20 : w2.cell? ⟨w1.heap.size, 0, none⟩ = some (.string na) := by rw [(bcell hb2).1 _ _ (by simp)]; simp
  have p21 : w2.cell? ⟨w1.heap.size, 1, none⟩ = some (.string va) := by rw [(bcell hb2).1 _ _ (by simp)]; simp
  have p22 : w2.cell? ⟨w1.heap.size, 2, none⟩ = some (.string dm) := by rw [(bcell hb2).1 _ _ (by simp)]; simp
  have p23 : w2.cell? ⟨w1.heap.size, 3, none⟩ = some (.string pa) := by rw [(bcell hb2).1 _ _ (by simp)]; simp
  have p24 : w2.cell? ⟨w1.heap.size, 4, none⟩ = some (.int .i64 ag) := by rw [(bcell hb2).1 _ _ (by simp)]; simp
  have p25 : w2.cell? ⟨w1.heap.size, 5, none⟩ = some (.bool se) := by rw [(bcell hb2).1 _ _ (by simp)]; simp
  have p26 : w2.cell? ⟨w1.heap.size, 6, none⟩ = some (.int .i64 mo) := by rw [(bcell hb2).1 _ _ (by simp)]; simp
  have p27 : w2.cell? ⟨w1.heap.size, 7, none⟩ = some (.bool pt) := by rw [(bcell hb2).1 _ _ (by simp)]; simp
  have B2 : Hid (Below w.heap.size w w2) := B1.out.trans (hb2.mono B1.out.size)
  have z2 : w1.heap.size + 1 ≤ w2.heap.size := by have := hb2.size; simpa using this
  clear hb2 B1 KT
  go_wp2_with fail
  refine (drawSetRead_any a1 len1 cap1 _ (R1.out.below B2.out) l1).mono ?_
  rintro e w3 ⟨⟨u, rfl, hu⟩, hb3⟩
  have T3 := Cells.below (L := [(⟨w1.heap.size, 0, none⟩, .string na), (⟨w1.heap.size, 1, none⟩, .string va), (⟨w1.heap.size, 2, none⟩, .string dm), (⟨w1.heap.size, 3, none⟩, .string pa), (⟨w1.heap.size, 4, none⟩, .int .i64 ag), (⟨w1.heap.size, 5, none⟩, .bool se), (⟨w1.heap.size, 6, none⟩, .int .i64 mo), (⟨w1.heap.size, 7, none⟩, .bool pt)]) (by simp only [Cells]; go_keep) hb3
  simp only [Cells] at T3
  obtain ⟨p30, p31, p32, p33, p34, p35, p36, p37, -⟩ := T3
  have z3 : w1.heap.size + 1 ≤ w3.heap.size := Nat.le_trans z2 hb3.size
  have B3 : Hid (Below w.heap.size w w3) := B2.out.trans (hb3.mono B2.out.size)
  clear hb3 z2 B2 p20 p21 p22 p23 p24 p25 p26 p27
  have KU : Hid (∀ W, Below w.heap.size w W → Calls Tryz.prog 7 #[.string u] W fun e w' => e = .returned (scOutV (scGot u).1 (scGot u).2) ∧ Below W.heap.size W w') := fun W c => setRead_any u W (HG.out.on c) (HT.out.on c) (HE.out.on c)
  have TU : Hid (∀ W, Below w.heap.size w W → Calls Tryz.prog 12 #[.string u] W fun e w' => e = .returned (scOutV (scGot u).1 (scGot u).2) ∧ Below W.heap.size W w') := fun W c => specSetRead_any u W
  have XT : Hid ((scGot u).2 = 0 → scTx (scGot u).1 = u ∧ (scGot u).1.dm.size ≤ 100) := set_text
  generalize scGot u = gu at *
  obtain ⟨⟨na2, va2, dm2, pa2, ag2, se2, mo2, pt2⟩, k2⟩ := gu
  unfold scOutV at KU TU
  try dsimp only at KU TU XT
  have KX : Hid (k2 = 0 → ∀ W, Below w.heap.size w W → Calls Tryz.prog 5 #[.agg #[.string na2, .string va2, .string dm2, .string pa2, .int .i64 ag2, .bool se2, .int .i64 mo2, .bool pt2]] W fun e w' => e = .returned (.string u) ∧ Below W.heap.size W w') := fun h W c => by
    obtain ⟨e, hd⟩ := XT.out h
    have k := setText_any na2 va2 dm2 pa2 ag2 se2 mo2 pt2 W (HG.out.on c) (HT.out.on c) (by omega)
    have e' : setTx na2 va2 dm2 pa2 ag2 se2 mo2 pt2 = u := e
    rw [e'] at k
    exact k
  clear XT
  go_wp2_with fail
  refine (KU.out _ B3.out).mono ?_
  rintro e w4 ⟨rfl, hb4⟩
  have T4 := Cells.below (L := [(⟨w1.heap.size, 0, none⟩, .string na), (⟨w1.heap.size, 1, none⟩, .string va), (⟨w1.heap.size, 2, none⟩, .string dm), (⟨w1.heap.size, 3, none⟩, .string pa), (⟨w1.heap.size, 4, none⟩, .int .i64 ag), (⟨w1.heap.size, 5, none⟩, .bool se), (⟨w1.heap.size, 6, none⟩, .int .i64 mo), (⟨w1.heap.size, 7, none⟩, .bool pt)]) (by simp only [Cells]; go_keep) hb4
  simp only [Cells] at T4
  obtain ⟨p40, p41, p42, p43, p44, p45, p46, p47, -⟩ := T4
  have z4 : w1.heap.size + 1 ≤ w4.heap.size := Nat.le_trans z3 hb4.size
  have B4 : Hid (Below w.heap.size w w4) := B3.out.trans (hb4.mono B3.out.size)
  clear hb4 z3 B3 p30 p31 p32 p33 p34 p35 p36 p37
  clear KU
  go_wp2_with fail
  have p50 : (w4.alloc (.cells #[.string na2, .string va2, .string dm2, .string pa2, .int .i64 ag2, .bool se2, .int .i64 mo2, .bool pt2, .int .i64 k2] 29)).cell? ⟨w1.heap.size, 0, none⟩ = some (.string na) := by rw [World.cell?_alloc_lt _ _ _ (by show w1.heap.size < w4.heap.size; omega)]; exact p40
  have p51 : (w4.alloc (.cells #[.string na2, .string va2, .string dm2, .string pa2, .int .i64 ag2, .bool se2, .int .i64 mo2, .bool pt2, .int .i64 k2] 29)).cell? ⟨w1.heap.size, 1, none⟩ = some (.string va) := by rw [World.cell?_alloc_lt _ _ _ (by show w1.heap.size < w4.heap.size; omega)]; exact p41
  have p52 : (w4.alloc (.cells #[.string na2, .string va2, .string dm2, .string pa2, .int .i64 ag2, .bool se2, .int .i64 mo2, .bool pt2, .int .i64 k2] 29)).cell? ⟨w1.heap.size, 2, none⟩ = some (.string dm) := by rw [World.cell?_alloc_lt _ _ _ (by show w1.heap.size < w4.heap.size; omega)]; exact p42
  have p53 : (w4.alloc (.cells #[.string na2, .string va2, .string dm2, .string pa2, .int .i64 ag2, .bool se2, .int .i64 mo2, .bool pt2, .int .i64 k2] 29)).cell? ⟨w1.heap.size, 3, none⟩ = some (.string pa) := by rw [World.cell?_alloc_lt _ _ _ (by show w1.heap.size < w4.heap.size; omega)]; exact p43
  have p54 : (w4.alloc (.cells #[.string na2, .string va2, .string dm2, .string pa2, .int .i64 ag2, .bool se2, .int .i64 mo2, .bool pt2, .int .i64 k2] 29)).cell? ⟨w1.heap.size, 4, none⟩ = some (.int .i64 ag) := by rw [World.cell?_alloc_lt _ _ _ (by show w1.heap.size < w4.heap.size; omega)]; exact p44
  have p55 : (w4.alloc (.cells #[.string na2, .string va2, .string dm2, .string pa2, .int .i64 ag2, .bool se2, .int .i64 mo2, .bool pt2, .int .i64 k2] 29)).cell? ⟨w1.heap.size, 5, none⟩ = some (.bool se) := by rw [World.cell?_alloc_lt _ _ _ (by show w1.heap.size < w4.heap.size; omega)]; exact p45
  have p56 : (w4.alloc (.cells #[.string na2, .string va2, .string dm2, .string pa2, .int .i64 ag2, .bool se2, .int .i64 mo2, .bool pt2, .int .i64 k2] 29)).cell? ⟨w1.heap.size, 6, none⟩ = some (.int .i64 mo) := by rw [World.cell?_alloc_lt _ _ _ (by show w1.heap.size < w4.heap.size; omega)]; exact p46
  have p57 : (w4.alloc (.cells #[.string na2, .string va2, .string dm2, .string pa2, .int .i64 ag2, .bool se2, .int .i64 mo2, .bool pt2, .int .i64 k2] 29)).cell? ⟨w1.heap.size, 7, none⟩ = some (.bool pt) := by rw [World.cell?_alloc_lt _ _ _ (by show w1.heap.size < w4.heap.size; omega)]; exact p47
  have p58 : (w4.alloc (.cells #[.string na2, .string va2, .string dm2, .string pa2, .int .i64 ag2, .bool se2, .int .i64 mo2, .bool pt2, .int .i64 k2] 29)).cell? ⟨w4.heap.size, 0, none⟩ = some (.string na2) := by simp
  have p59 : (w4.alloc (.cells #[.string na2, .string va2, .string dm2, .string pa2, .int .i64 ag2, .bool se2, .int .i64 mo2, .bool pt2, .int .i64 k2] 29)).cell? ⟨w4.heap.size, 1, none⟩ = some (.string va2) := by simp
  have p510 : (w4.alloc (.cells #[.string na2, .string va2, .string dm2, .string pa2, .int .i64 ag2, .bool se2, .int .i64 mo2, .bool pt2, .int .i64 k2] 29)).cell? ⟨w4.heap.size, 2, none⟩ = some (.string dm2) := by simp
  have p511 : (w4.alloc (.cells #[.string na2, .string va2, .string dm2, .string pa2, .int .i64 ag2, .bool se2, .int .i64 mo2, .bool pt2, .int .i64 k2] 29)).cell? ⟨w4.heap.size, 3, none⟩ = some (.string pa2) := by simp
  have p512 : (w4.alloc (.cells #[.string na2, .string va2, .string dm2, .string pa2, .int .i64 ag2, .bool se2, .int .i64 mo2, .bool pt2, .int .i64 k2] 29)).cell? ⟨w4.heap.size, 4, none⟩ = some (.int .i64 ag2) := by simp
  have p513 : (w4.alloc (.cells #[.string na2, .string va2, .string dm2, .string pa2, .int .i64 ag2, .bool se2, .int .i64 mo2, .bool pt2, .int .i64 k2] 29)).cell? ⟨w4.heap.size, 5, none⟩ = some (.bool se2) := by simp
  have p514 : (w4.alloc (.cells #[.string na2, .string va2, .string dm2, .string pa2, .int .i64 ag2, .bool se2, .int .i64 mo2, .bool pt2, .int .i64 k2] 29)).cell? ⟨w4.heap.size, 6, none⟩ = some (.int .i64 mo2) := by simp
  have p515 : (w4.alloc (.cells #[.string na2, .string va2, .string dm2, .string pa2, .int .i64 ag2, .bool se2, .int .i64 mo2, .bool pt2, .int .i64 k2] 29)).cell? ⟨w4.heap.size, 7, none⟩ = some (.bool pt2) := by simp
  have p516 : (w4.alloc (.cells #[.string na2, .string va2, .string dm2, .string pa2, .int .i64 ag2, .bool se2, .int .i64 mo2, .bool pt2, .int .i64 k2] 29)).cell? ⟨w4.heap.size, 8, none⟩ = some (.int .i64 k2) := by simp
  have z5 : w4.heap.size + 1 ≤ (w4.alloc (.cells #[.string na2, .string va2, .string dm2, .string pa2, .int .i64 ag2, .bool se2, .int .i64 mo2, .bool pt2, .int .i64 k2] 29)).heap.size := by simp
  have B5 : Hid (Below w.heap.size w (w4.alloc (.cells #[.string na2, .string va2, .string dm2, .string pa2, .int .i64 ag2, .bool se2, .int .i64 mo2, .bool pt2, .int .i64 k2] 29))) := B4.out.alloc B4.out.size _
  have zC : w1.heap.size < w4.heap.size := by omega
  clear z4 B4 p40 p41 p42 p43 p44 p45 p46 p47
  generalize (w4.alloc (.cells #[.string na2, .string va2, .string dm2, .string pa2, .int .i64 ag2, .bool se2, .int .i64 mo2, .bool pt2, .int .i64 k2] 29)) = w5 at *
  refine (drawWord_any a1 len1 cap1 _ (R1.out.below B5.out) l1).mono ?_
  rintro e w6 ⟨⟨wd, rfl, hwd⟩, hb6⟩
  have T6 := Cells.below (L := [(⟨w1.heap.size, 0, none⟩, .string na), (⟨w1.heap.size, 1, none⟩, .string va), (⟨w1.heap.size, 2, none⟩, .string dm), (⟨w1.heap.size, 3, none⟩, .string pa), (⟨w1.heap.size, 4, none⟩, .int .i64 ag), (⟨w1.heap.size, 5, none⟩, .bool se), (⟨w1.heap.size, 6, none⟩, .int .i64 mo), (⟨w1.heap.size, 7, none⟩, .bool pt), (⟨w4.heap.size, 0, none⟩, .string na2), (⟨w4.heap.size, 1, none⟩, .string va2), (⟨w4.heap.size, 2, none⟩, .string dm2), (⟨w4.heap.size, 3, none⟩, .string pa2), (⟨w4.heap.size, 4, none⟩, .int .i64 ag2), (⟨w4.heap.size, 5, none⟩, .bool se2), (⟨w4.heap.size, 6, none⟩, .int .i64 mo2), (⟨w4.heap.size, 7, none⟩, .bool pt2), (⟨w4.heap.size, 8, none⟩, .int .i64 k2)]) (by simp only [Cells]; go_keep) hb6
  simp only [Cells] at T6
  obtain ⟨p60, p61, p62, p63, p64, p65, p66, p67, p68, p69, p610, p611, p612, p613, p614, p615, p616, -⟩ := T6
  have z6 : w4.heap.size + 1 ≤ w6.heap.size := Nat.le_trans z5 hb6.size
  have B6 : Hid (Below w.heap.size w w6) := B5.out.trans (hb6.mono B5.out.size)
  clear hb6 z5 B5 p50 p51 p52 p53 p54 p55 p56 p57 p58 p59 p510 p511 p512 p513 p514 p515 p516
  have KW : Hid (∀ W, Below w.heap.size w W → Calls Tryz.prog 13 #[.string wd] W fun e w' => e = .returned (.bool (wordB wd)) ∧ Below W.heap.size W w') := fun W c => (wordRight_any wd W).mono (fun e w' h => ⟨h.1, h.2 ▸ Below.refl _ _⟩)
  have TW : Hid (∀ W, Below w.heap.size w W → Calls Tryz.prog 14 #[.string wd] W fun e w' => e = .returned (.bool (wordB wd)) ∧ Below W.heap.size W w') := fun W c => (specWord_any wd W (by omega)).mono (fun e w' h => ⟨h.1, h.2 ▸ Below.refl _ _⟩)
  generalize wordB wd = Q at *
  go_wp2_with fail
  rename_i K hK
  obtain ⟨tail, -⟩ : (∀ (u14 u15 u16 u17 u18 u19 u20 u21 u22 u23 u24 u25 u26 u27 u28 u29 u30 u31 u32 u33 u34 u35 u36 u37 u38 u39 u40 u41 u42 u43 u44 u45 u46 u47 u48 u49 u50 u51 u52 u53 u54 u55 u56 u57 u58 u59 u60 u61 u62 u63 u64 u65 u66 u67 u68 u69 u70 u71 u72 u73 u74 u75 u76 u77 : Value) (W : World), Hid (Below w.heap.size w W) → K { tmps := #[.slice a0 len0 cap0, .slice a1 len1 cap1, undef, undef, .bool false, .pointer (some ⟨w1.heap.size, 0, none⟩), .string T, .string u, .pointer (some ⟨w4.heap.size, 0, none⟩), .string wd, undef, undef, undef, undef, u14, u15, u16, u17, u18, u19, u20, u21, u22, u23, u24, u25, u26, u27, u28, u29, u30, u31, u32, u33, u34, u35, u36, u37, u38, u39, u40, u41, u42, u43, u44, u45, u46, u47, u48, u49, u50, u51, u52, u53, u54, u55, u56, u57, u58, u59, u60, u61, u62, u63, u64, u65, u66, u67, u68, u69, u70, u71, u72, u73, u74, u75, u76, u77, .bool false, undef, undef, undef, undef, undef, undef, undef, undef, undef, undef, undef, undef, undef, undef, undef, undef, undef, undef, undef, undef, undef, undef, undef, undef, undef, undef, undef, undef, undef, undef, undef, undef, undef, undef, undef, undef, undef, undef, undef, undef, undef, undef, undef, undef, undef, undef, undef, undef, undef, undef, undef], defers := [] } W) ∧ True := by
    refine ⟨?_, trivial⟩
    intro u14 u15 u16 u17 u18 u19 u20 u21 u22 u23 u24 u25 u26 u27 u28 u29 u30 u31 u32 u33 u34 u35 u36 u37 u38 u39 u40 u41 u42 u43 u44 u45 u46 u47 u48 u49 u50 u51 u52 u53 u54 u55 u56 u57 u58 u59 u60 u61 u62 u63 u64 u65 u66 u67 u68 u69 u70 u71 u72 u73 u74 u75 u76 u77 w7 B7
    refine hK _ _ ?_
    clear hK TT KR TR KB TU KX KW TW z6 B6 p60 p61 p62 p63 p64 p65 p66 p67 p68 p69 p610 p611 p612 p613 p614 p615 p616
    go_wp2_with fail
    refine (drawPairsText_any a0 len0 cap0 _ (R0.out.below B7.out) l0).mono ?_
    rintro e w8 ⟨⟨v, L, rfl, s8, h4, hf⟩, hb8⟩
    have B8 : Hid (Below w.heap.size w w8) := B7.out.trans (hb8.mono B7.out.size)
    have S8 : Hid (SliceP w8 0 v L) := SliceR.mono s8 (Nat.zero_le _)
    have HF : Hid (∀ i, i < L.length → (atP L i).1.size ≤ 1048576 ∧ (atP L i).2.size ≤ 1048576) := fun i hi => by have := fewP_at hf i hi; omega
    have hL : L.length ≤ 1048576 := by omega
    clear s8 hf hb8 B7
    have KP : Hid (∀ W, Below w8.heap.size w8 W → Calls Tryz.prog 16 #[v] W fun e w' => e = .returned (.string (pairsT L)) ∧ Below W.heap.size W w') := fun W c => pairsText_any v 0 L W (SliceR.below S8.out c) hL HF.out
    have TP : Hid (∀ W, SliceP W 0 v L → Calls Tryz.prog 19 #[v] W fun e w' => e = .returned (.string (pairsT L)) ∧ Below W.heap.size W w') := fun W c => specPairsText_any v 0 L W c hL HF.out
    have PB : Hid ((pairsT L).toList.isEmpty = false → pairsGot (pairsT L) = (L, 0)) := pairs_got
    generalize pairsT L = V at *
    go_wp2_with fail
    refine (KP.out _ (Below.refl _ _)).mono ?_
    rintro e w9 ⟨rfl, hb9⟩
    have B9 : Hid (Below w.heap.size w w9) := B8.out.trans (hb9.mono B8.out.size)
    have S9 : Hid (SliceP w9 0 v L) := SliceR.below S8.out hb9
    clear hb9 S8 B8 KP HF
    go_wp2_with fail
    refine (drawPairsRead_any a1 len1 cap1 _ (R1.out.below B9.out) l1).mono ?_
    rintro e w10 ⟨⟨r, rfl, hr⟩, hb10⟩
    have B10 : Hid (Below w.heap.size w w10) := B9.out.trans (hb10.mono B9.out.size)
    have S10 : Hid (SliceP w10 0 v L) := SliceR.below S9.out hb10
    clear hb10 S9 B9
    have KY : Hid (Calls Tryz.prog 18 #[.string r] w10 fun e w' => ∃ v, e = .returned (.agg #[v, .int .i64 (pairsGot r).2]) ∧ SliceP w' w10.heap.size v (pairsGot r).1 ∧ Below w10.heap.size w10 w') := pairsRead_any r w10 (HG.out.on B10.out)
    have TY : Hid (∀ W, Calls Tryz.prog 21 #[.string r] W fun e w' => ∃ v, e = .returned (.agg #[v, .int .i64 (pairsGot r).2]) ∧ SliceP w' W.heap.size v (pairsGot r).1 ∧ Below W.heap.size W w') := fun W => specPairsRead_any r W
    have FY : Hid ((pairsGot r).1.length ≤ 20 ∧ ∀ i, i < (pairsGot r).1.length → (atP (pairsGot r).1 i).1.size ≤ 1048576 ∧ (atP (pairsGot r).1 i).2.size ≤ 1048576) := pairs_few r
    have TX : Hid ((pairsGot r).2 = 0 → pairsT (pairsGot r).1 = r) := pairs_text
    generalize pairsGot r = gr at *
    obtain ⟨M, k⟩ := gr
    try dsimp only at KY TY FY TX
    go_wp2_with fail
    refine KY.out.mono ?_
    rintro e w11 ⟨vy, rfl, sy, hb11⟩
    have S11 : Hid (SliceP w11 0 v L) := SliceR.below S10.out hb11
    have Y11 : Hid (SliceP w11 0 vy M) := SliceR.mono sy (Nat.zero_le _)
    have B11 : Hid (Below w.heap.size w w11) := B10.out.trans (hb11.mono B10.out.size)
    clear sy hb11 KY S10 B10
    obtain ⟨py, cy, rfl, -⟩ := (id Y11.out : SliceP w11 0 vy M)
    go_wp2_with fail
    have p120 : (w11.alloc (.cells #[.slice py M.length cy, .int .i64 k] 37)).cell? ⟨w11.heap.size, 0, none⟩ = some (.slice py M.length cy) := by simp
    have p121 : (w11.alloc (.cells #[.slice py M.length cy, .int .i64 k] 37)).cell? ⟨w11.heap.size, 1, none⟩ = some (.int .i64 k) := by simp
    have z12 : w11.heap.size + 1 ≤ (w11.alloc (.cells #[.slice py M.length cy, .int .i64 k] 37)).heap.size := by simp
    have BW : Hid (Below w.heap.size w (w11.alloc (.cells #[.slice py M.length cy, .int .i64 k] 37))) := B11.out.alloc B11.out.size _
    have SV : Hid (SliceP (w11.alloc (.cells #[.slice py M.length cy, .int .i64 k] 37)) 0 v L) := SliceR.below S11.out ((Below.refl _ _).alloc (Nat.le_refl _) _)
    have SY : Hid (SliceP (w11.alloc (.cells #[.slice py M.length cy, .int .i64 k] 37)) 0 (.slice py M.length cy) M) := SliceR.below Y11.out ((Below.refl _ _).alloc (Nat.le_refl _) _)
    clear S11 Y11 B11
    generalize (w11.alloc (.cells #[.slice py M.length cy, .int .i64 k] 37)) = wb at *
    have B12 : Hid (Below wb.heap.size wb wb) := Below.refl _ _
    have hM : M.length ≤ 1048576 := by have := FY.out.1; omega
    have KV : Hid (V.toList.isEmpty = false → ∀ W, Below wb.heap.size wb W → Calls Tryz.prog 18 #[.string V] W fun e w' => ∃ q, e = .returned (.agg #[q, .int .i64 0]) ∧ SliceP w' W.heap.size q L ∧ Below W.heap.size W w') := fun h W c => by
      have e := pairsRead_any V W ((HG.out.on BW.out).on c)
      rw [PB.out h] at e
      exact e
    have KM : Hid (k = 0 → ∀ W, Below wb.heap.size wb W → Calls Tryz.prog 16 #[.slice py M.length cy] W fun e w' => e = .returned (.string r) ∧ Below W.heap.size W w') := fun h W c => by
      have e := pairsText_any _ 0 M W (SliceR.below SY.out c) hM FY.out.2
      rw [TX.out h] at e
      exact e
    have hfp : ∀ (v : Value) (k : Int) (W : World), Sem.run Tryz.prog (Instr.field 37 (.agg #[v, .int .i64 k]) 0) W = .ok v W := out_pairs
    have hfc : ∀ (v : Value) (k : Int) (W : World), Sem.run Tryz.prog (Instr.field 37 (.agg #[v, .int .i64 k]) 1) W = .ok (.int .i64 k) W := out_code
    clear PB TX FY
    cases hV0 : V.toList.isEmpty with
    | true =>
      cases hk : (k == 0) with
      | false =>
        have hk' : (k != 0) = true := by rw [bne, hk]; rfl
        refine wp_region_held_drew (S := (fun w' => w11.heap.size + 1 ≤ w'.heap.size ∧ w'.cell? ⟨w11.heap.size, 0, none⟩ = some (.slice py M.length cy) ∧ w'.cell? ⟨w11.heap.size, 1, none⟩ = some (.int .i64 k))) (by kernel_rfl) ?_ (fun hH0 => ?_)
        · (try dsimp only)
          go_keep
        refine wpAnyH_take (i := 0) (oi := { dst := some 87, op := Op.move (Operand.tmp 11), type := 9, pos := "laws.go:176", after := #[], guard := none }) (v := ?va0) rfl (by kernel_rfl) (by kernel_rfl) (by kernel_rfl) (fun _ _ _ h => h) (Or.inl ⟨by rfl, ?hya0⟩) (by assumption) ?resta0
        case hya0 =>
          intro w hSw
          (try dsimp only at hSw)
          go_simp
          try with_reducible rfl
        try simp only [Act.put, List.setIfInBounds_toArray, List.set_cons_zero, List.set_cons_succ]
        refine wpAnyH_take (i := 1) (oi := { dst := some 88, op := Op.move (Operand.tmp 10), type := 33, pos := "laws.go:176", after := #[], guard := none }) (v := ?va1) rfl (by kernel_rfl) (by kernel_rfl) (by kernel_rfl) (fun _ _ _ h => h) (Or.inl ⟨by rfl, ?hya1⟩) (by assumption) ?resta1
        case hya1 =>
          intro w hSw
          (try dsimp only at hSw)
          go_simp
          try with_reducible rfl
        try simp only [Act.put, List.setIfInBounds_toArray, List.set_cons_zero, List.set_cons_succ]
        refine wpAnyH_ready (rs := [2]) (by kernel_rfl) (by simp) ?_
        refine AllReadyH.cons (o := { dst := some 89, op := Op.call { callee := Callee.value (Operand.func 19), args := #[Operand.tmp 88], argTypes := #[33] }, type := 9, pos := "laws.go:176", after := #[{ on := 1, ground := Ground.data }], guard := none }) rfl (fun K hK => ?_) AllReadyH.nil
        go_simp
        (go_at_call 19; refine (TP.out _ (SliceR.below SV.out (B12.out.trans (Below.drew (Below.refl _ _))))).mono ?_; rintro e w13 ⟨rfl, hb13⟩; have T13 := Cells.below (L := [(⟨w11.heap.size, 0, none⟩, .slice py M.length cy), (⟨w11.heap.size, 1, none⟩, .int .i64 k)]) (by simp only [Cells]; go_keep) hb13; simp only [Cells] at T13; obtain ⟨p130, p131, -⟩ := T13; have z13 : w11.heap.size + 1 ≤ w13.heap.size := Nat.le_trans z12 hb13.size; have B13 : Hid (Below wb.heap.size wb w13) := (B12.out.trans (Below.drew (Below.refl _ _))).trans (hb13.mono (by simp)))
        try (go_wp2_with fail)
        refine hK.out _ _ ?_ (fun hH1 => ?_)
        · (try dsimp only)
          go_keep
        clear hK K hH0
        try simp only [Act.put, List.setIfInBounds_toArray, List.set_cons_zero, List.set_cons_succ]
        refine wpAnyH_take (i := 3) (oi := { dst := some 90, op := Op.binOp BinOp.eql 9 (Operand.tmp 87) (Operand.tmp 89) 9, type := 4, pos := "laws.go:176", after := #[{ on := 0, ground := Ground.data }, { on := 2, ground := Ground.data }], guard := none }) (v := ?va3) rfl (by kernel_rfl) (by kernel_rfl) (by kernel_rfl) (fun _ _ _ h => h) (Or.inl ⟨by rfl, ?hya3⟩) (by assumption) ?resta3
        case hya3 =>
          intro w hSw
          (try dsimp only at hSw)
          go_simp
          try with_reducible rfl
        try simp only [Act.put, List.setIfInBounds_toArray, List.set_cons_zero, List.set_cons_succ]
        refine wpAnyH_take (i := 4) (oi := { dst := some 91, op := Op.move (Operand.tmp 90), type := 4, pos := "laws.go:176", after := #[{ on := 3, ground := Ground.data }, { on := 2, ground := Ground.chain }], guard := none }) (v := ?va4) rfl (by kernel_rfl) (by kernel_rfl) (by kernel_rfl) (fun _ _ _ h => h) (Or.inl ⟨by rfl, ?hya4⟩) (by assumption) ?resta4
        case hya4 =>
          intro w hSw
          (try dsimp only at hSw)
          go_simp
          try with_reducible rfl
        try simp only [Act.put, List.setIfInBounds_toArray, List.set_cons_zero, List.set_cons_succ]
        refine wpAnyH_take (i := 5) (oi := { dst := some 92, op := Op.move (Operand.tmp 11), type := 9, pos := "laws.go:176", after := #[{ on := 4, ground := Ground.guard }], guard := some (4, true) }) (v := ?va5) rfl (by kernel_rfl) (by kernel_rfl) (by kernel_rfl) (fun _ _ _ h => h) (Or.inl ⟨by rfl, ?hya5⟩) (by assumption) ?resta5
        case hya5 =>
          intro w hSw
          (try dsimp only at hSw)
          go_simp
          try with_reducible rfl
        try simp only [Act.put, List.setIfInBounds_toArray, List.set_cons_zero, List.set_cons_succ]
        refine wpAnyH_take (i := 6) (oi := { dst := some 93, op := Op.binOp BinOp.eql 9 (Operand.tmp 92) (Operand.const (Value.string { data := #[] })) 9, type := 4, pos := "laws.go:176", after := #[{ on := 5, ground := Ground.data }, { on := 4, ground := Ground.guard }], guard := some (4, true) }) (v := ?va6) rfl (by kernel_rfl) (by kernel_rfl) (by kernel_rfl) (fun _ _ _ h => h) (Or.inl ⟨by rfl, ?hya6⟩) (by assumption) ?resta6
        case hya6 =>
          intro w hSw
          (try dsimp only at hSw)
          go_simp
          try with_reducible rfl
        try simp only [Act.put, List.setIfInBounds_toArray, List.set_cons_zero, List.set_cons_succ]
        refine wpAnyH_take (i := 7) (oi := { dst := some 94, op := Op.move (Operand.tmp 93), type := 4, pos := "laws.go:176", after := #[{ on := 6, ground := Ground.data }, { on := 4, ground := Ground.chain }, { on := 4, ground := Ground.guard }], guard := some (4, true) }) (v := ?va7) rfl (by kernel_rfl) (by kernel_rfl) (by kernel_rfl) (fun _ _ _ h => h) (Or.inl ⟨by rfl, ?hya7⟩) (by assumption) ?resta7
        case hya7 =>
          intro w hSw
          (try dsimp only at hSw)
          go_simp
          try with_reducible rfl
        try simp only [Act.put, List.setIfInBounds_toArray, List.set_cons_zero, List.set_cons_succ]
        refine wpAnyH_take (i := 8) (oi := { dst := some 95, op := Op.move (Operand.tmp 11), type := 9, pos := "laws.go:176", after := #[{ on := 7, ground := Ground.guard }], guard := some (7, false) }) (v := undef) rfl (by kernel_rfl) (by kernel_rfl) (by kernel_rfl) (fun _ _ _ h => h) (Or.inr ⟨by rfl, rfl⟩) (by assumption) ?_
        try simp only [Act.put, List.setIfInBounds_toArray, List.set_cons_zero, List.set_cons_succ]
        refine wpAnyH_take (i := 9) (oi := { dst := some 96, op := Op.call { callee := Callee.value (Operand.func 18), args := #[Operand.tmp 95], argTypes := #[9] }, type := 37, pos := "laws.go:176", after := #[{ on := 8, ground := Ground.data }, { on := 7, ground := Ground.chain }, { on := 7, ground := Ground.guard }], guard := some (7, false) }) (v := undef) rfl (by kernel_rfl) (by kernel_rfl) (by kernel_rfl) (fun _ _ _ h => h) (Or.inr ⟨by rfl, rfl⟩) (by assumption) ?_
        try simp only [Act.put, List.setIfInBounds_toArray, List.set_cons_zero, List.set_cons_succ]
        refine wpAnyH_take (i := 10) (oi := { dst := some 97, op := Op.field 37 (Operand.tmp 96) 0, type := 33, pos := "laws.go:176", after := #[{ on := 9, ground := Ground.data }, { on := 7, ground := Ground.guard }], guard := some (7, false) }) (v := undef) rfl (by kernel_rfl) (by kernel_rfl) (by kernel_rfl) (fun _ _ _ h => h) (Or.inr ⟨by rfl, rfl⟩) (by assumption) ?_
        try simp only [Act.put, List.setIfInBounds_toArray, List.set_cons_zero, List.set_cons_succ]
        refine wpAnyH_take (i := 11) (oi := { dst := some 98, op := Op.move (Operand.tmp 10), type := 33, pos := "laws.go:176", after := #[{ on := 7, ground := Ground.guard }], guard := some (7, false) }) (v := undef) rfl (by kernel_rfl) (by kernel_rfl) (by kernel_rfl) (fun _ _ _ h => h) (Or.inr ⟨by rfl, rfl⟩) (by assumption) ?_
        try simp only [Act.put, List.setIfInBounds_toArray, List.set_cons_zero, List.set_cons_succ]
        refine wpAnyH_take (i := 12) (oi := { dst := some 99, op := Op.call { callee := Callee.value (Operand.func 20), args := #[Operand.tmp 97, Operand.tmp 98], argTypes := #[33, 33] }, type := 4, pos := "laws.go:176", after := #[{ on := 10, ground := Ground.data }, { on := 11, ground := Ground.data }, { on := 9, ground := Ground.chain }, { on := 7, ground := Ground.guard }], guard := some (7, false) }) (v := undef) rfl (by kernel_rfl) (by kernel_rfl) (by kernel_rfl) (fun _ _ _ h => h) (Or.inr ⟨by rfl, rfl⟩) (by assumption) ?_
        try simp only [Act.put, List.setIfInBounds_toArray, List.set_cons_zero, List.set_cons_succ]
        refine wpAnyH_take (i := 13) (oi := { dst := some 100, op := Op.pick (Operand.tmp 94) (Operand.const (Value.bool true)) (Operand.tmp 99), type := 4, pos := "laws.go:176", after := #[{ on := 7, ground := Ground.data }, { on := 12, ground := Ground.data }, { on := 4, ground := Ground.guard }], guard := some (4, true) }) (v := ?va13) rfl (by kernel_rfl) (by kernel_rfl) (by kernel_rfl) (fun _ _ _ h => h) (Or.inl ⟨by rfl, ?hya13⟩) (by assumption) ?resta13
        case hya13 =>
          intro w hSw
          (try dsimp only at hSw)
          go_simp
          try with_reducible rfl
        try simp only [Act.put, List.setIfInBounds_toArray, List.set_cons_zero, List.set_cons_succ]
        refine wpAnyH_take (i := 14) (oi := { dst := some 101, op := Op.pick (Operand.tmp 91) (Operand.tmp 100) (Operand.const (Value.bool false)), type := 4, pos := "laws.go:176", after := #[{ on := 4, ground := Ground.data }, { on := 13, ground := Ground.data }], guard := none }) (v := ?va14) rfl (by kernel_rfl) (by kernel_rfl) (by kernel_rfl) (fun _ _ _ h => h) (Or.inl ⟨by rfl, ?hya14⟩) (by assumption) ?resta14
        case hya14 =>
          intro w hSw
          (try dsimp only at hSw)
          go_simp
          try with_reducible rfl
        try simp only [Act.put, List.setIfInBounds_toArray, List.set_cons_zero, List.set_cons_succ]
        refine wpAnyH_take (i := 15) (oi := { dst := some 102, op := Op.move (Operand.tmp 101), type := 4, pos := "laws.go:176", after := #[{ on := 14, ground := Ground.data }, { on := 12, ground := Ground.chain }], guard := none }) (v := ?va15) rfl (by kernel_rfl) (by kernel_rfl) (by kernel_rfl) (fun _ _ _ h => h) (Or.inl ⟨by rfl, ?hya15⟩) (by assumption) ?resta15
        case hya15 =>
          intro w hSw
          (try dsimp only at hSw)
          go_simp
          try with_reducible rfl
        try simp only [Act.put, List.setIfInBounds_toArray, List.set_cons_zero, List.set_cons_succ]
        refine wpAnyH_take (i := 16) (oi := { dst := some 103, op := Op.fieldAddr 37 (Operand.tmp 13) 1, type := 0, pos := "laws.go:176", after := #[{ on := 15, ground := Ground.guard }], guard := some (15, true) }) (v := ?va16) rfl (by kernel_rfl) (by kernel_rfl) (by kernel_rfl) (fun _ _ _ h => h) (Or.inl ⟨by rfl, ?hya16⟩) (by assumption) ?resta16
        case hya16 =>
          intro w hSw
          (try dsimp only at hSw)
          go_simp
          try with_reducible rfl
        try simp only [Act.put, List.setIfInBounds_toArray, List.set_cons_zero, List.set_cons_succ]
        refine wpAnyH_take (i := 17) (oi := { dst := some 104, op := Op.load 2 (Operand.tmp 103), type := 2, pos := "laws.go:176", after := #[{ on := 16, ground := Ground.data }, { on := 15, ground := Ground.guard }], guard := some (15, true) }) (v := ?va17) rfl (by kernel_rfl) (by kernel_rfl) (by kernel_rfl) (fun _ _ _ h => h) (Or.inl ⟨by rfl, ?hya17⟩) (by assumption) ?resta17
        case hya17 =>
          intro w hSw
          (try dsimp only at hSw)
          go_simp
          try with_reducible rfl
        try simp only [Act.put, List.setIfInBounds_toArray, List.set_cons_zero, List.set_cons_succ]
        refine wpAnyH_take (i := 18) (oi := { dst := some 105, op := Op.move (Operand.tmp 12), type := 9, pos := "laws.go:176", after := #[{ on := 15, ground := Ground.guard }], guard := some (15, true) }) (v := ?va18) rfl (by kernel_rfl) (by kernel_rfl) (by kernel_rfl) (fun _ _ _ h => h) (Or.inl ⟨by rfl, ?hya18⟩) (by assumption) ?resta18
        case hya18 =>
          intro w hSw
          (try dsimp only at hSw)
          go_simp
          try with_reducible rfl
        try simp only [Act.put, List.setIfInBounds_toArray, List.set_cons_zero, List.set_cons_succ]
        refine wpAnyH_ready (rs := [19]) (by kernel_rfl) (by simp) ?_
        refine AllReadyH.cons (o := { dst := some 106, op := Op.call { callee := Callee.value (Operand.func 21), args := #[Operand.tmp 105], argTypes := #[9] }, type := 37, pos := "laws.go:176", after := #[{ on := 18, ground := Ground.data }, { on := 15, ground := Ground.chain }, { on := 15, ground := Ground.guard }], guard := some (15, true) }) rfl (fun K hK => ?_) AllReadyH.nil
        go_simp
        (go_at_call 21; refine (TY.out _).mono ?_; rintro e w16 ⟨q16, rfl, sq16, hb16⟩; have T16 := Cells.below (L := [(⟨w11.heap.size, 0, none⟩, .slice py M.length cy), (⟨w11.heap.size, 1, none⟩, .int .i64 k)]) (by simp only [Cells]; go_keep) hb16; simp only [Cells] at T16; obtain ⟨p160, p161, -⟩ := T16; have z16 : w11.heap.size + 1 ≤ w16.heap.size := Nat.le_trans z13 hb16.size; have B16 : Hid (Below wb.heap.size wb w16) := B13.out.trans (hb16.mono B13.out.size); have SQ16 : Hid (SliceP w16 _ q16 M) := sq16; clear sq16; clear p130 p131 z13 hb13)
        try (go_wp2_with fail)
        refine hK.out _ _ ?_ (fun hH2 => ?_)
        · (try dsimp only)
          go_keep
        clear hK K hH1
        try simp only [Act.put, List.setIfInBounds_toArray, List.set_cons_zero, List.set_cons_succ]
        refine wpAnyH_take (i := 20) (oi := { dst := some 107, op := Op.field 37 (Operand.tmp 106) 1, type := 2, pos := "laws.go:176", after := #[{ on := 19, ground := Ground.data }, { on := 15, ground := Ground.guard }], guard := some (15, true) }) (v := ?va20) rfl (by kernel_rfl) (by kernel_rfl) (by kernel_rfl) (fun _ _ _ h => h) (Or.inl ⟨by rfl, ?hya20⟩) (by assumption) ?resta20
        case hya20 =>
          intro w hSw
          (try dsimp only at hSw)
          go_simp
          try with_reducible rfl
        try simp only [Act.put, List.setIfInBounds_toArray, List.set_cons_zero, List.set_cons_succ]
        refine wpAnyH_take (i := 21) (oi := { dst := some 108, op := Op.binOp BinOp.eql 2 (Operand.tmp 104) (Operand.tmp 107) 2, type := 4, pos := "laws.go:176", after := #[{ on := 17, ground := Ground.data }, { on := 20, ground := Ground.data }, { on := 15, ground := Ground.guard }], guard := some (15, true) }) (v := ?va21) rfl (by kernel_rfl) (by kernel_rfl) (by kernel_rfl) (fun _ _ _ h => h) (Or.inl ⟨by rfl, ?hya21⟩) (by assumption) ?resta21
        case hya21 =>
          intro w hSw
          (try dsimp only at hSw)
          go_simp
          try with_reducible rfl
        try simp only [Act.put, List.setIfInBounds_toArray, List.set_cons_zero, List.set_cons_succ]
        refine wpAnyH_take (i := 22) (oi := { dst := some 109, op := Op.pick (Operand.tmp 102) (Operand.tmp 108) (Operand.const (Value.bool false)), type := 4, pos := "laws.go:176", after := #[{ on := 15, ground := Ground.data }, { on := 21, ground := Ground.data }], guard := none }) (v := ?va22) rfl (by kernel_rfl) (by kernel_rfl) (by kernel_rfl) (fun _ _ _ h => h) (Or.inl ⟨by rfl, ?hya22⟩) (by assumption) ?resta22
        case hya22 =>
          intro w hSw
          (try dsimp only at hSw)
          go_simp
          try with_reducible rfl
        try simp only [Act.put, List.setIfInBounds_toArray, List.set_cons_zero, List.set_cons_succ]
        refine wpAnyH_take (i := 23) (oi := { dst := some 110, op := Op.move (Operand.tmp 109), type := 4, pos := "laws.go:176", after := #[{ on := 22, ground := Ground.data }, { on := 19, ground := Ground.chain }], guard := none }) (v := ?va23) rfl (by kernel_rfl) (by kernel_rfl) (by kernel_rfl) (fun _ _ _ h => h) (Or.inl ⟨by rfl, ?hya23⟩) (by assumption) ?resta23
        case hya23 =>
          intro w hSw
          (try dsimp only at hSw)
          go_simp
          try with_reducible rfl
        try simp only [Act.put, List.setIfInBounds_toArray, List.set_cons_zero, List.set_cons_succ]
        refine wpAnyH_take (i := 24) (oi := { dst := some 111, op := Op.fieldAddr 37 (Operand.tmp 13) 0, type := 0, pos := "laws.go:176", after := #[{ on := 23, ground := Ground.guard }], guard := some (23, true) }) (v := ?va24) rfl (by kernel_rfl) (by kernel_rfl) (by kernel_rfl) (fun _ _ _ h => h) (Or.inl ⟨by rfl, ?hya24⟩) (by assumption) ?resta24
        case hya24 =>
          intro w hSw
          (try dsimp only at hSw)
          go_simp
          try with_reducible rfl
        try simp only [Act.put, List.setIfInBounds_toArray, List.set_cons_zero, List.set_cons_succ]
        refine wpAnyH_take (i := 25) (oi := { dst := some 112, op := Op.load 33 (Operand.tmp 111), type := 33, pos := "laws.go:176", after := #[{ on := 24, ground := Ground.data }, { on := 23, ground := Ground.guard }], guard := some (23, true) }) (v := ?va25) rfl (by kernel_rfl) (by kernel_rfl) (by kernel_rfl) (fun _ _ _ h => h) (Or.inl ⟨by rfl, ?hya25⟩) (by assumption) ?resta25
        case hya25 =>
          intro w hSw
          (try dsimp only at hSw)
          go_simp
          try with_reducible rfl
        try simp only [Act.put, List.setIfInBounds_toArray, List.set_cons_zero, List.set_cons_succ]
        refine wpAnyH_take (i := 26) (oi := { dst := some 113, op := Op.move (Operand.tmp 12), type := 9, pos := "laws.go:176", after := #[{ on := 23, ground := Ground.guard }], guard := some (23, true) }) (v := ?va26) rfl (by kernel_rfl) (by kernel_rfl) (by kernel_rfl) (fun _ _ _ h => h) (Or.inl ⟨by rfl, ?hya26⟩) (by assumption) ?resta26
        case hya26 =>
          intro w hSw
          (try dsimp only at hSw)
          go_simp
          try with_reducible rfl
        try simp only [Act.put, List.setIfInBounds_toArray, List.set_cons_zero, List.set_cons_succ]
        refine wpAnyH_ready (rs := [27]) (by kernel_rfl) (by simp) ?_
        refine AllReadyH.cons (o := { dst := some 114, op := Op.call { callee := Callee.value (Operand.func 21), args := #[Operand.tmp 113], argTypes := #[9] }, type := 37, pos := "laws.go:176", after := #[{ on := 26, ground := Ground.data }, { on := 23, ground := Ground.chain }, { on := 23, ground := Ground.guard }], guard := some (23, true) }) rfl (fun K hK => ?_) AllReadyH.nil
        go_simp
        (go_at_call 21; refine (TY.out _).mono ?_; rintro e w17 ⟨q17, rfl, sq17, hb17⟩; have T17 := Cells.below (L := [(⟨w11.heap.size, 0, none⟩, .slice py M.length cy), (⟨w11.heap.size, 1, none⟩, .int .i64 k)]) (by simp only [Cells]; go_keep) hb17; simp only [Cells] at T17; obtain ⟨p170, p171, -⟩ := T17; have z17 : w11.heap.size + 1 ≤ w17.heap.size := Nat.le_trans z16 hb17.size; have B17 : Hid (Below wb.heap.size wb w17) := B16.out.trans (hb17.mono B16.out.size); have SQ17 : Hid (SliceP w17 _ q17 M) := sq17; clear sq17; clear p160 p161 z16 hb16)
        try (go_wp2_with fail)
        refine hK.out _ _ ?_ (fun hH3 => ?_)
        · (try dsimp only)
          go_keep
        clear hK K hH2
        try simp only [Act.put, List.setIfInBounds_toArray, List.set_cons_zero, List.set_cons_succ]
        refine wpAnyH_take (i := 28) (oi := { dst := some 115, op := Op.field 37 (Operand.tmp 114) 0, type := 33, pos := "laws.go:176", after := #[{ on := 27, ground := Ground.data }, { on := 23, ground := Ground.guard }], guard := some (23, true) }) (v := ?va28) rfl (by kernel_rfl) (by kernel_rfl) (by kernel_rfl) (fun _ _ _ h => h) (Or.inl ⟨by rfl, ?hya28⟩) (by assumption) ?resta28
        case hya28 =>
          intro w hSw
          (try dsimp only at hSw)
          go_simp
          try with_reducible rfl
        try simp only [Act.put, List.setIfInBounds_toArray, List.set_cons_zero, List.set_cons_succ]
        refine wpAnyH_ready (rs := [29]) (by kernel_rfl) (by simp) ?_
        refine AllReadyH.cons (o := { dst := some 116, op := Op.call { callee := Callee.value (Operand.func 20), args := #[Operand.tmp 112, Operand.tmp 115], argTypes := #[33, 33] }, type := 4, pos := "laws.go:176", after := #[{ on := 25, ground := Ground.data }, { on := 28, ground := Ground.data }, { on := 27, ground := Ground.chain }, { on := 23, ground := Ground.guard }], guard := some (23, true) }) rfl (fun K hK => ?_) AllReadyH.nil
        go_simp
        (go_at_call 20; refine (lwPairs_any _ q17 M _ _ _ (SliceR.below SY.out B17.out) SQ17.out hM).mono ?_; rintro e w18 ⟨rfl, hb18⟩; have T18 := Cells.below (L := [(⟨w11.heap.size, 0, none⟩, .slice py M.length cy), (⟨w11.heap.size, 1, none⟩, .int .i64 k)]) (by simp only [Cells]; go_keep) hb18; simp only [Cells] at T18; obtain ⟨p180, p181, -⟩ := T18; have z18 : w11.heap.size + 1 ≤ w18.heap.size := Nat.le_trans z17 hb18.size; have B18 : Hid (Below wb.heap.size wb w18) := B17.out.trans (hb18.mono B17.out.size); clear p170 p171 z17 hb17)
        try (go_wp2_with fail)
        refine hK.out _ _ ?_ (fun hH4 => ?_)
        · (try dsimp only)
          go_keep
        clear hK K hH3
        try simp only [Act.put, List.setIfInBounds_toArray, List.set_cons_zero, List.set_cons_succ]
        refine wpAnyH_take (i := 30) (oi := { dst := some 117, op := Op.pick (Operand.tmp 110) (Operand.tmp 116) (Operand.const (Value.bool false)), type := 4, pos := "laws.go:176", after := #[{ on := 23, ground := Ground.data }, { on := 29, ground := Ground.data }], guard := none }) (v := ?va30) rfl (by kernel_rfl) (by kernel_rfl) (by kernel_rfl) (fun _ _ _ h => h) (Or.inl ⟨by rfl, ?hya30⟩) (by assumption) ?resta30
        case hya30 =>
          intro w hSw
          (try dsimp only at hSw)
          go_simp
          try with_reducible rfl
        try simp only [Act.put, List.setIfInBounds_toArray, List.set_cons_zero, List.set_cons_succ]
        refine wpAnyH_take (i := 31) (oi := { dst := some 118, op := Op.move (Operand.tmp 117), type := 4, pos := "laws.go:176", after := #[{ on := 30, ground := Ground.data }, { on := 29, ground := Ground.chain }], guard := none }) (v := ?va31) rfl (by kernel_rfl) (by kernel_rfl) (by kernel_rfl) (fun _ _ _ h => h) (Or.inl ⟨by rfl, ?hya31⟩) (by assumption) ?resta31
        case hya31 =>
          intro w hSw
          (try dsimp only at hSw)
          go_simp
          try with_reducible rfl
        try simp only [Act.put, List.setIfInBounds_toArray, List.set_cons_zero, List.set_cons_succ]
        refine wpAnyH_take (i := 32) (oi := { dst := some 119, op := Op.fieldAddr 37 (Operand.tmp 13) 1, type := 0, pos := "laws.go:176", after := #[{ on := 31, ground := Ground.guard }], guard := some (31, true) }) (v := ?va32) rfl (by kernel_rfl) (by kernel_rfl) (by kernel_rfl) (fun _ _ _ h => h) (Or.inl ⟨by rfl, ?hya32⟩) (by assumption) ?resta32
        case hya32 =>
          intro w hSw
          (try dsimp only at hSw)
          go_simp
          try with_reducible rfl
        try simp only [Act.put, List.setIfInBounds_toArray, List.set_cons_zero, List.set_cons_succ]
        refine wpAnyH_take (i := 33) (oi := { dst := some 120, op := Op.load 2 (Operand.tmp 119), type := 2, pos := "laws.go:176", after := #[{ on := 32, ground := Ground.data }, { on := 31, ground := Ground.guard }], guard := some (31, true) }) (v := ?va33) rfl (by kernel_rfl) (by kernel_rfl) (by kernel_rfl) (fun _ _ _ h => h) (Or.inl ⟨by rfl, ?hya33⟩) (by assumption) ?resta33
        case hya33 =>
          intro w hSw
          (try dsimp only at hSw)
          go_simp
          try with_reducible rfl
        try simp only [Act.put, List.setIfInBounds_toArray, List.set_cons_zero, List.set_cons_succ]
        refine wpAnyH_take (i := 34) (oi := { dst := some 121, op := Op.binOp BinOp.neq 2 (Operand.tmp 120) (Operand.const (Value.int IntKind.i64 0)) 2, type := 4, pos := "laws.go:176", after := #[{ on := 33, ground := Ground.data }, { on := 31, ground := Ground.guard }], guard := some (31, true) }) (v := ?va34) rfl (by kernel_rfl) (by kernel_rfl) (by kernel_rfl) (fun _ _ _ h => h) (Or.inl ⟨by rfl, ?hya34⟩) (by assumption) ?resta34
        case hya34 =>
          intro w hSw
          (try dsimp only at hSw)
          go_simp
          try with_reducible rfl
        try simp only [Act.put, List.setIfInBounds_toArray, List.set_cons_zero, List.set_cons_succ]
        refine wpAnyH_take (i := 35) (oi := { dst := some 122, op := Op.move (Operand.tmp 121), type := 4, pos := "laws.go:176", after := #[{ on := 34, ground := Ground.data }, { on := 31, ground := Ground.chain }, { on := 31, ground := Ground.guard }], guard := some (31, true) }) (v := ?va35) rfl (by kernel_rfl) (by kernel_rfl) (by kernel_rfl) (fun _ _ _ h => h) (Or.inl ⟨by rfl, ?hya35⟩) (by assumption) ?resta35
        case hya35 =>
          intro w hSw
          (try dsimp only at hSw)
          go_simp
          try with_reducible rfl
        try simp only [Act.put, List.setIfInBounds_toArray, List.set_cons_zero, List.set_cons_succ]
        refine wpAnyH_take (i := 36) (oi := { dst := some 123, op := Op.fieldAddr 37 (Operand.tmp 13) 0, type := 0, pos := "laws.go:176", after := #[{ on := 35, ground := Ground.guard }], guard := some (35, false) }) (v := undef) rfl (by kernel_rfl) (by kernel_rfl) (by kernel_rfl) (fun _ _ _ h => h) (Or.inr ⟨by rfl, rfl⟩) (by assumption) ?_
        try simp only [Act.put, List.setIfInBounds_toArray, List.set_cons_zero, List.set_cons_succ]
        refine wpAnyH_take (i := 37) (oi := { dst := some 124, op := Op.load 33 (Operand.tmp 123), type := 33, pos := "laws.go:176", after := #[{ on := 36, ground := Ground.data }, { on := 35, ground := Ground.guard }], guard := some (35, false) }) (v := undef) rfl (by kernel_rfl) (by kernel_rfl) (by kernel_rfl) (fun _ _ _ h => h) (Or.inr ⟨by rfl, rfl⟩) (by assumption) ?_
        try simp only [Act.put, List.setIfInBounds_toArray, List.set_cons_zero, List.set_cons_succ]
        refine wpAnyH_take (i := 38) (oi := { dst := some 125, op := Op.call { callee := Callee.value (Operand.func 16), args := #[Operand.tmp 124], argTypes := #[33] }, type := 9, pos := "laws.go:176", after := #[{ on := 37, ground := Ground.data }, { on := 35, ground := Ground.chain }, { on := 35, ground := Ground.guard }], guard := some (35, false) }) (v := undef) rfl (by kernel_rfl) (by kernel_rfl) (by kernel_rfl) (fun _ _ _ h => h) (Or.inr ⟨by rfl, rfl⟩) (by assumption) ?_
        try simp only [Act.put, List.setIfInBounds_toArray, List.set_cons_zero, List.set_cons_succ]
        refine wpAnyH_take (i := 39) (oi := { dst := some 126, op := Op.move (Operand.tmp 12), type := 9, pos := "laws.go:176", after := #[{ on := 35, ground := Ground.guard }], guard := some (35, false) }) (v := undef) rfl (by kernel_rfl) (by kernel_rfl) (by kernel_rfl) (fun _ _ _ h => h) (Or.inr ⟨by rfl, rfl⟩) (by assumption) ?_
        try simp only [Act.put, List.setIfInBounds_toArray, List.set_cons_zero, List.set_cons_succ]
        refine wpAnyH_take (i := 40) (oi := { dst := some 127, op := Op.binOp BinOp.eql 9 (Operand.tmp 125) (Operand.tmp 126) 9, type := 4, pos := "laws.go:176", after := #[{ on := 38, ground := Ground.data }, { on := 39, ground := Ground.data }, { on := 35, ground := Ground.guard }], guard := some (35, false) }) (v := undef) rfl (by kernel_rfl) (by kernel_rfl) (by kernel_rfl) (fun _ _ _ h => h) (Or.inr ⟨by rfl, rfl⟩) (by assumption) ?_
        try simp only [Act.put, List.setIfInBounds_toArray, List.set_cons_zero, List.set_cons_succ]
        refine wpAnyH_take (i := 41) (oi := { dst := some 128, op := Op.pick (Operand.tmp 122) (Operand.const (Value.bool true)) (Operand.tmp 127), type := 4, pos := "laws.go:176", after := #[{ on := 35, ground := Ground.data }, { on := 40, ground := Ground.data }, { on := 31, ground := Ground.guard }], guard := some (31, true) }) (v := ?va41) rfl (by kernel_rfl) (by kernel_rfl) (by kernel_rfl) (fun _ _ _ h => h) (Or.inl ⟨by rfl, ?hya41⟩) (by assumption) ?resta41
        case hya41 =>
          intro w hSw
          (try dsimp only at hSw)
          go_simp
          try with_reducible rfl
        try simp only [Act.put, List.setIfInBounds_toArray, List.set_cons_zero, List.set_cons_succ]
        refine wpAnyH_take (i := 42) (oi := { dst := some 129, op := Op.pick (Operand.tmp 118) (Operand.tmp 128) (Operand.const (Value.bool false)), type := 4, pos := "laws.go:176", after := #[{ on := 31, ground := Ground.data }, { on := 41, ground := Ground.data }], guard := none }) (v := ?va42) rfl (by kernel_rfl) (by kernel_rfl) (by kernel_rfl) (fun _ _ _ h => h) (Or.inl ⟨by rfl, ?hya42⟩) (by assumption) ?resta42
        case hya42 =>
          intro w hSw
          (try dsimp only at hSw)
          go_simp
          try with_reducible rfl
        try simp only [Act.put, List.setIfInBounds_toArray, List.set_cons_zero, List.set_cons_succ]
        refine wpAnyH_take (i := 43) (oi := { dst := some 4, op := Op.assign (Operand.tmp 129), type := 4, pos := "laws.go:176", after := #[{ on := 42, ground := Ground.data }, { on := 38, ground := Ground.chain }, { on := 0, ground := Ground.phase }, { on := 1, ground := Ground.phase }, { on := 2, ground := Ground.phase }, { on := 3, ground := Ground.phase }, { on := 4, ground := Ground.phase }, { on := 5, ground := Ground.phase }, { on := 6, ground := Ground.phase }, { on := 7, ground := Ground.phase }, { on := 8, ground := Ground.phase }, { on := 9, ground := Ground.phase }, { on := 10, ground := Ground.phase }, { on := 11, ground := Ground.phase }, { on := 12, ground := Ground.phase }, { on := 13, ground := Ground.phase }, { on := 14, ground := Ground.phase }, { on := 15, ground := Ground.phase }, { on := 16, ground := Ground.phase }, { on := 17, ground := Ground.phase }, { on := 18, ground := Ground.phase }, { on := 19, ground := Ground.phase }, { on := 20, ground := Ground.phase }, { on := 21, ground := Ground.phase }, { on := 22, ground := Ground.phase }, { on := 23, ground := Ground.phase }, { on := 24, ground := Ground.phase }, { on := 25, ground := Ground.phase }, { on := 26, ground := Ground.phase }, { on := 27, ground := Ground.phase }, { on := 28, ground := Ground.phase }, { on := 29, ground := Ground.phase }, { on := 30, ground := Ground.phase }, { on := 31, ground := Ground.phase }, { on := 32, ground := Ground.phase }, { on := 33, ground := Ground.phase }, { on := 34, ground := Ground.phase }, { on := 35, ground := Ground.phase }, { on := 36, ground := Ground.phase }, { on := 37, ground := Ground.phase }, { on := 38, ground := Ground.phase }, { on := 39, ground := Ground.phase }, { on := 40, ground := Ground.phase }, { on := 41, ground := Ground.phase }, { on := 42, ground := Ground.phase }], guard := none }) (v := ?va43) rfl (by kernel_rfl) (by kernel_rfl) (by kernel_rfl) (fun _ _ _ h => h) (Or.inl ⟨by rfl, ?hya43⟩) (by assumption) ?resta43
        case hya43 =>
          intro w hSw
          (try dsimp only at hSw)
          go_simp
          try with_reducible rfl
        try simp only [Act.put, List.setIfInBounds_toArray, List.set_cons_zero, List.set_cons_succ]
        refine wpAnyH_done (by kernel_rfl) ?_ _
        go_wp2
        go_ret
        exact ⟨rfl, BW.out.trans (B18.out.mono BW.out.size)⟩
      | true =>
        have hk' : (k != 0) = false := by rw [bne, hk]; rfl
        refine wp_region_held_drew (S := (fun w' => w11.heap.size + 1 ≤ w'.heap.size ∧ w'.cell? ⟨w11.heap.size, 0, none⟩ = some (.slice py M.length cy) ∧ w'.cell? ⟨w11.heap.size, 1, none⟩ = some (.int .i64 k))) (by kernel_rfl) ?_ (fun hH0 => ?_)
        · (try dsimp only)
          go_keep
        refine wpAnyH_take (i := 0) (oi := { dst := some 87, op := Op.move (Operand.tmp 11), type := 9, pos := "laws.go:176", after := #[], guard := none }) (v := ?vb0) rfl (by kernel_rfl) (by kernel_rfl) (by kernel_rfl) (fun _ _ _ h => h) (Or.inl ⟨by rfl, ?hyb0⟩) (by assumption) ?restb0
        case hyb0 =>
          intro w hSw
          (try dsimp only at hSw)
          go_simp
          try with_reducible rfl
        try simp only [Act.put, List.setIfInBounds_toArray, List.set_cons_zero, List.set_cons_succ]
        refine wpAnyH_take (i := 1) (oi := { dst := some 88, op := Op.move (Operand.tmp 10), type := 33, pos := "laws.go:176", after := #[], guard := none }) (v := ?vb1) rfl (by kernel_rfl) (by kernel_rfl) (by kernel_rfl) (fun _ _ _ h => h) (Or.inl ⟨by rfl, ?hyb1⟩) (by assumption) ?restb1
        case hyb1 =>
          intro w hSw
          (try dsimp only at hSw)
          go_simp
          try with_reducible rfl
        try simp only [Act.put, List.setIfInBounds_toArray, List.set_cons_zero, List.set_cons_succ]
        refine wpAnyH_ready (rs := [2]) (by kernel_rfl) (by simp) ?_
        refine AllReadyH.cons (o := { dst := some 89, op := Op.call { callee := Callee.value (Operand.func 19), args := #[Operand.tmp 88], argTypes := #[33] }, type := 9, pos := "laws.go:176", after := #[{ on := 1, ground := Ground.data }], guard := none }) rfl (fun K hK => ?_) AllReadyH.nil
        go_simp
        (go_at_call 19; refine (TP.out _ (SliceR.below SV.out (B12.out.trans (Below.drew (Below.refl _ _))))).mono ?_; rintro e w13 ⟨rfl, hb13⟩; have T13 := Cells.below (L := [(⟨w11.heap.size, 0, none⟩, .slice py M.length cy), (⟨w11.heap.size, 1, none⟩, .int .i64 k)]) (by simp only [Cells]; go_keep) hb13; simp only [Cells] at T13; obtain ⟨p130, p131, -⟩ := T13; have z13 : w11.heap.size + 1 ≤ w13.heap.size := Nat.le_trans z12 hb13.size; have B13 : Hid (Below wb.heap.size wb w13) := (B12.out.trans (Below.drew (Below.refl _ _))).trans (hb13.mono (by simp)))
        try (go_wp2_with fail)
        refine hK.out _ _ ?_ (fun hH1 => ?_)
        · (try dsimp only)
          go_keep
        clear hK K hH0
        try simp only [Act.put, List.setIfInBounds_toArray, List.set_cons_zero, List.set_cons_succ]
        refine wpAnyH_take (i := 3) (oi := { dst := some 90, op := Op.binOp BinOp.eql 9 (Operand.tmp 87) (Operand.tmp 89) 9, type := 4, pos := "laws.go:176", after := #[{ on := 0, ground := Ground.data }, { on := 2, ground := Ground.data }], guard := none }) (v := ?vb3) rfl (by kernel_rfl) (by kernel_rfl) (by kernel_rfl) (fun _ _ _ h => h) (Or.inl ⟨by rfl, ?hyb3⟩) (by assumption) ?restb3
        case hyb3 =>
          intro w hSw
          (try dsimp only at hSw)
          go_simp
          try with_reducible rfl
        try simp only [Act.put, List.setIfInBounds_toArray, List.set_cons_zero, List.set_cons_succ]
        refine wpAnyH_take (i := 4) (oi := { dst := some 91, op := Op.move (Operand.tmp 90), type := 4, pos := "laws.go:176", after := #[{ on := 3, ground := Ground.data }, { on := 2, ground := Ground.chain }], guard := none }) (v := ?vb4) rfl (by kernel_rfl) (by kernel_rfl) (by kernel_rfl) (fun _ _ _ h => h) (Or.inl ⟨by rfl, ?hyb4⟩) (by assumption) ?restb4
        case hyb4 =>
          intro w hSw
          (try dsimp only at hSw)
          go_simp
          try with_reducible rfl
        try simp only [Act.put, List.setIfInBounds_toArray, List.set_cons_zero, List.set_cons_succ]
        refine wpAnyH_take (i := 5) (oi := { dst := some 92, op := Op.move (Operand.tmp 11), type := 9, pos := "laws.go:176", after := #[{ on := 4, ground := Ground.guard }], guard := some (4, true) }) (v := ?vb5) rfl (by kernel_rfl) (by kernel_rfl) (by kernel_rfl) (fun _ _ _ h => h) (Or.inl ⟨by rfl, ?hyb5⟩) (by assumption) ?restb5
        case hyb5 =>
          intro w hSw
          (try dsimp only at hSw)
          go_simp
          try with_reducible rfl
        try simp only [Act.put, List.setIfInBounds_toArray, List.set_cons_zero, List.set_cons_succ]
        refine wpAnyH_take (i := 6) (oi := { dst := some 93, op := Op.binOp BinOp.eql 9 (Operand.tmp 92) (Operand.const (Value.string { data := #[] })) 9, type := 4, pos := "laws.go:176", after := #[{ on := 5, ground := Ground.data }, { on := 4, ground := Ground.guard }], guard := some (4, true) }) (v := ?vb6) rfl (by kernel_rfl) (by kernel_rfl) (by kernel_rfl) (fun _ _ _ h => h) (Or.inl ⟨by rfl, ?hyb6⟩) (by assumption) ?restb6
        case hyb6 =>
          intro w hSw
          (try dsimp only at hSw)
          go_simp
          try with_reducible rfl
        try simp only [Act.put, List.setIfInBounds_toArray, List.set_cons_zero, List.set_cons_succ]
        refine wpAnyH_take (i := 7) (oi := { dst := some 94, op := Op.move (Operand.tmp 93), type := 4, pos := "laws.go:176", after := #[{ on := 6, ground := Ground.data }, { on := 4, ground := Ground.chain }, { on := 4, ground := Ground.guard }], guard := some (4, true) }) (v := ?vb7) rfl (by kernel_rfl) (by kernel_rfl) (by kernel_rfl) (fun _ _ _ h => h) (Or.inl ⟨by rfl, ?hyb7⟩) (by assumption) ?restb7
        case hyb7 =>
          intro w hSw
          (try dsimp only at hSw)
          go_simp
          try with_reducible rfl
        try simp only [Act.put, List.setIfInBounds_toArray, List.set_cons_zero, List.set_cons_succ]
        refine wpAnyH_take (i := 8) (oi := { dst := some 95, op := Op.move (Operand.tmp 11), type := 9, pos := "laws.go:176", after := #[{ on := 7, ground := Ground.guard }], guard := some (7, false) }) (v := undef) rfl (by kernel_rfl) (by kernel_rfl) (by kernel_rfl) (fun _ _ _ h => h) (Or.inr ⟨by rfl, rfl⟩) (by assumption) ?_
        try simp only [Act.put, List.setIfInBounds_toArray, List.set_cons_zero, List.set_cons_succ]
        refine wpAnyH_take (i := 9) (oi := { dst := some 96, op := Op.call { callee := Callee.value (Operand.func 18), args := #[Operand.tmp 95], argTypes := #[9] }, type := 37, pos := "laws.go:176", after := #[{ on := 8, ground := Ground.data }, { on := 7, ground := Ground.chain }, { on := 7, ground := Ground.guard }], guard := some (7, false) }) (v := undef) rfl (by kernel_rfl) (by kernel_rfl) (by kernel_rfl) (fun _ _ _ h => h) (Or.inr ⟨by rfl, rfl⟩) (by assumption) ?_
        try simp only [Act.put, List.setIfInBounds_toArray, List.set_cons_zero, List.set_cons_succ]
        refine wpAnyH_take (i := 10) (oi := { dst := some 97, op := Op.field 37 (Operand.tmp 96) 0, type := 33, pos := "laws.go:176", after := #[{ on := 9, ground := Ground.data }, { on := 7, ground := Ground.guard }], guard := some (7, false) }) (v := undef) rfl (by kernel_rfl) (by kernel_rfl) (by kernel_rfl) (fun _ _ _ h => h) (Or.inr ⟨by rfl, rfl⟩) (by assumption) ?_
        try simp only [Act.put, List.setIfInBounds_toArray, List.set_cons_zero, List.set_cons_succ]
        refine wpAnyH_take (i := 11) (oi := { dst := some 98, op := Op.move (Operand.tmp 10), type := 33, pos := "laws.go:176", after := #[{ on := 7, ground := Ground.guard }], guard := some (7, false) }) (v := undef) rfl (by kernel_rfl) (by kernel_rfl) (by kernel_rfl) (fun _ _ _ h => h) (Or.inr ⟨by rfl, rfl⟩) (by assumption) ?_
        try simp only [Act.put, List.setIfInBounds_toArray, List.set_cons_zero, List.set_cons_succ]
        refine wpAnyH_take (i := 12) (oi := { dst := some 99, op := Op.call { callee := Callee.value (Operand.func 20), args := #[Operand.tmp 97, Operand.tmp 98], argTypes := #[33, 33] }, type := 4, pos := "laws.go:176", after := #[{ on := 10, ground := Ground.data }, { on := 11, ground := Ground.data }, { on := 9, ground := Ground.chain }, { on := 7, ground := Ground.guard }], guard := some (7, false) }) (v := undef) rfl (by kernel_rfl) (by kernel_rfl) (by kernel_rfl) (fun _ _ _ h => h) (Or.inr ⟨by rfl, rfl⟩) (by assumption) ?_
        try simp only [Act.put, List.setIfInBounds_toArray, List.set_cons_zero, List.set_cons_succ]
        refine wpAnyH_take (i := 13) (oi := { dst := some 100, op := Op.pick (Operand.tmp 94) (Operand.const (Value.bool true)) (Operand.tmp 99), type := 4, pos := "laws.go:176", after := #[{ on := 7, ground := Ground.data }, { on := 12, ground := Ground.data }, { on := 4, ground := Ground.guard }], guard := some (4, true) }) (v := ?vb13) rfl (by kernel_rfl) (by kernel_rfl) (by kernel_rfl) (fun _ _ _ h => h) (Or.inl ⟨by rfl, ?hyb13⟩) (by assumption) ?restb13
        case hyb13 =>
          intro w hSw
          (try dsimp only at hSw)
          go_simp
          try with_reducible rfl
        try simp only [Act.put, List.setIfInBounds_toArray, List.set_cons_zero, List.set_cons_succ]
        refine wpAnyH_take (i := 14) (oi := { dst := some 101, op := Op.pick (Operand.tmp 91) (Operand.tmp 100) (Operand.const (Value.bool false)), type := 4, pos := "laws.go:176", after := #[{ on := 4, ground := Ground.data }, { on := 13, ground := Ground.data }], guard := none }) (v := ?vb14) rfl (by kernel_rfl) (by kernel_rfl) (by kernel_rfl) (fun _ _ _ h => h) (Or.inl ⟨by rfl, ?hyb14⟩) (by assumption) ?restb14
        case hyb14 =>
          intro w hSw
          (try dsimp only at hSw)
          go_simp
          try with_reducible rfl
        try simp only [Act.put, List.setIfInBounds_toArray, List.set_cons_zero, List.set_cons_succ]
        refine wpAnyH_take (i := 15) (oi := { dst := some 102, op := Op.move (Operand.tmp 101), type := 4, pos := "laws.go:176", after := #[{ on := 14, ground := Ground.data }, { on := 12, ground := Ground.chain }], guard := none }) (v := ?vb15) rfl (by kernel_rfl) (by kernel_rfl) (by kernel_rfl) (fun _ _ _ h => h) (Or.inl ⟨by rfl, ?hyb15⟩) (by assumption) ?restb15
        case hyb15 =>
          intro w hSw
          (try dsimp only at hSw)
          go_simp
          try with_reducible rfl
        try simp only [Act.put, List.setIfInBounds_toArray, List.set_cons_zero, List.set_cons_succ]
        refine wpAnyH_take (i := 16) (oi := { dst := some 103, op := Op.fieldAddr 37 (Operand.tmp 13) 1, type := 0, pos := "laws.go:176", after := #[{ on := 15, ground := Ground.guard }], guard := some (15, true) }) (v := ?vb16) rfl (by kernel_rfl) (by kernel_rfl) (by kernel_rfl) (fun _ _ _ h => h) (Or.inl ⟨by rfl, ?hyb16⟩) (by assumption) ?restb16
        case hyb16 =>
          intro w hSw
          (try dsimp only at hSw)
          go_simp
          try with_reducible rfl
        try simp only [Act.put, List.setIfInBounds_toArray, List.set_cons_zero, List.set_cons_succ]
        refine wpAnyH_take (i := 17) (oi := { dst := some 104, op := Op.load 2 (Operand.tmp 103), type := 2, pos := "laws.go:176", after := #[{ on := 16, ground := Ground.data }, { on := 15, ground := Ground.guard }], guard := some (15, true) }) (v := ?vb17) rfl (by kernel_rfl) (by kernel_rfl) (by kernel_rfl) (fun _ _ _ h => h) (Or.inl ⟨by rfl, ?hyb17⟩) (by assumption) ?restb17
        case hyb17 =>
          intro w hSw
          (try dsimp only at hSw)
          go_simp
          try with_reducible rfl
        try simp only [Act.put, List.setIfInBounds_toArray, List.set_cons_zero, List.set_cons_succ]
        refine wpAnyH_take (i := 18) (oi := { dst := some 105, op := Op.move (Operand.tmp 12), type := 9, pos := "laws.go:176", after := #[{ on := 15, ground := Ground.guard }], guard := some (15, true) }) (v := ?vb18) rfl (by kernel_rfl) (by kernel_rfl) (by kernel_rfl) (fun _ _ _ h => h) (Or.inl ⟨by rfl, ?hyb18⟩) (by assumption) ?restb18
        case hyb18 =>
          intro w hSw
          (try dsimp only at hSw)
          go_simp
          try with_reducible rfl
        try simp only [Act.put, List.setIfInBounds_toArray, List.set_cons_zero, List.set_cons_succ]
        refine wpAnyH_ready (rs := [19]) (by kernel_rfl) (by simp) ?_
        refine AllReadyH.cons (o := { dst := some 106, op := Op.call { callee := Callee.value (Operand.func 21), args := #[Operand.tmp 105], argTypes := #[9] }, type := 37, pos := "laws.go:176", after := #[{ on := 18, ground := Ground.data }, { on := 15, ground := Ground.chain }, { on := 15, ground := Ground.guard }], guard := some (15, true) }) rfl (fun K hK => ?_) AllReadyH.nil
        go_simp
        (go_at_call 21; refine (TY.out _).mono ?_; rintro e w16 ⟨q16, rfl, sq16, hb16⟩; have T16 := Cells.below (L := [(⟨w11.heap.size, 0, none⟩, .slice py M.length cy), (⟨w11.heap.size, 1, none⟩, .int .i64 k)]) (by simp only [Cells]; go_keep) hb16; simp only [Cells] at T16; obtain ⟨p160, p161, -⟩ := T16; have z16 : w11.heap.size + 1 ≤ w16.heap.size := Nat.le_trans z13 hb16.size; have B16 : Hid (Below wb.heap.size wb w16) := B13.out.trans (hb16.mono B13.out.size); have SQ16 : Hid (SliceP w16 _ q16 M) := sq16; clear sq16; clear p130 p131 z13 hb13)
        try (go_wp2_with fail)
        refine hK.out _ _ ?_ (fun hH2 => ?_)
        · (try dsimp only)
          go_keep
        clear hK K hH1
        try simp only [Act.put, List.setIfInBounds_toArray, List.set_cons_zero, List.set_cons_succ]
        refine wpAnyH_take (i := 20) (oi := { dst := some 107, op := Op.field 37 (Operand.tmp 106) 1, type := 2, pos := "laws.go:176", after := #[{ on := 19, ground := Ground.data }, { on := 15, ground := Ground.guard }], guard := some (15, true) }) (v := ?vb20) rfl (by kernel_rfl) (by kernel_rfl) (by kernel_rfl) (fun _ _ _ h => h) (Or.inl ⟨by rfl, ?hyb20⟩) (by assumption) ?restb20
        case hyb20 =>
          intro w hSw
          (try dsimp only at hSw)
          go_simp
          try with_reducible rfl
        try simp only [Act.put, List.setIfInBounds_toArray, List.set_cons_zero, List.set_cons_succ]
        refine wpAnyH_take (i := 21) (oi := { dst := some 108, op := Op.binOp BinOp.eql 2 (Operand.tmp 104) (Operand.tmp 107) 2, type := 4, pos := "laws.go:176", after := #[{ on := 17, ground := Ground.data }, { on := 20, ground := Ground.data }, { on := 15, ground := Ground.guard }], guard := some (15, true) }) (v := ?vb21) rfl (by kernel_rfl) (by kernel_rfl) (by kernel_rfl) (fun _ _ _ h => h) (Or.inl ⟨by rfl, ?hyb21⟩) (by assumption) ?restb21
        case hyb21 =>
          intro w hSw
          (try dsimp only at hSw)
          go_simp
          try with_reducible rfl
        try simp only [Act.put, List.setIfInBounds_toArray, List.set_cons_zero, List.set_cons_succ]
        refine wpAnyH_take (i := 22) (oi := { dst := some 109, op := Op.pick (Operand.tmp 102) (Operand.tmp 108) (Operand.const (Value.bool false)), type := 4, pos := "laws.go:176", after := #[{ on := 15, ground := Ground.data }, { on := 21, ground := Ground.data }], guard := none }) (v := ?vb22) rfl (by kernel_rfl) (by kernel_rfl) (by kernel_rfl) (fun _ _ _ h => h) (Or.inl ⟨by rfl, ?hyb22⟩) (by assumption) ?restb22
        case hyb22 =>
          intro w hSw
          (try dsimp only at hSw)
          go_simp
          try with_reducible rfl
        try simp only [Act.put, List.setIfInBounds_toArray, List.set_cons_zero, List.set_cons_succ]
        refine wpAnyH_take (i := 23) (oi := { dst := some 110, op := Op.move (Operand.tmp 109), type := 4, pos := "laws.go:176", after := #[{ on := 22, ground := Ground.data }, { on := 19, ground := Ground.chain }], guard := none }) (v := ?vb23) rfl (by kernel_rfl) (by kernel_rfl) (by kernel_rfl) (fun _ _ _ h => h) (Or.inl ⟨by rfl, ?hyb23⟩) (by assumption) ?restb23
        case hyb23 =>
          intro w hSw
          (try dsimp only at hSw)
          go_simp
          try with_reducible rfl
        try simp only [Act.put, List.setIfInBounds_toArray, List.set_cons_zero, List.set_cons_succ]
        refine wpAnyH_take (i := 24) (oi := { dst := some 111, op := Op.fieldAddr 37 (Operand.tmp 13) 0, type := 0, pos := "laws.go:176", after := #[{ on := 23, ground := Ground.guard }], guard := some (23, true) }) (v := ?vb24) rfl (by kernel_rfl) (by kernel_rfl) (by kernel_rfl) (fun _ _ _ h => h) (Or.inl ⟨by rfl, ?hyb24⟩) (by assumption) ?restb24
        case hyb24 =>
          intro w hSw
          (try dsimp only at hSw)
          go_simp
          try with_reducible rfl
        try simp only [Act.put, List.setIfInBounds_toArray, List.set_cons_zero, List.set_cons_succ]
        refine wpAnyH_take (i := 25) (oi := { dst := some 112, op := Op.load 33 (Operand.tmp 111), type := 33, pos := "laws.go:176", after := #[{ on := 24, ground := Ground.data }, { on := 23, ground := Ground.guard }], guard := some (23, true) }) (v := ?vb25) rfl (by kernel_rfl) (by kernel_rfl) (by kernel_rfl) (fun _ _ _ h => h) (Or.inl ⟨by rfl, ?hyb25⟩) (by assumption) ?restb25
        case hyb25 =>
          intro w hSw
          (try dsimp only at hSw)
          go_simp
          try with_reducible rfl
        try simp only [Act.put, List.setIfInBounds_toArray, List.set_cons_zero, List.set_cons_succ]
        refine wpAnyH_take (i := 26) (oi := { dst := some 113, op := Op.move (Operand.tmp 12), type := 9, pos := "laws.go:176", after := #[{ on := 23, ground := Ground.guard }], guard := some (23, true) }) (v := ?vb26) rfl (by kernel_rfl) (by kernel_rfl) (by kernel_rfl) (fun _ _ _ h => h) (Or.inl ⟨by rfl, ?hyb26⟩) (by assumption) ?restb26
        case hyb26 =>
          intro w hSw
          (try dsimp only at hSw)
          go_simp
          try with_reducible rfl
        try simp only [Act.put, List.setIfInBounds_toArray, List.set_cons_zero, List.set_cons_succ]
        refine wpAnyH_ready (rs := [27]) (by kernel_rfl) (by simp) ?_
        refine AllReadyH.cons (o := { dst := some 114, op := Op.call { callee := Callee.value (Operand.func 21), args := #[Operand.tmp 113], argTypes := #[9] }, type := 37, pos := "laws.go:176", after := #[{ on := 26, ground := Ground.data }, { on := 23, ground := Ground.chain }, { on := 23, ground := Ground.guard }], guard := some (23, true) }) rfl (fun K hK => ?_) AllReadyH.nil
        go_simp
        (go_at_call 21; refine (TY.out _).mono ?_; rintro e w17 ⟨q17, rfl, sq17, hb17⟩; have T17 := Cells.below (L := [(⟨w11.heap.size, 0, none⟩, .slice py M.length cy), (⟨w11.heap.size, 1, none⟩, .int .i64 k)]) (by simp only [Cells]; go_keep) hb17; simp only [Cells] at T17; obtain ⟨p170, p171, -⟩ := T17; have z17 : w11.heap.size + 1 ≤ w17.heap.size := Nat.le_trans z16 hb17.size; have B17 : Hid (Below wb.heap.size wb w17) := B16.out.trans (hb17.mono B16.out.size); have SQ17 : Hid (SliceP w17 _ q17 M) := sq17; clear sq17; clear p160 p161 z16 hb16)
        try (go_wp2_with fail)
        refine hK.out _ _ ?_ (fun hH3 => ?_)
        · (try dsimp only)
          go_keep
        clear hK K hH2
        try simp only [Act.put, List.setIfInBounds_toArray, List.set_cons_zero, List.set_cons_succ]
        refine wpAnyH_take (i := 28) (oi := { dst := some 115, op := Op.field 37 (Operand.tmp 114) 0, type := 33, pos := "laws.go:176", after := #[{ on := 27, ground := Ground.data }, { on := 23, ground := Ground.guard }], guard := some (23, true) }) (v := ?vb28) rfl (by kernel_rfl) (by kernel_rfl) (by kernel_rfl) (fun _ _ _ h => h) (Or.inl ⟨by rfl, ?hyb28⟩) (by assumption) ?restb28
        case hyb28 =>
          intro w hSw
          (try dsimp only at hSw)
          go_simp
          try with_reducible rfl
        try simp only [Act.put, List.setIfInBounds_toArray, List.set_cons_zero, List.set_cons_succ]
        refine wpAnyH_ready (rs := [29]) (by kernel_rfl) (by simp) ?_
        refine AllReadyH.cons (o := { dst := some 116, op := Op.call { callee := Callee.value (Operand.func 20), args := #[Operand.tmp 112, Operand.tmp 115], argTypes := #[33, 33] }, type := 4, pos := "laws.go:176", after := #[{ on := 25, ground := Ground.data }, { on := 28, ground := Ground.data }, { on := 27, ground := Ground.chain }, { on := 23, ground := Ground.guard }], guard := some (23, true) }) rfl (fun K hK => ?_) AllReadyH.nil
        go_simp
        (go_at_call 20; refine (lwPairs_any _ q17 M _ _ _ (SliceR.below SY.out B17.out) SQ17.out hM).mono ?_; rintro e w18 ⟨rfl, hb18⟩; have T18 := Cells.below (L := [(⟨w11.heap.size, 0, none⟩, .slice py M.length cy), (⟨w11.heap.size, 1, none⟩, .int .i64 k)]) (by simp only [Cells]; go_keep) hb18; simp only [Cells] at T18; obtain ⟨p180, p181, -⟩ := T18; have z18 : w11.heap.size + 1 ≤ w18.heap.size := Nat.le_trans z17 hb18.size; have B18 : Hid (Below wb.heap.size wb w18) := B17.out.trans (hb18.mono B17.out.size); clear p170 p171 z17 hb17)
        try (go_wp2_with fail)
        refine hK.out _ _ ?_ (fun hH4 => ?_)
        · (try dsimp only)
          go_keep
        clear hK K hH3
        try simp only [Act.put, List.setIfInBounds_toArray, List.set_cons_zero, List.set_cons_succ]
        refine wpAnyH_take (i := 30) (oi := { dst := some 117, op := Op.pick (Operand.tmp 110) (Operand.tmp 116) (Operand.const (Value.bool false)), type := 4, pos := "laws.go:176", after := #[{ on := 23, ground := Ground.data }, { on := 29, ground := Ground.data }], guard := none }) (v := ?vb30) rfl (by kernel_rfl) (by kernel_rfl) (by kernel_rfl) (fun _ _ _ h => h) (Or.inl ⟨by rfl, ?hyb30⟩) (by assumption) ?restb30
        case hyb30 =>
          intro w hSw
          (try dsimp only at hSw)
          go_simp
          try with_reducible rfl
        try simp only [Act.put, List.setIfInBounds_toArray, List.set_cons_zero, List.set_cons_succ]
        refine wpAnyH_take (i := 31) (oi := { dst := some 118, op := Op.move (Operand.tmp 117), type := 4, pos := "laws.go:176", after := #[{ on := 30, ground := Ground.data }, { on := 29, ground := Ground.chain }], guard := none }) (v := ?vb31) rfl (by kernel_rfl) (by kernel_rfl) (by kernel_rfl) (fun _ _ _ h => h) (Or.inl ⟨by rfl, ?hyb31⟩) (by assumption) ?restb31
        case hyb31 =>
          intro w hSw
          (try dsimp only at hSw)
          go_simp
          try with_reducible rfl
        try simp only [Act.put, List.setIfInBounds_toArray, List.set_cons_zero, List.set_cons_succ]
        refine wpAnyH_take (i := 32) (oi := { dst := some 119, op := Op.fieldAddr 37 (Operand.tmp 13) 1, type := 0, pos := "laws.go:176", after := #[{ on := 31, ground := Ground.guard }], guard := some (31, true) }) (v := ?vb32) rfl (by kernel_rfl) (by kernel_rfl) (by kernel_rfl) (fun _ _ _ h => h) (Or.inl ⟨by rfl, ?hyb32⟩) (by assumption) ?restb32
        case hyb32 =>
          intro w hSw
          (try dsimp only at hSw)
          go_simp
          try with_reducible rfl
        try simp only [Act.put, List.setIfInBounds_toArray, List.set_cons_zero, List.set_cons_succ]
        refine wpAnyH_take (i := 33) (oi := { dst := some 120, op := Op.load 2 (Operand.tmp 119), type := 2, pos := "laws.go:176", after := #[{ on := 32, ground := Ground.data }, { on := 31, ground := Ground.guard }], guard := some (31, true) }) (v := ?vb33) rfl (by kernel_rfl) (by kernel_rfl) (by kernel_rfl) (fun _ _ _ h => h) (Or.inl ⟨by rfl, ?hyb33⟩) (by assumption) ?restb33
        case hyb33 =>
          intro w hSw
          (try dsimp only at hSw)
          go_simp
          try with_reducible rfl
        try simp only [Act.put, List.setIfInBounds_toArray, List.set_cons_zero, List.set_cons_succ]
        refine wpAnyH_take (i := 34) (oi := { dst := some 121, op := Op.binOp BinOp.neq 2 (Operand.tmp 120) (Operand.const (Value.int IntKind.i64 0)) 2, type := 4, pos := "laws.go:176", after := #[{ on := 33, ground := Ground.data }, { on := 31, ground := Ground.guard }], guard := some (31, true) }) (v := ?vb34) rfl (by kernel_rfl) (by kernel_rfl) (by kernel_rfl) (fun _ _ _ h => h) (Or.inl ⟨by rfl, ?hyb34⟩) (by assumption) ?restb34
        case hyb34 =>
          intro w hSw
          (try dsimp only at hSw)
          go_simp
          try with_reducible rfl
        try simp only [Act.put, List.setIfInBounds_toArray, List.set_cons_zero, List.set_cons_succ]
        refine wpAnyH_take (i := 35) (oi := { dst := some 122, op := Op.move (Operand.tmp 121), type := 4, pos := "laws.go:176", after := #[{ on := 34, ground := Ground.data }, { on := 31, ground := Ground.chain }, { on := 31, ground := Ground.guard }], guard := some (31, true) }) (v := ?vb35) rfl (by kernel_rfl) (by kernel_rfl) (by kernel_rfl) (fun _ _ _ h => h) (Or.inl ⟨by rfl, ?hyb35⟩) (by assumption) ?restb35
        case hyb35 =>
          intro w hSw
          (try dsimp only at hSw)
          go_simp
          try with_reducible rfl
        try simp only [Act.put, List.setIfInBounds_toArray, List.set_cons_zero, List.set_cons_succ]
        refine wpAnyH_take (i := 36) (oi := { dst := some 123, op := Op.fieldAddr 37 (Operand.tmp 13) 0, type := 0, pos := "laws.go:176", after := #[{ on := 35, ground := Ground.guard }], guard := some (35, false) }) (v := ?vb36) rfl (by kernel_rfl) (by kernel_rfl) (by kernel_rfl) (fun _ _ _ h => h) (Or.inl ⟨by rfl, ?hyb36⟩) (by assumption) ?restb36
        case hyb36 =>
          intro w hSw
          (try dsimp only at hSw)
          go_simp
          try with_reducible rfl
        try simp only [Act.put, List.setIfInBounds_toArray, List.set_cons_zero, List.set_cons_succ]
        refine wpAnyH_take (i := 37) (oi := { dst := some 124, op := Op.load 33 (Operand.tmp 123), type := 33, pos := "laws.go:176", after := #[{ on := 36, ground := Ground.data }, { on := 35, ground := Ground.guard }], guard := some (35, false) }) (v := ?vb37) rfl (by kernel_rfl) (by kernel_rfl) (by kernel_rfl) (fun _ _ _ h => h) (Or.inl ⟨by rfl, ?hyb37⟩) (by assumption) ?restb37
        case hyb37 =>
          intro w hSw
          (try dsimp only at hSw)
          go_simp
          try with_reducible rfl
        try simp only [Act.put, List.setIfInBounds_toArray, List.set_cons_zero, List.set_cons_succ]
        refine wpAnyH_take (i := 39) (oi := { dst := some 126, op := Op.move (Operand.tmp 12), type := 9, pos := "laws.go:176", after := #[{ on := 35, ground := Ground.guard }], guard := some (35, false) }) (v := ?vb39) rfl (by kernel_rfl) (by kernel_rfl) (by kernel_rfl) (fun _ _ _ h => h) (Or.inl ⟨by rfl, ?hyb39⟩) (by assumption) ?restb39
        case hyb39 =>
          intro w hSw
          (try dsimp only at hSw)
          go_simp
          try with_reducible rfl
        try simp only [Act.put, List.setIfInBounds_toArray, List.set_cons_zero, List.set_cons_succ]
        refine wpAnyH_ready (rs := [38]) (by kernel_rfl) (by simp) ?_
        refine AllReadyH.cons (o := { dst := some 125, op := Op.call { callee := Callee.value (Operand.func 16), args := #[Operand.tmp 124], argTypes := #[33] }, type := 9, pos := "laws.go:176", after := #[{ on := 37, ground := Ground.data }, { on := 35, ground := Ground.chain }, { on := 35, ground := Ground.guard }], guard := some (35, false) }) rfl (fun K hK => ?_) AllReadyH.nil
        go_simp
        (go_at_call 16; refine (KM.out (eq_of_beq hk) _ B18.out).mono ?_; rintro e w19 ⟨rfl, hb19⟩; have T19 := Cells.below (L := [(⟨w11.heap.size, 0, none⟩, .slice py M.length cy), (⟨w11.heap.size, 1, none⟩, .int .i64 k)]) (by simp only [Cells]; go_keep) hb19; simp only [Cells] at T19; obtain ⟨p190, p191, -⟩ := T19; have z19 : w11.heap.size + 1 ≤ w19.heap.size := Nat.le_trans z18 hb19.size; have B19 : Hid (Below wb.heap.size wb w19) := B18.out.trans (hb19.mono B18.out.size); clear p180 p181 z18 hb18)
        try (go_wp2_with fail)
        refine hK.out _ _ ?_ (fun hH5 => ?_)
        · (try dsimp only)
          go_keep
        clear hK K hH4
        try simp only [Act.put, List.setIfInBounds_toArray, List.set_cons_zero, List.set_cons_succ]
        refine wpAnyH_take (i := 40) (oi := { dst := some 127, op := Op.binOp BinOp.eql 9 (Operand.tmp 125) (Operand.tmp 126) 9, type := 4, pos := "laws.go:176", after := #[{ on := 38, ground := Ground.data }, { on := 39, ground := Ground.data }, { on := 35, ground := Ground.guard }], guard := some (35, false) }) (v := ?vb40) rfl (by kernel_rfl) (by kernel_rfl) (by kernel_rfl) (fun _ _ _ h => h) (Or.inl ⟨by rfl, ?hyb40⟩) (by assumption) ?restb40
        case hyb40 =>
          intro w hSw
          (try dsimp only at hSw)
          go_simp
          try with_reducible rfl
        try simp only [Act.put, List.setIfInBounds_toArray, List.set_cons_zero, List.set_cons_succ]
        refine wpAnyH_take (i := 41) (oi := { dst := some 128, op := Op.pick (Operand.tmp 122) (Operand.const (Value.bool true)) (Operand.tmp 127), type := 4, pos := "laws.go:176", after := #[{ on := 35, ground := Ground.data }, { on := 40, ground := Ground.data }, { on := 31, ground := Ground.guard }], guard := some (31, true) }) (v := ?vb41) rfl (by kernel_rfl) (by kernel_rfl) (by kernel_rfl) (fun _ _ _ h => h) (Or.inl ⟨by rfl, ?hyb41⟩) (by assumption) ?restb41
        case hyb41 =>
          intro w hSw
          (try dsimp only at hSw)
          go_simp
          try with_reducible rfl
        try simp only [Act.put, List.setIfInBounds_toArray, List.set_cons_zero, List.set_cons_succ]
        refine wpAnyH_take (i := 42) (oi := { dst := some 129, op := Op.pick (Operand.tmp 118) (Operand.tmp 128) (Operand.const (Value.bool false)), type := 4, pos := "laws.go:176", after := #[{ on := 31, ground := Ground.data }, { on := 41, ground := Ground.data }], guard := none }) (v := ?vb42) rfl (by kernel_rfl) (by kernel_rfl) (by kernel_rfl) (fun _ _ _ h => h) (Or.inl ⟨by rfl, ?hyb42⟩) (by assumption) ?restb42
        case hyb42 =>
          intro w hSw
          (try dsimp only at hSw)
          go_simp
          try with_reducible rfl
        try simp only [Act.put, List.setIfInBounds_toArray, List.set_cons_zero, List.set_cons_succ]
        refine wpAnyH_take (i := 43) (oi := { dst := some 4, op := Op.assign (Operand.tmp 129), type := 4, pos := "laws.go:176", after := #[{ on := 42, ground := Ground.data }, { on := 38, ground := Ground.chain }, { on := 0, ground := Ground.phase }, { on := 1, ground := Ground.phase }, { on := 2, ground := Ground.phase }, { on := 3, ground := Ground.phase }, { on := 4, ground := Ground.phase }, { on := 5, ground := Ground.phase }, { on := 6, ground := Ground.phase }, { on := 7, ground := Ground.phase }, { on := 8, ground := Ground.phase }, { on := 9, ground := Ground.phase }, { on := 10, ground := Ground.phase }, { on := 11, ground := Ground.phase }, { on := 12, ground := Ground.phase }, { on := 13, ground := Ground.phase }, { on := 14, ground := Ground.phase }, { on := 15, ground := Ground.phase }, { on := 16, ground := Ground.phase }, { on := 17, ground := Ground.phase }, { on := 18, ground := Ground.phase }, { on := 19, ground := Ground.phase }, { on := 20, ground := Ground.phase }, { on := 21, ground := Ground.phase }, { on := 22, ground := Ground.phase }, { on := 23, ground := Ground.phase }, { on := 24, ground := Ground.phase }, { on := 25, ground := Ground.phase }, { on := 26, ground := Ground.phase }, { on := 27, ground := Ground.phase }, { on := 28, ground := Ground.phase }, { on := 29, ground := Ground.phase }, { on := 30, ground := Ground.phase }, { on := 31, ground := Ground.phase }, { on := 32, ground := Ground.phase }, { on := 33, ground := Ground.phase }, { on := 34, ground := Ground.phase }, { on := 35, ground := Ground.phase }, { on := 36, ground := Ground.phase }, { on := 37, ground := Ground.phase }, { on := 38, ground := Ground.phase }, { on := 39, ground := Ground.phase }, { on := 40, ground := Ground.phase }, { on := 41, ground := Ground.phase }, { on := 42, ground := Ground.phase }], guard := none }) (v := ?vb43) rfl (by kernel_rfl) (by kernel_rfl) (by kernel_rfl) (fun _ _ _ h => h) (Or.inl ⟨by rfl, ?hyb43⟩) (by assumption) ?restb43
        case hyb43 =>
          intro w hSw
          (try dsimp only at hSw)
          go_simp
          try with_reducible rfl
        try simp only [Act.put, List.setIfInBounds_toArray, List.set_cons_zero, List.set_cons_succ]
        refine wpAnyH_done (by kernel_rfl) ?_ _
        go_wp2
        go_ret
        exact ⟨rfl, BW.out.trans (B19.out.mono BW.out.size)⟩
    | false =>
      cases hk : (k == 0) with
      | false =>
        have hk' : (k != 0) = true := by rw [bne, hk]; rfl
        refine wp_region_held_drew (S := (fun w' => w11.heap.size + 1 ≤ w'.heap.size ∧ w'.cell? ⟨w11.heap.size, 0, none⟩ = some (.slice py M.length cy) ∧ w'.cell? ⟨w11.heap.size, 1, none⟩ = some (.int .i64 k))) (by kernel_rfl) ?_ (fun hH0 => ?_)
        · (try dsimp only)
          go_keep
        refine wpAnyH_take (i := 0) (oi := { dst := some 87, op := Op.move (Operand.tmp 11), type := 9, pos := "laws.go:176", after := #[], guard := none }) (v := ?vc0) rfl (by kernel_rfl) (by kernel_rfl) (by kernel_rfl) (fun _ _ _ h => h) (Or.inl ⟨by rfl, ?hyc0⟩) (by assumption) ?restc0
        case hyc0 =>
          intro w hSw
          (try dsimp only at hSw)
          go_simp
          try with_reducible rfl
        try simp only [Act.put, List.setIfInBounds_toArray, List.set_cons_zero, List.set_cons_succ]
        refine wpAnyH_take (i := 1) (oi := { dst := some 88, op := Op.move (Operand.tmp 10), type := 33, pos := "laws.go:176", after := #[], guard := none }) (v := ?vc1) rfl (by kernel_rfl) (by kernel_rfl) (by kernel_rfl) (fun _ _ _ h => h) (Or.inl ⟨by rfl, ?hyc1⟩) (by assumption) ?restc1
        case hyc1 =>
          intro w hSw
          (try dsimp only at hSw)
          go_simp
          try with_reducible rfl
        try simp only [Act.put, List.setIfInBounds_toArray, List.set_cons_zero, List.set_cons_succ]
        refine wpAnyH_ready (rs := [2]) (by kernel_rfl) (by simp) ?_
        refine AllReadyH.cons (o := { dst := some 89, op := Op.call { callee := Callee.value (Operand.func 19), args := #[Operand.tmp 88], argTypes := #[33] }, type := 9, pos := "laws.go:176", after := #[{ on := 1, ground := Ground.data }], guard := none }) rfl (fun K hK => ?_) AllReadyH.nil
        go_simp
        (go_at_call 19; refine (TP.out _ (SliceR.below SV.out (B12.out.trans (Below.drew (Below.refl _ _))))).mono ?_; rintro e w13 ⟨rfl, hb13⟩; have T13 := Cells.below (L := [(⟨w11.heap.size, 0, none⟩, .slice py M.length cy), (⟨w11.heap.size, 1, none⟩, .int .i64 k)]) (by simp only [Cells]; go_keep) hb13; simp only [Cells] at T13; obtain ⟨p130, p131, -⟩ := T13; have z13 : w11.heap.size + 1 ≤ w13.heap.size := Nat.le_trans z12 hb13.size; have B13 : Hid (Below wb.heap.size wb w13) := (B12.out.trans (Below.drew (Below.refl _ _))).trans (hb13.mono (by simp)))
        try (go_wp2_with fail)
        refine hK.out _ _ ?_ (fun hH1 => ?_)
        · (try dsimp only)
          go_keep
        clear hK K hH0
        try simp only [Act.put, List.setIfInBounds_toArray, List.set_cons_zero, List.set_cons_succ]
        refine wpAnyH_take (i := 3) (oi := { dst := some 90, op := Op.binOp BinOp.eql 9 (Operand.tmp 87) (Operand.tmp 89) 9, type := 4, pos := "laws.go:176", after := #[{ on := 0, ground := Ground.data }, { on := 2, ground := Ground.data }], guard := none }) (v := ?vc3) rfl (by kernel_rfl) (by kernel_rfl) (by kernel_rfl) (fun _ _ _ h => h) (Or.inl ⟨by rfl, ?hyc3⟩) (by assumption) ?restc3
        case hyc3 =>
          intro w hSw
          (try dsimp only at hSw)
          go_simp
          try with_reducible rfl
        try simp only [Act.put, List.setIfInBounds_toArray, List.set_cons_zero, List.set_cons_succ]
        refine wpAnyH_take (i := 4) (oi := { dst := some 91, op := Op.move (Operand.tmp 90), type := 4, pos := "laws.go:176", after := #[{ on := 3, ground := Ground.data }, { on := 2, ground := Ground.chain }], guard := none }) (v := ?vc4) rfl (by kernel_rfl) (by kernel_rfl) (by kernel_rfl) (fun _ _ _ h => h) (Or.inl ⟨by rfl, ?hyc4⟩) (by assumption) ?restc4
        case hyc4 =>
          intro w hSw
          (try dsimp only at hSw)
          go_simp
          try with_reducible rfl
        try simp only [Act.put, List.setIfInBounds_toArray, List.set_cons_zero, List.set_cons_succ]
        refine wpAnyH_take (i := 5) (oi := { dst := some 92, op := Op.move (Operand.tmp 11), type := 9, pos := "laws.go:176", after := #[{ on := 4, ground := Ground.guard }], guard := some (4, true) }) (v := ?vc5) rfl (by kernel_rfl) (by kernel_rfl) (by kernel_rfl) (fun _ _ _ h => h) (Or.inl ⟨by rfl, ?hyc5⟩) (by assumption) ?restc5
        case hyc5 =>
          intro w hSw
          (try dsimp only at hSw)
          go_simp
          try with_reducible rfl
        try simp only [Act.put, List.setIfInBounds_toArray, List.set_cons_zero, List.set_cons_succ]
        refine wpAnyH_take (i := 6) (oi := { dst := some 93, op := Op.binOp BinOp.eql 9 (Operand.tmp 92) (Operand.const (Value.string { data := #[] })) 9, type := 4, pos := "laws.go:176", after := #[{ on := 5, ground := Ground.data }, { on := 4, ground := Ground.guard }], guard := some (4, true) }) (v := ?vc6) rfl (by kernel_rfl) (by kernel_rfl) (by kernel_rfl) (fun _ _ _ h => h) (Or.inl ⟨by rfl, ?hyc6⟩) (by assumption) ?restc6
        case hyc6 =>
          intro w hSw
          (try dsimp only at hSw)
          go_simp
          try with_reducible rfl
        try simp only [Act.put, List.setIfInBounds_toArray, List.set_cons_zero, List.set_cons_succ]
        refine wpAnyH_take (i := 7) (oi := { dst := some 94, op := Op.move (Operand.tmp 93), type := 4, pos := "laws.go:176", after := #[{ on := 6, ground := Ground.data }, { on := 4, ground := Ground.chain }, { on := 4, ground := Ground.guard }], guard := some (4, true) }) (v := ?vc7) rfl (by kernel_rfl) (by kernel_rfl) (by kernel_rfl) (fun _ _ _ h => h) (Or.inl ⟨by rfl, ?hyc7⟩) (by assumption) ?restc7
        case hyc7 =>
          intro w hSw
          (try dsimp only at hSw)
          go_simp
          try with_reducible rfl
        try simp only [Act.put, List.setIfInBounds_toArray, List.set_cons_zero, List.set_cons_succ]
        refine wpAnyH_take (i := 8) (oi := { dst := some 95, op := Op.move (Operand.tmp 11), type := 9, pos := "laws.go:176", after := #[{ on := 7, ground := Ground.guard }], guard := some (7, false) }) (v := ?vc8) rfl (by kernel_rfl) (by kernel_rfl) (by kernel_rfl) (fun _ _ _ h => h) (Or.inl ⟨by rfl, ?hyc8⟩) (by assumption) ?restc8
        case hyc8 =>
          intro w hSw
          (try dsimp only at hSw)
          go_simp
          try with_reducible rfl
        try simp only [Act.put, List.setIfInBounds_toArray, List.set_cons_zero, List.set_cons_succ]
        refine wpAnyH_take (i := 11) (oi := { dst := some 98, op := Op.move (Operand.tmp 10), type := 33, pos := "laws.go:176", after := #[{ on := 7, ground := Ground.guard }], guard := some (7, false) }) (v := ?vc11) rfl (by kernel_rfl) (by kernel_rfl) (by kernel_rfl) (fun _ _ _ h => h) (Or.inl ⟨by rfl, ?hyc11⟩) (by assumption) ?restc11
        case hyc11 =>
          intro w hSw
          (try dsimp only at hSw)
          go_simp
          try with_reducible rfl
        try simp only [Act.put, List.setIfInBounds_toArray, List.set_cons_zero, List.set_cons_succ]
        refine wpAnyH_ready (rs := [9]) (by kernel_rfl) (by simp) ?_
        refine AllReadyH.cons (o := { dst := some 96, op := Op.call { callee := Callee.value (Operand.func 18), args := #[Operand.tmp 95], argTypes := #[9] }, type := 37, pos := "laws.go:176", after := #[{ on := 8, ground := Ground.data }, { on := 7, ground := Ground.chain }, { on := 7, ground := Ground.guard }], guard := some (7, false) }) rfl (fun K hK => ?_) AllReadyH.nil
        go_simp
        (go_at_call 18; refine (KV.out hV0 _ B13.out).mono ?_; rintro e w14 ⟨q14, rfl, sq14, hb14⟩; have T14 := Cells.below (L := [(⟨w11.heap.size, 0, none⟩, .slice py M.length cy), (⟨w11.heap.size, 1, none⟩, .int .i64 k)]) (by simp only [Cells]; go_keep) hb14; simp only [Cells] at T14; obtain ⟨p140, p141, -⟩ := T14; have z14 : w11.heap.size + 1 ≤ w14.heap.size := Nat.le_trans z13 hb14.size; have B14 : Hid (Below wb.heap.size wb w14) := B13.out.trans (hb14.mono B13.out.size); have SQ14 : Hid (SliceP w14 _ q14 L) := sq14; clear sq14; clear p130 p131 z13 hb13)
        try (go_wp2_with fail)
        refine hK.out _ _ ?_ (fun hH2 => ?_)
        · (try dsimp only)
          go_keep
        clear hK K hH1
        try simp only [Act.put, List.setIfInBounds_toArray, List.set_cons_zero, List.set_cons_succ]
        refine wpAnyH_take (i := 10) (oi := { dst := some 97, op := Op.field 37 (Operand.tmp 96) 0, type := 33, pos := "laws.go:176", after := #[{ on := 9, ground := Ground.data }, { on := 7, ground := Ground.guard }], guard := some (7, false) }) (v := ?vc10) rfl (by kernel_rfl) (by kernel_rfl) (by kernel_rfl) (fun _ _ _ h => h) (Or.inl ⟨by rfl, ?hyc10⟩) (by assumption) ?restc10
        case hyc10 =>
          intro w hSw
          (try dsimp only at hSw)
          go_simp
          try with_reducible rfl
        try simp only [Act.put, List.setIfInBounds_toArray, List.set_cons_zero, List.set_cons_succ]
        refine wpAnyH_ready (rs := [12]) (by kernel_rfl) (by simp) ?_
        refine AllReadyH.cons (o := { dst := some 99, op := Op.call { callee := Callee.value (Operand.func 20), args := #[Operand.tmp 97, Operand.tmp 98], argTypes := #[33, 33] }, type := 4, pos := "laws.go:176", after := #[{ on := 10, ground := Ground.data }, { on := 11, ground := Ground.data }, { on := 9, ground := Ground.chain }, { on := 7, ground := Ground.guard }], guard := some (7, false) }) rfl (fun K hK => ?_) AllReadyH.nil
        go_simp
        (go_at_call 20; refine (lwPairs_any q14 v L _ _ _ SQ14.out (SliceR.below SV.out B14.out) hL).mono ?_; rintro e w15 ⟨rfl, hb15⟩; have T15 := Cells.below (L := [(⟨w11.heap.size, 0, none⟩, .slice py M.length cy), (⟨w11.heap.size, 1, none⟩, .int .i64 k)]) (by simp only [Cells]; go_keep) hb15; simp only [Cells] at T15; obtain ⟨p150, p151, -⟩ := T15; have z15 : w11.heap.size + 1 ≤ w15.heap.size := Nat.le_trans z14 hb15.size; have B15 : Hid (Below wb.heap.size wb w15) := B14.out.trans (hb15.mono B14.out.size); clear p140 p141 z14 hb14)
        try (go_wp2_with fail)
        refine hK.out _ _ ?_ (fun hH3 => ?_)
        · (try dsimp only)
          go_keep
        clear hK K hH2
        try simp only [Act.put, List.setIfInBounds_toArray, List.set_cons_zero, List.set_cons_succ]
        refine wpAnyH_take (i := 13) (oi := { dst := some 100, op := Op.pick (Operand.tmp 94) (Operand.const (Value.bool true)) (Operand.tmp 99), type := 4, pos := "laws.go:176", after := #[{ on := 7, ground := Ground.data }, { on := 12, ground := Ground.data }, { on := 4, ground := Ground.guard }], guard := some (4, true) }) (v := ?vc13) rfl (by kernel_rfl) (by kernel_rfl) (by kernel_rfl) (fun _ _ _ h => h) (Or.inl ⟨by rfl, ?hyc13⟩) (by assumption) ?restc13
        case hyc13 =>
          intro w hSw
          (try dsimp only at hSw)
          go_simp
          try with_reducible rfl
        try simp only [Act.put, List.setIfInBounds_toArray, List.set_cons_zero, List.set_cons_succ]
        refine wpAnyH_take (i := 14) (oi := { dst := some 101, op := Op.pick (Operand.tmp 91) (Operand.tmp 100) (Operand.const (Value.bool false)), type := 4, pos := "laws.go:176", after := #[{ on := 4, ground := Ground.data }, { on := 13, ground := Ground.data }], guard := none }) (v := ?vc14) rfl (by kernel_rfl) (by kernel_rfl) (by kernel_rfl) (fun _ _ _ h => h) (Or.inl ⟨by rfl, ?hyc14⟩) (by assumption) ?restc14
        case hyc14 =>
          intro w hSw
          (try dsimp only at hSw)
          go_simp
          try with_reducible rfl
        try simp only [Act.put, List.setIfInBounds_toArray, List.set_cons_zero, List.set_cons_succ]
        refine wpAnyH_take (i := 15) (oi := { dst := some 102, op := Op.move (Operand.tmp 101), type := 4, pos := "laws.go:176", after := #[{ on := 14, ground := Ground.data }, { on := 12, ground := Ground.chain }], guard := none }) (v := ?vc15) rfl (by kernel_rfl) (by kernel_rfl) (by kernel_rfl) (fun _ _ _ h => h) (Or.inl ⟨by rfl, ?hyc15⟩) (by assumption) ?restc15
        case hyc15 =>
          intro w hSw
          (try dsimp only at hSw)
          go_simp
          try with_reducible rfl
        try simp only [Act.put, List.setIfInBounds_toArray, List.set_cons_zero, List.set_cons_succ]
        refine wpAnyH_take (i := 16) (oi := { dst := some 103, op := Op.fieldAddr 37 (Operand.tmp 13) 1, type := 0, pos := "laws.go:176", after := #[{ on := 15, ground := Ground.guard }], guard := some (15, true) }) (v := ?vc16) rfl (by kernel_rfl) (by kernel_rfl) (by kernel_rfl) (fun _ _ _ h => h) (Or.inl ⟨by rfl, ?hyc16⟩) (by assumption) ?restc16
        case hyc16 =>
          intro w hSw
          (try dsimp only at hSw)
          go_simp
          try with_reducible rfl
        try simp only [Act.put, List.setIfInBounds_toArray, List.set_cons_zero, List.set_cons_succ]
        refine wpAnyH_take (i := 17) (oi := { dst := some 104, op := Op.load 2 (Operand.tmp 103), type := 2, pos := "laws.go:176", after := #[{ on := 16, ground := Ground.data }, { on := 15, ground := Ground.guard }], guard := some (15, true) }) (v := ?vc17) rfl (by kernel_rfl) (by kernel_rfl) (by kernel_rfl) (fun _ _ _ h => h) (Or.inl ⟨by rfl, ?hyc17⟩) (by assumption) ?restc17
        case hyc17 =>
          intro w hSw
          (try dsimp only at hSw)
          go_simp
          try with_reducible rfl
        try simp only [Act.put, List.setIfInBounds_toArray, List.set_cons_zero, List.set_cons_succ]
        refine wpAnyH_take (i := 18) (oi := { dst := some 105, op := Op.move (Operand.tmp 12), type := 9, pos := "laws.go:176", after := #[{ on := 15, ground := Ground.guard }], guard := some (15, true) }) (v := ?vc18) rfl (by kernel_rfl) (by kernel_rfl) (by kernel_rfl) (fun _ _ _ h => h) (Or.inl ⟨by rfl, ?hyc18⟩) (by assumption) ?restc18
        case hyc18 =>
          intro w hSw
          (try dsimp only at hSw)
          go_simp
          try with_reducible rfl
        try simp only [Act.put, List.setIfInBounds_toArray, List.set_cons_zero, List.set_cons_succ]
        refine wpAnyH_ready (rs := [19]) (by kernel_rfl) (by simp) ?_
        refine AllReadyH.cons (o := { dst := some 106, op := Op.call { callee := Callee.value (Operand.func 21), args := #[Operand.tmp 105], argTypes := #[9] }, type := 37, pos := "laws.go:176", after := #[{ on := 18, ground := Ground.data }, { on := 15, ground := Ground.chain }, { on := 15, ground := Ground.guard }], guard := some (15, true) }) rfl (fun K hK => ?_) AllReadyH.nil
        go_simp
        (go_at_call 21; refine (TY.out _).mono ?_; rintro e w16 ⟨q16, rfl, sq16, hb16⟩; have T16 := Cells.below (L := [(⟨w11.heap.size, 0, none⟩, .slice py M.length cy), (⟨w11.heap.size, 1, none⟩, .int .i64 k)]) (by simp only [Cells]; go_keep) hb16; simp only [Cells] at T16; obtain ⟨p160, p161, -⟩ := T16; have z16 : w11.heap.size + 1 ≤ w16.heap.size := Nat.le_trans z15 hb16.size; have B16 : Hid (Below wb.heap.size wb w16) := B15.out.trans (hb16.mono B15.out.size); have SQ16 : Hid (SliceP w16 _ q16 M) := sq16; clear sq16; clear p150 p151 z15 hb15)
        try (go_wp2_with fail)
        refine hK.out _ _ ?_ (fun hH4 => ?_)
        · (try dsimp only)
          go_keep
        clear hK K hH3
        try simp only [Act.put, List.setIfInBounds_toArray, List.set_cons_zero, List.set_cons_succ]
        refine wpAnyH_take (i := 20) (oi := { dst := some 107, op := Op.field 37 (Operand.tmp 106) 1, type := 2, pos := "laws.go:176", after := #[{ on := 19, ground := Ground.data }, { on := 15, ground := Ground.guard }], guard := some (15, true) }) (v := ?vc20) rfl (by kernel_rfl) (by kernel_rfl) (by kernel_rfl) (fun _ _ _ h => h) (Or.inl ⟨by rfl, ?hyc20⟩) (by assumption) ?restc20
        case hyc20 =>
          intro w hSw
          (try dsimp only at hSw)
          go_simp
          try with_reducible rfl
        try simp only [Act.put, List.setIfInBounds_toArray, List.set_cons_zero, List.set_cons_succ]
        refine wpAnyH_take (i := 21) (oi := { dst := some 108, op := Op.binOp BinOp.eql 2 (Operand.tmp 104) (Operand.tmp 107) 2, type := 4, pos := "laws.go:176", after := #[{ on := 17, ground := Ground.data }, { on := 20, ground := Ground.data }, { on := 15, ground := Ground.guard }], guard := some (15, true) }) (v := ?vc21) rfl (by kernel_rfl) (by kernel_rfl) (by kernel_rfl) (fun _ _ _ h => h) (Or.inl ⟨by rfl, ?hyc21⟩) (by assumption) ?restc21
        case hyc21 =>
          intro w hSw
          (try dsimp only at hSw)
          go_simp
          try with_reducible rfl
        try simp only [Act.put, List.setIfInBounds_toArray, List.set_cons_zero, List.set_cons_succ]
        refine wpAnyH_take (i := 22) (oi := { dst := some 109, op := Op.pick (Operand.tmp 102) (Operand.tmp 108) (Operand.const (Value.bool false)), type := 4, pos := "laws.go:176", after := #[{ on := 15, ground := Ground.data }, { on := 21, ground := Ground.data }], guard := none }) (v := ?vc22) rfl (by kernel_rfl) (by kernel_rfl) (by kernel_rfl) (fun _ _ _ h => h) (Or.inl ⟨by rfl, ?hyc22⟩) (by assumption) ?restc22
        case hyc22 =>
          intro w hSw
          (try dsimp only at hSw)
          go_simp
          try with_reducible rfl
        try simp only [Act.put, List.setIfInBounds_toArray, List.set_cons_zero, List.set_cons_succ]
        refine wpAnyH_take (i := 23) (oi := { dst := some 110, op := Op.move (Operand.tmp 109), type := 4, pos := "laws.go:176", after := #[{ on := 22, ground := Ground.data }, { on := 19, ground := Ground.chain }], guard := none }) (v := ?vc23) rfl (by kernel_rfl) (by kernel_rfl) (by kernel_rfl) (fun _ _ _ h => h) (Or.inl ⟨by rfl, ?hyc23⟩) (by assumption) ?restc23
        case hyc23 =>
          intro w hSw
          (try dsimp only at hSw)
          go_simp
          try with_reducible rfl
        try simp only [Act.put, List.setIfInBounds_toArray, List.set_cons_zero, List.set_cons_succ]
        refine wpAnyH_take (i := 24) (oi := { dst := some 111, op := Op.fieldAddr 37 (Operand.tmp 13) 0, type := 0, pos := "laws.go:176", after := #[{ on := 23, ground := Ground.guard }], guard := some (23, true) }) (v := ?vc24) rfl (by kernel_rfl) (by kernel_rfl) (by kernel_rfl) (fun _ _ _ h => h) (Or.inl ⟨by rfl, ?hyc24⟩) (by assumption) ?restc24
        case hyc24 =>
          intro w hSw
          (try dsimp only at hSw)
          go_simp
          try with_reducible rfl
        try simp only [Act.put, List.setIfInBounds_toArray, List.set_cons_zero, List.set_cons_succ]
        refine wpAnyH_take (i := 25) (oi := { dst := some 112, op := Op.load 33 (Operand.tmp 111), type := 33, pos := "laws.go:176", after := #[{ on := 24, ground := Ground.data }, { on := 23, ground := Ground.guard }], guard := some (23, true) }) (v := ?vc25) rfl (by kernel_rfl) (by kernel_rfl) (by kernel_rfl) (fun _ _ _ h => h) (Or.inl ⟨by rfl, ?hyc25⟩) (by assumption) ?restc25
        case hyc25 =>
          intro w hSw
          (try dsimp only at hSw)
          go_simp
          try with_reducible rfl
        try simp only [Act.put, List.setIfInBounds_toArray, List.set_cons_zero, List.set_cons_succ]
        refine wpAnyH_take (i := 26) (oi := { dst := some 113, op := Op.move (Operand.tmp 12), type := 9, pos := "laws.go:176", after := #[{ on := 23, ground := Ground.guard }], guard := some (23, true) }) (v := ?vc26) rfl (by kernel_rfl) (by kernel_rfl) (by kernel_rfl) (fun _ _ _ h => h) (Or.inl ⟨by rfl, ?hyc26⟩) (by assumption) ?restc26
        case hyc26 =>
          intro w hSw
          (try dsimp only at hSw)
          go_simp
          try with_reducible rfl
        try simp only [Act.put, List.setIfInBounds_toArray, List.set_cons_zero, List.set_cons_succ]
        refine wpAnyH_ready (rs := [27]) (by kernel_rfl) (by simp) ?_
        refine AllReadyH.cons (o := { dst := some 114, op := Op.call { callee := Callee.value (Operand.func 21), args := #[Operand.tmp 113], argTypes := #[9] }, type := 37, pos := "laws.go:176", after := #[{ on := 26, ground := Ground.data }, { on := 23, ground := Ground.chain }, { on := 23, ground := Ground.guard }], guard := some (23, true) }) rfl (fun K hK => ?_) AllReadyH.nil
        go_simp
        (go_at_call 21; refine (TY.out _).mono ?_; rintro e w17 ⟨q17, rfl, sq17, hb17⟩; have T17 := Cells.below (L := [(⟨w11.heap.size, 0, none⟩, .slice py M.length cy), (⟨w11.heap.size, 1, none⟩, .int .i64 k)]) (by simp only [Cells]; go_keep) hb17; simp only [Cells] at T17; obtain ⟨p170, p171, -⟩ := T17; have z17 : w11.heap.size + 1 ≤ w17.heap.size := Nat.le_trans z16 hb17.size; have B17 : Hid (Below wb.heap.size wb w17) := B16.out.trans (hb17.mono B16.out.size); have SQ17 : Hid (SliceP w17 _ q17 M) := sq17; clear sq17; clear p160 p161 z16 hb16)
        try (go_wp2_with fail)
        refine hK.out _ _ ?_ (fun hH5 => ?_)
        · (try dsimp only)
          go_keep
        clear hK K hH4
        try simp only [Act.put, List.setIfInBounds_toArray, List.set_cons_zero, List.set_cons_succ]
        refine wpAnyH_take (i := 28) (oi := { dst := some 115, op := Op.field 37 (Operand.tmp 114) 0, type := 33, pos := "laws.go:176", after := #[{ on := 27, ground := Ground.data }, { on := 23, ground := Ground.guard }], guard := some (23, true) }) (v := ?vc28) rfl (by kernel_rfl) (by kernel_rfl) (by kernel_rfl) (fun _ _ _ h => h) (Or.inl ⟨by rfl, ?hyc28⟩) (by assumption) ?restc28
        case hyc28 =>
          intro w hSw
          (try dsimp only at hSw)
          go_simp
          try with_reducible rfl
        try simp only [Act.put, List.setIfInBounds_toArray, List.set_cons_zero, List.set_cons_succ]
        refine wpAnyH_ready (rs := [29]) (by kernel_rfl) (by simp) ?_
        refine AllReadyH.cons (o := { dst := some 116, op := Op.call { callee := Callee.value (Operand.func 20), args := #[Operand.tmp 112, Operand.tmp 115], argTypes := #[33, 33] }, type := 4, pos := "laws.go:176", after := #[{ on := 25, ground := Ground.data }, { on := 28, ground := Ground.data }, { on := 27, ground := Ground.chain }, { on := 23, ground := Ground.guard }], guard := some (23, true) }) rfl (fun K hK => ?_) AllReadyH.nil
        go_simp
        (go_at_call 20; refine (lwPairs_any _ q17 M _ _ _ (SliceR.below SY.out B17.out) SQ17.out hM).mono ?_; rintro e w18 ⟨rfl, hb18⟩; have T18 := Cells.below (L := [(⟨w11.heap.size, 0, none⟩, .slice py M.length cy), (⟨w11.heap.size, 1, none⟩, .int .i64 k)]) (by simp only [Cells]; go_keep) hb18; simp only [Cells] at T18; obtain ⟨p180, p181, -⟩ := T18; have z18 : w11.heap.size + 1 ≤ w18.heap.size := Nat.le_trans z17 hb18.size; have B18 : Hid (Below wb.heap.size wb w18) := B17.out.trans (hb18.mono B17.out.size); clear p170 p171 z17 hb17)
        try (go_wp2_with fail)
        refine hK.out _ _ ?_ (fun hH6 => ?_)
        · (try dsimp only)
          go_keep
        clear hK K hH5
        try simp only [Act.put, List.setIfInBounds_toArray, List.set_cons_zero, List.set_cons_succ]
        refine wpAnyH_take (i := 30) (oi := { dst := some 117, op := Op.pick (Operand.tmp 110) (Operand.tmp 116) (Operand.const (Value.bool false)), type := 4, pos := "laws.go:176", after := #[{ on := 23, ground := Ground.data }, { on := 29, ground := Ground.data }], guard := none }) (v := ?vc30) rfl (by kernel_rfl) (by kernel_rfl) (by kernel_rfl) (fun _ _ _ h => h) (Or.inl ⟨by rfl, ?hyc30⟩) (by assumption) ?restc30
        case hyc30 =>
          intro w hSw
          (try dsimp only at hSw)
          go_simp
          try with_reducible rfl
        try simp only [Act.put, List.setIfInBounds_toArray, List.set_cons_zero, List.set_cons_succ]
        refine wpAnyH_take (i := 31) (oi := { dst := some 118, op := Op.move (Operand.tmp 117), type := 4, pos := "laws.go:176", after := #[{ on := 30, ground := Ground.data }, { on := 29, ground := Ground.chain }], guard := none }) (v := ?vc31) rfl (by kernel_rfl) (by kernel_rfl) (by kernel_rfl) (fun _ _ _ h => h) (Or.inl ⟨by rfl, ?hyc31⟩) (by assumption) ?restc31
        case hyc31 =>
          intro w hSw
          (try dsimp only at hSw)
          go_simp
          try with_reducible rfl
        try simp only [Act.put, List.setIfInBounds_toArray, List.set_cons_zero, List.set_cons_succ]
        refine wpAnyH_take (i := 32) (oi := { dst := some 119, op := Op.fieldAddr 37 (Operand.tmp 13) 1, type := 0, pos := "laws.go:176", after := #[{ on := 31, ground := Ground.guard }], guard := some (31, true) }) (v := ?vc32) rfl (by kernel_rfl) (by kernel_rfl) (by kernel_rfl) (fun _ _ _ h => h) (Or.inl ⟨by rfl, ?hyc32⟩) (by assumption) ?restc32
        case hyc32 =>
          intro w hSw
          (try dsimp only at hSw)
          go_simp
          try with_reducible rfl
        try simp only [Act.put, List.setIfInBounds_toArray, List.set_cons_zero, List.set_cons_succ]
        refine wpAnyH_take (i := 33) (oi := { dst := some 120, op := Op.load 2 (Operand.tmp 119), type := 2, pos := "laws.go:176", after := #[{ on := 32, ground := Ground.data }, { on := 31, ground := Ground.guard }], guard := some (31, true) }) (v := ?vc33) rfl (by kernel_rfl) (by kernel_rfl) (by kernel_rfl) (fun _ _ _ h => h) (Or.inl ⟨by rfl, ?hyc33⟩) (by assumption) ?restc33
        case hyc33 =>
          intro w hSw
          (try dsimp only at hSw)
          go_simp
          try with_reducible rfl
        try simp only [Act.put, List.setIfInBounds_toArray, List.set_cons_zero, List.set_cons_succ]
        refine wpAnyH_take (i := 34) (oi := { dst := some 121, op := Op.binOp BinOp.neq 2 (Operand.tmp 120) (Operand.const (Value.int IntKind.i64 0)) 2, type := 4, pos := "laws.go:176", after := #[{ on := 33, ground := Ground.data }, { on := 31, ground := Ground.guard }], guard := some (31, true) }) (v := ?vc34) rfl (by kernel_rfl) (by kernel_rfl) (by kernel_rfl) (fun _ _ _ h => h) (Or.inl ⟨by rfl, ?hyc34⟩) (by assumption) ?restc34
        case hyc34 =>
          intro w hSw
          (try dsimp only at hSw)
          go_simp
          try with_reducible rfl
        try simp only [Act.put, List.setIfInBounds_toArray, List.set_cons_zero, List.set_cons_succ]
        refine wpAnyH_take (i := 35) (oi := { dst := some 122, op := Op.move (Operand.tmp 121), type := 4, pos := "laws.go:176", after := #[{ on := 34, ground := Ground.data }, { on := 31, ground := Ground.chain }, { on := 31, ground := Ground.guard }], guard := some (31, true) }) (v := ?vc35) rfl (by kernel_rfl) (by kernel_rfl) (by kernel_rfl) (fun _ _ _ h => h) (Or.inl ⟨by rfl, ?hyc35⟩) (by assumption) ?restc35
        case hyc35 =>
          intro w hSw
          (try dsimp only at hSw)
          go_simp
          try with_reducible rfl
        try simp only [Act.put, List.setIfInBounds_toArray, List.set_cons_zero, List.set_cons_succ]
        refine wpAnyH_take (i := 36) (oi := { dst := some 123, op := Op.fieldAddr 37 (Operand.tmp 13) 0, type := 0, pos := "laws.go:176", after := #[{ on := 35, ground := Ground.guard }], guard := some (35, false) }) (v := undef) rfl (by kernel_rfl) (by kernel_rfl) (by kernel_rfl) (fun _ _ _ h => h) (Or.inr ⟨by rfl, rfl⟩) (by assumption) ?_
        try simp only [Act.put, List.setIfInBounds_toArray, List.set_cons_zero, List.set_cons_succ]
        refine wpAnyH_take (i := 37) (oi := { dst := some 124, op := Op.load 33 (Operand.tmp 123), type := 33, pos := "laws.go:176", after := #[{ on := 36, ground := Ground.data }, { on := 35, ground := Ground.guard }], guard := some (35, false) }) (v := undef) rfl (by kernel_rfl) (by kernel_rfl) (by kernel_rfl) (fun _ _ _ h => h) (Or.inr ⟨by rfl, rfl⟩) (by assumption) ?_
        try simp only [Act.put, List.setIfInBounds_toArray, List.set_cons_zero, List.set_cons_succ]
        refine wpAnyH_take (i := 38) (oi := { dst := some 125, op := Op.call { callee := Callee.value (Operand.func 16), args := #[Operand.tmp 124], argTypes := #[33] }, type := 9, pos := "laws.go:176", after := #[{ on := 37, ground := Ground.data }, { on := 35, ground := Ground.chain }, { on := 35, ground := Ground.guard }], guard := some (35, false) }) (v := undef) rfl (by kernel_rfl) (by kernel_rfl) (by kernel_rfl) (fun _ _ _ h => h) (Or.inr ⟨by rfl, rfl⟩) (by assumption) ?_
        try simp only [Act.put, List.setIfInBounds_toArray, List.set_cons_zero, List.set_cons_succ]
        refine wpAnyH_take (i := 39) (oi := { dst := some 126, op := Op.move (Operand.tmp 12), type := 9, pos := "laws.go:176", after := #[{ on := 35, ground := Ground.guard }], guard := some (35, false) }) (v := undef) rfl (by kernel_rfl) (by kernel_rfl) (by kernel_rfl) (fun _ _ _ h => h) (Or.inr ⟨by rfl, rfl⟩) (by assumption) ?_
        try simp only [Act.put, List.setIfInBounds_toArray, List.set_cons_zero, List.set_cons_succ]
        refine wpAnyH_take (i := 40) (oi := { dst := some 127, op := Op.binOp BinOp.eql 9 (Operand.tmp 125) (Operand.tmp 126) 9, type := 4, pos := "laws.go:176", after := #[{ on := 38, ground := Ground.data }, { on := 39, ground := Ground.data }, { on := 35, ground := Ground.guard }], guard := some (35, false) }) (v := undef) rfl (by kernel_rfl) (by kernel_rfl) (by kernel_rfl) (fun _ _ _ h => h) (Or.inr ⟨by rfl, rfl⟩) (by assumption) ?_
        try simp only [Act.put, List.setIfInBounds_toArray, List.set_cons_zero, List.set_cons_succ]
        refine wpAnyH_take (i := 41) (oi := { dst := some 128, op := Op.pick (Operand.tmp 122) (Operand.const (Value.bool true)) (Operand.tmp 127), type := 4, pos := "laws.go:176", after := #[{ on := 35, ground := Ground.data }, { on := 40, ground := Ground.data }, { on := 31, ground := Ground.guard }], guard := some (31, true) }) (v := ?vc41) rfl (by kernel_rfl) (by kernel_rfl) (by kernel_rfl) (fun _ _ _ h => h) (Or.inl ⟨by rfl, ?hyc41⟩) (by assumption) ?restc41
        case hyc41 =>
          intro w hSw
          (try dsimp only at hSw)
          go_simp
          try with_reducible rfl
        try simp only [Act.put, List.setIfInBounds_toArray, List.set_cons_zero, List.set_cons_succ]
        refine wpAnyH_take (i := 42) (oi := { dst := some 129, op := Op.pick (Operand.tmp 118) (Operand.tmp 128) (Operand.const (Value.bool false)), type := 4, pos := "laws.go:176", after := #[{ on := 31, ground := Ground.data }, { on := 41, ground := Ground.data }], guard := none }) (v := ?vc42) rfl (by kernel_rfl) (by kernel_rfl) (by kernel_rfl) (fun _ _ _ h => h) (Or.inl ⟨by rfl, ?hyc42⟩) (by assumption) ?restc42
        case hyc42 =>
          intro w hSw
          (try dsimp only at hSw)
          go_simp
          try with_reducible rfl
        try simp only [Act.put, List.setIfInBounds_toArray, List.set_cons_zero, List.set_cons_succ]
        refine wpAnyH_take (i := 43) (oi := { dst := some 4, op := Op.assign (Operand.tmp 129), type := 4, pos := "laws.go:176", after := #[{ on := 42, ground := Ground.data }, { on := 38, ground := Ground.chain }, { on := 0, ground := Ground.phase }, { on := 1, ground := Ground.phase }, { on := 2, ground := Ground.phase }, { on := 3, ground := Ground.phase }, { on := 4, ground := Ground.phase }, { on := 5, ground := Ground.phase }, { on := 6, ground := Ground.phase }, { on := 7, ground := Ground.phase }, { on := 8, ground := Ground.phase }, { on := 9, ground := Ground.phase }, { on := 10, ground := Ground.phase }, { on := 11, ground := Ground.phase }, { on := 12, ground := Ground.phase }, { on := 13, ground := Ground.phase }, { on := 14, ground := Ground.phase }, { on := 15, ground := Ground.phase }, { on := 16, ground := Ground.phase }, { on := 17, ground := Ground.phase }, { on := 18, ground := Ground.phase }, { on := 19, ground := Ground.phase }, { on := 20, ground := Ground.phase }, { on := 21, ground := Ground.phase }, { on := 22, ground := Ground.phase }, { on := 23, ground := Ground.phase }, { on := 24, ground := Ground.phase }, { on := 25, ground := Ground.phase }, { on := 26, ground := Ground.phase }, { on := 27, ground := Ground.phase }, { on := 28, ground := Ground.phase }, { on := 29, ground := Ground.phase }, { on := 30, ground := Ground.phase }, { on := 31, ground := Ground.phase }, { on := 32, ground := Ground.phase }, { on := 33, ground := Ground.phase }, { on := 34, ground := Ground.phase }, { on := 35, ground := Ground.phase }, { on := 36, ground := Ground.phase }, { on := 37, ground := Ground.phase }, { on := 38, ground := Ground.phase }, { on := 39, ground := Ground.phase }, { on := 40, ground := Ground.phase }, { on := 41, ground := Ground.phase }, { on := 42, ground := Ground.phase }], guard := none }) (v := ?vc43) rfl (by kernel_rfl) (by kernel_rfl) (by kernel_rfl) (fun _ _ _ h => h) (Or.inl ⟨by rfl, ?hyc43⟩) (by assumption) ?restc43
        case hyc43 =>
          intro w hSw
          (try dsimp only at hSw)
          go_simp
          try with_reducible rfl
        try simp only [Act.put, List.setIfInBounds_toArray, List.set_cons_zero, List.set_cons_succ]
        refine wpAnyH_done (by kernel_rfl) ?_ _
        go_wp2
        go_ret
        exact ⟨rfl, BW.out.trans (B18.out.mono BW.out.size)⟩
      | true =>
        have hk' : (k != 0) = false := by rw [bne, hk]; rfl
        refine wp_region_held_drew (S := (fun w' => w11.heap.size + 1 ≤ w'.heap.size ∧ w'.cell? ⟨w11.heap.size, 0, none⟩ = some (.slice py M.length cy) ∧ w'.cell? ⟨w11.heap.size, 1, none⟩ = some (.int .i64 k))) (by kernel_rfl) ?_ (fun hH0 => ?_)
        · (try dsimp only)
          go_keep
        refine wpAnyH_take (i := 0) (oi := { dst := some 87, op := Op.move (Operand.tmp 11), type := 9, pos := "laws.go:176", after := #[], guard := none }) (v := ?vd0) rfl (by kernel_rfl) (by kernel_rfl) (by kernel_rfl) (fun _ _ _ h => h) (Or.inl ⟨by rfl, ?hyd0⟩) (by assumption) ?restd0
        case hyd0 =>
          intro w hSw
          (try dsimp only at hSw)
          go_simp
          try with_reducible rfl
        try simp only [Act.put, List.setIfInBounds_toArray, List.set_cons_zero, List.set_cons_succ]
        refine wpAnyH_take (i := 1) (oi := { dst := some 88, op := Op.move (Operand.tmp 10), type := 33, pos := "laws.go:176", after := #[], guard := none }) (v := ?vd1) rfl (by kernel_rfl) (by kernel_rfl) (by kernel_rfl) (fun _ _ _ h => h) (Or.inl ⟨by rfl, ?hyd1⟩) (by assumption) ?restd1
        case hyd1 =>
          intro w hSw
          (try dsimp only at hSw)
          go_simp
          try with_reducible rfl
        try simp only [Act.put, List.setIfInBounds_toArray, List.set_cons_zero, List.set_cons_succ]
        refine wpAnyH_ready (rs := [2]) (by kernel_rfl) (by simp) ?_
        refine AllReadyH.cons (o := { dst := some 89, op := Op.call { callee := Callee.value (Operand.func 19), args := #[Operand.tmp 88], argTypes := #[33] }, type := 9, pos := "laws.go:176", after := #[{ on := 1, ground := Ground.data }], guard := none }) rfl (fun K hK => ?_) AllReadyH.nil
        go_simp
        (go_at_call 19; refine (TP.out _ (SliceR.below SV.out (B12.out.trans (Below.drew (Below.refl _ _))))).mono ?_; rintro e w13 ⟨rfl, hb13⟩; have T13 := Cells.below (L := [(⟨w11.heap.size, 0, none⟩, .slice py M.length cy), (⟨w11.heap.size, 1, none⟩, .int .i64 k)]) (by simp only [Cells]; go_keep) hb13; simp only [Cells] at T13; obtain ⟨p130, p131, -⟩ := T13; have z13 : w11.heap.size + 1 ≤ w13.heap.size := Nat.le_trans z12 hb13.size; have B13 : Hid (Below wb.heap.size wb w13) := (B12.out.trans (Below.drew (Below.refl _ _))).trans (hb13.mono (by simp)))
        try (go_wp2_with fail)
        refine hK.out _ _ ?_ (fun hH1 => ?_)
        · (try dsimp only)
          go_keep
        clear hK K hH0
        try simp only [Act.put, List.setIfInBounds_toArray, List.set_cons_zero, List.set_cons_succ]
        refine wpAnyH_take (i := 3) (oi := { dst := some 90, op := Op.binOp BinOp.eql 9 (Operand.tmp 87) (Operand.tmp 89) 9, type := 4, pos := "laws.go:176", after := #[{ on := 0, ground := Ground.data }, { on := 2, ground := Ground.data }], guard := none }) (v := ?vd3) rfl (by kernel_rfl) (by kernel_rfl) (by kernel_rfl) (fun _ _ _ h => h) (Or.inl ⟨by rfl, ?hyd3⟩) (by assumption) ?restd3
        case hyd3 =>
          intro w hSw
          (try dsimp only at hSw)
          go_simp
          try with_reducible rfl
        try simp only [Act.put, List.setIfInBounds_toArray, List.set_cons_zero, List.set_cons_succ]
        refine wpAnyH_take (i := 4) (oi := { dst := some 91, op := Op.move (Operand.tmp 90), type := 4, pos := "laws.go:176", after := #[{ on := 3, ground := Ground.data }, { on := 2, ground := Ground.chain }], guard := none }) (v := ?vd4) rfl (by kernel_rfl) (by kernel_rfl) (by kernel_rfl) (fun _ _ _ h => h) (Or.inl ⟨by rfl, ?hyd4⟩) (by assumption) ?restd4
        case hyd4 =>
          intro w hSw
          (try dsimp only at hSw)
          go_simp
          try with_reducible rfl
        try simp only [Act.put, List.setIfInBounds_toArray, List.set_cons_zero, List.set_cons_succ]
        refine wpAnyH_take (i := 5) (oi := { dst := some 92, op := Op.move (Operand.tmp 11), type := 9, pos := "laws.go:176", after := #[{ on := 4, ground := Ground.guard }], guard := some (4, true) }) (v := ?vd5) rfl (by kernel_rfl) (by kernel_rfl) (by kernel_rfl) (fun _ _ _ h => h) (Or.inl ⟨by rfl, ?hyd5⟩) (by assumption) ?restd5
        case hyd5 =>
          intro w hSw
          (try dsimp only at hSw)
          go_simp
          try with_reducible rfl
        try simp only [Act.put, List.setIfInBounds_toArray, List.set_cons_zero, List.set_cons_succ]
        refine wpAnyH_take (i := 6) (oi := { dst := some 93, op := Op.binOp BinOp.eql 9 (Operand.tmp 92) (Operand.const (Value.string { data := #[] })) 9, type := 4, pos := "laws.go:176", after := #[{ on := 5, ground := Ground.data }, { on := 4, ground := Ground.guard }], guard := some (4, true) }) (v := ?vd6) rfl (by kernel_rfl) (by kernel_rfl) (by kernel_rfl) (fun _ _ _ h => h) (Or.inl ⟨by rfl, ?hyd6⟩) (by assumption) ?restd6
        case hyd6 =>
          intro w hSw
          (try dsimp only at hSw)
          go_simp
          try with_reducible rfl
        try simp only [Act.put, List.setIfInBounds_toArray, List.set_cons_zero, List.set_cons_succ]
        refine wpAnyH_take (i := 7) (oi := { dst := some 94, op := Op.move (Operand.tmp 93), type := 4, pos := "laws.go:176", after := #[{ on := 6, ground := Ground.data }, { on := 4, ground := Ground.chain }, { on := 4, ground := Ground.guard }], guard := some (4, true) }) (v := ?vd7) rfl (by kernel_rfl) (by kernel_rfl) (by kernel_rfl) (fun _ _ _ h => h) (Or.inl ⟨by rfl, ?hyd7⟩) (by assumption) ?restd7
        case hyd7 =>
          intro w hSw
          (try dsimp only at hSw)
          go_simp
          try with_reducible rfl
        try simp only [Act.put, List.setIfInBounds_toArray, List.set_cons_zero, List.set_cons_succ]
        refine wpAnyH_take (i := 8) (oi := { dst := some 95, op := Op.move (Operand.tmp 11), type := 9, pos := "laws.go:176", after := #[{ on := 7, ground := Ground.guard }], guard := some (7, false) }) (v := ?vd8) rfl (by kernel_rfl) (by kernel_rfl) (by kernel_rfl) (fun _ _ _ h => h) (Or.inl ⟨by rfl, ?hyd8⟩) (by assumption) ?restd8
        case hyd8 =>
          intro w hSw
          (try dsimp only at hSw)
          go_simp
          try with_reducible rfl
        try simp only [Act.put, List.setIfInBounds_toArray, List.set_cons_zero, List.set_cons_succ]
        refine wpAnyH_take (i := 11) (oi := { dst := some 98, op := Op.move (Operand.tmp 10), type := 33, pos := "laws.go:176", after := #[{ on := 7, ground := Ground.guard }], guard := some (7, false) }) (v := ?vd11) rfl (by kernel_rfl) (by kernel_rfl) (by kernel_rfl) (fun _ _ _ h => h) (Or.inl ⟨by rfl, ?hyd11⟩) (by assumption) ?restd11
        case hyd11 =>
          intro w hSw
          (try dsimp only at hSw)
          go_simp
          try with_reducible rfl
        try simp only [Act.put, List.setIfInBounds_toArray, List.set_cons_zero, List.set_cons_succ]
        refine wpAnyH_ready (rs := [9]) (by kernel_rfl) (by simp) ?_
        refine AllReadyH.cons (o := { dst := some 96, op := Op.call { callee := Callee.value (Operand.func 18), args := #[Operand.tmp 95], argTypes := #[9] }, type := 37, pos := "laws.go:176", after := #[{ on := 8, ground := Ground.data }, { on := 7, ground := Ground.chain }, { on := 7, ground := Ground.guard }], guard := some (7, false) }) rfl (fun K hK => ?_) AllReadyH.nil
        go_simp
        (go_at_call 18; refine (KV.out hV0 _ B13.out).mono ?_; rintro e w14 ⟨q14, rfl, sq14, hb14⟩; have T14 := Cells.below (L := [(⟨w11.heap.size, 0, none⟩, .slice py M.length cy), (⟨w11.heap.size, 1, none⟩, .int .i64 k)]) (by simp only [Cells]; go_keep) hb14; simp only [Cells] at T14; obtain ⟨p140, p141, -⟩ := T14; have z14 : w11.heap.size + 1 ≤ w14.heap.size := Nat.le_trans z13 hb14.size; have B14 : Hid (Below wb.heap.size wb w14) := B13.out.trans (hb14.mono B13.out.size); have SQ14 : Hid (SliceP w14 _ q14 L) := sq14; clear sq14; clear p130 p131 z13 hb13)
        try (go_wp2_with fail)
        refine hK.out _ _ ?_ (fun hH2 => ?_)
        · (try dsimp only)
          go_keep
        clear hK K hH1
        try simp only [Act.put, List.setIfInBounds_toArray, List.set_cons_zero, List.set_cons_succ]
        refine wpAnyH_take (i := 10) (oi := { dst := some 97, op := Op.field 37 (Operand.tmp 96) 0, type := 33, pos := "laws.go:176", after := #[{ on := 9, ground := Ground.data }, { on := 7, ground := Ground.guard }], guard := some (7, false) }) (v := ?vd10) rfl (by kernel_rfl) (by kernel_rfl) (by kernel_rfl) (fun _ _ _ h => h) (Or.inl ⟨by rfl, ?hyd10⟩) (by assumption) ?restd10
        case hyd10 =>
          intro w hSw
          (try dsimp only at hSw)
          go_simp
          try with_reducible rfl
        try simp only [Act.put, List.setIfInBounds_toArray, List.set_cons_zero, List.set_cons_succ]
        refine wpAnyH_ready (rs := [12]) (by kernel_rfl) (by simp) ?_
        refine AllReadyH.cons (o := { dst := some 99, op := Op.call { callee := Callee.value (Operand.func 20), args := #[Operand.tmp 97, Operand.tmp 98], argTypes := #[33, 33] }, type := 4, pos := "laws.go:176", after := #[{ on := 10, ground := Ground.data }, { on := 11, ground := Ground.data }, { on := 9, ground := Ground.chain }, { on := 7, ground := Ground.guard }], guard := some (7, false) }) rfl (fun K hK => ?_) AllReadyH.nil
        go_simp
        (go_at_call 20; refine (lwPairs_any q14 v L _ _ _ SQ14.out (SliceR.below SV.out B14.out) hL).mono ?_; rintro e w15 ⟨rfl, hb15⟩; have T15 := Cells.below (L := [(⟨w11.heap.size, 0, none⟩, .slice py M.length cy), (⟨w11.heap.size, 1, none⟩, .int .i64 k)]) (by simp only [Cells]; go_keep) hb15; simp only [Cells] at T15; obtain ⟨p150, p151, -⟩ := T15; have z15 : w11.heap.size + 1 ≤ w15.heap.size := Nat.le_trans z14 hb15.size; have B15 : Hid (Below wb.heap.size wb w15) := B14.out.trans (hb15.mono B14.out.size); clear p140 p141 z14 hb14)
        try (go_wp2_with fail)
        refine hK.out _ _ ?_ (fun hH3 => ?_)
        · (try dsimp only)
          go_keep
        clear hK K hH2
        try simp only [Act.put, List.setIfInBounds_toArray, List.set_cons_zero, List.set_cons_succ]
        refine wpAnyH_take (i := 13) (oi := { dst := some 100, op := Op.pick (Operand.tmp 94) (Operand.const (Value.bool true)) (Operand.tmp 99), type := 4, pos := "laws.go:176", after := #[{ on := 7, ground := Ground.data }, { on := 12, ground := Ground.data }, { on := 4, ground := Ground.guard }], guard := some (4, true) }) (v := ?vd13) rfl (by kernel_rfl) (by kernel_rfl) (by kernel_rfl) (fun _ _ _ h => h) (Or.inl ⟨by rfl, ?hyd13⟩) (by assumption) ?restd13
        case hyd13 =>
          intro w hSw
          (try dsimp only at hSw)
          go_simp
          try with_reducible rfl
        try simp only [Act.put, List.setIfInBounds_toArray, List.set_cons_zero, List.set_cons_succ]
        refine wpAnyH_take (i := 14) (oi := { dst := some 101, op := Op.pick (Operand.tmp 91) (Operand.tmp 100) (Operand.const (Value.bool false)), type := 4, pos := "laws.go:176", after := #[{ on := 4, ground := Ground.data }, { on := 13, ground := Ground.data }], guard := none }) (v := ?vd14) rfl (by kernel_rfl) (by kernel_rfl) (by kernel_rfl) (fun _ _ _ h => h) (Or.inl ⟨by rfl, ?hyd14⟩) (by assumption) ?restd14
        case hyd14 =>
          intro w hSw
          (try dsimp only at hSw)
          go_simp
          try with_reducible rfl
        try simp only [Act.put, List.setIfInBounds_toArray, List.set_cons_zero, List.set_cons_succ]
        refine wpAnyH_take (i := 15) (oi := { dst := some 102, op := Op.move (Operand.tmp 101), type := 4, pos := "laws.go:176", after := #[{ on := 14, ground := Ground.data }, { on := 12, ground := Ground.chain }], guard := none }) (v := ?vd15) rfl (by kernel_rfl) (by kernel_rfl) (by kernel_rfl) (fun _ _ _ h => h) (Or.inl ⟨by rfl, ?hyd15⟩) (by assumption) ?restd15
        case hyd15 =>
          intro w hSw
          (try dsimp only at hSw)
          go_simp
          try with_reducible rfl
        try simp only [Act.put, List.setIfInBounds_toArray, List.set_cons_zero, List.set_cons_succ]
        refine wpAnyH_take (i := 16) (oi := { dst := some 103, op := Op.fieldAddr 37 (Operand.tmp 13) 1, type := 0, pos := "laws.go:176", after := #[{ on := 15, ground := Ground.guard }], guard := some (15, true) }) (v := ?vd16) rfl (by kernel_rfl) (by kernel_rfl) (by kernel_rfl) (fun _ _ _ h => h) (Or.inl ⟨by rfl, ?hyd16⟩) (by assumption) ?restd16
        case hyd16 =>
          intro w hSw
          (try dsimp only at hSw)
          go_simp
          try with_reducible rfl
        try simp only [Act.put, List.setIfInBounds_toArray, List.set_cons_zero, List.set_cons_succ]
        refine wpAnyH_take (i := 17) (oi := { dst := some 104, op := Op.load 2 (Operand.tmp 103), type := 2, pos := "laws.go:176", after := #[{ on := 16, ground := Ground.data }, { on := 15, ground := Ground.guard }], guard := some (15, true) }) (v := ?vd17) rfl (by kernel_rfl) (by kernel_rfl) (by kernel_rfl) (fun _ _ _ h => h) (Or.inl ⟨by rfl, ?hyd17⟩) (by assumption) ?restd17
        case hyd17 =>
          intro w hSw
          (try dsimp only at hSw)
          go_simp
          try with_reducible rfl
        try simp only [Act.put, List.setIfInBounds_toArray, List.set_cons_zero, List.set_cons_succ]
        refine wpAnyH_take (i := 18) (oi := { dst := some 105, op := Op.move (Operand.tmp 12), type := 9, pos := "laws.go:176", after := #[{ on := 15, ground := Ground.guard }], guard := some (15, true) }) (v := ?vd18) rfl (by kernel_rfl) (by kernel_rfl) (by kernel_rfl) (fun _ _ _ h => h) (Or.inl ⟨by rfl, ?hyd18⟩) (by assumption) ?restd18
        case hyd18 =>
          intro w hSw
          (try dsimp only at hSw)
          go_simp
          try with_reducible rfl
        try simp only [Act.put, List.setIfInBounds_toArray, List.set_cons_zero, List.set_cons_succ]
        refine wpAnyH_ready (rs := [19]) (by kernel_rfl) (by simp) ?_
        refine AllReadyH.cons (o := { dst := some 106, op := Op.call { callee := Callee.value (Operand.func 21), args := #[Operand.tmp 105], argTypes := #[9] }, type := 37, pos := "laws.go:176", after := #[{ on := 18, ground := Ground.data }, { on := 15, ground := Ground.chain }, { on := 15, ground := Ground.guard }], guard := some (15, true) }) rfl (fun K hK => ?_) AllReadyH.nil
        go_simp
        (go_at_call 21; refine (TY.out _).mono ?_; rintro e w16 ⟨q16, rfl, sq16, hb16⟩; have T16 := Cells.below (L := [(⟨w11.heap.size, 0, none⟩, .slice py M.length cy), (⟨w11.heap.size, 1, none⟩, .int .i64 k)]) (by simp only [Cells]; go_keep) hb16; simp only [Cells] at T16; obtain ⟨p160, p161, -⟩ := T16; have z16 : w11.heap.size + 1 ≤ w16.heap.size := Nat.le_trans z15 hb16.size; have B16 : Hid (Below wb.heap.size wb w16) := B15.out.trans (hb16.mono B15.out.size); have SQ16 : Hid (SliceP w16 _ q16 M) := sq16; clear sq16; clear p150 p151 z15 hb15)
        try (go_wp2_with fail)
        refine hK.out _ _ ?_ (fun hH4 => ?_)
        · (try dsimp only)
          go_keep
        clear hK K hH3
        try simp only [Act.put, List.setIfInBounds_toArray, List.set_cons_zero, List.set_cons_succ]
        refine wpAnyH_take (i := 20) (oi := { dst := some 107, op := Op.field 37 (Operand.tmp 106) 1, type := 2, pos := "laws.go:176", after := #[{ on := 19, ground := Ground.data }, { on := 15, ground := Ground.guard }], guard := some (15, true) }) (v := ?vd20) rfl (by kernel_rfl) (by kernel_rfl) (by kernel_rfl) (fun _ _ _ h => h) (Or.inl ⟨by rfl, ?hyd20⟩) (by assumption) ?restd20
        case hyd20 =>
          intro w hSw
          (try dsimp only at hSw)
          go_simp
          try with_reducible rfl
        try simp only [Act.put, List.setIfInBounds_toArray, List.set_cons_zero, List.set_cons_succ]
        refine wpAnyH_take (i := 21) (oi := { dst := some 108, op := Op.binOp BinOp.eql 2 (Operand.tmp 104) (Operand.tmp 107) 2, type := 4, pos := "laws.go:176", after := #[{ on := 17, ground := Ground.data }, { on := 20, ground := Ground.data }, { on := 15, ground := Ground.guard }], guard := some (15, true) }) (v := ?vd21) rfl (by kernel_rfl) (by kernel_rfl) (by kernel_rfl) (fun _ _ _ h => h) (Or.inl ⟨by rfl, ?hyd21⟩) (by assumption) ?restd21
        case hyd21 =>
          intro w hSw
          (try dsimp only at hSw)
          go_simp
          try with_reducible rfl
        try simp only [Act.put, List.setIfInBounds_toArray, List.set_cons_zero, List.set_cons_succ]
        refine wpAnyH_take (i := 22) (oi := { dst := some 109, op := Op.pick (Operand.tmp 102) (Operand.tmp 108) (Operand.const (Value.bool false)), type := 4, pos := "laws.go:176", after := #[{ on := 15, ground := Ground.data }, { on := 21, ground := Ground.data }], guard := none }) (v := ?vd22) rfl (by kernel_rfl) (by kernel_rfl) (by kernel_rfl) (fun _ _ _ h => h) (Or.inl ⟨by rfl, ?hyd22⟩) (by assumption) ?restd22
        case hyd22 =>
          intro w hSw
          (try dsimp only at hSw)
          go_simp
          try with_reducible rfl
        try simp only [Act.put, List.setIfInBounds_toArray, List.set_cons_zero, List.set_cons_succ]
        refine wpAnyH_take (i := 23) (oi := { dst := some 110, op := Op.move (Operand.tmp 109), type := 4, pos := "laws.go:176", after := #[{ on := 22, ground := Ground.data }, { on := 19, ground := Ground.chain }], guard := none }) (v := ?vd23) rfl (by kernel_rfl) (by kernel_rfl) (by kernel_rfl) (fun _ _ _ h => h) (Or.inl ⟨by rfl, ?hyd23⟩) (by assumption) ?restd23
        case hyd23 =>
          intro w hSw
          (try dsimp only at hSw)
          go_simp
          try with_reducible rfl
        try simp only [Act.put, List.setIfInBounds_toArray, List.set_cons_zero, List.set_cons_succ]
        refine wpAnyH_take (i := 24) (oi := { dst := some 111, op := Op.fieldAddr 37 (Operand.tmp 13) 0, type := 0, pos := "laws.go:176", after := #[{ on := 23, ground := Ground.guard }], guard := some (23, true) }) (v := ?vd24) rfl (by kernel_rfl) (by kernel_rfl) (by kernel_rfl) (fun _ _ _ h => h) (Or.inl ⟨by rfl, ?hyd24⟩) (by assumption) ?restd24
        case hyd24 =>
          intro w hSw
          (try dsimp only at hSw)
          go_simp
          try with_reducible rfl
        try simp only [Act.put, List.setIfInBounds_toArray, List.set_cons_zero, List.set_cons_succ]
        refine wpAnyH_take (i := 25) (oi := { dst := some 112, op := Op.load 33 (Operand.tmp 111), type := 33, pos := "laws.go:176", after := #[{ on := 24, ground := Ground.data }, { on := 23, ground := Ground.guard }], guard := some (23, true) }) (v := ?vd25) rfl (by kernel_rfl) (by kernel_rfl) (by kernel_rfl) (fun _ _ _ h => h) (Or.inl ⟨by rfl, ?hyd25⟩) (by assumption) ?restd25
        case hyd25 =>
          intro w hSw
          (try dsimp only at hSw)
          go_simp
          try with_reducible rfl
        try simp only [Act.put, List.setIfInBounds_toArray, List.set_cons_zero, List.set_cons_succ]
        refine wpAnyH_take (i := 26) (oi := { dst := some 113, op := Op.move (Operand.tmp 12), type := 9, pos := "laws.go:176", after := #[{ on := 23, ground := Ground.guard }], guard := some (23, true) }) (v := ?vd26) rfl (by kernel_rfl) (by kernel_rfl) (by kernel_rfl) (fun _ _ _ h => h) (Or.inl ⟨by rfl, ?hyd26⟩) (by assumption) ?restd26
        case hyd26 =>
          intro w hSw
          (try dsimp only at hSw)
          go_simp
          try with_reducible rfl
        try simp only [Act.put, List.setIfInBounds_toArray, List.set_cons_zero, List.set_cons_succ]
        refine wpAnyH_ready (rs := [27]) (by kernel_rfl) (by simp) ?_
        refine AllReadyH.cons (o := { dst := some 114, op := Op.call { callee := Callee.value (Operand.func 21), args := #[Operand.tmp 113], argTypes := #[9] }, type := 37, pos := "laws.go:176", after := #[{ on := 26, ground := Ground.data }, { on := 23, ground := Ground.chain }, { on := 23, ground := Ground.guard }], guard := some (23, true) }) rfl (fun K hK => ?_) AllReadyH.nil
        go_simp
        (go_at_call 21; refine (TY.out _).mono ?_; rintro e w17 ⟨q17, rfl, sq17, hb17⟩; have T17 := Cells.below (L := [(⟨w11.heap.size, 0, none⟩, .slice py M.length cy), (⟨w11.heap.size, 1, none⟩, .int .i64 k)]) (by simp only [Cells]; go_keep) hb17; simp only [Cells] at T17; obtain ⟨p170, p171, -⟩ := T17; have z17 : w11.heap.size + 1 ≤ w17.heap.size := Nat.le_trans z16 hb17.size; have B17 : Hid (Below wb.heap.size wb w17) := B16.out.trans (hb17.mono B16.out.size); have SQ17 : Hid (SliceP w17 _ q17 M) := sq17; clear sq17; clear p160 p161 z16 hb16)
        try (go_wp2_with fail)
        refine hK.out _ _ ?_ (fun hH5 => ?_)
        · (try dsimp only)
          go_keep
        clear hK K hH4
        try simp only [Act.put, List.setIfInBounds_toArray, List.set_cons_zero, List.set_cons_succ]
        refine wpAnyH_take (i := 28) (oi := { dst := some 115, op := Op.field 37 (Operand.tmp 114) 0, type := 33, pos := "laws.go:176", after := #[{ on := 27, ground := Ground.data }, { on := 23, ground := Ground.guard }], guard := some (23, true) }) (v := ?vd28) rfl (by kernel_rfl) (by kernel_rfl) (by kernel_rfl) (fun _ _ _ h => h) (Or.inl ⟨by rfl, ?hyd28⟩) (by assumption) ?restd28
        case hyd28 =>
          intro w hSw
          (try dsimp only at hSw)
          go_simp
          try with_reducible rfl
        try simp only [Act.put, List.setIfInBounds_toArray, List.set_cons_zero, List.set_cons_succ]
        refine wpAnyH_ready (rs := [29]) (by kernel_rfl) (by simp) ?_
        refine AllReadyH.cons (o := { dst := some 116, op := Op.call { callee := Callee.value (Operand.func 20), args := #[Operand.tmp 112, Operand.tmp 115], argTypes := #[33, 33] }, type := 4, pos := "laws.go:176", after := #[{ on := 25, ground := Ground.data }, { on := 28, ground := Ground.data }, { on := 27, ground := Ground.chain }, { on := 23, ground := Ground.guard }], guard := some (23, true) }) rfl (fun K hK => ?_) AllReadyH.nil
        go_simp
        (go_at_call 20; refine (lwPairs_any _ q17 M _ _ _ (SliceR.below SY.out B17.out) SQ17.out hM).mono ?_; rintro e w18 ⟨rfl, hb18⟩; have T18 := Cells.below (L := [(⟨w11.heap.size, 0, none⟩, .slice py M.length cy), (⟨w11.heap.size, 1, none⟩, .int .i64 k)]) (by simp only [Cells]; go_keep) hb18; simp only [Cells] at T18; obtain ⟨p180, p181, -⟩ := T18; have z18 : w11.heap.size + 1 ≤ w18.heap.size := Nat.le_trans z17 hb18.size; have B18 : Hid (Below wb.heap.size wb w18) := B17.out.trans (hb18.mono B17.out.size); clear p170 p171 z17 hb17)
        try (go_wp2_with fail)
        refine hK.out _ _ ?_ (fun hH6 => ?_)
        · (try dsimp only)
          go_keep
        clear hK K hH5
        try simp only [Act.put, List.setIfInBounds_toArray, List.set_cons_zero, List.set_cons_succ]
        refine wpAnyH_take (i := 30) (oi := { dst := some 117, op := Op.pick (Operand.tmp 110) (Operand.tmp 116) (Operand.const (Value.bool false)), type := 4, pos := "laws.go:176", after := #[{ on := 23, ground := Ground.data }, { on := 29, ground := Ground.data }], guard := none }) (v := ?vd30) rfl (by kernel_rfl) (by kernel_rfl) (by kernel_rfl) (fun _ _ _ h => h) (Or.inl ⟨by rfl, ?hyd30⟩) (by assumption) ?restd30
        case hyd30 =>
          intro w hSw
          (try dsimp only at hSw)
          go_simp
          try with_reducible rfl
        try simp only [Act.put, List.setIfInBounds_toArray, List.set_cons_zero, List.set_cons_succ]
        refine wpAnyH_take (i := 31) (oi := { dst := some 118, op := Op.move (Operand.tmp 117), type := 4, pos := "laws.go:176", after := #[{ on := 30, ground := Ground.data }, { on := 29, ground := Ground.chain }], guard := none }) (v := ?vd31) rfl (by kernel_rfl) (by kernel_rfl) (by kernel_rfl) (fun _ _ _ h => h) (Or.inl ⟨by rfl, ?hyd31⟩) (by assumption) ?restd31
        case hyd31 =>
          intro w hSw
          (try dsimp only at hSw)
          go_simp
          try with_reducible rfl
        try simp only [Act.put, List.setIfInBounds_toArray, List.set_cons_zero, List.set_cons_succ]
        refine wpAnyH_take (i := 32) (oi := { dst := some 119, op := Op.fieldAddr 37 (Operand.tmp 13) 1, type := 0, pos := "laws.go:176", after := #[{ on := 31, ground := Ground.guard }], guard := some (31, true) }) (v := ?vd32) rfl (by kernel_rfl) (by kernel_rfl) (by kernel_rfl) (fun _ _ _ h => h) (Or.inl ⟨by rfl, ?hyd32⟩) (by assumption) ?restd32
        case hyd32 =>
          intro w hSw
          (try dsimp only at hSw)
          go_simp
          try with_reducible rfl
        try simp only [Act.put, List.setIfInBounds_toArray, List.set_cons_zero, List.set_cons_succ]
        refine wpAnyH_take (i := 33) (oi := { dst := some 120, op := Op.load 2 (Operand.tmp 119), type := 2, pos := "laws.go:176", after := #[{ on := 32, ground := Ground.data }, { on := 31, ground := Ground.guard }], guard := some (31, true) }) (v := ?vd33) rfl (by kernel_rfl) (by kernel_rfl) (by kernel_rfl) (fun _ _ _ h => h) (Or.inl ⟨by rfl, ?hyd33⟩) (by assumption) ?restd33
        case hyd33 =>
          intro w hSw
          (try dsimp only at hSw)
          go_simp
          try with_reducible rfl
        try simp only [Act.put, List.setIfInBounds_toArray, List.set_cons_zero, List.set_cons_succ]
        refine wpAnyH_take (i := 34) (oi := { dst := some 121, op := Op.binOp BinOp.neq 2 (Operand.tmp 120) (Operand.const (Value.int IntKind.i64 0)) 2, type := 4, pos := "laws.go:176", after := #[{ on := 33, ground := Ground.data }, { on := 31, ground := Ground.guard }], guard := some (31, true) }) (v := ?vd34) rfl (by kernel_rfl) (by kernel_rfl) (by kernel_rfl) (fun _ _ _ h => h) (Or.inl ⟨by rfl, ?hyd34⟩) (by assumption) ?restd34
        case hyd34 =>
          intro w hSw
          (try dsimp only at hSw)
          go_simp
          try with_reducible rfl
        try simp only [Act.put, List.setIfInBounds_toArray, List.set_cons_zero, List.set_cons_succ]
        refine wpAnyH_take (i := 35) (oi := { dst := some 122, op := Op.move (Operand.tmp 121), type := 4, pos := "laws.go:176", after := #[{ on := 34, ground := Ground.data }, { on := 31, ground := Ground.chain }, { on := 31, ground := Ground.guard }], guard := some (31, true) }) (v := ?vd35) rfl (by kernel_rfl) (by kernel_rfl) (by kernel_rfl) (fun _ _ _ h => h) (Or.inl ⟨by rfl, ?hyd35⟩) (by assumption) ?restd35
        case hyd35 =>
          intro w hSw
          (try dsimp only at hSw)
          go_simp
          try with_reducible rfl
        try simp only [Act.put, List.setIfInBounds_toArray, List.set_cons_zero, List.set_cons_succ]
        refine wpAnyH_take (i := 36) (oi := { dst := some 123, op := Op.fieldAddr 37 (Operand.tmp 13) 0, type := 0, pos := "laws.go:176", after := #[{ on := 35, ground := Ground.guard }], guard := some (35, false) }) (v := ?vd36) rfl (by kernel_rfl) (by kernel_rfl) (by kernel_rfl) (fun _ _ _ h => h) (Or.inl ⟨by rfl, ?hyd36⟩) (by assumption) ?restd36
        case hyd36 =>
          intro w hSw
          (try dsimp only at hSw)
          go_simp
          try with_reducible rfl
        try simp only [Act.put, List.setIfInBounds_toArray, List.set_cons_zero, List.set_cons_succ]
        refine wpAnyH_take (i := 37) (oi := { dst := some 124, op := Op.load 33 (Operand.tmp 123), type := 33, pos := "laws.go:176", after := #[{ on := 36, ground := Ground.data }, { on := 35, ground := Ground.guard }], guard := some (35, false) }) (v := ?vd37) rfl (by kernel_rfl) (by kernel_rfl) (by kernel_rfl) (fun _ _ _ h => h) (Or.inl ⟨by rfl, ?hyd37⟩) (by assumption) ?restd37
        case hyd37 =>
          intro w hSw
          (try dsimp only at hSw)
          go_simp
          try with_reducible rfl
        try simp only [Act.put, List.setIfInBounds_toArray, List.set_cons_zero, List.set_cons_succ]
        refine wpAnyH_take (i := 39) (oi := { dst := some 126, op := Op.move (Operand.tmp 12), type := 9, pos := "laws.go:176", after := #[{ on := 35, ground := Ground.guard }], guard := some (35, false) }) (v := ?vd39) rfl (by kernel_rfl) (by kernel_rfl) (by kernel_rfl) (fun _ _ _ h => h) (Or.inl ⟨by rfl, ?hyd39⟩) (by assumption) ?restd39
        case hyd39 =>
          intro w hSw
          (try dsimp only at hSw)
          go_simp
          try with_reducible rfl
        try simp only [Act.put, List.setIfInBounds_toArray, List.set_cons_zero, List.set_cons_succ]
        refine wpAnyH_ready (rs := [38]) (by kernel_rfl) (by simp) ?_
        refine AllReadyH.cons (o := { dst := some 125, op := Op.call { callee := Callee.value (Operand.func 16), args := #[Operand.tmp 124], argTypes := #[33] }, type := 9, pos := "laws.go:176", after := #[{ on := 37, ground := Ground.data }, { on := 35, ground := Ground.chain }, { on := 35, ground := Ground.guard }], guard := some (35, false) }) rfl (fun K hK => ?_) AllReadyH.nil
        go_simp
        (go_at_call 16; refine (KM.out (eq_of_beq hk) _ B18.out).mono ?_; rintro e w19 ⟨rfl, hb19⟩; have T19 := Cells.below (L := [(⟨w11.heap.size, 0, none⟩, .slice py M.length cy), (⟨w11.heap.size, 1, none⟩, .int .i64 k)]) (by simp only [Cells]; go_keep) hb19; simp only [Cells] at T19; obtain ⟨p190, p191, -⟩ := T19; have z19 : w11.heap.size + 1 ≤ w19.heap.size := Nat.le_trans z18 hb19.size; have B19 : Hid (Below wb.heap.size wb w19) := B18.out.trans (hb19.mono B18.out.size); clear p180 p181 z18 hb18)
        try (go_wp2_with fail)
        refine hK.out _ _ ?_ (fun hH7 => ?_)
        · (try dsimp only)
          go_keep
        clear hK K hH6
        try simp only [Act.put, List.setIfInBounds_toArray, List.set_cons_zero, List.set_cons_succ]
        refine wpAnyH_take (i := 40) (oi := { dst := some 127, op := Op.binOp BinOp.eql 9 (Operand.tmp 125) (Operand.tmp 126) 9, type := 4, pos := "laws.go:176", after := #[{ on := 38, ground := Ground.data }, { on := 39, ground := Ground.data }, { on := 35, ground := Ground.guard }], guard := some (35, false) }) (v := ?vd40) rfl (by kernel_rfl) (by kernel_rfl) (by kernel_rfl) (fun _ _ _ h => h) (Or.inl ⟨by rfl, ?hyd40⟩) (by assumption) ?restd40
        case hyd40 =>
          intro w hSw
          (try dsimp only at hSw)
          go_simp
          try with_reducible rfl
        try simp only [Act.put, List.setIfInBounds_toArray, List.set_cons_zero, List.set_cons_succ]
        refine wpAnyH_take (i := 41) (oi := { dst := some 128, op := Op.pick (Operand.tmp 122) (Operand.const (Value.bool true)) (Operand.tmp 127), type := 4, pos := "laws.go:176", after := #[{ on := 35, ground := Ground.data }, { on := 40, ground := Ground.data }, { on := 31, ground := Ground.guard }], guard := some (31, true) }) (v := ?vd41) rfl (by kernel_rfl) (by kernel_rfl) (by kernel_rfl) (fun _ _ _ h => h) (Or.inl ⟨by rfl, ?hyd41⟩) (by assumption) ?restd41
        case hyd41 =>
          intro w hSw
          (try dsimp only at hSw)
          go_simp
          try with_reducible rfl
        try simp only [Act.put, List.setIfInBounds_toArray, List.set_cons_zero, List.set_cons_succ]
        refine wpAnyH_take (i := 42) (oi := { dst := some 129, op := Op.pick (Operand.tmp 118) (Operand.tmp 128) (Operand.const (Value.bool false)), type := 4, pos := "laws.go:176", after := #[{ on := 31, ground := Ground.data }, { on := 41, ground := Ground.data }], guard := none }) (v := ?vd42) rfl (by kernel_rfl) (by kernel_rfl) (by kernel_rfl) (fun _ _ _ h => h) (Or.inl ⟨by rfl, ?hyd42⟩) (by assumption) ?restd42
        case hyd42 =>
          intro w hSw
          (try dsimp only at hSw)
          go_simp
          try with_reducible rfl
        try simp only [Act.put, List.setIfInBounds_toArray, List.set_cons_zero, List.set_cons_succ]
        refine wpAnyH_take (i := 43) (oi := { dst := some 4, op := Op.assign (Operand.tmp 129), type := 4, pos := "laws.go:176", after := #[{ on := 42, ground := Ground.data }, { on := 38, ground := Ground.chain }, { on := 0, ground := Ground.phase }, { on := 1, ground := Ground.phase }, { on := 2, ground := Ground.phase }, { on := 3, ground := Ground.phase }, { on := 4, ground := Ground.phase }, { on := 5, ground := Ground.phase }, { on := 6, ground := Ground.phase }, { on := 7, ground := Ground.phase }, { on := 8, ground := Ground.phase }, { on := 9, ground := Ground.phase }, { on := 10, ground := Ground.phase }, { on := 11, ground := Ground.phase }, { on := 12, ground := Ground.phase }, { on := 13, ground := Ground.phase }, { on := 14, ground := Ground.phase }, { on := 15, ground := Ground.phase }, { on := 16, ground := Ground.phase }, { on := 17, ground := Ground.phase }, { on := 18, ground := Ground.phase }, { on := 19, ground := Ground.phase }, { on := 20, ground := Ground.phase }, { on := 21, ground := Ground.phase }, { on := 22, ground := Ground.phase }, { on := 23, ground := Ground.phase }, { on := 24, ground := Ground.phase }, { on := 25, ground := Ground.phase }, { on := 26, ground := Ground.phase }, { on := 27, ground := Ground.phase }, { on := 28, ground := Ground.phase }, { on := 29, ground := Ground.phase }, { on := 30, ground := Ground.phase }, { on := 31, ground := Ground.phase }, { on := 32, ground := Ground.phase }, { on := 33, ground := Ground.phase }, { on := 34, ground := Ground.phase }, { on := 35, ground := Ground.phase }, { on := 36, ground := Ground.phase }, { on := 37, ground := Ground.phase }, { on := 38, ground := Ground.phase }, { on := 39, ground := Ground.phase }, { on := 40, ground := Ground.phase }, { on := 41, ground := Ground.phase }, { on := 42, ground := Ground.phase }], guard := none }) (v := ?vd43) rfl (by kernel_rfl) (by kernel_rfl) (by kernel_rfl) (fun _ _ _ h => h) (Or.inl ⟨by rfl, ?hyd43⟩) (by assumption) ?restd43
        case hyd43 =>
          intro w hSw
          (try dsimp only at hSw)
          go_simp
          try with_reducible rfl
        try simp only [Act.put, List.setIfInBounds_toArray, List.set_cons_zero, List.set_cons_succ]
        refine wpAnyH_done (by kernel_rfl) ?_ _
        go_wp2
        go_ret
        exact ⟨rfl, BW.out.trans (B19.out.mono BW.out.size)⟩
  clear hK
  cases hT0 : T.toList.isEmpty with
  | true =>
    cases hk : (k2 == 0) with
    | false =>
      refine wp_region_held_drew (S := (fun w' => w4.heap.size + 1 ≤ w'.heap.size ∧ w'.cell? ⟨w1.heap.size, 0, none⟩ = some (.string na) ∧ w'.cell? ⟨w1.heap.size, 1, none⟩ = some (.string va) ∧ w'.cell? ⟨w1.heap.size, 2, none⟩ = some (.string dm) ∧ w'.cell? ⟨w1.heap.size, 3, none⟩ = some (.string pa) ∧ w'.cell? ⟨w1.heap.size, 4, none⟩ = some (.int .i64 ag) ∧ w'.cell? ⟨w1.heap.size, 5, none⟩ = some (.bool se) ∧ w'.cell? ⟨w1.heap.size, 6, none⟩ = some (.int .i64 mo) ∧ w'.cell? ⟨w1.heap.size, 7, none⟩ = some (.bool pt) ∧ w'.cell? ⟨w4.heap.size, 0, none⟩ = some (.string na2) ∧ w'.cell? ⟨w4.heap.size, 1, none⟩ = some (.string va2) ∧ w'.cell? ⟨w4.heap.size, 2, none⟩ = some (.string dm2) ∧ w'.cell? ⟨w4.heap.size, 3, none⟩ = some (.string pa2) ∧ w'.cell? ⟨w4.heap.size, 4, none⟩ = some (.int .i64 ag2) ∧ w'.cell? ⟨w4.heap.size, 5, none⟩ = some (.bool se2) ∧ w'.cell? ⟨w4.heap.size, 6, none⟩ = some (.int .i64 mo2) ∧ w'.cell? ⟨w4.heap.size, 7, none⟩ = some (.bool pt2) ∧ w'.cell? ⟨w4.heap.size, 8, none⟩ = some (.int .i64 k2))) (by kernel_rfl) ?_ (fun hH0 => ?_)
      · (try dsimp only)
        go_keep
      refine wpAnyH_take (i := 0) (oi := { dst := some 32, op := Op.move (Operand.tmp 6), type := 9, pos := "laws.go:169", after := #[], guard := none }) (v := ?ve0) rfl (by kernel_rfl) (by kernel_rfl) (by kernel_rfl) (fun _ _ _ h => h) (Or.inl ⟨by rfl, ?hye0⟩) (by assumption) ?reste0
      case hye0 =>
        intro w hSw
        (try dsimp only at hSw)
        go_simp
        try with_reducible rfl
      try simp only [Act.put, List.setIfInBounds_toArray, List.set_cons_zero, List.set_cons_succ]
      refine wpAnyH_take (i := 1) (oi := { dst := some 33, op := Op.load 24 (Operand.tmp 5), type := 24, pos := "laws.go:169", after := #[], guard := none }) (v := ?ve1) rfl (by kernel_rfl) (by kernel_rfl) (by kernel_rfl) (fun _ _ _ h => h) (Or.inl ⟨by rfl, ?hye1⟩) (by assumption) ?reste1
      case hye1 =>
        intro w hSw
        (try dsimp only at hSw)
        go_simp
        try with_reducible rfl
      try simp only [Act.put, List.setIfInBounds_toArray, List.set_cons_zero, List.set_cons_succ]
      refine wpAnyH_ready (rs := [2]) (by kernel_rfl) (by simp) ?_
      refine AllReadyH.cons (o := { dst := some 34, op := Op.call { callee := Callee.value (Operand.func 9), args := #[Operand.tmp 33], argTypes := #[24] }, type := 9, pos := "laws.go:169", after := #[{ on := 1, ground := Ground.data }], guard := none }) rfl (fun K hK => ?_) AllReadyH.nil
      go_simp
      (go_at_call 9; refine (TT.out _ (B6.out.trans (Below.drew (Below.refl _ _)))).mono ?_; rintro e w7 ⟨rfl, hb7⟩; have T7 := Cells.below (L := [(⟨w1.heap.size, 0, none⟩, .string na), (⟨w1.heap.size, 1, none⟩, .string va), (⟨w1.heap.size, 2, none⟩, .string dm), (⟨w1.heap.size, 3, none⟩, .string pa), (⟨w1.heap.size, 4, none⟩, .int .i64 ag), (⟨w1.heap.size, 5, none⟩, .bool se), (⟨w1.heap.size, 6, none⟩, .int .i64 mo), (⟨w1.heap.size, 7, none⟩, .bool pt), (⟨w4.heap.size, 0, none⟩, .string na2), (⟨w4.heap.size, 1, none⟩, .string va2), (⟨w4.heap.size, 2, none⟩, .string dm2), (⟨w4.heap.size, 3, none⟩, .string pa2), (⟨w4.heap.size, 4, none⟩, .int .i64 ag2), (⟨w4.heap.size, 5, none⟩, .bool se2), (⟨w4.heap.size, 6, none⟩, .int .i64 mo2), (⟨w4.heap.size, 7, none⟩, .bool pt2), (⟨w4.heap.size, 8, none⟩, .int .i64 k2)]) (by simp only [Cells]; go_keep) hb7; simp only [Cells] at T7; obtain ⟨p70, p71, p72, p73, p74, p75, p76, p77, p78, p79, p710, p711, p712, p713, p714, p715, p716, -⟩ := T7; have z7 : w4.heap.size + 1 ≤ w7.heap.size := Nat.le_trans z6 hb7.size; have B7 : Hid (Below w.heap.size w w7) := (B6.out.trans (Below.drew (Below.refl _ _))).trans (hb7.mono (by have := B6.out.size; simpa using this)))
      try (go_wp2_with fail)
      refine hK.out _ _ ?_ (fun hH1 => ?_)
      · (try dsimp only)
        go_keep
      clear hK K hH0
      try simp only [Act.put, List.setIfInBounds_toArray, List.set_cons_zero, List.set_cons_succ]
      refine wpAnyH_take (i := 3) (oi := { dst := some 35, op := Op.binOp BinOp.neq 9 (Operand.tmp 32) (Operand.tmp 34) 9, type := 4, pos := "laws.go:169", after := #[{ on := 0, ground := Ground.data }, { on := 2, ground := Ground.data }], guard := none }) (v := ?ve3) rfl (by kernel_rfl) (by kernel_rfl) (by kernel_rfl) (fun _ _ _ h => h) (Or.inl ⟨by rfl, ?hye3⟩) (by assumption) ?reste3
      case hye3 =>
        intro w hSw
        (try dsimp only at hSw)
        go_simp
        try with_reducible rfl
      try simp only [Act.put, List.setIfInBounds_toArray, List.set_cons_zero, List.set_cons_succ]
      refine wpAnyH_take (i := 4) (oi := { dst := some 36, op := Op.move (Operand.tmp 35), type := 4, pos := "laws.go:169", after := #[{ on := 3, ground := Ground.data }, { on := 2, ground := Ground.chain }], guard := none }) (v := ?ve4) rfl (by kernel_rfl) (by kernel_rfl) (by kernel_rfl) (fun _ _ _ h => h) (Or.inl ⟨by rfl, ?hye4⟩) (by assumption) ?reste4
      case hye4 =>
        intro w hSw
        (try dsimp only at hSw)
        go_simp
        try with_reducible rfl
      try simp only [Act.put, List.setIfInBounds_toArray, List.set_cons_zero, List.set_cons_succ]
      refine wpAnyH_take (i := 5) (oi := { dst := some 37, op := Op.load 24 (Operand.tmp 5), type := 24, pos := "laws.go:169", after := #[{ on := 4, ground := Ground.guard }], guard := some (4, false) }) (v := ?ve5) rfl (by kernel_rfl) (by kernel_rfl) (by kernel_rfl) (fun _ _ _ h => h) (Or.inl ⟨by rfl, ?hye5⟩) (by assumption) ?reste5
      case hye5 =>
        intro w hSw
        (try dsimp only at hSw)
        go_simp
        try with_reducible rfl
      try simp only [Act.put, List.setIfInBounds_toArray, List.set_cons_zero, List.set_cons_succ]
      refine wpAnyH_take (i := 7) (oi := { dst := some 39, op := Op.load 24 (Operand.tmp 5), type := 24, pos := "laws.go:169", after := #[{ on := 4, ground := Ground.guard }], guard := some (4, false) }) (v := ?ve7) rfl (by kernel_rfl) (by kernel_rfl) (by kernel_rfl) (fun _ _ _ h => h) (Or.inl ⟨by rfl, ?hye7⟩) (by assumption) ?reste7
      case hye7 =>
        intro w hSw
        (try dsimp only at hSw)
        go_simp
        try with_reducible rfl
      try simp only [Act.put, List.setIfInBounds_toArray, List.set_cons_zero, List.set_cons_succ]
      refine wpAnyH_ready (rs := [6]) (by kernel_rfl) (by simp) ?_
      refine AllReadyH.cons (o := { dst := some 38, op := Op.call { callee := Callee.value (Operand.func 10), args := #[Operand.tmp 37], argTypes := #[24] }, type := 4, pos := "laws.go:169", after := #[{ on := 5, ground := Ground.data }, { on := 4, ground := Ground.chain }, { on := 4, ground := Ground.guard }], guard := some (4, false) }) rfl (fun K hK => ?_) AllReadyH.nil
      go_simp
      (go_at_call 10; refine (KR.out _ B7.out).mono ?_; rintro e w8 ⟨rfl, hb8⟩; have T8 := Cells.below (L := [(⟨w1.heap.size, 0, none⟩, .string na), (⟨w1.heap.size, 1, none⟩, .string va), (⟨w1.heap.size, 2, none⟩, .string dm), (⟨w1.heap.size, 3, none⟩, .string pa), (⟨w1.heap.size, 4, none⟩, .int .i64 ag), (⟨w1.heap.size, 5, none⟩, .bool se), (⟨w1.heap.size, 6, none⟩, .int .i64 mo), (⟨w1.heap.size, 7, none⟩, .bool pt), (⟨w4.heap.size, 0, none⟩, .string na2), (⟨w4.heap.size, 1, none⟩, .string va2), (⟨w4.heap.size, 2, none⟩, .string dm2), (⟨w4.heap.size, 3, none⟩, .string pa2), (⟨w4.heap.size, 4, none⟩, .int .i64 ag2), (⟨w4.heap.size, 5, none⟩, .bool se2), (⟨w4.heap.size, 6, none⟩, .int .i64 mo2), (⟨w4.heap.size, 7, none⟩, .bool pt2), (⟨w4.heap.size, 8, none⟩, .int .i64 k2)]) (by simp only [Cells]; go_keep) hb8; simp only [Cells] at T8; obtain ⟨p80, p81, p82, p83, p84, p85, p86, p87, p88, p89, p810, p811, p812, p813, p814, p815, p816, -⟩ := T8; have z8 : w4.heap.size + 1 ≤ w8.heap.size := Nat.le_trans z7 hb8.size; have B8 : Hid (Below w.heap.size w w8) := B7.out.trans (hb8.mono B7.out.size); clear p70 p71 p72 p73 p74 p75 p76 p77 p78 p79 p710 p711 p712 p713 p714 p715 p716 z7 hb7)
      try (go_wp2_with fail)
      refine hK.out _ _ ?_ (fun hH2 => ?_)
      · (try dsimp only)
        go_keep
      clear hK K hH1
      try simp only [Act.put, List.setIfInBounds_toArray, List.set_cons_zero, List.set_cons_succ]
      refine wpAnyH_ready (rs := [8]) (by kernel_rfl) (by simp) ?_
      refine AllReadyH.cons (o := { dst := some 40, op := Op.call { callee := Callee.value (Operand.func 11), args := #[Operand.tmp 39], argTypes := #[24] }, type := 4, pos := "laws.go:169", after := #[{ on := 7, ground := Ground.data }, { on := 6, ground := Ground.chain }, { on := 4, ground := Ground.guard }], guard := some (4, false) }) rfl (fun K hK => ?_) AllReadyH.nil
      go_simp
      (go_at_call 11; refine (TR.out _ B8.out).mono ?_; rintro e w9 ⟨rfl, hb9⟩; have T9 := Cells.below (L := [(⟨w1.heap.size, 0, none⟩, .string na), (⟨w1.heap.size, 1, none⟩, .string va), (⟨w1.heap.size, 2, none⟩, .string dm), (⟨w1.heap.size, 3, none⟩, .string pa), (⟨w1.heap.size, 4, none⟩, .int .i64 ag), (⟨w1.heap.size, 5, none⟩, .bool se), (⟨w1.heap.size, 6, none⟩, .int .i64 mo), (⟨w1.heap.size, 7, none⟩, .bool pt), (⟨w4.heap.size, 0, none⟩, .string na2), (⟨w4.heap.size, 1, none⟩, .string va2), (⟨w4.heap.size, 2, none⟩, .string dm2), (⟨w4.heap.size, 3, none⟩, .string pa2), (⟨w4.heap.size, 4, none⟩, .int .i64 ag2), (⟨w4.heap.size, 5, none⟩, .bool se2), (⟨w4.heap.size, 6, none⟩, .int .i64 mo2), (⟨w4.heap.size, 7, none⟩, .bool pt2), (⟨w4.heap.size, 8, none⟩, .int .i64 k2)]) (by simp only [Cells]; go_keep) hb9; simp only [Cells] at T9; obtain ⟨p90, p91, p92, p93, p94, p95, p96, p97, p98, p99, p910, p911, p912, p913, p914, p915, p916, -⟩ := T9; have z9 : w4.heap.size + 1 ≤ w9.heap.size := Nat.le_trans z8 hb9.size; have B9 : Hid (Below w.heap.size w w9) := B8.out.trans (hb9.mono B8.out.size); clear p80 p81 p82 p83 p84 p85 p86 p87 p88 p89 p810 p811 p812 p813 p814 p815 p816 z8 hb8)
      try (go_wp2_with fail)
      refine hK.out _ _ ?_ (fun hH3 => ?_)
      · (try dsimp only)
        go_keep
      clear hK K hH2
      try simp only [Act.put, List.setIfInBounds_toArray, List.set_cons_zero, List.set_cons_succ]
      refine wpAnyH_take (i := 9) (oi := { dst := some 41, op := Op.binOp BinOp.neq 4 (Operand.tmp 38) (Operand.tmp 40) 4, type := 4, pos := "laws.go:169", after := #[{ on := 6, ground := Ground.data }, { on := 8, ground := Ground.data }, { on := 4, ground := Ground.guard }], guard := some (4, false) }) (v := ?ve9) rfl (by kernel_rfl) (by kernel_rfl) (by kernel_rfl) (fun _ _ _ h => h) (Or.inl ⟨by rfl, ?hye9⟩) (by assumption) ?reste9
      case hye9 =>
        intro w hSw
        (try dsimp only at hSw)
        go_simp
        try with_reducible rfl
      try simp only [Act.put, List.setIfInBounds_toArray, List.set_cons_zero, List.set_cons_succ]
      refine wpAnyH_take (i := 10) (oi := { dst := some 42, op := Op.pick (Operand.tmp 36) (Operand.const (Value.bool true)) (Operand.tmp 41), type := 4, pos := "laws.go:169", after := #[{ on := 4, ground := Ground.data }, { on := 9, ground := Ground.data }], guard := none }) (v := ?ve10) rfl (by kernel_rfl) (by kernel_rfl) (by kernel_rfl) (fun _ _ _ h => h) (Or.inl ⟨by rfl, ?hye10⟩) (by assumption) ?reste10
      case hye10 =>
        intro w hSw
        (try dsimp only at hSw)
        go_simp
        try with_reducible rfl
      try simp only [Act.put, List.setIfInBounds_toArray, List.set_cons_zero, List.set_cons_succ]
      refine wpAnyH_take (i := 11) (oi := { dst := some 43, op := Op.move (Operand.tmp 42), type := 4, pos := "laws.go:169", after := #[{ on := 10, ground := Ground.data }, { on := 8, ground := Ground.chain }], guard := none }) (v := ?ve11) rfl (by kernel_rfl) (by kernel_rfl) (by kernel_rfl) (fun _ _ _ h => h) (Or.inl ⟨by rfl, ?hye11⟩) (by assumption) ?reste11
      case hye11 =>
        intro w hSw
        (try dsimp only at hSw)
        go_simp
        try with_reducible rfl
      try simp only [Act.put, List.setIfInBounds_toArray, List.set_cons_zero, List.set_cons_succ]
      refine wpAnyH_take (i := 12) (oi := { dst := some 44, op := Op.move (Operand.tmp 6), type := 9, pos := "laws.go:169", after := #[{ on := 11, ground := Ground.guard }], guard := some (11, false) }) (v := ?ve12) rfl (by kernel_rfl) (by kernel_rfl) (by kernel_rfl) (fun _ _ _ h => h) (Or.inl ⟨by rfl, ?hye12⟩) (by assumption) ?reste12
      case hye12 =>
        intro w hSw
        (try dsimp only at hSw)
        go_simp
        try with_reducible rfl
      try simp only [Act.put, List.setIfInBounds_toArray, List.set_cons_zero, List.set_cons_succ]
      refine wpAnyH_take (i := 13) (oi := { dst := some 45, op := Op.binOp BinOp.neq 9 (Operand.tmp 44) (Operand.const (Value.string { data := #[] })) 9, type := 4, pos := "laws.go:169", after := #[{ on := 12, ground := Ground.data }, { on := 11, ground := Ground.guard }], guard := some (11, false) }) (v := ?ve13) rfl (by kernel_rfl) (by kernel_rfl) (by kernel_rfl) (fun _ _ _ h => h) (Or.inl ⟨by rfl, ?hye13⟩) (by assumption) ?reste13
      case hye13 =>
        intro w hSw
        (try dsimp only at hSw)
        go_simp
        try with_reducible rfl
      try simp only [Act.put, List.setIfInBounds_toArray, List.set_cons_zero, List.set_cons_succ]
      refine wpAnyH_take (i := 14) (oi := { dst := some 46, op := Op.move (Operand.tmp 45), type := 4, pos := "laws.go:169", after := #[{ on := 13, ground := Ground.data }, { on := 11, ground := Ground.chain }, { on := 11, ground := Ground.guard }], guard := some (11, false) }) (v := ?ve14) rfl (by kernel_rfl) (by kernel_rfl) (by kernel_rfl) (fun _ _ _ h => h) (Or.inl ⟨by rfl, ?hye14⟩) (by assumption) ?reste14
      case hye14 =>
        intro w hSw
        (try dsimp only at hSw)
        go_simp
        try with_reducible rfl
      try simp only [Act.put, List.setIfInBounds_toArray, List.set_cons_zero, List.set_cons_succ]
      refine wpAnyH_take (i := 15) (oi := { dst := some 47, op := Op.move (Operand.tmp 6), type := 9, pos := "laws.go:169", after := #[{ on := 14, ground := Ground.guard }], guard := some (14, true) }) (v := undef) rfl (by kernel_rfl) (by kernel_rfl) (by kernel_rfl) (fun _ _ _ h => h) (Or.inr ⟨by rfl, rfl⟩) (by assumption) ?_
      try simp only [Act.put, List.setIfInBounds_toArray, List.set_cons_zero, List.set_cons_succ]
      refine wpAnyH_take (i := 16) (oi := { dst := some 48, op := Op.call { callee := Callee.value (Operand.func 7), args := #[Operand.tmp 47], argTypes := #[9] }, type := 29, pos := "laws.go:169", after := #[{ on := 15, ground := Ground.data }, { on := 14, ground := Ground.chain }, { on := 14, ground := Ground.guard }], guard := some (14, true) }) (v := undef) rfl (by kernel_rfl) (by kernel_rfl) (by kernel_rfl) (fun _ _ _ h => h) (Or.inr ⟨by rfl, rfl⟩) (by assumption) ?_
      try simp only [Act.put, List.setIfInBounds_toArray, List.set_cons_zero, List.set_cons_succ]
      refine wpAnyH_take (i := 17) (oi := { dst := some 49, op := Op.load 24 (Operand.tmp 5), type := 24, pos := "laws.go:169", after := #[{ on := 14, ground := Ground.guard }], guard := some (14, true) }) (v := undef) rfl (by kernel_rfl) (by kernel_rfl) (by kernel_rfl) (fun _ _ _ h => h) (Or.inr ⟨by rfl, rfl⟩) (by assumption) ?_
      try simp only [Act.put, List.setIfInBounds_toArray, List.set_cons_zero, List.set_cons_succ]
      refine wpAnyH_take (i := 18) (oi := { dst := some 50, op := Op.build 29 #[(0, Operand.tmp 49)], type := 29, pos := "laws.go:169", after := #[{ on := 17, ground := Ground.data }, { on := 14, ground := Ground.guard }], guard := some (14, true) }) (v := undef) rfl (by kernel_rfl) (by kernel_rfl) (by kernel_rfl) (fun _ _ _ h => h) (Or.inr ⟨by rfl, rfl⟩) (by assumption) ?_
      try simp only [Act.put, List.setIfInBounds_toArray, List.set_cons_zero, List.set_cons_succ]
      refine wpAnyH_take (i := 19) (oi := { dst := some 51, op := Op.binOp BinOp.neq 29 (Operand.tmp 48) (Operand.tmp 50) 29, type := 4, pos := "laws.go:169", after := #[{ on := 16, ground := Ground.data }, { on := 18, ground := Ground.data }, { on := 14, ground := Ground.guard }], guard := some (14, true) }) (v := undef) rfl (by kernel_rfl) (by kernel_rfl) (by kernel_rfl) (fun _ _ _ h => h) (Or.inr ⟨by rfl, rfl⟩) (by assumption) ?_
      try simp only [Act.put, List.setIfInBounds_toArray, List.set_cons_zero, List.set_cons_succ]
      refine wpAnyH_take (i := 20) (oi := { dst := some 52, op := Op.pick (Operand.tmp 46) (Operand.tmp 51) (Operand.const (Value.bool false)), type := 4, pos := "laws.go:169", after := #[{ on := 14, ground := Ground.data }, { on := 19, ground := Ground.data }, { on := 11, ground := Ground.guard }], guard := some (11, false) }) (v := ?ve20) rfl (by kernel_rfl) (by kernel_rfl) (by kernel_rfl) (fun _ _ _ h => h) (Or.inl ⟨by rfl, ?hye20⟩) (by assumption) ?reste20
      case hye20 =>
        intro w hSw
        (try dsimp only at hSw)
        go_simp
        try with_reducible rfl
      try simp only [Act.put, List.setIfInBounds_toArray, List.set_cons_zero, List.set_cons_succ]
      refine wpAnyH_take (i := 21) (oi := { dst := some 53, op := Op.pick (Operand.tmp 43) (Operand.const (Value.bool true)) (Operand.tmp 52), type := 4, pos := "laws.go:169", after := #[{ on := 11, ground := Ground.data }, { on := 20, ground := Ground.data }], guard := none }) (v := ?ve21) rfl (by kernel_rfl) (by kernel_rfl) (by kernel_rfl) (fun _ _ _ h => h) (Or.inl ⟨by rfl, ?hye21⟩) (by assumption) ?reste21
      case hye21 =>
        intro w hSw
        (try dsimp only at hSw)
        go_simp
        try with_reducible rfl
      try simp only [Act.put, List.setIfInBounds_toArray, List.set_cons_zero, List.set_cons_succ]
      refine wpAnyH_take (i := 22) (oi := { dst := some 54, op := Op.move (Operand.tmp 53), type := 4, pos := "laws.go:169", after := #[{ on := 21, ground := Ground.data }, { on := 16, ground := Ground.chain }], guard := none }) (v := ?ve22) rfl (by kernel_rfl) (by kernel_rfl) (by kernel_rfl) (fun _ _ _ h => h) (Or.inl ⟨by rfl, ?hye22⟩) (by assumption) ?reste22
      case hye22 =>
        intro w hSw
        (try dsimp only at hSw)
        go_simp
        try with_reducible rfl
      try simp only [Act.put, List.setIfInBounds_toArray, List.set_cons_zero, List.set_cons_succ]
      refine wpAnyH_take (i := 23) (oi := { dst := some 55, op := Op.load 29 (Operand.tmp 8), type := 29, pos := "laws.go:169", after := #[{ on := 22, ground := Ground.guard }], guard := some (22, false) }) (v := ?ve23) rfl (by kernel_rfl) (by kernel_rfl) (by kernel_rfl) (fun _ _ _ h => h) (Or.inl ⟨by rfl, ?hye23⟩) (by assumption) ?reste23
      case hye23 =>
        intro w hSw
        (try dsimp only at hSw)
        go_simp
        try with_reducible rfl
      try simp only [Act.put, List.setIfInBounds_toArray, List.set_cons_zero, List.set_cons_succ]
      refine wpAnyH_take (i := 24) (oi := { dst := some 56, op := Op.move (Operand.tmp 7), type := 9, pos := "laws.go:169", after := #[{ on := 22, ground := Ground.guard }], guard := some (22, false) }) (v := ?ve24) rfl (by kernel_rfl) (by kernel_rfl) (by kernel_rfl) (fun _ _ _ h => h) (Or.inl ⟨by rfl, ?hye24⟩) (by assumption) ?reste24
      case hye24 =>
        intro w hSw
        (try dsimp only at hSw)
        go_simp
        try with_reducible rfl
      try simp only [Act.put, List.setIfInBounds_toArray, List.set_cons_zero, List.set_cons_succ]
      refine wpAnyH_ready (rs := [25]) (by kernel_rfl) (by simp) ?_
      refine AllReadyH.cons (o := { dst := some 57, op := Op.call { callee := Callee.value (Operand.func 12), args := #[Operand.tmp 56], argTypes := #[9] }, type := 29, pos := "laws.go:169", after := #[{ on := 24, ground := Ground.data }, { on := 22, ground := Ground.chain }, { on := 22, ground := Ground.guard }], guard := some (22, false) }) rfl (fun K hK => ?_) AllReadyH.nil
      go_simp
      (go_at_call 12; refine (TU.out _ B9.out).mono ?_; rintro e w11 ⟨rfl, hb11⟩; have T11 := Cells.below (L := [(⟨w1.heap.size, 0, none⟩, .string na), (⟨w1.heap.size, 1, none⟩, .string va), (⟨w1.heap.size, 2, none⟩, .string dm), (⟨w1.heap.size, 3, none⟩, .string pa), (⟨w1.heap.size, 4, none⟩, .int .i64 ag), (⟨w1.heap.size, 5, none⟩, .bool se), (⟨w1.heap.size, 6, none⟩, .int .i64 mo), (⟨w1.heap.size, 7, none⟩, .bool pt), (⟨w4.heap.size, 0, none⟩, .string na2), (⟨w4.heap.size, 1, none⟩, .string va2), (⟨w4.heap.size, 2, none⟩, .string dm2), (⟨w4.heap.size, 3, none⟩, .string pa2), (⟨w4.heap.size, 4, none⟩, .int .i64 ag2), (⟨w4.heap.size, 5, none⟩, .bool se2), (⟨w4.heap.size, 6, none⟩, .int .i64 mo2), (⟨w4.heap.size, 7, none⟩, .bool pt2), (⟨w4.heap.size, 8, none⟩, .int .i64 k2)]) (by simp only [Cells]; go_keep) hb11; simp only [Cells] at T11; obtain ⟨p110, p111, p112, p113, p114, p115, p116, p117, p118, p119, p1110, p1111, p1112, p1113, p1114, p1115, p1116, -⟩ := T11; have z11 : w4.heap.size + 1 ≤ w11.heap.size := Nat.le_trans z9 hb11.size; have B11 : Hid (Below w.heap.size w w11) := B9.out.trans (hb11.mono B9.out.size); clear p90 p91 p92 p93 p94 p95 p96 p97 p98 p99 p910 p911 p912 p913 p914 p915 p916 z9 hb9)
      try (go_wp2_with fail)
      refine hK.out _ _ ?_ (fun hH4 => ?_)
      · (try dsimp only)
        go_keep
      clear hK K hH3
      try simp only [Act.put, List.setIfInBounds_toArray, List.set_cons_zero, List.set_cons_succ]
      refine wpAnyH_take (i := 26) (oi := { dst := some 58, op := Op.binOp BinOp.neq 29 (Operand.tmp 55) (Operand.tmp 57) 29, type := 4, pos := "laws.go:169", after := #[{ on := 23, ground := Ground.data }, { on := 25, ground := Ground.data }, { on := 22, ground := Ground.guard }], guard := some (22, false) }) (v := ?ve26) rfl (by kernel_rfl) (by kernel_rfl) (by kernel_rfl) (fun _ _ _ h => h) (Or.inl ⟨by rfl, ?hye26⟩) (by assumption) ?reste26
      case hye26 =>
        intro w hSw
        (try dsimp only at hSw)
        go_simp
        try with_reducible rfl
      try simp only [Act.put, List.setIfInBounds_toArray, List.set_cons_zero, List.set_cons_succ]
      refine wpAnyH_take (i := 27) (oi := { dst := some 59, op := Op.pick (Operand.tmp 54) (Operand.const (Value.bool true)) (Operand.tmp 58), type := 4, pos := "laws.go:169", after := #[{ on := 22, ground := Ground.data }, { on := 26, ground := Ground.data }], guard := none }) (v := ?ve27) rfl (by kernel_rfl) (by kernel_rfl) (by kernel_rfl) (fun _ _ _ h => h) (Or.inl ⟨by rfl, ?hye27⟩) (by assumption) ?reste27
      case hye27 =>
        intro w hSw
        (try dsimp only at hSw)
        go_simp
        try with_reducible rfl
      try simp only [Act.put, List.setIfInBounds_toArray, List.set_cons_zero, List.set_cons_succ]
      refine wpAnyH_take (i := 28) (oi := { dst := some 60, op := Op.move (Operand.tmp 59), type := 4, pos := "laws.go:169", after := #[{ on := 27, ground := Ground.data }, { on := 25, ground := Ground.chain }], guard := none }) (v := ?ve28) rfl (by kernel_rfl) (by kernel_rfl) (by kernel_rfl) (fun _ _ _ h => h) (Or.inl ⟨by rfl, ?hye28⟩) (by assumption) ?reste28
      case hye28 =>
        intro w hSw
        (try dsimp only at hSw)
        go_simp
        try with_reducible rfl
      try simp only [Act.put, List.setIfInBounds_toArray, List.set_cons_zero, List.set_cons_succ]
      refine wpAnyH_take (i := 29) (oi := { dst := some 61, op := Op.fieldAddr 29 (Operand.tmp 8) 1, type := 0, pos := "laws.go:169", after := #[{ on := 28, ground := Ground.guard }], guard := some (28, false) }) (v := ?ve29) rfl (by kernel_rfl) (by kernel_rfl) (by kernel_rfl) (fun _ _ _ h => h) (Or.inl ⟨by rfl, ?hye29⟩) (by assumption) ?reste29
      case hye29 =>
        intro w hSw
        (try dsimp only at hSw)
        go_simp
        try with_reducible rfl
      try simp only [Act.put, List.setIfInBounds_toArray, List.set_cons_zero, List.set_cons_succ]
      refine wpAnyH_take (i := 30) (oi := { dst := some 62, op := Op.load 2 (Operand.tmp 61), type := 2, pos := "laws.go:169", after := #[{ on := 29, ground := Ground.data }, { on := 28, ground := Ground.guard }], guard := some (28, false) }) (v := ?ve30) rfl (by kernel_rfl) (by kernel_rfl) (by kernel_rfl) (fun _ _ _ h => h) (Or.inl ⟨by rfl, ?hye30⟩) (by assumption) ?reste30
      case hye30 =>
        intro w hSw
        (try dsimp only at hSw)
        go_simp
        try with_reducible rfl
      try simp only [Act.put, List.setIfInBounds_toArray, List.set_cons_zero, List.set_cons_succ]
      refine wpAnyH_take (i := 31) (oi := { dst := some 63, op := Op.binOp BinOp.eql 2 (Operand.tmp 62) (Operand.const (Value.int IntKind.i64 0)) 2, type := 4, pos := "laws.go:169", after := #[{ on := 30, ground := Ground.data }, { on := 28, ground := Ground.guard }], guard := some (28, false) }) (v := ?ve31) rfl (by kernel_rfl) (by kernel_rfl) (by kernel_rfl) (fun _ _ _ h => h) (Or.inl ⟨by rfl, ?hye31⟩) (by assumption) ?reste31
      case hye31 =>
        intro w hSw
        (try dsimp only at hSw)
        go_simp
        try with_reducible rfl
      try simp only [Act.put, List.setIfInBounds_toArray, List.set_cons_zero, List.set_cons_succ]
      refine wpAnyH_take (i := 32) (oi := { dst := some 64, op := Op.move (Operand.tmp 63), type := 4, pos := "laws.go:169", after := #[{ on := 31, ground := Ground.data }, { on := 28, ground := Ground.chain }, { on := 28, ground := Ground.guard }], guard := some (28, false) }) (v := ?ve32) rfl (by kernel_rfl) (by kernel_rfl) (by kernel_rfl) (fun _ _ _ h => h) (Or.inl ⟨by rfl, ?hye32⟩) (by assumption) ?reste32
      case hye32 =>
        intro w hSw
        (try dsimp only at hSw)
        go_simp
        try with_reducible rfl
      try simp only [Act.put, List.setIfInBounds_toArray, List.set_cons_zero, List.set_cons_succ]
      refine wpAnyH_take (i := 33) (oi := { dst := some 65, op := Op.fieldAddr 29 (Operand.tmp 8) 0, type := 0, pos := "laws.go:169", after := #[{ on := 32, ground := Ground.guard }], guard := some (32, true) }) (v := undef) rfl (by kernel_rfl) (by kernel_rfl) (by kernel_rfl) (fun _ _ _ h => h) (Or.inr ⟨by rfl, rfl⟩) (by assumption) ?_
      try simp only [Act.put, List.setIfInBounds_toArray, List.set_cons_zero, List.set_cons_succ]
      refine wpAnyH_take (i := 34) (oi := { dst := some 66, op := Op.load 24 (Operand.tmp 65), type := 24, pos := "laws.go:169", after := #[{ on := 33, ground := Ground.data }, { on := 32, ground := Ground.guard }], guard := some (32, true) }) (v := undef) rfl (by kernel_rfl) (by kernel_rfl) (by kernel_rfl) (fun _ _ _ h => h) (Or.inr ⟨by rfl, rfl⟩) (by assumption) ?_
      try simp only [Act.put, List.setIfInBounds_toArray, List.set_cons_zero, List.set_cons_succ]
      refine wpAnyH_take (i := 35) (oi := { dst := some 67, op := Op.call { callee := Callee.value (Operand.func 5), args := #[Operand.tmp 66], argTypes := #[24] }, type := 9, pos := "laws.go:169", after := #[{ on := 34, ground := Ground.data }, { on := 32, ground := Ground.chain }, { on := 32, ground := Ground.guard }], guard := some (32, true) }) (v := undef) rfl (by kernel_rfl) (by kernel_rfl) (by kernel_rfl) (fun _ _ _ h => h) (Or.inr ⟨by rfl, rfl⟩) (by assumption) ?_
      try simp only [Act.put, List.setIfInBounds_toArray, List.set_cons_zero, List.set_cons_succ]
      refine wpAnyH_take (i := 36) (oi := { dst := some 68, op := Op.move (Operand.tmp 7), type := 9, pos := "laws.go:169", after := #[{ on := 32, ground := Ground.guard }], guard := some (32, true) }) (v := undef) rfl (by kernel_rfl) (by kernel_rfl) (by kernel_rfl) (fun _ _ _ h => h) (Or.inr ⟨by rfl, rfl⟩) (by assumption) ?_
      try simp only [Act.put, List.setIfInBounds_toArray, List.set_cons_zero, List.set_cons_succ]
      refine wpAnyH_take (i := 37) (oi := { dst := some 69, op := Op.binOp BinOp.neq 9 (Operand.tmp 67) (Operand.tmp 68) 9, type := 4, pos := "laws.go:169", after := #[{ on := 35, ground := Ground.data }, { on := 36, ground := Ground.data }, { on := 32, ground := Ground.guard }], guard := some (32, true) }) (v := undef) rfl (by kernel_rfl) (by kernel_rfl) (by kernel_rfl) (fun _ _ _ h => h) (Or.inr ⟨by rfl, rfl⟩) (by assumption) ?_
      try simp only [Act.put, List.setIfInBounds_toArray, List.set_cons_zero, List.set_cons_succ]
      refine wpAnyH_take (i := 38) (oi := { dst := some 70, op := Op.pick (Operand.tmp 64) (Operand.tmp 69) (Operand.const (Value.bool false)), type := 4, pos := "laws.go:169", after := #[{ on := 32, ground := Ground.data }, { on := 37, ground := Ground.data }, { on := 28, ground := Ground.guard }], guard := some (28, false) }) (v := ?ve38) rfl (by kernel_rfl) (by kernel_rfl) (by kernel_rfl) (fun _ _ _ h => h) (Or.inl ⟨by rfl, ?hye38⟩) (by assumption) ?reste38
      case hye38 =>
        intro w hSw
        (try dsimp only at hSw)
        go_simp
        try with_reducible rfl
      try simp only [Act.put, List.setIfInBounds_toArray, List.set_cons_zero, List.set_cons_succ]
      refine wpAnyH_take (i := 39) (oi := { dst := some 71, op := Op.pick (Operand.tmp 60) (Operand.const (Value.bool true)) (Operand.tmp 70), type := 4, pos := "laws.go:169", after := #[{ on := 28, ground := Ground.data }, { on := 38, ground := Ground.data }], guard := none }) (v := ?ve39) rfl (by kernel_rfl) (by kernel_rfl) (by kernel_rfl) (fun _ _ _ h => h) (Or.inl ⟨by rfl, ?hye39⟩) (by assumption) ?reste39
      case hye39 =>
        intro w hSw
        (try dsimp only at hSw)
        go_simp
        try with_reducible rfl
      try simp only [Act.put, List.setIfInBounds_toArray, List.set_cons_zero, List.set_cons_succ]
      refine wpAnyH_take (i := 40) (oi := { dst := some 72, op := Op.move (Operand.tmp 71), type := 4, pos := "laws.go:169", after := #[{ on := 39, ground := Ground.data }, { on := 35, ground := Ground.chain }], guard := none }) (v := ?ve40) rfl (by kernel_rfl) (by kernel_rfl) (by kernel_rfl) (fun _ _ _ h => h) (Or.inl ⟨by rfl, ?hye40⟩) (by assumption) ?reste40
      case hye40 =>
        intro w hSw
        (try dsimp only at hSw)
        go_simp
        try with_reducible rfl
      try simp only [Act.put, List.setIfInBounds_toArray, List.set_cons_zero, List.set_cons_succ]
      refine wpAnyH_take (i := 41) (oi := { dst := some 73, op := Op.move (Operand.tmp 9), type := 9, pos := "laws.go:169", after := #[{ on := 40, ground := Ground.guard }], guard := some (40, false) }) (v := ?ve41) rfl (by kernel_rfl) (by kernel_rfl) (by kernel_rfl) (fun _ _ _ h => h) (Or.inl ⟨by rfl, ?hye41⟩) (by assumption) ?reste41
      case hye41 =>
        intro w hSw
        (try dsimp only at hSw)
        go_simp
        try with_reducible rfl
      try simp only [Act.put, List.setIfInBounds_toArray, List.set_cons_zero, List.set_cons_succ]
      refine wpAnyH_take (i := 43) (oi := { dst := some 75, op := Op.move (Operand.tmp 9), type := 9, pos := "laws.go:169", after := #[{ on := 40, ground := Ground.guard }], guard := some (40, false) }) (v := ?ve43) rfl (by kernel_rfl) (by kernel_rfl) (by kernel_rfl) (fun _ _ _ h => h) (Or.inl ⟨by rfl, ?hye43⟩) (by assumption) ?reste43
      case hye43 =>
        intro w hSw
        (try dsimp only at hSw)
        go_simp
        try with_reducible rfl
      try simp only [Act.put, List.setIfInBounds_toArray, List.set_cons_zero, List.set_cons_succ]
      refine wpAnyH_ready (rs := [42]) (by kernel_rfl) (by simp) ?_
      refine AllReadyH.cons (o := { dst := some 74, op := Op.call { callee := Callee.value (Operand.func 13), args := #[Operand.tmp 73], argTypes := #[9] }, type := 4, pos := "laws.go:169", after := #[{ on := 41, ground := Ground.data }, { on := 40, ground := Ground.chain }, { on := 40, ground := Ground.guard }], guard := some (40, false) }) rfl (fun K hK => ?_) AllReadyH.nil
      go_simp
      (go_at_call 13; refine (KW.out _ B11.out).mono ?_; rintro e w13 ⟨rfl, hb13⟩; have T13 := Cells.below (L := [(⟨w1.heap.size, 0, none⟩, .string na), (⟨w1.heap.size, 1, none⟩, .string va), (⟨w1.heap.size, 2, none⟩, .string dm), (⟨w1.heap.size, 3, none⟩, .string pa), (⟨w1.heap.size, 4, none⟩, .int .i64 ag), (⟨w1.heap.size, 5, none⟩, .bool se), (⟨w1.heap.size, 6, none⟩, .int .i64 mo), (⟨w1.heap.size, 7, none⟩, .bool pt), (⟨w4.heap.size, 0, none⟩, .string na2), (⟨w4.heap.size, 1, none⟩, .string va2), (⟨w4.heap.size, 2, none⟩, .string dm2), (⟨w4.heap.size, 3, none⟩, .string pa2), (⟨w4.heap.size, 4, none⟩, .int .i64 ag2), (⟨w4.heap.size, 5, none⟩, .bool se2), (⟨w4.heap.size, 6, none⟩, .int .i64 mo2), (⟨w4.heap.size, 7, none⟩, .bool pt2), (⟨w4.heap.size, 8, none⟩, .int .i64 k2)]) (by simp only [Cells]; go_keep) hb13; simp only [Cells] at T13; obtain ⟨p130, p131, p132, p133, p134, p135, p136, p137, p138, p139, p1310, p1311, p1312, p1313, p1314, p1315, p1316, -⟩ := T13; have z13 : w4.heap.size + 1 ≤ w13.heap.size := Nat.le_trans z11 hb13.size; have B13 : Hid (Below w.heap.size w w13) := B11.out.trans (hb13.mono B11.out.size); clear p110 p111 p112 p113 p114 p115 p116 p117 p118 p119 p1110 p1111 p1112 p1113 p1114 p1115 p1116 z11 hb11)
      try (go_wp2_with fail)
      refine hK.out _ _ ?_ (fun hH5 => ?_)
      · (try dsimp only)
        go_keep
      clear hK K hH4
      try simp only [Act.put, List.setIfInBounds_toArray, List.set_cons_zero, List.set_cons_succ]
      refine wpAnyH_ready (rs := [44]) (by kernel_rfl) (by simp) ?_
      refine AllReadyH.cons (o := { dst := some 76, op := Op.call { callee := Callee.value (Operand.func 14), args := #[Operand.tmp 75], argTypes := #[9] }, type := 4, pos := "laws.go:169", after := #[{ on := 43, ground := Ground.data }, { on := 42, ground := Ground.chain }, { on := 40, ground := Ground.guard }], guard := some (40, false) }) rfl (fun K hK => ?_) AllReadyH.nil
      go_simp
      (go_at_call 14; refine (TW.out _ B13.out).mono ?_; rintro e w14 ⟨rfl, hb14⟩; have T14 := Cells.below (L := [(⟨w1.heap.size, 0, none⟩, .string na), (⟨w1.heap.size, 1, none⟩, .string va), (⟨w1.heap.size, 2, none⟩, .string dm), (⟨w1.heap.size, 3, none⟩, .string pa), (⟨w1.heap.size, 4, none⟩, .int .i64 ag), (⟨w1.heap.size, 5, none⟩, .bool se), (⟨w1.heap.size, 6, none⟩, .int .i64 mo), (⟨w1.heap.size, 7, none⟩, .bool pt), (⟨w4.heap.size, 0, none⟩, .string na2), (⟨w4.heap.size, 1, none⟩, .string va2), (⟨w4.heap.size, 2, none⟩, .string dm2), (⟨w4.heap.size, 3, none⟩, .string pa2), (⟨w4.heap.size, 4, none⟩, .int .i64 ag2), (⟨w4.heap.size, 5, none⟩, .bool se2), (⟨w4.heap.size, 6, none⟩, .int .i64 mo2), (⟨w4.heap.size, 7, none⟩, .bool pt2), (⟨w4.heap.size, 8, none⟩, .int .i64 k2)]) (by simp only [Cells]; go_keep) hb14; simp only [Cells] at T14; obtain ⟨p140, p141, p142, p143, p144, p145, p146, p147, p148, p149, p1410, p1411, p1412, p1413, p1414, p1415, p1416, -⟩ := T14; have z14 : w4.heap.size + 1 ≤ w14.heap.size := Nat.le_trans z13 hb14.size; have B14 : Hid (Below w.heap.size w w14) := B13.out.trans (hb14.mono B13.out.size); clear p130 p131 p132 p133 p134 p135 p136 p137 p138 p139 p1310 p1311 p1312 p1313 p1314 p1315 p1316 z13 hb13)
      try (go_wp2_with fail)
      refine hK.out _ _ ?_ (fun hH6 => ?_)
      · (try dsimp only)
        go_keep
      clear hK K hH5
      try simp only [Act.put, List.setIfInBounds_toArray, List.set_cons_zero, List.set_cons_succ]
      refine wpAnyH_take (i := 45) (oi := { dst := some 77, op := Op.binOp BinOp.neq 4 (Operand.tmp 74) (Operand.tmp 76) 4, type := 4, pos := "laws.go:169", after := #[{ on := 42, ground := Ground.data }, { on := 44, ground := Ground.data }, { on := 40, ground := Ground.guard }], guard := some (40, false) }) (v := ?ve45) rfl (by kernel_rfl) (by kernel_rfl) (by kernel_rfl) (fun _ _ _ h => h) (Or.inl ⟨by rfl, ?hye45⟩) (by assumption) ?reste45
      case hye45 =>
        intro w hSw
        (try dsimp only at hSw)
        go_simp
        try with_reducible rfl
      try simp only [Act.put, List.setIfInBounds_toArray, List.set_cons_zero, List.set_cons_succ]
      refine wpAnyH_take (i := 46) (oi := { dst := some 78, op := Op.pick (Operand.tmp 72) (Operand.const (Value.bool true)) (Operand.tmp 77), type := 4, pos := "laws.go:169", after := #[{ on := 40, ground := Ground.data }, { on := 45, ground := Ground.data }], guard := none }) (v := ?ve46) rfl (by kernel_rfl) (by kernel_rfl) (by kernel_rfl) (fun _ _ _ h => h) (Or.inl ⟨by rfl, ?hye46⟩) (by assumption) ?reste46
      case hye46 =>
        intro w hSw
        (try dsimp only at hSw)
        go_simp
        try with_reducible rfl
      try simp only [Act.put, List.setIfInBounds_toArray, List.set_cons_zero, List.set_cons_succ]
      refine wpAnyH_done (by kernel_rfl) ?_ _
      exact tail _ _ _ _ _ _ _ _ _ _ _ _ _ _ _ _ _ _ _ _ _ _ _ _ _ _ _ _ _ _ _ _ _ _ _ _ _ _ _ _ _ _ _ _ _ _ _ _ _ _ _ _ _ _ _ _ _ _ _ _ _ _ _ _ w14 B14
    | true =>
      refine wp_region_held_drew (S := (fun w' => w4.heap.size + 1 ≤ w'.heap.size ∧ w'.cell? ⟨w1.heap.size, 0, none⟩ = some (.string na) ∧ w'.cell? ⟨w1.heap.size, 1, none⟩ = some (.string va) ∧ w'.cell? ⟨w1.heap.size, 2, none⟩ = some (.string dm) ∧ w'.cell? ⟨w1.heap.size, 3, none⟩ = some (.string pa) ∧ w'.cell? ⟨w1.heap.size, 4, none⟩ = some (.int .i64 ag) ∧ w'.cell? ⟨w1.heap.size, 5, none⟩ = some (.bool se) ∧ w'.cell? ⟨w1.heap.size, 6, none⟩ = some (.int .i64 mo) ∧ w'.cell? ⟨w1.heap.size, 7, none⟩ = some (.bool pt) ∧ w'.cell? ⟨w4.heap.size, 0, none⟩ = some (.string na2) ∧ w'.cell? ⟨w4.heap.size, 1, none⟩ = some (.string va2) ∧ w'.cell? ⟨w4.heap.size, 2, none⟩ = some (.string dm2) ∧ w'.cell? ⟨w4.heap.size, 3, none⟩ = some (.string pa2) ∧ w'.cell? ⟨w4.heap.size, 4, none⟩ = some (.int .i64 ag2) ∧ w'.cell? ⟨w4.heap.size, 5, none⟩ = some (.bool se2) ∧ w'.cell? ⟨w4.heap.size, 6, none⟩ = some (.int .i64 mo2) ∧ w'.cell? ⟨w4.heap.size, 7, none⟩ = some (.bool pt2) ∧ w'.cell? ⟨w4.heap.size, 8, none⟩ = some (.int .i64 k2))) (by kernel_rfl) ?_ (fun hH0 => ?_)
      · (try dsimp only)
        go_keep
      refine wpAnyH_take (i := 0) (oi := { dst := some 32, op := Op.move (Operand.tmp 6), type := 9, pos := "laws.go:169", after := #[], guard := none }) (v := ?vf0) rfl (by kernel_rfl) (by kernel_rfl) (by kernel_rfl) (fun _ _ _ h => h) (Or.inl ⟨by rfl, ?hyf0⟩) (by assumption) ?restf0
      case hyf0 =>
        intro w hSw
        (try dsimp only at hSw)
        go_simp
        try with_reducible rfl
      try simp only [Act.put, List.setIfInBounds_toArray, List.set_cons_zero, List.set_cons_succ]
      refine wpAnyH_take (i := 1) (oi := { dst := some 33, op := Op.load 24 (Operand.tmp 5), type := 24, pos := "laws.go:169", after := #[], guard := none }) (v := ?vf1) rfl (by kernel_rfl) (by kernel_rfl) (by kernel_rfl) (fun _ _ _ h => h) (Or.inl ⟨by rfl, ?hyf1⟩) (by assumption) ?restf1
      case hyf1 =>
        intro w hSw
        (try dsimp only at hSw)
        go_simp
        try with_reducible rfl
      try simp only [Act.put, List.setIfInBounds_toArray, List.set_cons_zero, List.set_cons_succ]
      refine wpAnyH_ready (rs := [2]) (by kernel_rfl) (by simp) ?_
      refine AllReadyH.cons (o := { dst := some 34, op := Op.call { callee := Callee.value (Operand.func 9), args := #[Operand.tmp 33], argTypes := #[24] }, type := 9, pos := "laws.go:169", after := #[{ on := 1, ground := Ground.data }], guard := none }) rfl (fun K hK => ?_) AllReadyH.nil
      go_simp
      (go_at_call 9; refine (TT.out _ (B6.out.trans (Below.drew (Below.refl _ _)))).mono ?_; rintro e w7 ⟨rfl, hb7⟩; have T7 := Cells.below (L := [(⟨w1.heap.size, 0, none⟩, .string na), (⟨w1.heap.size, 1, none⟩, .string va), (⟨w1.heap.size, 2, none⟩, .string dm), (⟨w1.heap.size, 3, none⟩, .string pa), (⟨w1.heap.size, 4, none⟩, .int .i64 ag), (⟨w1.heap.size, 5, none⟩, .bool se), (⟨w1.heap.size, 6, none⟩, .int .i64 mo), (⟨w1.heap.size, 7, none⟩, .bool pt), (⟨w4.heap.size, 0, none⟩, .string na2), (⟨w4.heap.size, 1, none⟩, .string va2), (⟨w4.heap.size, 2, none⟩, .string dm2), (⟨w4.heap.size, 3, none⟩, .string pa2), (⟨w4.heap.size, 4, none⟩, .int .i64 ag2), (⟨w4.heap.size, 5, none⟩, .bool se2), (⟨w4.heap.size, 6, none⟩, .int .i64 mo2), (⟨w4.heap.size, 7, none⟩, .bool pt2), (⟨w4.heap.size, 8, none⟩, .int .i64 k2)]) (by simp only [Cells]; go_keep) hb7; simp only [Cells] at T7; obtain ⟨p70, p71, p72, p73, p74, p75, p76, p77, p78, p79, p710, p711, p712, p713, p714, p715, p716, -⟩ := T7; have z7 : w4.heap.size + 1 ≤ w7.heap.size := Nat.le_trans z6 hb7.size; have B7 : Hid (Below w.heap.size w w7) := (B6.out.trans (Below.drew (Below.refl _ _))).trans (hb7.mono (by have := B6.out.size; simpa using this)))
      try (go_wp2_with fail)
      refine hK.out _ _ ?_ (fun hH1 => ?_)
      · (try dsimp only)
        go_keep
      clear hK K hH0
      try simp only [Act.put, List.setIfInBounds_toArray, List.set_cons_zero, List.set_cons_succ]
      refine wpAnyH_take (i := 3) (oi := { dst := some 35, op := Op.binOp BinOp.neq 9 (Operand.tmp 32) (Operand.tmp 34) 9, type := 4, pos := "laws.go:169", after := #[{ on := 0, ground := Ground.data }, { on := 2, ground := Ground.data }], guard := none }) (v := ?vf3) rfl (by kernel_rfl) (by kernel_rfl) (by kernel_rfl) (fun _ _ _ h => h) (Or.inl ⟨by rfl, ?hyf3⟩) (by assumption) ?restf3
      case hyf3 =>
        intro w hSw
        (try dsimp only at hSw)
        go_simp
        try with_reducible rfl
      try simp only [Act.put, List.setIfInBounds_toArray, List.set_cons_zero, List.set_cons_succ]
      refine wpAnyH_take (i := 4) (oi := { dst := some 36, op := Op.move (Operand.tmp 35), type := 4, pos := "laws.go:169", after := #[{ on := 3, ground := Ground.data }, { on := 2, ground := Ground.chain }], guard := none }) (v := ?vf4) rfl (by kernel_rfl) (by kernel_rfl) (by kernel_rfl) (fun _ _ _ h => h) (Or.inl ⟨by rfl, ?hyf4⟩) (by assumption) ?restf4
      case hyf4 =>
        intro w hSw
        (try dsimp only at hSw)
        go_simp
        try with_reducible rfl
      try simp only [Act.put, List.setIfInBounds_toArray, List.set_cons_zero, List.set_cons_succ]
      refine wpAnyH_take (i := 5) (oi := { dst := some 37, op := Op.load 24 (Operand.tmp 5), type := 24, pos := "laws.go:169", after := #[{ on := 4, ground := Ground.guard }], guard := some (4, false) }) (v := ?vf5) rfl (by kernel_rfl) (by kernel_rfl) (by kernel_rfl) (fun _ _ _ h => h) (Or.inl ⟨by rfl, ?hyf5⟩) (by assumption) ?restf5
      case hyf5 =>
        intro w hSw
        (try dsimp only at hSw)
        go_simp
        try with_reducible rfl
      try simp only [Act.put, List.setIfInBounds_toArray, List.set_cons_zero, List.set_cons_succ]
      refine wpAnyH_take (i := 7) (oi := { dst := some 39, op := Op.load 24 (Operand.tmp 5), type := 24, pos := "laws.go:169", after := #[{ on := 4, ground := Ground.guard }], guard := some (4, false) }) (v := ?vf7) rfl (by kernel_rfl) (by kernel_rfl) (by kernel_rfl) (fun _ _ _ h => h) (Or.inl ⟨by rfl, ?hyf7⟩) (by assumption) ?restf7
      case hyf7 =>
        intro w hSw
        (try dsimp only at hSw)
        go_simp
        try with_reducible rfl
      try simp only [Act.put, List.setIfInBounds_toArray, List.set_cons_zero, List.set_cons_succ]
      refine wpAnyH_ready (rs := [6]) (by kernel_rfl) (by simp) ?_
      refine AllReadyH.cons (o := { dst := some 38, op := Op.call { callee := Callee.value (Operand.func 10), args := #[Operand.tmp 37], argTypes := #[24] }, type := 4, pos := "laws.go:169", after := #[{ on := 5, ground := Ground.data }, { on := 4, ground := Ground.chain }, { on := 4, ground := Ground.guard }], guard := some (4, false) }) rfl (fun K hK => ?_) AllReadyH.nil
      go_simp
      (go_at_call 10; refine (KR.out _ B7.out).mono ?_; rintro e w8 ⟨rfl, hb8⟩; have T8 := Cells.below (L := [(⟨w1.heap.size, 0, none⟩, .string na), (⟨w1.heap.size, 1, none⟩, .string va), (⟨w1.heap.size, 2, none⟩, .string dm), (⟨w1.heap.size, 3, none⟩, .string pa), (⟨w1.heap.size, 4, none⟩, .int .i64 ag), (⟨w1.heap.size, 5, none⟩, .bool se), (⟨w1.heap.size, 6, none⟩, .int .i64 mo), (⟨w1.heap.size, 7, none⟩, .bool pt), (⟨w4.heap.size, 0, none⟩, .string na2), (⟨w4.heap.size, 1, none⟩, .string va2), (⟨w4.heap.size, 2, none⟩, .string dm2), (⟨w4.heap.size, 3, none⟩, .string pa2), (⟨w4.heap.size, 4, none⟩, .int .i64 ag2), (⟨w4.heap.size, 5, none⟩, .bool se2), (⟨w4.heap.size, 6, none⟩, .int .i64 mo2), (⟨w4.heap.size, 7, none⟩, .bool pt2), (⟨w4.heap.size, 8, none⟩, .int .i64 k2)]) (by simp only [Cells]; go_keep) hb8; simp only [Cells] at T8; obtain ⟨p80, p81, p82, p83, p84, p85, p86, p87, p88, p89, p810, p811, p812, p813, p814, p815, p816, -⟩ := T8; have z8 : w4.heap.size + 1 ≤ w8.heap.size := Nat.le_trans z7 hb8.size; have B8 : Hid (Below w.heap.size w w8) := B7.out.trans (hb8.mono B7.out.size); clear p70 p71 p72 p73 p74 p75 p76 p77 p78 p79 p710 p711 p712 p713 p714 p715 p716 z7 hb7)
      try (go_wp2_with fail)
      refine hK.out _ _ ?_ (fun hH2 => ?_)
      · (try dsimp only)
        go_keep
      clear hK K hH1
      try simp only [Act.put, List.setIfInBounds_toArray, List.set_cons_zero, List.set_cons_succ]
      refine wpAnyH_ready (rs := [8]) (by kernel_rfl) (by simp) ?_
      refine AllReadyH.cons (o := { dst := some 40, op := Op.call { callee := Callee.value (Operand.func 11), args := #[Operand.tmp 39], argTypes := #[24] }, type := 4, pos := "laws.go:169", after := #[{ on := 7, ground := Ground.data }, { on := 6, ground := Ground.chain }, { on := 4, ground := Ground.guard }], guard := some (4, false) }) rfl (fun K hK => ?_) AllReadyH.nil
      go_simp
      (go_at_call 11; refine (TR.out _ B8.out).mono ?_; rintro e w9 ⟨rfl, hb9⟩; have T9 := Cells.below (L := [(⟨w1.heap.size, 0, none⟩, .string na), (⟨w1.heap.size, 1, none⟩, .string va), (⟨w1.heap.size, 2, none⟩, .string dm), (⟨w1.heap.size, 3, none⟩, .string pa), (⟨w1.heap.size, 4, none⟩, .int .i64 ag), (⟨w1.heap.size, 5, none⟩, .bool se), (⟨w1.heap.size, 6, none⟩, .int .i64 mo), (⟨w1.heap.size, 7, none⟩, .bool pt), (⟨w4.heap.size, 0, none⟩, .string na2), (⟨w4.heap.size, 1, none⟩, .string va2), (⟨w4.heap.size, 2, none⟩, .string dm2), (⟨w4.heap.size, 3, none⟩, .string pa2), (⟨w4.heap.size, 4, none⟩, .int .i64 ag2), (⟨w4.heap.size, 5, none⟩, .bool se2), (⟨w4.heap.size, 6, none⟩, .int .i64 mo2), (⟨w4.heap.size, 7, none⟩, .bool pt2), (⟨w4.heap.size, 8, none⟩, .int .i64 k2)]) (by simp only [Cells]; go_keep) hb9; simp only [Cells] at T9; obtain ⟨p90, p91, p92, p93, p94, p95, p96, p97, p98, p99, p910, p911, p912, p913, p914, p915, p916, -⟩ := T9; have z9 : w4.heap.size + 1 ≤ w9.heap.size := Nat.le_trans z8 hb9.size; have B9 : Hid (Below w.heap.size w w9) := B8.out.trans (hb9.mono B8.out.size); clear p80 p81 p82 p83 p84 p85 p86 p87 p88 p89 p810 p811 p812 p813 p814 p815 p816 z8 hb8)
      try (go_wp2_with fail)
      refine hK.out _ _ ?_ (fun hH3 => ?_)
      · (try dsimp only)
        go_keep
      clear hK K hH2
      try simp only [Act.put, List.setIfInBounds_toArray, List.set_cons_zero, List.set_cons_succ]
      refine wpAnyH_take (i := 9) (oi := { dst := some 41, op := Op.binOp BinOp.neq 4 (Operand.tmp 38) (Operand.tmp 40) 4, type := 4, pos := "laws.go:169", after := #[{ on := 6, ground := Ground.data }, { on := 8, ground := Ground.data }, { on := 4, ground := Ground.guard }], guard := some (4, false) }) (v := ?vf9) rfl (by kernel_rfl) (by kernel_rfl) (by kernel_rfl) (fun _ _ _ h => h) (Or.inl ⟨by rfl, ?hyf9⟩) (by assumption) ?restf9
      case hyf9 =>
        intro w hSw
        (try dsimp only at hSw)
        go_simp
        try with_reducible rfl
      try simp only [Act.put, List.setIfInBounds_toArray, List.set_cons_zero, List.set_cons_succ]
      refine wpAnyH_take (i := 10) (oi := { dst := some 42, op := Op.pick (Operand.tmp 36) (Operand.const (Value.bool true)) (Operand.tmp 41), type := 4, pos := "laws.go:169", after := #[{ on := 4, ground := Ground.data }, { on := 9, ground := Ground.data }], guard := none }) (v := ?vf10) rfl (by kernel_rfl) (by kernel_rfl) (by kernel_rfl) (fun _ _ _ h => h) (Or.inl ⟨by rfl, ?hyf10⟩) (by assumption) ?restf10
      case hyf10 =>
        intro w hSw
        (try dsimp only at hSw)
        go_simp
        try with_reducible rfl
      try simp only [Act.put, List.setIfInBounds_toArray, List.set_cons_zero, List.set_cons_succ]
      refine wpAnyH_take (i := 11) (oi := { dst := some 43, op := Op.move (Operand.tmp 42), type := 4, pos := "laws.go:169", after := #[{ on := 10, ground := Ground.data }, { on := 8, ground := Ground.chain }], guard := none }) (v := ?vf11) rfl (by kernel_rfl) (by kernel_rfl) (by kernel_rfl) (fun _ _ _ h => h) (Or.inl ⟨by rfl, ?hyf11⟩) (by assumption) ?restf11
      case hyf11 =>
        intro w hSw
        (try dsimp only at hSw)
        go_simp
        try with_reducible rfl
      try simp only [Act.put, List.setIfInBounds_toArray, List.set_cons_zero, List.set_cons_succ]
      refine wpAnyH_take (i := 12) (oi := { dst := some 44, op := Op.move (Operand.tmp 6), type := 9, pos := "laws.go:169", after := #[{ on := 11, ground := Ground.guard }], guard := some (11, false) }) (v := ?vf12) rfl (by kernel_rfl) (by kernel_rfl) (by kernel_rfl) (fun _ _ _ h => h) (Or.inl ⟨by rfl, ?hyf12⟩) (by assumption) ?restf12
      case hyf12 =>
        intro w hSw
        (try dsimp only at hSw)
        go_simp
        try with_reducible rfl
      try simp only [Act.put, List.setIfInBounds_toArray, List.set_cons_zero, List.set_cons_succ]
      refine wpAnyH_take (i := 13) (oi := { dst := some 45, op := Op.binOp BinOp.neq 9 (Operand.tmp 44) (Operand.const (Value.string { data := #[] })) 9, type := 4, pos := "laws.go:169", after := #[{ on := 12, ground := Ground.data }, { on := 11, ground := Ground.guard }], guard := some (11, false) }) (v := ?vf13) rfl (by kernel_rfl) (by kernel_rfl) (by kernel_rfl) (fun _ _ _ h => h) (Or.inl ⟨by rfl, ?hyf13⟩) (by assumption) ?restf13
      case hyf13 =>
        intro w hSw
        (try dsimp only at hSw)
        go_simp
        try with_reducible rfl
      try simp only [Act.put, List.setIfInBounds_toArray, List.set_cons_zero, List.set_cons_succ]
      refine wpAnyH_take (i := 14) (oi := { dst := some 46, op := Op.move (Operand.tmp 45), type := 4, pos := "laws.go:169", after := #[{ on := 13, ground := Ground.data }, { on := 11, ground := Ground.chain }, { on := 11, ground := Ground.guard }], guard := some (11, false) }) (v := ?vf14) rfl (by kernel_rfl) (by kernel_rfl) (by kernel_rfl) (fun _ _ _ h => h) (Or.inl ⟨by rfl, ?hyf14⟩) (by assumption) ?restf14
      case hyf14 =>
        intro w hSw
        (try dsimp only at hSw)
        go_simp
        try with_reducible rfl
      try simp only [Act.put, List.setIfInBounds_toArray, List.set_cons_zero, List.set_cons_succ]
      refine wpAnyH_take (i := 15) (oi := { dst := some 47, op := Op.move (Operand.tmp 6), type := 9, pos := "laws.go:169", after := #[{ on := 14, ground := Ground.guard }], guard := some (14, true) }) (v := undef) rfl (by kernel_rfl) (by kernel_rfl) (by kernel_rfl) (fun _ _ _ h => h) (Or.inr ⟨by rfl, rfl⟩) (by assumption) ?_
      try simp only [Act.put, List.setIfInBounds_toArray, List.set_cons_zero, List.set_cons_succ]
      refine wpAnyH_take (i := 16) (oi := { dst := some 48, op := Op.call { callee := Callee.value (Operand.func 7), args := #[Operand.tmp 47], argTypes := #[9] }, type := 29, pos := "laws.go:169", after := #[{ on := 15, ground := Ground.data }, { on := 14, ground := Ground.chain }, { on := 14, ground := Ground.guard }], guard := some (14, true) }) (v := undef) rfl (by kernel_rfl) (by kernel_rfl) (by kernel_rfl) (fun _ _ _ h => h) (Or.inr ⟨by rfl, rfl⟩) (by assumption) ?_
      try simp only [Act.put, List.setIfInBounds_toArray, List.set_cons_zero, List.set_cons_succ]
      refine wpAnyH_take (i := 17) (oi := { dst := some 49, op := Op.load 24 (Operand.tmp 5), type := 24, pos := "laws.go:169", after := #[{ on := 14, ground := Ground.guard }], guard := some (14, true) }) (v := undef) rfl (by kernel_rfl) (by kernel_rfl) (by kernel_rfl) (fun _ _ _ h => h) (Or.inr ⟨by rfl, rfl⟩) (by assumption) ?_
      try simp only [Act.put, List.setIfInBounds_toArray, List.set_cons_zero, List.set_cons_succ]
      refine wpAnyH_take (i := 18) (oi := { dst := some 50, op := Op.build 29 #[(0, Operand.tmp 49)], type := 29, pos := "laws.go:169", after := #[{ on := 17, ground := Ground.data }, { on := 14, ground := Ground.guard }], guard := some (14, true) }) (v := undef) rfl (by kernel_rfl) (by kernel_rfl) (by kernel_rfl) (fun _ _ _ h => h) (Or.inr ⟨by rfl, rfl⟩) (by assumption) ?_
      try simp only [Act.put, List.setIfInBounds_toArray, List.set_cons_zero, List.set_cons_succ]
      refine wpAnyH_take (i := 19) (oi := { dst := some 51, op := Op.binOp BinOp.neq 29 (Operand.tmp 48) (Operand.tmp 50) 29, type := 4, pos := "laws.go:169", after := #[{ on := 16, ground := Ground.data }, { on := 18, ground := Ground.data }, { on := 14, ground := Ground.guard }], guard := some (14, true) }) (v := undef) rfl (by kernel_rfl) (by kernel_rfl) (by kernel_rfl) (fun _ _ _ h => h) (Or.inr ⟨by rfl, rfl⟩) (by assumption) ?_
      try simp only [Act.put, List.setIfInBounds_toArray, List.set_cons_zero, List.set_cons_succ]
      refine wpAnyH_take (i := 20) (oi := { dst := some 52, op := Op.pick (Operand.tmp 46) (Operand.tmp 51) (Operand.const (Value.bool false)), type := 4, pos := "laws.go:169", after := #[{ on := 14, ground := Ground.data }, { on := 19, ground := Ground.data }, { on := 11, ground := Ground.guard }], guard := some (11, false) }) (v := ?vf20) rfl (by kernel_rfl) (by kernel_rfl) (by kernel_rfl) (fun _ _ _ h => h) (Or.inl ⟨by rfl, ?hyf20⟩) (by assumption) ?restf20
      case hyf20 =>
        intro w hSw
        (try dsimp only at hSw)
        go_simp
        try with_reducible rfl
      try simp only [Act.put, List.setIfInBounds_toArray, List.set_cons_zero, List.set_cons_succ]
      refine wpAnyH_take (i := 21) (oi := { dst := some 53, op := Op.pick (Operand.tmp 43) (Operand.const (Value.bool true)) (Operand.tmp 52), type := 4, pos := "laws.go:169", after := #[{ on := 11, ground := Ground.data }, { on := 20, ground := Ground.data }], guard := none }) (v := ?vf21) rfl (by kernel_rfl) (by kernel_rfl) (by kernel_rfl) (fun _ _ _ h => h) (Or.inl ⟨by rfl, ?hyf21⟩) (by assumption) ?restf21
      case hyf21 =>
        intro w hSw
        (try dsimp only at hSw)
        go_simp
        try with_reducible rfl
      try simp only [Act.put, List.setIfInBounds_toArray, List.set_cons_zero, List.set_cons_succ]
      refine wpAnyH_take (i := 22) (oi := { dst := some 54, op := Op.move (Operand.tmp 53), type := 4, pos := "laws.go:169", after := #[{ on := 21, ground := Ground.data }, { on := 16, ground := Ground.chain }], guard := none }) (v := ?vf22) rfl (by kernel_rfl) (by kernel_rfl) (by kernel_rfl) (fun _ _ _ h => h) (Or.inl ⟨by rfl, ?hyf22⟩) (by assumption) ?restf22
      case hyf22 =>
        intro w hSw
        (try dsimp only at hSw)
        go_simp
        try with_reducible rfl
      try simp only [Act.put, List.setIfInBounds_toArray, List.set_cons_zero, List.set_cons_succ]
      refine wpAnyH_take (i := 23) (oi := { dst := some 55, op := Op.load 29 (Operand.tmp 8), type := 29, pos := "laws.go:169", after := #[{ on := 22, ground := Ground.guard }], guard := some (22, false) }) (v := ?vf23) rfl (by kernel_rfl) (by kernel_rfl) (by kernel_rfl) (fun _ _ _ h => h) (Or.inl ⟨by rfl, ?hyf23⟩) (by assumption) ?restf23
      case hyf23 =>
        intro w hSw
        (try dsimp only at hSw)
        go_simp
        try with_reducible rfl
      try simp only [Act.put, List.setIfInBounds_toArray, List.set_cons_zero, List.set_cons_succ]
      refine wpAnyH_take (i := 24) (oi := { dst := some 56, op := Op.move (Operand.tmp 7), type := 9, pos := "laws.go:169", after := #[{ on := 22, ground := Ground.guard }], guard := some (22, false) }) (v := ?vf24) rfl (by kernel_rfl) (by kernel_rfl) (by kernel_rfl) (fun _ _ _ h => h) (Or.inl ⟨by rfl, ?hyf24⟩) (by assumption) ?restf24
      case hyf24 =>
        intro w hSw
        (try dsimp only at hSw)
        go_simp
        try with_reducible rfl
      try simp only [Act.put, List.setIfInBounds_toArray, List.set_cons_zero, List.set_cons_succ]
      refine wpAnyH_ready (rs := [25]) (by kernel_rfl) (by simp) ?_
      refine AllReadyH.cons (o := { dst := some 57, op := Op.call { callee := Callee.value (Operand.func 12), args := #[Operand.tmp 56], argTypes := #[9] }, type := 29, pos := "laws.go:169", after := #[{ on := 24, ground := Ground.data }, { on := 22, ground := Ground.chain }, { on := 22, ground := Ground.guard }], guard := some (22, false) }) rfl (fun K hK => ?_) AllReadyH.nil
      go_simp
      (go_at_call 12; refine (TU.out _ B9.out).mono ?_; rintro e w11 ⟨rfl, hb11⟩; have T11 := Cells.below (L := [(⟨w1.heap.size, 0, none⟩, .string na), (⟨w1.heap.size, 1, none⟩, .string va), (⟨w1.heap.size, 2, none⟩, .string dm), (⟨w1.heap.size, 3, none⟩, .string pa), (⟨w1.heap.size, 4, none⟩, .int .i64 ag), (⟨w1.heap.size, 5, none⟩, .bool se), (⟨w1.heap.size, 6, none⟩, .int .i64 mo), (⟨w1.heap.size, 7, none⟩, .bool pt), (⟨w4.heap.size, 0, none⟩, .string na2), (⟨w4.heap.size, 1, none⟩, .string va2), (⟨w4.heap.size, 2, none⟩, .string dm2), (⟨w4.heap.size, 3, none⟩, .string pa2), (⟨w4.heap.size, 4, none⟩, .int .i64 ag2), (⟨w4.heap.size, 5, none⟩, .bool se2), (⟨w4.heap.size, 6, none⟩, .int .i64 mo2), (⟨w4.heap.size, 7, none⟩, .bool pt2), (⟨w4.heap.size, 8, none⟩, .int .i64 k2)]) (by simp only [Cells]; go_keep) hb11; simp only [Cells] at T11; obtain ⟨p110, p111, p112, p113, p114, p115, p116, p117, p118, p119, p1110, p1111, p1112, p1113, p1114, p1115, p1116, -⟩ := T11; have z11 : w4.heap.size + 1 ≤ w11.heap.size := Nat.le_trans z9 hb11.size; have B11 : Hid (Below w.heap.size w w11) := B9.out.trans (hb11.mono B9.out.size); clear p90 p91 p92 p93 p94 p95 p96 p97 p98 p99 p910 p911 p912 p913 p914 p915 p916 z9 hb9)
      try (go_wp2_with fail)
      refine hK.out _ _ ?_ (fun hH4 => ?_)
      · (try dsimp only)
        go_keep
      clear hK K hH3
      try simp only [Act.put, List.setIfInBounds_toArray, List.set_cons_zero, List.set_cons_succ]
      refine wpAnyH_take (i := 26) (oi := { dst := some 58, op := Op.binOp BinOp.neq 29 (Operand.tmp 55) (Operand.tmp 57) 29, type := 4, pos := "laws.go:169", after := #[{ on := 23, ground := Ground.data }, { on := 25, ground := Ground.data }, { on := 22, ground := Ground.guard }], guard := some (22, false) }) (v := ?vf26) rfl (by kernel_rfl) (by kernel_rfl) (by kernel_rfl) (fun _ _ _ h => h) (Or.inl ⟨by rfl, ?hyf26⟩) (by assumption) ?restf26
      case hyf26 =>
        intro w hSw
        (try dsimp only at hSw)
        go_simp
        try with_reducible rfl
      try simp only [Act.put, List.setIfInBounds_toArray, List.set_cons_zero, List.set_cons_succ]
      refine wpAnyH_take (i := 27) (oi := { dst := some 59, op := Op.pick (Operand.tmp 54) (Operand.const (Value.bool true)) (Operand.tmp 58), type := 4, pos := "laws.go:169", after := #[{ on := 22, ground := Ground.data }, { on := 26, ground := Ground.data }], guard := none }) (v := ?vf27) rfl (by kernel_rfl) (by kernel_rfl) (by kernel_rfl) (fun _ _ _ h => h) (Or.inl ⟨by rfl, ?hyf27⟩) (by assumption) ?restf27
      case hyf27 =>
        intro w hSw
        (try dsimp only at hSw)
        go_simp
        try with_reducible rfl
      try simp only [Act.put, List.setIfInBounds_toArray, List.set_cons_zero, List.set_cons_succ]
      refine wpAnyH_take (i := 28) (oi := { dst := some 60, op := Op.move (Operand.tmp 59), type := 4, pos := "laws.go:169", after := #[{ on := 27, ground := Ground.data }, { on := 25, ground := Ground.chain }], guard := none }) (v := ?vf28) rfl (by kernel_rfl) (by kernel_rfl) (by kernel_rfl) (fun _ _ _ h => h) (Or.inl ⟨by rfl, ?hyf28⟩) (by assumption) ?restf28
      case hyf28 =>
        intro w hSw
        (try dsimp only at hSw)
        go_simp
        try with_reducible rfl
      try simp only [Act.put, List.setIfInBounds_toArray, List.set_cons_zero, List.set_cons_succ]
      refine wpAnyH_take (i := 29) (oi := { dst := some 61, op := Op.fieldAddr 29 (Operand.tmp 8) 1, type := 0, pos := "laws.go:169", after := #[{ on := 28, ground := Ground.guard }], guard := some (28, false) }) (v := ?vf29) rfl (by kernel_rfl) (by kernel_rfl) (by kernel_rfl) (fun _ _ _ h => h) (Or.inl ⟨by rfl, ?hyf29⟩) (by assumption) ?restf29
      case hyf29 =>
        intro w hSw
        (try dsimp only at hSw)
        go_simp
        try with_reducible rfl
      try simp only [Act.put, List.setIfInBounds_toArray, List.set_cons_zero, List.set_cons_succ]
      refine wpAnyH_take (i := 30) (oi := { dst := some 62, op := Op.load 2 (Operand.tmp 61), type := 2, pos := "laws.go:169", after := #[{ on := 29, ground := Ground.data }, { on := 28, ground := Ground.guard }], guard := some (28, false) }) (v := ?vf30) rfl (by kernel_rfl) (by kernel_rfl) (by kernel_rfl) (fun _ _ _ h => h) (Or.inl ⟨by rfl, ?hyf30⟩) (by assumption) ?restf30
      case hyf30 =>
        intro w hSw
        (try dsimp only at hSw)
        go_simp
        try with_reducible rfl
      try simp only [Act.put, List.setIfInBounds_toArray, List.set_cons_zero, List.set_cons_succ]
      refine wpAnyH_take (i := 31) (oi := { dst := some 63, op := Op.binOp BinOp.eql 2 (Operand.tmp 62) (Operand.const (Value.int IntKind.i64 0)) 2, type := 4, pos := "laws.go:169", after := #[{ on := 30, ground := Ground.data }, { on := 28, ground := Ground.guard }], guard := some (28, false) }) (v := ?vf31) rfl (by kernel_rfl) (by kernel_rfl) (by kernel_rfl) (fun _ _ _ h => h) (Or.inl ⟨by rfl, ?hyf31⟩) (by assumption) ?restf31
      case hyf31 =>
        intro w hSw
        (try dsimp only at hSw)
        go_simp
        try with_reducible rfl
      try simp only [Act.put, List.setIfInBounds_toArray, List.set_cons_zero, List.set_cons_succ]
      refine wpAnyH_take (i := 32) (oi := { dst := some 64, op := Op.move (Operand.tmp 63), type := 4, pos := "laws.go:169", after := #[{ on := 31, ground := Ground.data }, { on := 28, ground := Ground.chain }, { on := 28, ground := Ground.guard }], guard := some (28, false) }) (v := ?vf32) rfl (by kernel_rfl) (by kernel_rfl) (by kernel_rfl) (fun _ _ _ h => h) (Or.inl ⟨by rfl, ?hyf32⟩) (by assumption) ?restf32
      case hyf32 =>
        intro w hSw
        (try dsimp only at hSw)
        go_simp
        try with_reducible rfl
      try simp only [Act.put, List.setIfInBounds_toArray, List.set_cons_zero, List.set_cons_succ]
      refine wpAnyH_take (i := 33) (oi := { dst := some 65, op := Op.fieldAddr 29 (Operand.tmp 8) 0, type := 0, pos := "laws.go:169", after := #[{ on := 32, ground := Ground.guard }], guard := some (32, true) }) (v := ?vf33) rfl (by kernel_rfl) (by kernel_rfl) (by kernel_rfl) (fun _ _ _ h => h) (Or.inl ⟨by rfl, ?hyf33⟩) (by assumption) ?restf33
      case hyf33 =>
        intro w hSw
        (try dsimp only at hSw)
        go_simp
        try with_reducible rfl
      try simp only [Act.put, List.setIfInBounds_toArray, List.set_cons_zero, List.set_cons_succ]
      refine wpAnyH_take (i := 34) (oi := { dst := some 66, op := Op.load 24 (Operand.tmp 65), type := 24, pos := "laws.go:169", after := #[{ on := 33, ground := Ground.data }, { on := 32, ground := Ground.guard }], guard := some (32, true) }) (v := ?vf34) rfl (by kernel_rfl) (by kernel_rfl) (by kernel_rfl) (fun _ _ _ h => h) (Or.inl ⟨by rfl, ?hyf34⟩) (by assumption) ?restf34
      case hyf34 =>
        intro w hSw
        (try dsimp only at hSw)
        go_simp
        try with_reducible rfl
      try simp only [Act.put, List.setIfInBounds_toArray, List.set_cons_zero, List.set_cons_succ]
      refine wpAnyH_take (i := 36) (oi := { dst := some 68, op := Op.move (Operand.tmp 7), type := 9, pos := "laws.go:169", after := #[{ on := 32, ground := Ground.guard }], guard := some (32, true) }) (v := ?vf36) rfl (by kernel_rfl) (by kernel_rfl) (by kernel_rfl) (fun _ _ _ h => h) (Or.inl ⟨by rfl, ?hyf36⟩) (by assumption) ?restf36
      case hyf36 =>
        intro w hSw
        (try dsimp only at hSw)
        go_simp
        try with_reducible rfl
      try simp only [Act.put, List.setIfInBounds_toArray, List.set_cons_zero, List.set_cons_succ]
      refine wpAnyH_ready (rs := [35]) (by kernel_rfl) (by simp) ?_
      refine AllReadyH.cons (o := { dst := some 67, op := Op.call { callee := Callee.value (Operand.func 5), args := #[Operand.tmp 66], argTypes := #[24] }, type := 9, pos := "laws.go:169", after := #[{ on := 34, ground := Ground.data }, { on := 32, ground := Ground.chain }, { on := 32, ground := Ground.guard }], guard := some (32, true) }) rfl (fun K hK => ?_) AllReadyH.nil
      go_simp
      (go_at_call 5; refine (KX.out (eq_of_beq hk) _ B11.out).mono ?_; rintro e w12 ⟨rfl, hb12⟩; have T12 := Cells.below (L := [(⟨w1.heap.size, 0, none⟩, .string na), (⟨w1.heap.size, 1, none⟩, .string va), (⟨w1.heap.size, 2, none⟩, .string dm), (⟨w1.heap.size, 3, none⟩, .string pa), (⟨w1.heap.size, 4, none⟩, .int .i64 ag), (⟨w1.heap.size, 5, none⟩, .bool se), (⟨w1.heap.size, 6, none⟩, .int .i64 mo), (⟨w1.heap.size, 7, none⟩, .bool pt), (⟨w4.heap.size, 0, none⟩, .string na2), (⟨w4.heap.size, 1, none⟩, .string va2), (⟨w4.heap.size, 2, none⟩, .string dm2), (⟨w4.heap.size, 3, none⟩, .string pa2), (⟨w4.heap.size, 4, none⟩, .int .i64 ag2), (⟨w4.heap.size, 5, none⟩, .bool se2), (⟨w4.heap.size, 6, none⟩, .int .i64 mo2), (⟨w4.heap.size, 7, none⟩, .bool pt2), (⟨w4.heap.size, 8, none⟩, .int .i64 k2)]) (by simp only [Cells]; go_keep) hb12; simp only [Cells] at T12; obtain ⟨p120, p121, p122, p123, p124, p125, p126, p127, p128, p129, p1210, p1211, p1212, p1213, p1214, p1215, p1216, -⟩ := T12; have z12 : w4.heap.size + 1 ≤ w12.heap.size := Nat.le_trans z11 hb12.size; have B12 : Hid (Below w.heap.size w w12) := B11.out.trans (hb12.mono B11.out.size); clear p110 p111 p112 p113 p114 p115 p116 p117 p118 p119 p1110 p1111 p1112 p1113 p1114 p1115 p1116 z11 hb11)
      try (go_wp2_with fail)
      refine hK.out _ _ ?_ (fun hH5 => ?_)
      · (try dsimp only)
        go_keep
      clear hK K hH4
      try simp only [Act.put, List.setIfInBounds_toArray, List.set_cons_zero, List.set_cons_succ]
      refine wpAnyH_take (i := 37) (oi := { dst := some 69, op := Op.binOp BinOp.neq 9 (Operand.tmp 67) (Operand.tmp 68) 9, type := 4, pos := "laws.go:169", after := #[{ on := 35, ground := Ground.data }, { on := 36, ground := Ground.data }, { on := 32, ground := Ground.guard }], guard := some (32, true) }) (v := ?vf37) rfl (by kernel_rfl) (by kernel_rfl) (by kernel_rfl) (fun _ _ _ h => h) (Or.inl ⟨by rfl, ?hyf37⟩) (by assumption) ?restf37
      case hyf37 =>
        intro w hSw
        (try dsimp only at hSw)
        go_simp
        try with_reducible rfl
      try simp only [Act.put, List.setIfInBounds_toArray, List.set_cons_zero, List.set_cons_succ]
      refine wpAnyH_take (i := 38) (oi := { dst := some 70, op := Op.pick (Operand.tmp 64) (Operand.tmp 69) (Operand.const (Value.bool false)), type := 4, pos := "laws.go:169", after := #[{ on := 32, ground := Ground.data }, { on := 37, ground := Ground.data }, { on := 28, ground := Ground.guard }], guard := some (28, false) }) (v := ?vf38) rfl (by kernel_rfl) (by kernel_rfl) (by kernel_rfl) (fun _ _ _ h => h) (Or.inl ⟨by rfl, ?hyf38⟩) (by assumption) ?restf38
      case hyf38 =>
        intro w hSw
        (try dsimp only at hSw)
        go_simp
        try with_reducible rfl
      try simp only [Act.put, List.setIfInBounds_toArray, List.set_cons_zero, List.set_cons_succ]
      refine wpAnyH_take (i := 39) (oi := { dst := some 71, op := Op.pick (Operand.tmp 60) (Operand.const (Value.bool true)) (Operand.tmp 70), type := 4, pos := "laws.go:169", after := #[{ on := 28, ground := Ground.data }, { on := 38, ground := Ground.data }], guard := none }) (v := ?vf39) rfl (by kernel_rfl) (by kernel_rfl) (by kernel_rfl) (fun _ _ _ h => h) (Or.inl ⟨by rfl, ?hyf39⟩) (by assumption) ?restf39
      case hyf39 =>
        intro w hSw
        (try dsimp only at hSw)
        go_simp
        try with_reducible rfl
      try simp only [Act.put, List.setIfInBounds_toArray, List.set_cons_zero, List.set_cons_succ]
      refine wpAnyH_take (i := 40) (oi := { dst := some 72, op := Op.move (Operand.tmp 71), type := 4, pos := "laws.go:169", after := #[{ on := 39, ground := Ground.data }, { on := 35, ground := Ground.chain }], guard := none }) (v := ?vf40) rfl (by kernel_rfl) (by kernel_rfl) (by kernel_rfl) (fun _ _ _ h => h) (Or.inl ⟨by rfl, ?hyf40⟩) (by assumption) ?restf40
      case hyf40 =>
        intro w hSw
        (try dsimp only at hSw)
        go_simp
        try with_reducible rfl
      try simp only [Act.put, List.setIfInBounds_toArray, List.set_cons_zero, List.set_cons_succ]
      refine wpAnyH_take (i := 41) (oi := { dst := some 73, op := Op.move (Operand.tmp 9), type := 9, pos := "laws.go:169", after := #[{ on := 40, ground := Ground.guard }], guard := some (40, false) }) (v := ?vf41) rfl (by kernel_rfl) (by kernel_rfl) (by kernel_rfl) (fun _ _ _ h => h) (Or.inl ⟨by rfl, ?hyf41⟩) (by assumption) ?restf41
      case hyf41 =>
        intro w hSw
        (try dsimp only at hSw)
        go_simp
        try with_reducible rfl
      try simp only [Act.put, List.setIfInBounds_toArray, List.set_cons_zero, List.set_cons_succ]
      refine wpAnyH_take (i := 43) (oi := { dst := some 75, op := Op.move (Operand.tmp 9), type := 9, pos := "laws.go:169", after := #[{ on := 40, ground := Ground.guard }], guard := some (40, false) }) (v := ?vf43) rfl (by kernel_rfl) (by kernel_rfl) (by kernel_rfl) (fun _ _ _ h => h) (Or.inl ⟨by rfl, ?hyf43⟩) (by assumption) ?restf43
      case hyf43 =>
        intro w hSw
        (try dsimp only at hSw)
        go_simp
        try with_reducible rfl
      try simp only [Act.put, List.setIfInBounds_toArray, List.set_cons_zero, List.set_cons_succ]
      refine wpAnyH_ready (rs := [42]) (by kernel_rfl) (by simp) ?_
      refine AllReadyH.cons (o := { dst := some 74, op := Op.call { callee := Callee.value (Operand.func 13), args := #[Operand.tmp 73], argTypes := #[9] }, type := 4, pos := "laws.go:169", after := #[{ on := 41, ground := Ground.data }, { on := 40, ground := Ground.chain }, { on := 40, ground := Ground.guard }], guard := some (40, false) }) rfl (fun K hK => ?_) AllReadyH.nil
      go_simp
      (go_at_call 13; refine (KW.out _ B12.out).mono ?_; rintro e w13 ⟨rfl, hb13⟩; have T13 := Cells.below (L := [(⟨w1.heap.size, 0, none⟩, .string na), (⟨w1.heap.size, 1, none⟩, .string va), (⟨w1.heap.size, 2, none⟩, .string dm), (⟨w1.heap.size, 3, none⟩, .string pa), (⟨w1.heap.size, 4, none⟩, .int .i64 ag), (⟨w1.heap.size, 5, none⟩, .bool se), (⟨w1.heap.size, 6, none⟩, .int .i64 mo), (⟨w1.heap.size, 7, none⟩, .bool pt), (⟨w4.heap.size, 0, none⟩, .string na2), (⟨w4.heap.size, 1, none⟩, .string va2), (⟨w4.heap.size, 2, none⟩, .string dm2), (⟨w4.heap.size, 3, none⟩, .string pa2), (⟨w4.heap.size, 4, none⟩, .int .i64 ag2), (⟨w4.heap.size, 5, none⟩, .bool se2), (⟨w4.heap.size, 6, none⟩, .int .i64 mo2), (⟨w4.heap.size, 7, none⟩, .bool pt2), (⟨w4.heap.size, 8, none⟩, .int .i64 k2)]) (by simp only [Cells]; go_keep) hb13; simp only [Cells] at T13; obtain ⟨p130, p131, p132, p133, p134, p135, p136, p137, p138, p139, p1310, p1311, p1312, p1313, p1314, p1315, p1316, -⟩ := T13; have z13 : w4.heap.size + 1 ≤ w13.heap.size := Nat.le_trans z12 hb13.size; have B13 : Hid (Below w.heap.size w w13) := B12.out.trans (hb13.mono B12.out.size); clear p120 p121 p122 p123 p124 p125 p126 p127 p128 p129 p1210 p1211 p1212 p1213 p1214 p1215 p1216 z12 hb12)
      try (go_wp2_with fail)
      refine hK.out _ _ ?_ (fun hH6 => ?_)
      · (try dsimp only)
        go_keep
      clear hK K hH5
      try simp only [Act.put, List.setIfInBounds_toArray, List.set_cons_zero, List.set_cons_succ]
      refine wpAnyH_ready (rs := [44]) (by kernel_rfl) (by simp) ?_
      refine AllReadyH.cons (o := { dst := some 76, op := Op.call { callee := Callee.value (Operand.func 14), args := #[Operand.tmp 75], argTypes := #[9] }, type := 4, pos := "laws.go:169", after := #[{ on := 43, ground := Ground.data }, { on := 42, ground := Ground.chain }, { on := 40, ground := Ground.guard }], guard := some (40, false) }) rfl (fun K hK => ?_) AllReadyH.nil
      go_simp
      (go_at_call 14; refine (TW.out _ B13.out).mono ?_; rintro e w14 ⟨rfl, hb14⟩; have T14 := Cells.below (L := [(⟨w1.heap.size, 0, none⟩, .string na), (⟨w1.heap.size, 1, none⟩, .string va), (⟨w1.heap.size, 2, none⟩, .string dm), (⟨w1.heap.size, 3, none⟩, .string pa), (⟨w1.heap.size, 4, none⟩, .int .i64 ag), (⟨w1.heap.size, 5, none⟩, .bool se), (⟨w1.heap.size, 6, none⟩, .int .i64 mo), (⟨w1.heap.size, 7, none⟩, .bool pt), (⟨w4.heap.size, 0, none⟩, .string na2), (⟨w4.heap.size, 1, none⟩, .string va2), (⟨w4.heap.size, 2, none⟩, .string dm2), (⟨w4.heap.size, 3, none⟩, .string pa2), (⟨w4.heap.size, 4, none⟩, .int .i64 ag2), (⟨w4.heap.size, 5, none⟩, .bool se2), (⟨w4.heap.size, 6, none⟩, .int .i64 mo2), (⟨w4.heap.size, 7, none⟩, .bool pt2), (⟨w4.heap.size, 8, none⟩, .int .i64 k2)]) (by simp only [Cells]; go_keep) hb14; simp only [Cells] at T14; obtain ⟨p140, p141, p142, p143, p144, p145, p146, p147, p148, p149, p1410, p1411, p1412, p1413, p1414, p1415, p1416, -⟩ := T14; have z14 : w4.heap.size + 1 ≤ w14.heap.size := Nat.le_trans z13 hb14.size; have B14 : Hid (Below w.heap.size w w14) := B13.out.trans (hb14.mono B13.out.size); clear p130 p131 p132 p133 p134 p135 p136 p137 p138 p139 p1310 p1311 p1312 p1313 p1314 p1315 p1316 z13 hb13)
      try (go_wp2_with fail)
      refine hK.out _ _ ?_ (fun hH7 => ?_)
      · (try dsimp only)
        go_keep
      clear hK K hH6
      try simp only [Act.put, List.setIfInBounds_toArray, List.set_cons_zero, List.set_cons_succ]
      refine wpAnyH_take (i := 45) (oi := { dst := some 77, op := Op.binOp BinOp.neq 4 (Operand.tmp 74) (Operand.tmp 76) 4, type := 4, pos := "laws.go:169", after := #[{ on := 42, ground := Ground.data }, { on := 44, ground := Ground.data }, { on := 40, ground := Ground.guard }], guard := some (40, false) }) (v := ?vf45) rfl (by kernel_rfl) (by kernel_rfl) (by kernel_rfl) (fun _ _ _ h => h) (Or.inl ⟨by rfl, ?hyf45⟩) (by assumption) ?restf45
      case hyf45 =>
        intro w hSw
        (try dsimp only at hSw)
        go_simp
        try with_reducible rfl
      try simp only [Act.put, List.setIfInBounds_toArray, List.set_cons_zero, List.set_cons_succ]
      refine wpAnyH_take (i := 46) (oi := { dst := some 78, op := Op.pick (Operand.tmp 72) (Operand.const (Value.bool true)) (Operand.tmp 77), type := 4, pos := "laws.go:169", after := #[{ on := 40, ground := Ground.data }, { on := 45, ground := Ground.data }], guard := none }) (v := ?vf46) rfl (by kernel_rfl) (by kernel_rfl) (by kernel_rfl) (fun _ _ _ h => h) (Or.inl ⟨by rfl, ?hyf46⟩) (by assumption) ?restf46
      case hyf46 =>
        intro w hSw
        (try dsimp only at hSw)
        go_simp
        try with_reducible rfl
      try simp only [Act.put, List.setIfInBounds_toArray, List.set_cons_zero, List.set_cons_succ]
      refine wpAnyH_done (by kernel_rfl) ?_ _
      exact tail _ _ _ _ _ _ _ _ _ _ _ _ _ _ _ _ _ _ _ _ _ _ _ _ _ _ _ _ _ _ _ _ _ _ _ _ _ _ _ _ _ _ _ _ _ _ _ _ _ _ _ _ _ _ _ _ _ _ _ _ _ _ _ _ w14 B14
  | false =>
    cases hk : (k2 == 0) with
    | false =>
      refine wp_region_held_drew (S := (fun w' => w4.heap.size + 1 ≤ w'.heap.size ∧ w'.cell? ⟨w1.heap.size, 0, none⟩ = some (.string na) ∧ w'.cell? ⟨w1.heap.size, 1, none⟩ = some (.string va) ∧ w'.cell? ⟨w1.heap.size, 2, none⟩ = some (.string dm) ∧ w'.cell? ⟨w1.heap.size, 3, none⟩ = some (.string pa) ∧ w'.cell? ⟨w1.heap.size, 4, none⟩ = some (.int .i64 ag) ∧ w'.cell? ⟨w1.heap.size, 5, none⟩ = some (.bool se) ∧ w'.cell? ⟨w1.heap.size, 6, none⟩ = some (.int .i64 mo) ∧ w'.cell? ⟨w1.heap.size, 7, none⟩ = some (.bool pt) ∧ w'.cell? ⟨w4.heap.size, 0, none⟩ = some (.string na2) ∧ w'.cell? ⟨w4.heap.size, 1, none⟩ = some (.string va2) ∧ w'.cell? ⟨w4.heap.size, 2, none⟩ = some (.string dm2) ∧ w'.cell? ⟨w4.heap.size, 3, none⟩ = some (.string pa2) ∧ w'.cell? ⟨w4.heap.size, 4, none⟩ = some (.int .i64 ag2) ∧ w'.cell? ⟨w4.heap.size, 5, none⟩ = some (.bool se2) ∧ w'.cell? ⟨w4.heap.size, 6, none⟩ = some (.int .i64 mo2) ∧ w'.cell? ⟨w4.heap.size, 7, none⟩ = some (.bool pt2) ∧ w'.cell? ⟨w4.heap.size, 8, none⟩ = some (.int .i64 k2))) (by kernel_rfl) ?_ (fun hH0 => ?_)
      · (try dsimp only)
        go_keep
      refine wpAnyH_take (i := 0) (oi := { dst := some 32, op := Op.move (Operand.tmp 6), type := 9, pos := "laws.go:169", after := #[], guard := none }) (v := ?vg0) rfl (by kernel_rfl) (by kernel_rfl) (by kernel_rfl) (fun _ _ _ h => h) (Or.inl ⟨by rfl, ?hyg0⟩) (by assumption) ?restg0
      case hyg0 =>
        intro w hSw
        (try dsimp only at hSw)
        go_simp
        try with_reducible rfl
      try simp only [Act.put, List.setIfInBounds_toArray, List.set_cons_zero, List.set_cons_succ]
      refine wpAnyH_take (i := 1) (oi := { dst := some 33, op := Op.load 24 (Operand.tmp 5), type := 24, pos := "laws.go:169", after := #[], guard := none }) (v := ?vg1) rfl (by kernel_rfl) (by kernel_rfl) (by kernel_rfl) (fun _ _ _ h => h) (Or.inl ⟨by rfl, ?hyg1⟩) (by assumption) ?restg1
      case hyg1 =>
        intro w hSw
        (try dsimp only at hSw)
        go_simp
        try with_reducible rfl
      try simp only [Act.put, List.setIfInBounds_toArray, List.set_cons_zero, List.set_cons_succ]
      refine wpAnyH_ready (rs := [2]) (by kernel_rfl) (by simp) ?_
      refine AllReadyH.cons (o := { dst := some 34, op := Op.call { callee := Callee.value (Operand.func 9), args := #[Operand.tmp 33], argTypes := #[24] }, type := 9, pos := "laws.go:169", after := #[{ on := 1, ground := Ground.data }], guard := none }) rfl (fun K hK => ?_) AllReadyH.nil
      go_simp
      (go_at_call 9; refine (TT.out _ (B6.out.trans (Below.drew (Below.refl _ _)))).mono ?_; rintro e w7 ⟨rfl, hb7⟩; have T7 := Cells.below (L := [(⟨w1.heap.size, 0, none⟩, .string na), (⟨w1.heap.size, 1, none⟩, .string va), (⟨w1.heap.size, 2, none⟩, .string dm), (⟨w1.heap.size, 3, none⟩, .string pa), (⟨w1.heap.size, 4, none⟩, .int .i64 ag), (⟨w1.heap.size, 5, none⟩, .bool se), (⟨w1.heap.size, 6, none⟩, .int .i64 mo), (⟨w1.heap.size, 7, none⟩, .bool pt), (⟨w4.heap.size, 0, none⟩, .string na2), (⟨w4.heap.size, 1, none⟩, .string va2), (⟨w4.heap.size, 2, none⟩, .string dm2), (⟨w4.heap.size, 3, none⟩, .string pa2), (⟨w4.heap.size, 4, none⟩, .int .i64 ag2), (⟨w4.heap.size, 5, none⟩, .bool se2), (⟨w4.heap.size, 6, none⟩, .int .i64 mo2), (⟨w4.heap.size, 7, none⟩, .bool pt2), (⟨w4.heap.size, 8, none⟩, .int .i64 k2)]) (by simp only [Cells]; go_keep) hb7; simp only [Cells] at T7; obtain ⟨p70, p71, p72, p73, p74, p75, p76, p77, p78, p79, p710, p711, p712, p713, p714, p715, p716, -⟩ := T7; have z7 : w4.heap.size + 1 ≤ w7.heap.size := Nat.le_trans z6 hb7.size; have B7 : Hid (Below w.heap.size w w7) := (B6.out.trans (Below.drew (Below.refl _ _))).trans (hb7.mono (by have := B6.out.size; simpa using this)))
      try (go_wp2_with fail)
      refine hK.out _ _ ?_ (fun hH1 => ?_)
      · (try dsimp only)
        go_keep
      clear hK K hH0
      try simp only [Act.put, List.setIfInBounds_toArray, List.set_cons_zero, List.set_cons_succ]
      refine wpAnyH_take (i := 3) (oi := { dst := some 35, op := Op.binOp BinOp.neq 9 (Operand.tmp 32) (Operand.tmp 34) 9, type := 4, pos := "laws.go:169", after := #[{ on := 0, ground := Ground.data }, { on := 2, ground := Ground.data }], guard := none }) (v := ?vg3) rfl (by kernel_rfl) (by kernel_rfl) (by kernel_rfl) (fun _ _ _ h => h) (Or.inl ⟨by rfl, ?hyg3⟩) (by assumption) ?restg3
      case hyg3 =>
        intro w hSw
        (try dsimp only at hSw)
        go_simp
        try with_reducible rfl
      try simp only [Act.put, List.setIfInBounds_toArray, List.set_cons_zero, List.set_cons_succ]
      refine wpAnyH_take (i := 4) (oi := { dst := some 36, op := Op.move (Operand.tmp 35), type := 4, pos := "laws.go:169", after := #[{ on := 3, ground := Ground.data }, { on := 2, ground := Ground.chain }], guard := none }) (v := ?vg4) rfl (by kernel_rfl) (by kernel_rfl) (by kernel_rfl) (fun _ _ _ h => h) (Or.inl ⟨by rfl, ?hyg4⟩) (by assumption) ?restg4
      case hyg4 =>
        intro w hSw
        (try dsimp only at hSw)
        go_simp
        try with_reducible rfl
      try simp only [Act.put, List.setIfInBounds_toArray, List.set_cons_zero, List.set_cons_succ]
      refine wpAnyH_take (i := 5) (oi := { dst := some 37, op := Op.load 24 (Operand.tmp 5), type := 24, pos := "laws.go:169", after := #[{ on := 4, ground := Ground.guard }], guard := some (4, false) }) (v := ?vg5) rfl (by kernel_rfl) (by kernel_rfl) (by kernel_rfl) (fun _ _ _ h => h) (Or.inl ⟨by rfl, ?hyg5⟩) (by assumption) ?restg5
      case hyg5 =>
        intro w hSw
        (try dsimp only at hSw)
        go_simp
        try with_reducible rfl
      try simp only [Act.put, List.setIfInBounds_toArray, List.set_cons_zero, List.set_cons_succ]
      refine wpAnyH_take (i := 7) (oi := { dst := some 39, op := Op.load 24 (Operand.tmp 5), type := 24, pos := "laws.go:169", after := #[{ on := 4, ground := Ground.guard }], guard := some (4, false) }) (v := ?vg7) rfl (by kernel_rfl) (by kernel_rfl) (by kernel_rfl) (fun _ _ _ h => h) (Or.inl ⟨by rfl, ?hyg7⟩) (by assumption) ?restg7
      case hyg7 =>
        intro w hSw
        (try dsimp only at hSw)
        go_simp
        try with_reducible rfl
      try simp only [Act.put, List.setIfInBounds_toArray, List.set_cons_zero, List.set_cons_succ]
      refine wpAnyH_ready (rs := [6]) (by kernel_rfl) (by simp) ?_
      refine AllReadyH.cons (o := { dst := some 38, op := Op.call { callee := Callee.value (Operand.func 10), args := #[Operand.tmp 37], argTypes := #[24] }, type := 4, pos := "laws.go:169", after := #[{ on := 5, ground := Ground.data }, { on := 4, ground := Ground.chain }, { on := 4, ground := Ground.guard }], guard := some (4, false) }) rfl (fun K hK => ?_) AllReadyH.nil
      go_simp
      (go_at_call 10; refine (KR.out _ B7.out).mono ?_; rintro e w8 ⟨rfl, hb8⟩; have T8 := Cells.below (L := [(⟨w1.heap.size, 0, none⟩, .string na), (⟨w1.heap.size, 1, none⟩, .string va), (⟨w1.heap.size, 2, none⟩, .string dm), (⟨w1.heap.size, 3, none⟩, .string pa), (⟨w1.heap.size, 4, none⟩, .int .i64 ag), (⟨w1.heap.size, 5, none⟩, .bool se), (⟨w1.heap.size, 6, none⟩, .int .i64 mo), (⟨w1.heap.size, 7, none⟩, .bool pt), (⟨w4.heap.size, 0, none⟩, .string na2), (⟨w4.heap.size, 1, none⟩, .string va2), (⟨w4.heap.size, 2, none⟩, .string dm2), (⟨w4.heap.size, 3, none⟩, .string pa2), (⟨w4.heap.size, 4, none⟩, .int .i64 ag2), (⟨w4.heap.size, 5, none⟩, .bool se2), (⟨w4.heap.size, 6, none⟩, .int .i64 mo2), (⟨w4.heap.size, 7, none⟩, .bool pt2), (⟨w4.heap.size, 8, none⟩, .int .i64 k2)]) (by simp only [Cells]; go_keep) hb8; simp only [Cells] at T8; obtain ⟨p80, p81, p82, p83, p84, p85, p86, p87, p88, p89, p810, p811, p812, p813, p814, p815, p816, -⟩ := T8; have z8 : w4.heap.size + 1 ≤ w8.heap.size := Nat.le_trans z7 hb8.size; have B8 : Hid (Below w.heap.size w w8) := B7.out.trans (hb8.mono B7.out.size); clear p70 p71 p72 p73 p74 p75 p76 p77 p78 p79 p710 p711 p712 p713 p714 p715 p716 z7 hb7)
      try (go_wp2_with fail)
      refine hK.out _ _ ?_ (fun hH2 => ?_)
      · (try dsimp only)
        go_keep
      clear hK K hH1
      try simp only [Act.put, List.setIfInBounds_toArray, List.set_cons_zero, List.set_cons_succ]
      refine wpAnyH_ready (rs := [8]) (by kernel_rfl) (by simp) ?_
      refine AllReadyH.cons (o := { dst := some 40, op := Op.call { callee := Callee.value (Operand.func 11), args := #[Operand.tmp 39], argTypes := #[24] }, type := 4, pos := "laws.go:169", after := #[{ on := 7, ground := Ground.data }, { on := 6, ground := Ground.chain }, { on := 4, ground := Ground.guard }], guard := some (4, false) }) rfl (fun K hK => ?_) AllReadyH.nil
      go_simp
      (go_at_call 11; refine (TR.out _ B8.out).mono ?_; rintro e w9 ⟨rfl, hb9⟩; have T9 := Cells.below (L := [(⟨w1.heap.size, 0, none⟩, .string na), (⟨w1.heap.size, 1, none⟩, .string va), (⟨w1.heap.size, 2, none⟩, .string dm), (⟨w1.heap.size, 3, none⟩, .string pa), (⟨w1.heap.size, 4, none⟩, .int .i64 ag), (⟨w1.heap.size, 5, none⟩, .bool se), (⟨w1.heap.size, 6, none⟩, .int .i64 mo), (⟨w1.heap.size, 7, none⟩, .bool pt), (⟨w4.heap.size, 0, none⟩, .string na2), (⟨w4.heap.size, 1, none⟩, .string va2), (⟨w4.heap.size, 2, none⟩, .string dm2), (⟨w4.heap.size, 3, none⟩, .string pa2), (⟨w4.heap.size, 4, none⟩, .int .i64 ag2), (⟨w4.heap.size, 5, none⟩, .bool se2), (⟨w4.heap.size, 6, none⟩, .int .i64 mo2), (⟨w4.heap.size, 7, none⟩, .bool pt2), (⟨w4.heap.size, 8, none⟩, .int .i64 k2)]) (by simp only [Cells]; go_keep) hb9; simp only [Cells] at T9; obtain ⟨p90, p91, p92, p93, p94, p95, p96, p97, p98, p99, p910, p911, p912, p913, p914, p915, p916, -⟩ := T9; have z9 : w4.heap.size + 1 ≤ w9.heap.size := Nat.le_trans z8 hb9.size; have B9 : Hid (Below w.heap.size w w9) := B8.out.trans (hb9.mono B8.out.size); clear p80 p81 p82 p83 p84 p85 p86 p87 p88 p89 p810 p811 p812 p813 p814 p815 p816 z8 hb8)
      try (go_wp2_with fail)
      refine hK.out _ _ ?_ (fun hH3 => ?_)
      · (try dsimp only)
        go_keep
      clear hK K hH2
      try simp only [Act.put, List.setIfInBounds_toArray, List.set_cons_zero, List.set_cons_succ]
      refine wpAnyH_take (i := 9) (oi := { dst := some 41, op := Op.binOp BinOp.neq 4 (Operand.tmp 38) (Operand.tmp 40) 4, type := 4, pos := "laws.go:169", after := #[{ on := 6, ground := Ground.data }, { on := 8, ground := Ground.data }, { on := 4, ground := Ground.guard }], guard := some (4, false) }) (v := ?vg9) rfl (by kernel_rfl) (by kernel_rfl) (by kernel_rfl) (fun _ _ _ h => h) (Or.inl ⟨by rfl, ?hyg9⟩) (by assumption) ?restg9
      case hyg9 =>
        intro w hSw
        (try dsimp only at hSw)
        go_simp
        try with_reducible rfl
      try simp only [Act.put, List.setIfInBounds_toArray, List.set_cons_zero, List.set_cons_succ]
      refine wpAnyH_take (i := 10) (oi := { dst := some 42, op := Op.pick (Operand.tmp 36) (Operand.const (Value.bool true)) (Operand.tmp 41), type := 4, pos := "laws.go:169", after := #[{ on := 4, ground := Ground.data }, { on := 9, ground := Ground.data }], guard := none }) (v := ?vg10) rfl (by kernel_rfl) (by kernel_rfl) (by kernel_rfl) (fun _ _ _ h => h) (Or.inl ⟨by rfl, ?hyg10⟩) (by assumption) ?restg10
      case hyg10 =>
        intro w hSw
        (try dsimp only at hSw)
        go_simp
        try with_reducible rfl
      try simp only [Act.put, List.setIfInBounds_toArray, List.set_cons_zero, List.set_cons_succ]
      refine wpAnyH_take (i := 11) (oi := { dst := some 43, op := Op.move (Operand.tmp 42), type := 4, pos := "laws.go:169", after := #[{ on := 10, ground := Ground.data }, { on := 8, ground := Ground.chain }], guard := none }) (v := ?vg11) rfl (by kernel_rfl) (by kernel_rfl) (by kernel_rfl) (fun _ _ _ h => h) (Or.inl ⟨by rfl, ?hyg11⟩) (by assumption) ?restg11
      case hyg11 =>
        intro w hSw
        (try dsimp only at hSw)
        go_simp
        try with_reducible rfl
      try simp only [Act.put, List.setIfInBounds_toArray, List.set_cons_zero, List.set_cons_succ]
      refine wpAnyH_take (i := 12) (oi := { dst := some 44, op := Op.move (Operand.tmp 6), type := 9, pos := "laws.go:169", after := #[{ on := 11, ground := Ground.guard }], guard := some (11, false) }) (v := ?vg12) rfl (by kernel_rfl) (by kernel_rfl) (by kernel_rfl) (fun _ _ _ h => h) (Or.inl ⟨by rfl, ?hyg12⟩) (by assumption) ?restg12
      case hyg12 =>
        intro w hSw
        (try dsimp only at hSw)
        go_simp
        try with_reducible rfl
      try simp only [Act.put, List.setIfInBounds_toArray, List.set_cons_zero, List.set_cons_succ]
      refine wpAnyH_take (i := 13) (oi := { dst := some 45, op := Op.binOp BinOp.neq 9 (Operand.tmp 44) (Operand.const (Value.string { data := #[] })) 9, type := 4, pos := "laws.go:169", after := #[{ on := 12, ground := Ground.data }, { on := 11, ground := Ground.guard }], guard := some (11, false) }) (v := ?vg13) rfl (by kernel_rfl) (by kernel_rfl) (by kernel_rfl) (fun _ _ _ h => h) (Or.inl ⟨by rfl, ?hyg13⟩) (by assumption) ?restg13
      case hyg13 =>
        intro w hSw
        (try dsimp only at hSw)
        go_simp
        try with_reducible rfl
      try simp only [Act.put, List.setIfInBounds_toArray, List.set_cons_zero, List.set_cons_succ]
      refine wpAnyH_take (i := 14) (oi := { dst := some 46, op := Op.move (Operand.tmp 45), type := 4, pos := "laws.go:169", after := #[{ on := 13, ground := Ground.data }, { on := 11, ground := Ground.chain }, { on := 11, ground := Ground.guard }], guard := some (11, false) }) (v := ?vg14) rfl (by kernel_rfl) (by kernel_rfl) (by kernel_rfl) (fun _ _ _ h => h) (Or.inl ⟨by rfl, ?hyg14⟩) (by assumption) ?restg14
      case hyg14 =>
        intro w hSw
        (try dsimp only at hSw)
        go_simp
        try with_reducible rfl
      try simp only [Act.put, List.setIfInBounds_toArray, List.set_cons_zero, List.set_cons_succ]
      refine wpAnyH_take (i := 15) (oi := { dst := some 47, op := Op.move (Operand.tmp 6), type := 9, pos := "laws.go:169", after := #[{ on := 14, ground := Ground.guard }], guard := some (14, true) }) (v := ?vg15) rfl (by kernel_rfl) (by kernel_rfl) (by kernel_rfl) (fun _ _ _ h => h) (Or.inl ⟨by rfl, ?hyg15⟩) (by assumption) ?restg15
      case hyg15 =>
        intro w hSw
        (try dsimp only at hSw)
        go_simp
        try with_reducible rfl
      try simp only [Act.put, List.setIfInBounds_toArray, List.set_cons_zero, List.set_cons_succ]
      refine wpAnyH_take (i := 17) (oi := { dst := some 49, op := Op.load 24 (Operand.tmp 5), type := 24, pos := "laws.go:169", after := #[{ on := 14, ground := Ground.guard }], guard := some (14, true) }) (v := ?vg17) rfl (by kernel_rfl) (by kernel_rfl) (by kernel_rfl) (fun _ _ _ h => h) (Or.inl ⟨by rfl, ?hyg17⟩) (by assumption) ?restg17
      case hyg17 =>
        intro w hSw
        (try dsimp only at hSw)
        go_simp
        try with_reducible rfl
      try simp only [Act.put, List.setIfInBounds_toArray, List.set_cons_zero, List.set_cons_succ]
      refine wpAnyH_take (i := 18) (oi := { dst := some 50, op := Op.build 29 #[(0, Operand.tmp 49)], type := 29, pos := "laws.go:169", after := #[{ on := 17, ground := Ground.data }, { on := 14, ground := Ground.guard }], guard := some (14, true) }) (v := ?vg18) rfl (by kernel_rfl) (by kernel_rfl) (by kernel_rfl) (fun _ _ _ h => h) (Or.inl ⟨by rfl, ?hyg18⟩) (by assumption) ?restg18
      case hyg18 =>
        intro w hSw
        (try dsimp only at hSw)
        go_simp
        try with_reducible rfl
      try simp only [Act.put, List.setIfInBounds_toArray, List.set_cons_zero, List.set_cons_succ]
      refine wpAnyH_ready (rs := [16]) (by kernel_rfl) (by simp) ?_
      refine AllReadyH.cons (o := { dst := some 48, op := Op.call { callee := Callee.value (Operand.func 7), args := #[Operand.tmp 47], argTypes := #[9] }, type := 29, pos := "laws.go:169", after := #[{ on := 15, ground := Ground.data }, { on := 14, ground := Ground.chain }, { on := 14, ground := Ground.guard }], guard := some (14, true) }) rfl (fun K hK => ?_) AllReadyH.nil
      go_simp
      (go_at_call 7; refine (KB.out hT0 _ B9.out).mono ?_; rintro e w10 ⟨rfl, hb10⟩; have T10 := Cells.below (L := [(⟨w1.heap.size, 0, none⟩, .string na), (⟨w1.heap.size, 1, none⟩, .string va), (⟨w1.heap.size, 2, none⟩, .string dm), (⟨w1.heap.size, 3, none⟩, .string pa), (⟨w1.heap.size, 4, none⟩, .int .i64 ag), (⟨w1.heap.size, 5, none⟩, .bool se), (⟨w1.heap.size, 6, none⟩, .int .i64 mo), (⟨w1.heap.size, 7, none⟩, .bool pt), (⟨w4.heap.size, 0, none⟩, .string na2), (⟨w4.heap.size, 1, none⟩, .string va2), (⟨w4.heap.size, 2, none⟩, .string dm2), (⟨w4.heap.size, 3, none⟩, .string pa2), (⟨w4.heap.size, 4, none⟩, .int .i64 ag2), (⟨w4.heap.size, 5, none⟩, .bool se2), (⟨w4.heap.size, 6, none⟩, .int .i64 mo2), (⟨w4.heap.size, 7, none⟩, .bool pt2), (⟨w4.heap.size, 8, none⟩, .int .i64 k2)]) (by simp only [Cells]; go_keep) hb10; simp only [Cells] at T10; obtain ⟨p100, p101, p102, p103, p104, p105, p106, p107, p108, p109, p1010, p1011, p1012, p1013, p1014, p1015, p1016, -⟩ := T10; have z10 : w4.heap.size + 1 ≤ w10.heap.size := Nat.le_trans z9 hb10.size; have B10 : Hid (Below w.heap.size w w10) := B9.out.trans (hb10.mono B9.out.size); clear p90 p91 p92 p93 p94 p95 p96 p97 p98 p99 p910 p911 p912 p913 p914 p915 p916 z9 hb9)
      try (go_wp2_with fail)
      refine hK.out _ _ ?_ (fun hH4 => ?_)
      · (try dsimp only)
        go_keep
      clear hK K hH3
      try simp only [Act.put, List.setIfInBounds_toArray, List.set_cons_zero, List.set_cons_succ]
      refine wpAnyH_take (i := 19) (oi := { dst := some 51, op := Op.binOp BinOp.neq 29 (Operand.tmp 48) (Operand.tmp 50) 29, type := 4, pos := "laws.go:169", after := #[{ on := 16, ground := Ground.data }, { on := 18, ground := Ground.data }, { on := 14, ground := Ground.guard }], guard := some (14, true) }) (v := ?vg19) rfl (by kernel_rfl) (by kernel_rfl) (by kernel_rfl) (fun _ _ _ h => h) (Or.inl ⟨by rfl, ?hyg19⟩) (by assumption) ?restg19
      case hyg19 =>
        intro w hSw
        (try dsimp only at hSw)
        go_simp
        try with_reducible rfl
      try simp only [Act.put, List.setIfInBounds_toArray, List.set_cons_zero, List.set_cons_succ]
      refine wpAnyH_take (i := 20) (oi := { dst := some 52, op := Op.pick (Operand.tmp 46) (Operand.tmp 51) (Operand.const (Value.bool false)), type := 4, pos := "laws.go:169", after := #[{ on := 14, ground := Ground.data }, { on := 19, ground := Ground.data }, { on := 11, ground := Ground.guard }], guard := some (11, false) }) (v := ?vg20) rfl (by kernel_rfl) (by kernel_rfl) (by kernel_rfl) (fun _ _ _ h => h) (Or.inl ⟨by rfl, ?hyg20⟩) (by assumption) ?restg20
      case hyg20 =>
        intro w hSw
        (try dsimp only at hSw)
        go_simp
        try with_reducible rfl
      try simp only [Act.put, List.setIfInBounds_toArray, List.set_cons_zero, List.set_cons_succ]
      refine wpAnyH_take (i := 21) (oi := { dst := some 53, op := Op.pick (Operand.tmp 43) (Operand.const (Value.bool true)) (Operand.tmp 52), type := 4, pos := "laws.go:169", after := #[{ on := 11, ground := Ground.data }, { on := 20, ground := Ground.data }], guard := none }) (v := ?vg21) rfl (by kernel_rfl) (by kernel_rfl) (by kernel_rfl) (fun _ _ _ h => h) (Or.inl ⟨by rfl, ?hyg21⟩) (by assumption) ?restg21
      case hyg21 =>
        intro w hSw
        (try dsimp only at hSw)
        go_simp
        try with_reducible rfl
      try simp only [Act.put, List.setIfInBounds_toArray, List.set_cons_zero, List.set_cons_succ]
      refine wpAnyH_take (i := 22) (oi := { dst := some 54, op := Op.move (Operand.tmp 53), type := 4, pos := "laws.go:169", after := #[{ on := 21, ground := Ground.data }, { on := 16, ground := Ground.chain }], guard := none }) (v := ?vg22) rfl (by kernel_rfl) (by kernel_rfl) (by kernel_rfl) (fun _ _ _ h => h) (Or.inl ⟨by rfl, ?hyg22⟩) (by assumption) ?restg22
      case hyg22 =>
        intro w hSw
        (try dsimp only at hSw)
        go_simp
        try with_reducible rfl
      try simp only [Act.put, List.setIfInBounds_toArray, List.set_cons_zero, List.set_cons_succ]
      refine wpAnyH_take (i := 23) (oi := { dst := some 55, op := Op.load 29 (Operand.tmp 8), type := 29, pos := "laws.go:169", after := #[{ on := 22, ground := Ground.guard }], guard := some (22, false) }) (v := ?vg23) rfl (by kernel_rfl) (by kernel_rfl) (by kernel_rfl) (fun _ _ _ h => h) (Or.inl ⟨by rfl, ?hyg23⟩) (by assumption) ?restg23
      case hyg23 =>
        intro w hSw
        (try dsimp only at hSw)
        go_simp
        try with_reducible rfl
      try simp only [Act.put, List.setIfInBounds_toArray, List.set_cons_zero, List.set_cons_succ]
      refine wpAnyH_take (i := 24) (oi := { dst := some 56, op := Op.move (Operand.tmp 7), type := 9, pos := "laws.go:169", after := #[{ on := 22, ground := Ground.guard }], guard := some (22, false) }) (v := ?vg24) rfl (by kernel_rfl) (by kernel_rfl) (by kernel_rfl) (fun _ _ _ h => h) (Or.inl ⟨by rfl, ?hyg24⟩) (by assumption) ?restg24
      case hyg24 =>
        intro w hSw
        (try dsimp only at hSw)
        go_simp
        try with_reducible rfl
      try simp only [Act.put, List.setIfInBounds_toArray, List.set_cons_zero, List.set_cons_succ]
      refine wpAnyH_ready (rs := [25]) (by kernel_rfl) (by simp) ?_
      refine AllReadyH.cons (o := { dst := some 57, op := Op.call { callee := Callee.value (Operand.func 12), args := #[Operand.tmp 56], argTypes := #[9] }, type := 29, pos := "laws.go:169", after := #[{ on := 24, ground := Ground.data }, { on := 22, ground := Ground.chain }, { on := 22, ground := Ground.guard }], guard := some (22, false) }) rfl (fun K hK => ?_) AllReadyH.nil
      go_simp
      (go_at_call 12; refine (TU.out _ B10.out).mono ?_; rintro e w11 ⟨rfl, hb11⟩; have T11 := Cells.below (L := [(⟨w1.heap.size, 0, none⟩, .string na), (⟨w1.heap.size, 1, none⟩, .string va), (⟨w1.heap.size, 2, none⟩, .string dm), (⟨w1.heap.size, 3, none⟩, .string pa), (⟨w1.heap.size, 4, none⟩, .int .i64 ag), (⟨w1.heap.size, 5, none⟩, .bool se), (⟨w1.heap.size, 6, none⟩, .int .i64 mo), (⟨w1.heap.size, 7, none⟩, .bool pt), (⟨w4.heap.size, 0, none⟩, .string na2), (⟨w4.heap.size, 1, none⟩, .string va2), (⟨w4.heap.size, 2, none⟩, .string dm2), (⟨w4.heap.size, 3, none⟩, .string pa2), (⟨w4.heap.size, 4, none⟩, .int .i64 ag2), (⟨w4.heap.size, 5, none⟩, .bool se2), (⟨w4.heap.size, 6, none⟩, .int .i64 mo2), (⟨w4.heap.size, 7, none⟩, .bool pt2), (⟨w4.heap.size, 8, none⟩, .int .i64 k2)]) (by simp only [Cells]; go_keep) hb11; simp only [Cells] at T11; obtain ⟨p110, p111, p112, p113, p114, p115, p116, p117, p118, p119, p1110, p1111, p1112, p1113, p1114, p1115, p1116, -⟩ := T11; have z11 : w4.heap.size + 1 ≤ w11.heap.size := Nat.le_trans z10 hb11.size; have B11 : Hid (Below w.heap.size w w11) := B10.out.trans (hb11.mono B10.out.size); clear p100 p101 p102 p103 p104 p105 p106 p107 p108 p109 p1010 p1011 p1012 p1013 p1014 p1015 p1016 z10 hb10)
      try (go_wp2_with fail)
      refine hK.out _ _ ?_ (fun hH5 => ?_)
      · (try dsimp only)
        go_keep
      clear hK K hH4
      try simp only [Act.put, List.setIfInBounds_toArray, List.set_cons_zero, List.set_cons_succ]
      refine wpAnyH_take (i := 26) (oi := { dst := some 58, op := Op.binOp BinOp.neq 29 (Operand.tmp 55) (Operand.tmp 57) 29, type := 4, pos := "laws.go:169", after := #[{ on := 23, ground := Ground.data }, { on := 25, ground := Ground.data }, { on := 22, ground := Ground.guard }], guard := some (22, false) }) (v := ?vg26) rfl (by kernel_rfl) (by kernel_rfl) (by kernel_rfl) (fun _ _ _ h => h) (Or.inl ⟨by rfl, ?hyg26⟩) (by assumption) ?restg26
      case hyg26 =>
        intro w hSw
        (try dsimp only at hSw)
        go_simp
        try with_reducible rfl
      try simp only [Act.put, List.setIfInBounds_toArray, List.set_cons_zero, List.set_cons_succ]
      refine wpAnyH_take (i := 27) (oi := { dst := some 59, op := Op.pick (Operand.tmp 54) (Operand.const (Value.bool true)) (Operand.tmp 58), type := 4, pos := "laws.go:169", after := #[{ on := 22, ground := Ground.data }, { on := 26, ground := Ground.data }], guard := none }) (v := ?vg27) rfl (by kernel_rfl) (by kernel_rfl) (by kernel_rfl) (fun _ _ _ h => h) (Or.inl ⟨by rfl, ?hyg27⟩) (by assumption) ?restg27
      case hyg27 =>
        intro w hSw
        (try dsimp only at hSw)
        go_simp
        try with_reducible rfl
      try simp only [Act.put, List.setIfInBounds_toArray, List.set_cons_zero, List.set_cons_succ]
      refine wpAnyH_take (i := 28) (oi := { dst := some 60, op := Op.move (Operand.tmp 59), type := 4, pos := "laws.go:169", after := #[{ on := 27, ground := Ground.data }, { on := 25, ground := Ground.chain }], guard := none }) (v := ?vg28) rfl (by kernel_rfl) (by kernel_rfl) (by kernel_rfl) (fun _ _ _ h => h) (Or.inl ⟨by rfl, ?hyg28⟩) (by assumption) ?restg28
      case hyg28 =>
        intro w hSw
        (try dsimp only at hSw)
        go_simp
        try with_reducible rfl
      try simp only [Act.put, List.setIfInBounds_toArray, List.set_cons_zero, List.set_cons_succ]
      refine wpAnyH_take (i := 29) (oi := { dst := some 61, op := Op.fieldAddr 29 (Operand.tmp 8) 1, type := 0, pos := "laws.go:169", after := #[{ on := 28, ground := Ground.guard }], guard := some (28, false) }) (v := ?vg29) rfl (by kernel_rfl) (by kernel_rfl) (by kernel_rfl) (fun _ _ _ h => h) (Or.inl ⟨by rfl, ?hyg29⟩) (by assumption) ?restg29
      case hyg29 =>
        intro w hSw
        (try dsimp only at hSw)
        go_simp
        try with_reducible rfl
      try simp only [Act.put, List.setIfInBounds_toArray, List.set_cons_zero, List.set_cons_succ]
      refine wpAnyH_take (i := 30) (oi := { dst := some 62, op := Op.load 2 (Operand.tmp 61), type := 2, pos := "laws.go:169", after := #[{ on := 29, ground := Ground.data }, { on := 28, ground := Ground.guard }], guard := some (28, false) }) (v := ?vg30) rfl (by kernel_rfl) (by kernel_rfl) (by kernel_rfl) (fun _ _ _ h => h) (Or.inl ⟨by rfl, ?hyg30⟩) (by assumption) ?restg30
      case hyg30 =>
        intro w hSw
        (try dsimp only at hSw)
        go_simp
        try with_reducible rfl
      try simp only [Act.put, List.setIfInBounds_toArray, List.set_cons_zero, List.set_cons_succ]
      refine wpAnyH_take (i := 31) (oi := { dst := some 63, op := Op.binOp BinOp.eql 2 (Operand.tmp 62) (Operand.const (Value.int IntKind.i64 0)) 2, type := 4, pos := "laws.go:169", after := #[{ on := 30, ground := Ground.data }, { on := 28, ground := Ground.guard }], guard := some (28, false) }) (v := ?vg31) rfl (by kernel_rfl) (by kernel_rfl) (by kernel_rfl) (fun _ _ _ h => h) (Or.inl ⟨by rfl, ?hyg31⟩) (by assumption) ?restg31
      case hyg31 =>
        intro w hSw
        (try dsimp only at hSw)
        go_simp
        try with_reducible rfl
      try simp only [Act.put, List.setIfInBounds_toArray, List.set_cons_zero, List.set_cons_succ]
      refine wpAnyH_take (i := 32) (oi := { dst := some 64, op := Op.move (Operand.tmp 63), type := 4, pos := "laws.go:169", after := #[{ on := 31, ground := Ground.data }, { on := 28, ground := Ground.chain }, { on := 28, ground := Ground.guard }], guard := some (28, false) }) (v := ?vg32) rfl (by kernel_rfl) (by kernel_rfl) (by kernel_rfl) (fun _ _ _ h => h) (Or.inl ⟨by rfl, ?hyg32⟩) (by assumption) ?restg32
      case hyg32 =>
        intro w hSw
        (try dsimp only at hSw)
        go_simp
        try with_reducible rfl
      try simp only [Act.put, List.setIfInBounds_toArray, List.set_cons_zero, List.set_cons_succ]
      refine wpAnyH_take (i := 33) (oi := { dst := some 65, op := Op.fieldAddr 29 (Operand.tmp 8) 0, type := 0, pos := "laws.go:169", after := #[{ on := 32, ground := Ground.guard }], guard := some (32, true) }) (v := undef) rfl (by kernel_rfl) (by kernel_rfl) (by kernel_rfl) (fun _ _ _ h => h) (Or.inr ⟨by rfl, rfl⟩) (by assumption) ?_
      try simp only [Act.put, List.setIfInBounds_toArray, List.set_cons_zero, List.set_cons_succ]
      refine wpAnyH_take (i := 34) (oi := { dst := some 66, op := Op.load 24 (Operand.tmp 65), type := 24, pos := "laws.go:169", after := #[{ on := 33, ground := Ground.data }, { on := 32, ground := Ground.guard }], guard := some (32, true) }) (v := undef) rfl (by kernel_rfl) (by kernel_rfl) (by kernel_rfl) (fun _ _ _ h => h) (Or.inr ⟨by rfl, rfl⟩) (by assumption) ?_
      try simp only [Act.put, List.setIfInBounds_toArray, List.set_cons_zero, List.set_cons_succ]
      refine wpAnyH_take (i := 35) (oi := { dst := some 67, op := Op.call { callee := Callee.value (Operand.func 5), args := #[Operand.tmp 66], argTypes := #[24] }, type := 9, pos := "laws.go:169", after := #[{ on := 34, ground := Ground.data }, { on := 32, ground := Ground.chain }, { on := 32, ground := Ground.guard }], guard := some (32, true) }) (v := undef) rfl (by kernel_rfl) (by kernel_rfl) (by kernel_rfl) (fun _ _ _ h => h) (Or.inr ⟨by rfl, rfl⟩) (by assumption) ?_
      try simp only [Act.put, List.setIfInBounds_toArray, List.set_cons_zero, List.set_cons_succ]
      refine wpAnyH_take (i := 36) (oi := { dst := some 68, op := Op.move (Operand.tmp 7), type := 9, pos := "laws.go:169", after := #[{ on := 32, ground := Ground.guard }], guard := some (32, true) }) (v := undef) rfl (by kernel_rfl) (by kernel_rfl) (by kernel_rfl) (fun _ _ _ h => h) (Or.inr ⟨by rfl, rfl⟩) (by assumption) ?_
      try simp only [Act.put, List.setIfInBounds_toArray, List.set_cons_zero, List.set_cons_succ]
      refine wpAnyH_take (i := 37) (oi := { dst := some 69, op := Op.binOp BinOp.neq 9 (Operand.tmp 67) (Operand.tmp 68) 9, type := 4, pos := "laws.go:169", after := #[{ on := 35, ground := Ground.data }, { on := 36, ground := Ground.data }, { on := 32, ground := Ground.guard }], guard := some (32, true) }) (v := undef) rfl (by kernel_rfl) (by kernel_rfl) (by kernel_rfl) (fun _ _ _ h => h) (Or.inr ⟨by rfl, rfl⟩) (by assumption) ?_
      try simp only [Act.put, List.setIfInBounds_toArray, List.set_cons_zero, List.set_cons_succ]
      refine wpAnyH_take (i := 38) (oi := { dst := some 70, op := Op.pick (Operand.tmp 64) (Operand.tmp 69) (Operand.const (Value.bool false)), type := 4, pos := "laws.go:169", after := #[{ on := 32, ground := Ground.data }, { on := 37, ground := Ground.data }, { on := 28, ground := Ground.guard }], guard := some (28, false) }) (v := ?vg38) rfl (by kernel_rfl) (by kernel_rfl) (by kernel_rfl) (fun _ _ _ h => h) (Or.inl ⟨by rfl, ?hyg38⟩) (by assumption) ?restg38
      case hyg38 =>
        intro w hSw
        (try dsimp only at hSw)
        go_simp
        try with_reducible rfl
      try simp only [Act.put, List.setIfInBounds_toArray, List.set_cons_zero, List.set_cons_succ]
      refine wpAnyH_take (i := 39) (oi := { dst := some 71, op := Op.pick (Operand.tmp 60) (Operand.const (Value.bool true)) (Operand.tmp 70), type := 4, pos := "laws.go:169", after := #[{ on := 28, ground := Ground.data }, { on := 38, ground := Ground.data }], guard := none }) (v := ?vg39) rfl (by kernel_rfl) (by kernel_rfl) (by kernel_rfl) (fun _ _ _ h => h) (Or.inl ⟨by rfl, ?hyg39⟩) (by assumption) ?restg39
      case hyg39 =>
        intro w hSw
        (try dsimp only at hSw)
        go_simp
        try with_reducible rfl
      try simp only [Act.put, List.setIfInBounds_toArray, List.set_cons_zero, List.set_cons_succ]
      refine wpAnyH_take (i := 40) (oi := { dst := some 72, op := Op.move (Operand.tmp 71), type := 4, pos := "laws.go:169", after := #[{ on := 39, ground := Ground.data }, { on := 35, ground := Ground.chain }], guard := none }) (v := ?vg40) rfl (by kernel_rfl) (by kernel_rfl) (by kernel_rfl) (fun _ _ _ h => h) (Or.inl ⟨by rfl, ?hyg40⟩) (by assumption) ?restg40
      case hyg40 =>
        intro w hSw
        (try dsimp only at hSw)
        go_simp
        try with_reducible rfl
      try simp only [Act.put, List.setIfInBounds_toArray, List.set_cons_zero, List.set_cons_succ]
      refine wpAnyH_take (i := 41) (oi := { dst := some 73, op := Op.move (Operand.tmp 9), type := 9, pos := "laws.go:169", after := #[{ on := 40, ground := Ground.guard }], guard := some (40, false) }) (v := ?vg41) rfl (by kernel_rfl) (by kernel_rfl) (by kernel_rfl) (fun _ _ _ h => h) (Or.inl ⟨by rfl, ?hyg41⟩) (by assumption) ?restg41
      case hyg41 =>
        intro w hSw
        (try dsimp only at hSw)
        go_simp
        try with_reducible rfl
      try simp only [Act.put, List.setIfInBounds_toArray, List.set_cons_zero, List.set_cons_succ]
      refine wpAnyH_take (i := 43) (oi := { dst := some 75, op := Op.move (Operand.tmp 9), type := 9, pos := "laws.go:169", after := #[{ on := 40, ground := Ground.guard }], guard := some (40, false) }) (v := ?vg43) rfl (by kernel_rfl) (by kernel_rfl) (by kernel_rfl) (fun _ _ _ h => h) (Or.inl ⟨by rfl, ?hyg43⟩) (by assumption) ?restg43
      case hyg43 =>
        intro w hSw
        (try dsimp only at hSw)
        go_simp
        try with_reducible rfl
      try simp only [Act.put, List.setIfInBounds_toArray, List.set_cons_zero, List.set_cons_succ]
      refine wpAnyH_ready (rs := [42]) (by kernel_rfl) (by simp) ?_
      refine AllReadyH.cons (o := { dst := some 74, op := Op.call { callee := Callee.value (Operand.func 13), args := #[Operand.tmp 73], argTypes := #[9] }, type := 4, pos := "laws.go:169", after := #[{ on := 41, ground := Ground.data }, { on := 40, ground := Ground.chain }, { on := 40, ground := Ground.guard }], guard := some (40, false) }) rfl (fun K hK => ?_) AllReadyH.nil
      go_simp
      (go_at_call 13; refine (KW.out _ B11.out).mono ?_; rintro e w13 ⟨rfl, hb13⟩; have T13 := Cells.below (L := [(⟨w1.heap.size, 0, none⟩, .string na), (⟨w1.heap.size, 1, none⟩, .string va), (⟨w1.heap.size, 2, none⟩, .string dm), (⟨w1.heap.size, 3, none⟩, .string pa), (⟨w1.heap.size, 4, none⟩, .int .i64 ag), (⟨w1.heap.size, 5, none⟩, .bool se), (⟨w1.heap.size, 6, none⟩, .int .i64 mo), (⟨w1.heap.size, 7, none⟩, .bool pt), (⟨w4.heap.size, 0, none⟩, .string na2), (⟨w4.heap.size, 1, none⟩, .string va2), (⟨w4.heap.size, 2, none⟩, .string dm2), (⟨w4.heap.size, 3, none⟩, .string pa2), (⟨w4.heap.size, 4, none⟩, .int .i64 ag2), (⟨w4.heap.size, 5, none⟩, .bool se2), (⟨w4.heap.size, 6, none⟩, .int .i64 mo2), (⟨w4.heap.size, 7, none⟩, .bool pt2), (⟨w4.heap.size, 8, none⟩, .int .i64 k2)]) (by simp only [Cells]; go_keep) hb13; simp only [Cells] at T13; obtain ⟨p130, p131, p132, p133, p134, p135, p136, p137, p138, p139, p1310, p1311, p1312, p1313, p1314, p1315, p1316, -⟩ := T13; have z13 : w4.heap.size + 1 ≤ w13.heap.size := Nat.le_trans z11 hb13.size; have B13 : Hid (Below w.heap.size w w13) := B11.out.trans (hb13.mono B11.out.size); clear p110 p111 p112 p113 p114 p115 p116 p117 p118 p119 p1110 p1111 p1112 p1113 p1114 p1115 p1116 z11 hb11)
      try (go_wp2_with fail)
      refine hK.out _ _ ?_ (fun hH6 => ?_)
      · (try dsimp only)
        go_keep
      clear hK K hH5
      try simp only [Act.put, List.setIfInBounds_toArray, List.set_cons_zero, List.set_cons_succ]
      refine wpAnyH_ready (rs := [44]) (by kernel_rfl) (by simp) ?_
      refine AllReadyH.cons (o := { dst := some 76, op := Op.call { callee := Callee.value (Operand.func 14), args := #[Operand.tmp 75], argTypes := #[9] }, type := 4, pos := "laws.go:169", after := #[{ on := 43, ground := Ground.data }, { on := 42, ground := Ground.chain }, { on := 40, ground := Ground.guard }], guard := some (40, false) }) rfl (fun K hK => ?_) AllReadyH.nil
      go_simp
      (go_at_call 14; refine (TW.out _ B13.out).mono ?_; rintro e w14 ⟨rfl, hb14⟩; have T14 := Cells.below (L := [(⟨w1.heap.size, 0, none⟩, .string na), (⟨w1.heap.size, 1, none⟩, .string va), (⟨w1.heap.size, 2, none⟩, .string dm), (⟨w1.heap.size, 3, none⟩, .string pa), (⟨w1.heap.size, 4, none⟩, .int .i64 ag), (⟨w1.heap.size, 5, none⟩, .bool se), (⟨w1.heap.size, 6, none⟩, .int .i64 mo), (⟨w1.heap.size, 7, none⟩, .bool pt), (⟨w4.heap.size, 0, none⟩, .string na2), (⟨w4.heap.size, 1, none⟩, .string va2), (⟨w4.heap.size, 2, none⟩, .string dm2), (⟨w4.heap.size, 3, none⟩, .string pa2), (⟨w4.heap.size, 4, none⟩, .int .i64 ag2), (⟨w4.heap.size, 5, none⟩, .bool se2), (⟨w4.heap.size, 6, none⟩, .int .i64 mo2), (⟨w4.heap.size, 7, none⟩, .bool pt2), (⟨w4.heap.size, 8, none⟩, .int .i64 k2)]) (by simp only [Cells]; go_keep) hb14; simp only [Cells] at T14; obtain ⟨p140, p141, p142, p143, p144, p145, p146, p147, p148, p149, p1410, p1411, p1412, p1413, p1414, p1415, p1416, -⟩ := T14; have z14 : w4.heap.size + 1 ≤ w14.heap.size := Nat.le_trans z13 hb14.size; have B14 : Hid (Below w.heap.size w w14) := B13.out.trans (hb14.mono B13.out.size); clear p130 p131 p132 p133 p134 p135 p136 p137 p138 p139 p1310 p1311 p1312 p1313 p1314 p1315 p1316 z13 hb13)
      try (go_wp2_with fail)
      refine hK.out _ _ ?_ (fun hH7 => ?_)
      · (try dsimp only)
        go_keep
      clear hK K hH6
      try simp only [Act.put, List.setIfInBounds_toArray, List.set_cons_zero, List.set_cons_succ]
      refine wpAnyH_take (i := 45) (oi := { dst := some 77, op := Op.binOp BinOp.neq 4 (Operand.tmp 74) (Operand.tmp 76) 4, type := 4, pos := "laws.go:169", after := #[{ on := 42, ground := Ground.data }, { on := 44, ground := Ground.data }, { on := 40, ground := Ground.guard }], guard := some (40, false) }) (v := ?vg45) rfl (by kernel_rfl) (by kernel_rfl) (by kernel_rfl) (fun _ _ _ h => h) (Or.inl ⟨by rfl, ?hyg45⟩) (by assumption) ?restg45
      case hyg45 =>
        intro w hSw
        (try dsimp only at hSw)
        go_simp
        try with_reducible rfl
      try simp only [Act.put, List.setIfInBounds_toArray, List.set_cons_zero, List.set_cons_succ]
      refine wpAnyH_take (i := 46) (oi := { dst := some 78, op := Op.pick (Operand.tmp 72) (Operand.const (Value.bool true)) (Operand.tmp 77), type := 4, pos := "laws.go:169", after := #[{ on := 40, ground := Ground.data }, { on := 45, ground := Ground.data }], guard := none }) (v := ?vg46) rfl (by kernel_rfl) (by kernel_rfl) (by kernel_rfl) (fun _ _ _ h => h) (Or.inl ⟨by rfl, ?hyg46⟩) (by assumption) ?restg46
      case hyg46 =>
        intro w hSw
        (try dsimp only at hSw)
        go_simp
        try with_reducible rfl
      try simp only [Act.put, List.setIfInBounds_toArray, List.set_cons_zero, List.set_cons_succ]
      refine wpAnyH_done (by kernel_rfl) ?_ _
      exact tail _ _ _ _ _ _ _ _ _ _ _ _ _ _ _ _ _ _ _ _ _ _ _ _ _ _ _ _ _ _ _ _ _ _ _ _ _ _ _ _ _ _ _ _ _ _ _ _ _ _ _ _ _ _ _ _ _ _ _ _ _ _ _ _ w14 B14
    | true =>
      refine wp_region_held_drew (S := (fun w' => w4.heap.size + 1 ≤ w'.heap.size ∧ w'.cell? ⟨w1.heap.size, 0, none⟩ = some (.string na) ∧ w'.cell? ⟨w1.heap.size, 1, none⟩ = some (.string va) ∧ w'.cell? ⟨w1.heap.size, 2, none⟩ = some (.string dm) ∧ w'.cell? ⟨w1.heap.size, 3, none⟩ = some (.string pa) ∧ w'.cell? ⟨w1.heap.size, 4, none⟩ = some (.int .i64 ag) ∧ w'.cell? ⟨w1.heap.size, 5, none⟩ = some (.bool se) ∧ w'.cell? ⟨w1.heap.size, 6, none⟩ = some (.int .i64 mo) ∧ w'.cell? ⟨w1.heap.size, 7, none⟩ = some (.bool pt) ∧ w'.cell? ⟨w4.heap.size, 0, none⟩ = some (.string na2) ∧ w'.cell? ⟨w4.heap.size, 1, none⟩ = some (.string va2) ∧ w'.cell? ⟨w4.heap.size, 2, none⟩ = some (.string dm2) ∧ w'.cell? ⟨w4.heap.size, 3, none⟩ = some (.string pa2) ∧ w'.cell? ⟨w4.heap.size, 4, none⟩ = some (.int .i64 ag2) ∧ w'.cell? ⟨w4.heap.size, 5, none⟩ = some (.bool se2) ∧ w'.cell? ⟨w4.heap.size, 6, none⟩ = some (.int .i64 mo2) ∧ w'.cell? ⟨w4.heap.size, 7, none⟩ = some (.bool pt2) ∧ w'.cell? ⟨w4.heap.size, 8, none⟩ = some (.int .i64 k2))) (by kernel_rfl) ?_ (fun hH0 => ?_)
      · (try dsimp only)
        go_keep
      refine wpAnyH_take (i := 0) (oi := { dst := some 32, op := Op.move (Operand.tmp 6), type := 9, pos := "laws.go:169", after := #[], guard := none }) (v := ?vh0) rfl (by kernel_rfl) (by kernel_rfl) (by kernel_rfl) (fun _ _ _ h => h) (Or.inl ⟨by rfl, ?hyh0⟩) (by assumption) ?resth0
      case hyh0 =>
        intro w hSw
        (try dsimp only at hSw)
        go_simp
        try with_reducible rfl
      try simp only [Act.put, List.setIfInBounds_toArray, List.set_cons_zero, List.set_cons_succ]
      refine wpAnyH_take (i := 1) (oi := { dst := some 33, op := Op.load 24 (Operand.tmp 5), type := 24, pos := "laws.go:169", after := #[], guard := none }) (v := ?vh1) rfl (by kernel_rfl) (by kernel_rfl) (by kernel_rfl) (fun _ _ _ h => h) (Or.inl ⟨by rfl, ?hyh1⟩) (by assumption) ?resth1
      case hyh1 =>
        intro w hSw
        (try dsimp only at hSw)
        go_simp
        try with_reducible rfl
      try simp only [Act.put, List.setIfInBounds_toArray, List.set_cons_zero, List.set_cons_succ]
      refine wpAnyH_ready (rs := [2]) (by kernel_rfl) (by simp) ?_
      refine AllReadyH.cons (o := { dst := some 34, op := Op.call { callee := Callee.value (Operand.func 9), args := #[Operand.tmp 33], argTypes := #[24] }, type := 9, pos := "laws.go:169", after := #[{ on := 1, ground := Ground.data }], guard := none }) rfl (fun K hK => ?_) AllReadyH.nil
      go_simp
      (go_at_call 9; refine (TT.out _ (B6.out.trans (Below.drew (Below.refl _ _)))).mono ?_; rintro e w7 ⟨rfl, hb7⟩; have T7 := Cells.below (L := [(⟨w1.heap.size, 0, none⟩, .string na), (⟨w1.heap.size, 1, none⟩, .string va), (⟨w1.heap.size, 2, none⟩, .string dm), (⟨w1.heap.size, 3, none⟩, .string pa), (⟨w1.heap.size, 4, none⟩, .int .i64 ag), (⟨w1.heap.size, 5, none⟩, .bool se), (⟨w1.heap.size, 6, none⟩, .int .i64 mo), (⟨w1.heap.size, 7, none⟩, .bool pt), (⟨w4.heap.size, 0, none⟩, .string na2), (⟨w4.heap.size, 1, none⟩, .string va2), (⟨w4.heap.size, 2, none⟩, .string dm2), (⟨w4.heap.size, 3, none⟩, .string pa2), (⟨w4.heap.size, 4, none⟩, .int .i64 ag2), (⟨w4.heap.size, 5, none⟩, .bool se2), (⟨w4.heap.size, 6, none⟩, .int .i64 mo2), (⟨w4.heap.size, 7, none⟩, .bool pt2), (⟨w4.heap.size, 8, none⟩, .int .i64 k2)]) (by simp only [Cells]; go_keep) hb7; simp only [Cells] at T7; obtain ⟨p70, p71, p72, p73, p74, p75, p76, p77, p78, p79, p710, p711, p712, p713, p714, p715, p716, -⟩ := T7; have z7 : w4.heap.size + 1 ≤ w7.heap.size := Nat.le_trans z6 hb7.size; have B7 : Hid (Below w.heap.size w w7) := (B6.out.trans (Below.drew (Below.refl _ _))).trans (hb7.mono (by have := B6.out.size; simpa using this)))
      try (go_wp2_with fail)
      refine hK.out _ _ ?_ (fun hH1 => ?_)
      · (try dsimp only)
        go_keep
      clear hK K hH0
      try simp only [Act.put, List.setIfInBounds_toArray, List.set_cons_zero, List.set_cons_succ]
      refine wpAnyH_take (i := 3) (oi := { dst := some 35, op := Op.binOp BinOp.neq 9 (Operand.tmp 32) (Operand.tmp 34) 9, type := 4, pos := "laws.go:169", after := #[{ on := 0, ground := Ground.data }, { on := 2, ground := Ground.data }], guard := none }) (v := ?vh3) rfl (by kernel_rfl) (by kernel_rfl) (by kernel_rfl) (fun _ _ _ h => h) (Or.inl ⟨by rfl, ?hyh3⟩) (by assumption) ?resth3
      case hyh3 =>
        intro w hSw
        (try dsimp only at hSw)
        go_simp
        try with_reducible rfl
      try simp only [Act.put, List.setIfInBounds_toArray, List.set_cons_zero, List.set_cons_succ]
      refine wpAnyH_take (i := 4) (oi := { dst := some 36, op := Op.move (Operand.tmp 35), type := 4, pos := "laws.go:169", after := #[{ on := 3, ground := Ground.data }, { on := 2, ground := Ground.chain }], guard := none }) (v := ?vh4) rfl (by kernel_rfl) (by kernel_rfl) (by kernel_rfl) (fun _ _ _ h => h) (Or.inl ⟨by rfl, ?hyh4⟩) (by assumption) ?resth4
      case hyh4 =>
        intro w hSw
        (try dsimp only at hSw)
        go_simp
        try with_reducible rfl
      try simp only [Act.put, List.setIfInBounds_toArray, List.set_cons_zero, List.set_cons_succ]
      refine wpAnyH_take (i := 5) (oi := { dst := some 37, op := Op.load 24 (Operand.tmp 5), type := 24, pos := "laws.go:169", after := #[{ on := 4, ground := Ground.guard }], guard := some (4, false) }) (v := ?vh5) rfl (by kernel_rfl) (by kernel_rfl) (by kernel_rfl) (fun _ _ _ h => h) (Or.inl ⟨by rfl, ?hyh5⟩) (by assumption) ?resth5
      case hyh5 =>
        intro w hSw
        (try dsimp only at hSw)
        go_simp
        try with_reducible rfl
      try simp only [Act.put, List.setIfInBounds_toArray, List.set_cons_zero, List.set_cons_succ]
      refine wpAnyH_take (i := 7) (oi := { dst := some 39, op := Op.load 24 (Operand.tmp 5), type := 24, pos := "laws.go:169", after := #[{ on := 4, ground := Ground.guard }], guard := some (4, false) }) (v := ?vh7) rfl (by kernel_rfl) (by kernel_rfl) (by kernel_rfl) (fun _ _ _ h => h) (Or.inl ⟨by rfl, ?hyh7⟩) (by assumption) ?resth7
      case hyh7 =>
        intro w hSw
        (try dsimp only at hSw)
        go_simp
        try with_reducible rfl
      try simp only [Act.put, List.setIfInBounds_toArray, List.set_cons_zero, List.set_cons_succ]
      refine wpAnyH_ready (rs := [6]) (by kernel_rfl) (by simp) ?_
      refine AllReadyH.cons (o := { dst := some 38, op := Op.call { callee := Callee.value (Operand.func 10), args := #[Operand.tmp 37], argTypes := #[24] }, type := 4, pos := "laws.go:169", after := #[{ on := 5, ground := Ground.data }, { on := 4, ground := Ground.chain }, { on := 4, ground := Ground.guard }], guard := some (4, false) }) rfl (fun K hK => ?_) AllReadyH.nil
      go_simp
      (go_at_call 10; refine (KR.out _ B7.out).mono ?_; rintro e w8 ⟨rfl, hb8⟩; have T8 := Cells.below (L := [(⟨w1.heap.size, 0, none⟩, .string na), (⟨w1.heap.size, 1, none⟩, .string va), (⟨w1.heap.size, 2, none⟩, .string dm), (⟨w1.heap.size, 3, none⟩, .string pa), (⟨w1.heap.size, 4, none⟩, .int .i64 ag), (⟨w1.heap.size, 5, none⟩, .bool se), (⟨w1.heap.size, 6, none⟩, .int .i64 mo), (⟨w1.heap.size, 7, none⟩, .bool pt), (⟨w4.heap.size, 0, none⟩, .string na2), (⟨w4.heap.size, 1, none⟩, .string va2), (⟨w4.heap.size, 2, none⟩, .string dm2), (⟨w4.heap.size, 3, none⟩, .string pa2), (⟨w4.heap.size, 4, none⟩, .int .i64 ag2), (⟨w4.heap.size, 5, none⟩, .bool se2), (⟨w4.heap.size, 6, none⟩, .int .i64 mo2), (⟨w4.heap.size, 7, none⟩, .bool pt2), (⟨w4.heap.size, 8, none⟩, .int .i64 k2)]) (by simp only [Cells]; go_keep) hb8; simp only [Cells] at T8; obtain ⟨p80, p81, p82, p83, p84, p85, p86, p87, p88, p89, p810, p811, p812, p813, p814, p815, p816, -⟩ := T8; have z8 : w4.heap.size + 1 ≤ w8.heap.size := Nat.le_trans z7 hb8.size; have B8 : Hid (Below w.heap.size w w8) := B7.out.trans (hb8.mono B7.out.size); clear p70 p71 p72 p73 p74 p75 p76 p77 p78 p79 p710 p711 p712 p713 p714 p715 p716 z7 hb7)
      try (go_wp2_with fail)
      refine hK.out _ _ ?_ (fun hH2 => ?_)
      · (try dsimp only)
        go_keep
      clear hK K hH1
      try simp only [Act.put, List.setIfInBounds_toArray, List.set_cons_zero, List.set_cons_succ]
      refine wpAnyH_ready (rs := [8]) (by kernel_rfl) (by simp) ?_
      refine AllReadyH.cons (o := { dst := some 40, op := Op.call { callee := Callee.value (Operand.func 11), args := #[Operand.tmp 39], argTypes := #[24] }, type := 4, pos := "laws.go:169", after := #[{ on := 7, ground := Ground.data }, { on := 6, ground := Ground.chain }, { on := 4, ground := Ground.guard }], guard := some (4, false) }) rfl (fun K hK => ?_) AllReadyH.nil
      go_simp
      (go_at_call 11; refine (TR.out _ B8.out).mono ?_; rintro e w9 ⟨rfl, hb9⟩; have T9 := Cells.below (L := [(⟨w1.heap.size, 0, none⟩, .string na), (⟨w1.heap.size, 1, none⟩, .string va), (⟨w1.heap.size, 2, none⟩, .string dm), (⟨w1.heap.size, 3, none⟩, .string pa), (⟨w1.heap.size, 4, none⟩, .int .i64 ag), (⟨w1.heap.size, 5, none⟩, .bool se), (⟨w1.heap.size, 6, none⟩, .int .i64 mo), (⟨w1.heap.size, 7, none⟩, .bool pt), (⟨w4.heap.size, 0, none⟩, .string na2), (⟨w4.heap.size, 1, none⟩, .string va2), (⟨w4.heap.size, 2, none⟩, .string dm2), (⟨w4.heap.size, 3, none⟩, .string pa2), (⟨w4.heap.size, 4, none⟩, .int .i64 ag2), (⟨w4.heap.size, 5, none⟩, .bool se2), (⟨w4.heap.size, 6, none⟩, .int .i64 mo2), (⟨w4.heap.size, 7, none⟩, .bool pt2), (⟨w4.heap.size, 8, none⟩, .int .i64 k2)]) (by simp only [Cells]; go_keep) hb9; simp only [Cells] at T9; obtain ⟨p90, p91, p92, p93, p94, p95, p96, p97, p98, p99, p910, p911, p912, p913, p914, p915, p916, -⟩ := T9; have z9 : w4.heap.size + 1 ≤ w9.heap.size := Nat.le_trans z8 hb9.size; have B9 : Hid (Below w.heap.size w w9) := B8.out.trans (hb9.mono B8.out.size); clear p80 p81 p82 p83 p84 p85 p86 p87 p88 p89 p810 p811 p812 p813 p814 p815 p816 z8 hb8)
      try (go_wp2_with fail)
      refine hK.out _ _ ?_ (fun hH3 => ?_)
      · (try dsimp only)
        go_keep
      clear hK K hH2
      try simp only [Act.put, List.setIfInBounds_toArray, List.set_cons_zero, List.set_cons_succ]
      refine wpAnyH_take (i := 9) (oi := { dst := some 41, op := Op.binOp BinOp.neq 4 (Operand.tmp 38) (Operand.tmp 40) 4, type := 4, pos := "laws.go:169", after := #[{ on := 6, ground := Ground.data }, { on := 8, ground := Ground.data }, { on := 4, ground := Ground.guard }], guard := some (4, false) }) (v := ?vh9) rfl (by kernel_rfl) (by kernel_rfl) (by kernel_rfl) (fun _ _ _ h => h) (Or.inl ⟨by rfl, ?hyh9⟩) (by assumption) ?resth9
      case hyh9 =>
        intro w hSw
        (try dsimp only at hSw)
        go_simp
        try with_reducible rfl
      try simp only [Act.put, List.setIfInBounds_toArray, List.set_cons_zero, List.set_cons_succ]
      refine wpAnyH_take (i := 10) (oi := { dst := some 42, op := Op.pick (Operand.tmp 36) (Operand.const (Value.bool true)) (Operand.tmp 41), type := 4, pos := "laws.go:169", after := #[{ on := 4, ground := Ground.data }, { on := 9, ground := Ground.data }], guard := none }) (v := ?vh10) rfl (by kernel_rfl) (by kernel_rfl) (by kernel_rfl) (fun _ _ _ h => h) (Or.inl ⟨by rfl, ?hyh10⟩) (by assumption) ?resth10
      case hyh10 =>
        intro w hSw
        (try dsimp only at hSw)
        go_simp
        try with_reducible rfl
      try simp only [Act.put, List.setIfInBounds_toArray, List.set_cons_zero, List.set_cons_succ]
      refine wpAnyH_take (i := 11) (oi := { dst := some 43, op := Op.move (Operand.tmp 42), type := 4, pos := "laws.go:169", after := #[{ on := 10, ground := Ground.data }, { on := 8, ground := Ground.chain }], guard := none }) (v := ?vh11) rfl (by kernel_rfl) (by kernel_rfl) (by kernel_rfl) (fun _ _ _ h => h) (Or.inl ⟨by rfl, ?hyh11⟩) (by assumption) ?resth11
      case hyh11 =>
        intro w hSw
        (try dsimp only at hSw)
        go_simp
        try with_reducible rfl
      try simp only [Act.put, List.setIfInBounds_toArray, List.set_cons_zero, List.set_cons_succ]
      refine wpAnyH_take (i := 12) (oi := { dst := some 44, op := Op.move (Operand.tmp 6), type := 9, pos := "laws.go:169", after := #[{ on := 11, ground := Ground.guard }], guard := some (11, false) }) (v := ?vh12) rfl (by kernel_rfl) (by kernel_rfl) (by kernel_rfl) (fun _ _ _ h => h) (Or.inl ⟨by rfl, ?hyh12⟩) (by assumption) ?resth12
      case hyh12 =>
        intro w hSw
        (try dsimp only at hSw)
        go_simp
        try with_reducible rfl
      try simp only [Act.put, List.setIfInBounds_toArray, List.set_cons_zero, List.set_cons_succ]
      refine wpAnyH_take (i := 13) (oi := { dst := some 45, op := Op.binOp BinOp.neq 9 (Operand.tmp 44) (Operand.const (Value.string { data := #[] })) 9, type := 4, pos := "laws.go:169", after := #[{ on := 12, ground := Ground.data }, { on := 11, ground := Ground.guard }], guard := some (11, false) }) (v := ?vh13) rfl (by kernel_rfl) (by kernel_rfl) (by kernel_rfl) (fun _ _ _ h => h) (Or.inl ⟨by rfl, ?hyh13⟩) (by assumption) ?resth13
      case hyh13 =>
        intro w hSw
        (try dsimp only at hSw)
        go_simp
        try with_reducible rfl
      try simp only [Act.put, List.setIfInBounds_toArray, List.set_cons_zero, List.set_cons_succ]
      refine wpAnyH_take (i := 14) (oi := { dst := some 46, op := Op.move (Operand.tmp 45), type := 4, pos := "laws.go:169", after := #[{ on := 13, ground := Ground.data }, { on := 11, ground := Ground.chain }, { on := 11, ground := Ground.guard }], guard := some (11, false) }) (v := ?vh14) rfl (by kernel_rfl) (by kernel_rfl) (by kernel_rfl) (fun _ _ _ h => h) (Or.inl ⟨by rfl, ?hyh14⟩) (by assumption) ?resth14
      case hyh14 =>
        intro w hSw
        (try dsimp only at hSw)
        go_simp
        try with_reducible rfl
      try simp only [Act.put, List.setIfInBounds_toArray, List.set_cons_zero, List.set_cons_succ]
      refine wpAnyH_take (i := 15) (oi := { dst := some 47, op := Op.move (Operand.tmp 6), type := 9, pos := "laws.go:169", after := #[{ on := 14, ground := Ground.guard }], guard := some (14, true) }) (v := ?vh15) rfl (by kernel_rfl) (by kernel_rfl) (by kernel_rfl) (fun _ _ _ h => h) (Or.inl ⟨by rfl, ?hyh15⟩) (by assumption) ?resth15
      case hyh15 =>
        intro w hSw
        (try dsimp only at hSw)
        go_simp
        try with_reducible rfl
      try simp only [Act.put, List.setIfInBounds_toArray, List.set_cons_zero, List.set_cons_succ]
      refine wpAnyH_take (i := 17) (oi := { dst := some 49, op := Op.load 24 (Operand.tmp 5), type := 24, pos := "laws.go:169", after := #[{ on := 14, ground := Ground.guard }], guard := some (14, true) }) (v := ?vh17) rfl (by kernel_rfl) (by kernel_rfl) (by kernel_rfl) (fun _ _ _ h => h) (Or.inl ⟨by rfl, ?hyh17⟩) (by assumption) ?resth17
      case hyh17 =>
        intro w hSw
        (try dsimp only at hSw)
        go_simp
        try with_reducible rfl
      try simp only [Act.put, List.setIfInBounds_toArray, List.set_cons_zero, List.set_cons_succ]
      refine wpAnyH_take (i := 18) (oi := { dst := some 50, op := Op.build 29 #[(0, Operand.tmp 49)], type := 29, pos := "laws.go:169", after := #[{ on := 17, ground := Ground.data }, { on := 14, ground := Ground.guard }], guard := some (14, true) }) (v := ?vh18) rfl (by kernel_rfl) (by kernel_rfl) (by kernel_rfl) (fun _ _ _ h => h) (Or.inl ⟨by rfl, ?hyh18⟩) (by assumption) ?resth18
      case hyh18 =>
        intro w hSw
        (try dsimp only at hSw)
        go_simp
        try with_reducible rfl
      try simp only [Act.put, List.setIfInBounds_toArray, List.set_cons_zero, List.set_cons_succ]
      refine wpAnyH_ready (rs := [16]) (by kernel_rfl) (by simp) ?_
      refine AllReadyH.cons (o := { dst := some 48, op := Op.call { callee := Callee.value (Operand.func 7), args := #[Operand.tmp 47], argTypes := #[9] }, type := 29, pos := "laws.go:169", after := #[{ on := 15, ground := Ground.data }, { on := 14, ground := Ground.chain }, { on := 14, ground := Ground.guard }], guard := some (14, true) }) rfl (fun K hK => ?_) AllReadyH.nil
      go_simp
      (go_at_call 7; refine (KB.out hT0 _ B9.out).mono ?_; rintro e w10 ⟨rfl, hb10⟩; have T10 := Cells.below (L := [(⟨w1.heap.size, 0, none⟩, .string na), (⟨w1.heap.size, 1, none⟩, .string va), (⟨w1.heap.size, 2, none⟩, .string dm), (⟨w1.heap.size, 3, none⟩, .string pa), (⟨w1.heap.size, 4, none⟩, .int .i64 ag), (⟨w1.heap.size, 5, none⟩, .bool se), (⟨w1.heap.size, 6, none⟩, .int .i64 mo), (⟨w1.heap.size, 7, none⟩, .bool pt), (⟨w4.heap.size, 0, none⟩, .string na2), (⟨w4.heap.size, 1, none⟩, .string va2), (⟨w4.heap.size, 2, none⟩, .string dm2), (⟨w4.heap.size, 3, none⟩, .string pa2), (⟨w4.heap.size, 4, none⟩, .int .i64 ag2), (⟨w4.heap.size, 5, none⟩, .bool se2), (⟨w4.heap.size, 6, none⟩, .int .i64 mo2), (⟨w4.heap.size, 7, none⟩, .bool pt2), (⟨w4.heap.size, 8, none⟩, .int .i64 k2)]) (by simp only [Cells]; go_keep) hb10; simp only [Cells] at T10; obtain ⟨p100, p101, p102, p103, p104, p105, p106, p107, p108, p109, p1010, p1011, p1012, p1013, p1014, p1015, p1016, -⟩ := T10; have z10 : w4.heap.size + 1 ≤ w10.heap.size := Nat.le_trans z9 hb10.size; have B10 : Hid (Below w.heap.size w w10) := B9.out.trans (hb10.mono B9.out.size); clear p90 p91 p92 p93 p94 p95 p96 p97 p98 p99 p910 p911 p912 p913 p914 p915 p916 z9 hb9)
      try (go_wp2_with fail)
      refine hK.out _ _ ?_ (fun hH4 => ?_)
      · (try dsimp only)
        go_keep
      clear hK K hH3
      try simp only [Act.put, List.setIfInBounds_toArray, List.set_cons_zero, List.set_cons_succ]
      refine wpAnyH_take (i := 19) (oi := { dst := some 51, op := Op.binOp BinOp.neq 29 (Operand.tmp 48) (Operand.tmp 50) 29, type := 4, pos := "laws.go:169", after := #[{ on := 16, ground := Ground.data }, { on := 18, ground := Ground.data }, { on := 14, ground := Ground.guard }], guard := some (14, true) }) (v := ?vh19) rfl (by kernel_rfl) (by kernel_rfl) (by kernel_rfl) (fun _ _ _ h => h) (Or.inl ⟨by rfl, ?hyh19⟩) (by assumption) ?resth19
      case hyh19 =>
        intro w hSw
        (try dsimp only at hSw)
        go_simp
        try with_reducible rfl
      try simp only [Act.put, List.setIfInBounds_toArray, List.set_cons_zero, List.set_cons_succ]
      refine wpAnyH_take (i := 20) (oi := { dst := some 52, op := Op.pick (Operand.tmp 46) (Operand.tmp 51) (Operand.const (Value.bool false)), type := 4, pos := "laws.go:169", after := #[{ on := 14, ground := Ground.data }, { on := 19, ground := Ground.data }, { on := 11, ground := Ground.guard }], guard := some (11, false) }) (v := ?vh20) rfl (by kernel_rfl) (by kernel_rfl) (by kernel_rfl) (fun _ _ _ h => h) (Or.inl ⟨by rfl, ?hyh20⟩) (by assumption) ?resth20
      case hyh20 =>
        intro w hSw
        (try dsimp only at hSw)
        go_simp
        try with_reducible rfl
      try simp only [Act.put, List.setIfInBounds_toArray, List.set_cons_zero, List.set_cons_succ]
      refine wpAnyH_take (i := 21) (oi := { dst := some 53, op := Op.pick (Operand.tmp 43) (Operand.const (Value.bool true)) (Operand.tmp 52), type := 4, pos := "laws.go:169", after := #[{ on := 11, ground := Ground.data }, { on := 20, ground := Ground.data }], guard := none }) (v := ?vh21) rfl (by kernel_rfl) (by kernel_rfl) (by kernel_rfl) (fun _ _ _ h => h) (Or.inl ⟨by rfl, ?hyh21⟩) (by assumption) ?resth21
      case hyh21 =>
        intro w hSw
        (try dsimp only at hSw)
        go_simp
        try with_reducible rfl
      try simp only [Act.put, List.setIfInBounds_toArray, List.set_cons_zero, List.set_cons_succ]
      refine wpAnyH_take (i := 22) (oi := { dst := some 54, op := Op.move (Operand.tmp 53), type := 4, pos := "laws.go:169", after := #[{ on := 21, ground := Ground.data }, { on := 16, ground := Ground.chain }], guard := none }) (v := ?vh22) rfl (by kernel_rfl) (by kernel_rfl) (by kernel_rfl) (fun _ _ _ h => h) (Or.inl ⟨by rfl, ?hyh22⟩) (by assumption) ?resth22
      case hyh22 =>
        intro w hSw
        (try dsimp only at hSw)
        go_simp
        try with_reducible rfl
      try simp only [Act.put, List.setIfInBounds_toArray, List.set_cons_zero, List.set_cons_succ]
      refine wpAnyH_take (i := 23) (oi := { dst := some 55, op := Op.load 29 (Operand.tmp 8), type := 29, pos := "laws.go:169", after := #[{ on := 22, ground := Ground.guard }], guard := some (22, false) }) (v := ?vh23) rfl (by kernel_rfl) (by kernel_rfl) (by kernel_rfl) (fun _ _ _ h => h) (Or.inl ⟨by rfl, ?hyh23⟩) (by assumption) ?resth23
      case hyh23 =>
        intro w hSw
        (try dsimp only at hSw)
        go_simp
        try with_reducible rfl
      try simp only [Act.put, List.setIfInBounds_toArray, List.set_cons_zero, List.set_cons_succ]
      refine wpAnyH_take (i := 24) (oi := { dst := some 56, op := Op.move (Operand.tmp 7), type := 9, pos := "laws.go:169", after := #[{ on := 22, ground := Ground.guard }], guard := some (22, false) }) (v := ?vh24) rfl (by kernel_rfl) (by kernel_rfl) (by kernel_rfl) (fun _ _ _ h => h) (Or.inl ⟨by rfl, ?hyh24⟩) (by assumption) ?resth24
      case hyh24 =>
        intro w hSw
        (try dsimp only at hSw)
        go_simp
        try with_reducible rfl
      try simp only [Act.put, List.setIfInBounds_toArray, List.set_cons_zero, List.set_cons_succ]
      refine wpAnyH_ready (rs := [25]) (by kernel_rfl) (by simp) ?_
      refine AllReadyH.cons (o := { dst := some 57, op := Op.call { callee := Callee.value (Operand.func 12), args := #[Operand.tmp 56], argTypes := #[9] }, type := 29, pos := "laws.go:169", after := #[{ on := 24, ground := Ground.data }, { on := 22, ground := Ground.chain }, { on := 22, ground := Ground.guard }], guard := some (22, false) }) rfl (fun K hK => ?_) AllReadyH.nil
      go_simp
      (go_at_call 12; refine (TU.out _ B10.out).mono ?_; rintro e w11 ⟨rfl, hb11⟩; have T11 := Cells.below (L := [(⟨w1.heap.size, 0, none⟩, .string na), (⟨w1.heap.size, 1, none⟩, .string va), (⟨w1.heap.size, 2, none⟩, .string dm), (⟨w1.heap.size, 3, none⟩, .string pa), (⟨w1.heap.size, 4, none⟩, .int .i64 ag), (⟨w1.heap.size, 5, none⟩, .bool se), (⟨w1.heap.size, 6, none⟩, .int .i64 mo), (⟨w1.heap.size, 7, none⟩, .bool pt), (⟨w4.heap.size, 0, none⟩, .string na2), (⟨w4.heap.size, 1, none⟩, .string va2), (⟨w4.heap.size, 2, none⟩, .string dm2), (⟨w4.heap.size, 3, none⟩, .string pa2), (⟨w4.heap.size, 4, none⟩, .int .i64 ag2), (⟨w4.heap.size, 5, none⟩, .bool se2), (⟨w4.heap.size, 6, none⟩, .int .i64 mo2), (⟨w4.heap.size, 7, none⟩, .bool pt2), (⟨w4.heap.size, 8, none⟩, .int .i64 k2)]) (by simp only [Cells]; go_keep) hb11; simp only [Cells] at T11; obtain ⟨p110, p111, p112, p113, p114, p115, p116, p117, p118, p119, p1110, p1111, p1112, p1113, p1114, p1115, p1116, -⟩ := T11; have z11 : w4.heap.size + 1 ≤ w11.heap.size := Nat.le_trans z10 hb11.size; have B11 : Hid (Below w.heap.size w w11) := B10.out.trans (hb11.mono B10.out.size); clear p100 p101 p102 p103 p104 p105 p106 p107 p108 p109 p1010 p1011 p1012 p1013 p1014 p1015 p1016 z10 hb10)
      try (go_wp2_with fail)
      refine hK.out _ _ ?_ (fun hH5 => ?_)
      · (try dsimp only)
        go_keep
      clear hK K hH4
      try simp only [Act.put, List.setIfInBounds_toArray, List.set_cons_zero, List.set_cons_succ]
      refine wpAnyH_take (i := 26) (oi := { dst := some 58, op := Op.binOp BinOp.neq 29 (Operand.tmp 55) (Operand.tmp 57) 29, type := 4, pos := "laws.go:169", after := #[{ on := 23, ground := Ground.data }, { on := 25, ground := Ground.data }, { on := 22, ground := Ground.guard }], guard := some (22, false) }) (v := ?vh26) rfl (by kernel_rfl) (by kernel_rfl) (by kernel_rfl) (fun _ _ _ h => h) (Or.inl ⟨by rfl, ?hyh26⟩) (by assumption) ?resth26
      case hyh26 =>
        intro w hSw
        (try dsimp only at hSw)
        go_simp
        try with_reducible rfl
      try simp only [Act.put, List.setIfInBounds_toArray, List.set_cons_zero, List.set_cons_succ]
      refine wpAnyH_take (i := 27) (oi := { dst := some 59, op := Op.pick (Operand.tmp 54) (Operand.const (Value.bool true)) (Operand.tmp 58), type := 4, pos := "laws.go:169", after := #[{ on := 22, ground := Ground.data }, { on := 26, ground := Ground.data }], guard := none }) (v := ?vh27) rfl (by kernel_rfl) (by kernel_rfl) (by kernel_rfl) (fun _ _ _ h => h) (Or.inl ⟨by rfl, ?hyh27⟩) (by assumption) ?resth27
      case hyh27 =>
        intro w hSw
        (try dsimp only at hSw)
        go_simp
        try with_reducible rfl
      try simp only [Act.put, List.setIfInBounds_toArray, List.set_cons_zero, List.set_cons_succ]
      refine wpAnyH_take (i := 28) (oi := { dst := some 60, op := Op.move (Operand.tmp 59), type := 4, pos := "laws.go:169", after := #[{ on := 27, ground := Ground.data }, { on := 25, ground := Ground.chain }], guard := none }) (v := ?vh28) rfl (by kernel_rfl) (by kernel_rfl) (by kernel_rfl) (fun _ _ _ h => h) (Or.inl ⟨by rfl, ?hyh28⟩) (by assumption) ?resth28
      case hyh28 =>
        intro w hSw
        (try dsimp only at hSw)
        go_simp
        try with_reducible rfl
      try simp only [Act.put, List.setIfInBounds_toArray, List.set_cons_zero, List.set_cons_succ]
      refine wpAnyH_take (i := 29) (oi := { dst := some 61, op := Op.fieldAddr 29 (Operand.tmp 8) 1, type := 0, pos := "laws.go:169", after := #[{ on := 28, ground := Ground.guard }], guard := some (28, false) }) (v := ?vh29) rfl (by kernel_rfl) (by kernel_rfl) (by kernel_rfl) (fun _ _ _ h => h) (Or.inl ⟨by rfl, ?hyh29⟩) (by assumption) ?resth29
      case hyh29 =>
        intro w hSw
        (try dsimp only at hSw)
        go_simp
        try with_reducible rfl
      try simp only [Act.put, List.setIfInBounds_toArray, List.set_cons_zero, List.set_cons_succ]
      refine wpAnyH_take (i := 30) (oi := { dst := some 62, op := Op.load 2 (Operand.tmp 61), type := 2, pos := "laws.go:169", after := #[{ on := 29, ground := Ground.data }, { on := 28, ground := Ground.guard }], guard := some (28, false) }) (v := ?vh30) rfl (by kernel_rfl) (by kernel_rfl) (by kernel_rfl) (fun _ _ _ h => h) (Or.inl ⟨by rfl, ?hyh30⟩) (by assumption) ?resth30
      case hyh30 =>
        intro w hSw
        (try dsimp only at hSw)
        go_simp
        try with_reducible rfl
      try simp only [Act.put, List.setIfInBounds_toArray, List.set_cons_zero, List.set_cons_succ]
      refine wpAnyH_take (i := 31) (oi := { dst := some 63, op := Op.binOp BinOp.eql 2 (Operand.tmp 62) (Operand.const (Value.int IntKind.i64 0)) 2, type := 4, pos := "laws.go:169", after := #[{ on := 30, ground := Ground.data }, { on := 28, ground := Ground.guard }], guard := some (28, false) }) (v := ?vh31) rfl (by kernel_rfl) (by kernel_rfl) (by kernel_rfl) (fun _ _ _ h => h) (Or.inl ⟨by rfl, ?hyh31⟩) (by assumption) ?resth31
      case hyh31 =>
        intro w hSw
        (try dsimp only at hSw)
        go_simp
        try with_reducible rfl
      try simp only [Act.put, List.setIfInBounds_toArray, List.set_cons_zero, List.set_cons_succ]
      refine wpAnyH_take (i := 32) (oi := { dst := some 64, op := Op.move (Operand.tmp 63), type := 4, pos := "laws.go:169", after := #[{ on := 31, ground := Ground.data }, { on := 28, ground := Ground.chain }, { on := 28, ground := Ground.guard }], guard := some (28, false) }) (v := ?vh32) rfl (by kernel_rfl) (by kernel_rfl) (by kernel_rfl) (fun _ _ _ h => h) (Or.inl ⟨by rfl, ?hyh32⟩) (by assumption) ?resth32
      case hyh32 =>
        intro w hSw
        (try dsimp only at hSw)
        go_simp
        try with_reducible rfl
      try simp only [Act.put, List.setIfInBounds_toArray, List.set_cons_zero, List.set_cons_succ]
      refine wpAnyH_take (i := 33) (oi := { dst := some 65, op := Op.fieldAddr 29 (Operand.tmp 8) 0, type := 0, pos := "laws.go:169", after := #[{ on := 32, ground := Ground.guard }], guard := some (32, true) }) (v := ?vh33) rfl (by kernel_rfl) (by kernel_rfl) (by kernel_rfl) (fun _ _ _ h => h) (Or.inl ⟨by rfl, ?hyh33⟩) (by assumption) ?resth33
      case hyh33 =>
        intro w hSw
        (try dsimp only at hSw)
        go_simp
        try with_reducible rfl
      try simp only [Act.put, List.setIfInBounds_toArray, List.set_cons_zero, List.set_cons_succ]
      refine wpAnyH_take (i := 34) (oi := { dst := some 66, op := Op.load 24 (Operand.tmp 65), type := 24, pos := "laws.go:169", after := #[{ on := 33, ground := Ground.data }, { on := 32, ground := Ground.guard }], guard := some (32, true) }) (v := ?vh34) rfl (by kernel_rfl) (by kernel_rfl) (by kernel_rfl) (fun _ _ _ h => h) (Or.inl ⟨by rfl, ?hyh34⟩) (by assumption) ?resth34
      case hyh34 =>
        intro w hSw
        (try dsimp only at hSw)
        go_simp
        try with_reducible rfl
      try simp only [Act.put, List.setIfInBounds_toArray, List.set_cons_zero, List.set_cons_succ]
      refine wpAnyH_take (i := 36) (oi := { dst := some 68, op := Op.move (Operand.tmp 7), type := 9, pos := "laws.go:169", after := #[{ on := 32, ground := Ground.guard }], guard := some (32, true) }) (v := ?vh36) rfl (by kernel_rfl) (by kernel_rfl) (by kernel_rfl) (fun _ _ _ h => h) (Or.inl ⟨by rfl, ?hyh36⟩) (by assumption) ?resth36
      case hyh36 =>
        intro w hSw
        (try dsimp only at hSw)
        go_simp
        try with_reducible rfl
      try simp only [Act.put, List.setIfInBounds_toArray, List.set_cons_zero, List.set_cons_succ]
      refine wpAnyH_ready (rs := [35]) (by kernel_rfl) (by simp) ?_
      refine AllReadyH.cons (o := { dst := some 67, op := Op.call { callee := Callee.value (Operand.func 5), args := #[Operand.tmp 66], argTypes := #[24] }, type := 9, pos := "laws.go:169", after := #[{ on := 34, ground := Ground.data }, { on := 32, ground := Ground.chain }, { on := 32, ground := Ground.guard }], guard := some (32, true) }) rfl (fun K hK => ?_) AllReadyH.nil
      go_simp
      (go_at_call 5; refine (KX.out (eq_of_beq hk) _ B11.out).mono ?_; rintro e w12 ⟨rfl, hb12⟩; have T12 := Cells.below (L := [(⟨w1.heap.size, 0, none⟩, .string na), (⟨w1.heap.size, 1, none⟩, .string va), (⟨w1.heap.size, 2, none⟩, .string dm), (⟨w1.heap.size, 3, none⟩, .string pa), (⟨w1.heap.size, 4, none⟩, .int .i64 ag), (⟨w1.heap.size, 5, none⟩, .bool se), (⟨w1.heap.size, 6, none⟩, .int .i64 mo), (⟨w1.heap.size, 7, none⟩, .bool pt), (⟨w4.heap.size, 0, none⟩, .string na2), (⟨w4.heap.size, 1, none⟩, .string va2), (⟨w4.heap.size, 2, none⟩, .string dm2), (⟨w4.heap.size, 3, none⟩, .string pa2), (⟨w4.heap.size, 4, none⟩, .int .i64 ag2), (⟨w4.heap.size, 5, none⟩, .bool se2), (⟨w4.heap.size, 6, none⟩, .int .i64 mo2), (⟨w4.heap.size, 7, none⟩, .bool pt2), (⟨w4.heap.size, 8, none⟩, .int .i64 k2)]) (by simp only [Cells]; go_keep) hb12; simp only [Cells] at T12; obtain ⟨p120, p121, p122, p123, p124, p125, p126, p127, p128, p129, p1210, p1211, p1212, p1213, p1214, p1215, p1216, -⟩ := T12; have z12 : w4.heap.size + 1 ≤ w12.heap.size := Nat.le_trans z11 hb12.size; have B12 : Hid (Below w.heap.size w w12) := B11.out.trans (hb12.mono B11.out.size); clear p110 p111 p112 p113 p114 p115 p116 p117 p118 p119 p1110 p1111 p1112 p1113 p1114 p1115 p1116 z11 hb11)
      try (go_wp2_with fail)
      refine hK.out _ _ ?_ (fun hH6 => ?_)
      · (try dsimp only)
        go_keep
      clear hK K hH5
      try simp only [Act.put, List.setIfInBounds_toArray, List.set_cons_zero, List.set_cons_succ]
      refine wpAnyH_take (i := 37) (oi := { dst := some 69, op := Op.binOp BinOp.neq 9 (Operand.tmp 67) (Operand.tmp 68) 9, type := 4, pos := "laws.go:169", after := #[{ on := 35, ground := Ground.data }, { on := 36, ground := Ground.data }, { on := 32, ground := Ground.guard }], guard := some (32, true) }) (v := ?vh37) rfl (by kernel_rfl) (by kernel_rfl) (by kernel_rfl) (fun _ _ _ h => h) (Or.inl ⟨by rfl, ?hyh37⟩) (by assumption) ?resth37
      case hyh37 =>
        intro w hSw
        (try dsimp only at hSw)
        go_simp
        try with_reducible rfl
      try simp only [Act.put, List.setIfInBounds_toArray, List.set_cons_zero, List.set_cons_succ]
      refine wpAnyH_take (i := 38) (oi := { dst := some 70, op := Op.pick (Operand.tmp 64) (Operand.tmp 69) (Operand.const (Value.bool false)), type := 4, pos := "laws.go:169", after := #[{ on := 32, ground := Ground.data }, { on := 37, ground := Ground.data }, { on := 28, ground := Ground.guard }], guard := some (28, false) }) (v := ?vh38) rfl (by kernel_rfl) (by kernel_rfl) (by kernel_rfl) (fun _ _ _ h => h) (Or.inl ⟨by rfl, ?hyh38⟩) (by assumption) ?resth38
      case hyh38 =>
        intro w hSw
        (try dsimp only at hSw)
        go_simp
        try with_reducible rfl
      try simp only [Act.put, List.setIfInBounds_toArray, List.set_cons_zero, List.set_cons_succ]
      refine wpAnyH_take (i := 39) (oi := { dst := some 71, op := Op.pick (Operand.tmp 60) (Operand.const (Value.bool true)) (Operand.tmp 70), type := 4, pos := "laws.go:169", after := #[{ on := 28, ground := Ground.data }, { on := 38, ground := Ground.data }], guard := none }) (v := ?vh39) rfl (by kernel_rfl) (by kernel_rfl) (by kernel_rfl) (fun _ _ _ h => h) (Or.inl ⟨by rfl, ?hyh39⟩) (by assumption) ?resth39
      case hyh39 =>
        intro w hSw
        (try dsimp only at hSw)
        go_simp
        try with_reducible rfl
      try simp only [Act.put, List.setIfInBounds_toArray, List.set_cons_zero, List.set_cons_succ]
      refine wpAnyH_take (i := 40) (oi := { dst := some 72, op := Op.move (Operand.tmp 71), type := 4, pos := "laws.go:169", after := #[{ on := 39, ground := Ground.data }, { on := 35, ground := Ground.chain }], guard := none }) (v := ?vh40) rfl (by kernel_rfl) (by kernel_rfl) (by kernel_rfl) (fun _ _ _ h => h) (Or.inl ⟨by rfl, ?hyh40⟩) (by assumption) ?resth40
      case hyh40 =>
        intro w hSw
        (try dsimp only at hSw)
        go_simp
        try with_reducible rfl
      try simp only [Act.put, List.setIfInBounds_toArray, List.set_cons_zero, List.set_cons_succ]
      refine wpAnyH_take (i := 41) (oi := { dst := some 73, op := Op.move (Operand.tmp 9), type := 9, pos := "laws.go:169", after := #[{ on := 40, ground := Ground.guard }], guard := some (40, false) }) (v := ?vh41) rfl (by kernel_rfl) (by kernel_rfl) (by kernel_rfl) (fun _ _ _ h => h) (Or.inl ⟨by rfl, ?hyh41⟩) (by assumption) ?resth41
      case hyh41 =>
        intro w hSw
        (try dsimp only at hSw)
        go_simp
        try with_reducible rfl
      try simp only [Act.put, List.setIfInBounds_toArray, List.set_cons_zero, List.set_cons_succ]
      refine wpAnyH_take (i := 43) (oi := { dst := some 75, op := Op.move (Operand.tmp 9), type := 9, pos := "laws.go:169", after := #[{ on := 40, ground := Ground.guard }], guard := some (40, false) }) (v := ?vh43) rfl (by kernel_rfl) (by kernel_rfl) (by kernel_rfl) (fun _ _ _ h => h) (Or.inl ⟨by rfl, ?hyh43⟩) (by assumption) ?resth43
      case hyh43 =>
        intro w hSw
        (try dsimp only at hSw)
        go_simp
        try with_reducible rfl
      try simp only [Act.put, List.setIfInBounds_toArray, List.set_cons_zero, List.set_cons_succ]
      refine wpAnyH_ready (rs := [42]) (by kernel_rfl) (by simp) ?_
      refine AllReadyH.cons (o := { dst := some 74, op := Op.call { callee := Callee.value (Operand.func 13), args := #[Operand.tmp 73], argTypes := #[9] }, type := 4, pos := "laws.go:169", after := #[{ on := 41, ground := Ground.data }, { on := 40, ground := Ground.chain }, { on := 40, ground := Ground.guard }], guard := some (40, false) }) rfl (fun K hK => ?_) AllReadyH.nil
      go_simp
      (go_at_call 13; refine (KW.out _ B12.out).mono ?_; rintro e w13 ⟨rfl, hb13⟩; have T13 := Cells.below (L := [(⟨w1.heap.size, 0, none⟩, .string na), (⟨w1.heap.size, 1, none⟩, .string va), (⟨w1.heap.size, 2, none⟩, .string dm), (⟨w1.heap.size, 3, none⟩, .string pa), (⟨w1.heap.size, 4, none⟩, .int .i64 ag), (⟨w1.heap.size, 5, none⟩, .bool se), (⟨w1.heap.size, 6, none⟩, .int .i64 mo), (⟨w1.heap.size, 7, none⟩, .bool pt), (⟨w4.heap.size, 0, none⟩, .string na2), (⟨w4.heap.size, 1, none⟩, .string va2), (⟨w4.heap.size, 2, none⟩, .string dm2), (⟨w4.heap.size, 3, none⟩, .string pa2), (⟨w4.heap.size, 4, none⟩, .int .i64 ag2), (⟨w4.heap.size, 5, none⟩, .bool se2), (⟨w4.heap.size, 6, none⟩, .int .i64 mo2), (⟨w4.heap.size, 7, none⟩, .bool pt2), (⟨w4.heap.size, 8, none⟩, .int .i64 k2)]) (by simp only [Cells]; go_keep) hb13; simp only [Cells] at T13; obtain ⟨p130, p131, p132, p133, p134, p135, p136, p137, p138, p139, p1310, p1311, p1312, p1313, p1314, p1315, p1316, -⟩ := T13; have z13 : w4.heap.size + 1 ≤ w13.heap.size := Nat.le_trans z12 hb13.size; have B13 : Hid (Below w.heap.size w w13) := B12.out.trans (hb13.mono B12.out.size); clear p120 p121 p122 p123 p124 p125 p126 p127 p128 p129 p1210 p1211 p1212 p1213 p1214 p1215 p1216 z12 hb12)
      try (go_wp2_with fail)
      refine hK.out _ _ ?_ (fun hH7 => ?_)
      · (try dsimp only)
        go_keep
      clear hK K hH6
      try simp only [Act.put, List.setIfInBounds_toArray, List.set_cons_zero, List.set_cons_succ]
      refine wpAnyH_ready (rs := [44]) (by kernel_rfl) (by simp) ?_
      refine AllReadyH.cons (o := { dst := some 76, op := Op.call { callee := Callee.value (Operand.func 14), args := #[Operand.tmp 75], argTypes := #[9] }, type := 4, pos := "laws.go:169", after := #[{ on := 43, ground := Ground.data }, { on := 42, ground := Ground.chain }, { on := 40, ground := Ground.guard }], guard := some (40, false) }) rfl (fun K hK => ?_) AllReadyH.nil
      go_simp
      (go_at_call 14; refine (TW.out _ B13.out).mono ?_; rintro e w14 ⟨rfl, hb14⟩; have T14 := Cells.below (L := [(⟨w1.heap.size, 0, none⟩, .string na), (⟨w1.heap.size, 1, none⟩, .string va), (⟨w1.heap.size, 2, none⟩, .string dm), (⟨w1.heap.size, 3, none⟩, .string pa), (⟨w1.heap.size, 4, none⟩, .int .i64 ag), (⟨w1.heap.size, 5, none⟩, .bool se), (⟨w1.heap.size, 6, none⟩, .int .i64 mo), (⟨w1.heap.size, 7, none⟩, .bool pt), (⟨w4.heap.size, 0, none⟩, .string na2), (⟨w4.heap.size, 1, none⟩, .string va2), (⟨w4.heap.size, 2, none⟩, .string dm2), (⟨w4.heap.size, 3, none⟩, .string pa2), (⟨w4.heap.size, 4, none⟩, .int .i64 ag2), (⟨w4.heap.size, 5, none⟩, .bool se2), (⟨w4.heap.size, 6, none⟩, .int .i64 mo2), (⟨w4.heap.size, 7, none⟩, .bool pt2), (⟨w4.heap.size, 8, none⟩, .int .i64 k2)]) (by simp only [Cells]; go_keep) hb14; simp only [Cells] at T14; obtain ⟨p140, p141, p142, p143, p144, p145, p146, p147, p148, p149, p1410, p1411, p1412, p1413, p1414, p1415, p1416, -⟩ := T14; have z14 : w4.heap.size + 1 ≤ w14.heap.size := Nat.le_trans z13 hb14.size; have B14 : Hid (Below w.heap.size w w14) := B13.out.trans (hb14.mono B13.out.size); clear p130 p131 p132 p133 p134 p135 p136 p137 p138 p139 p1310 p1311 p1312 p1313 p1314 p1315 p1316 z13 hb13)
      try (go_wp2_with fail)
      refine hK.out _ _ ?_ (fun hH8 => ?_)
      · (try dsimp only)
        go_keep
      clear hK K hH7
      try simp only [Act.put, List.setIfInBounds_toArray, List.set_cons_zero, List.set_cons_succ]
      refine wpAnyH_take (i := 45) (oi := { dst := some 77, op := Op.binOp BinOp.neq 4 (Operand.tmp 74) (Operand.tmp 76) 4, type := 4, pos := "laws.go:169", after := #[{ on := 42, ground := Ground.data }, { on := 44, ground := Ground.data }, { on := 40, ground := Ground.guard }], guard := some (40, false) }) (v := ?vh45) rfl (by kernel_rfl) (by kernel_rfl) (by kernel_rfl) (fun _ _ _ h => h) (Or.inl ⟨by rfl, ?hyh45⟩) (by assumption) ?resth45
      case hyh45 =>
        intro w hSw
        (try dsimp only at hSw)
        go_simp
        try with_reducible rfl
      try simp only [Act.put, List.setIfInBounds_toArray, List.set_cons_zero, List.set_cons_succ]
      refine wpAnyH_take (i := 46) (oi := { dst := some 78, op := Op.pick (Operand.tmp 72) (Operand.const (Value.bool true)) (Operand.tmp 77), type := 4, pos := "laws.go:169", after := #[{ on := 40, ground := Ground.data }, { on := 45, ground := Ground.data }], guard := none }) (v := ?vh46) rfl (by kernel_rfl) (by kernel_rfl) (by kernel_rfl) (fun _ _ _ h => h) (Or.inl ⟨by rfl, ?hyh46⟩) (by assumption) ?resth46
      case hyh46 =>
        intro w hSw
        (try dsimp only at hSw)
        go_simp
        try with_reducible rfl
      try simp only [Act.put, List.setIfInBounds_toArray, List.set_cons_zero, List.set_cons_succ]
      refine wpAnyH_done (by kernel_rfl) ?_ _
      exact tail _ _ _ _ _ _ _ _ _ _ _ _ _ _ _ _ _ _ _ _ _ _ _ _ _ _ _ _ _ _ _ _ _ _ _ _ _ _ _ _ _ _ _ _ _ _ _ _ _ _ _ _ _ _ _ _ _ _ _ _ _ _ _ _ w14 B14
end Go.Proofs.YthcpmbolnmlohaaGreatDoor
